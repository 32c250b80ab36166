/- Terms: TermChecks. -/
import Derived.Test.YtpoacgnncinmiaaTl
import Derived.Test.YtpoacgnncinmiaaTq
import Derived.Test.YtpoacgnncinmiaaTm
import Derived.Test.YtpoacgnncinmiaaTn
import Derived.Test.YtpoacgnncinmiaaTe
import Derived.Test.YtpoacgnncinmiaaTc
import Derived.Laws.MakeOwn
import Derived.OwnWalk
namespace Go.Proofs.Ytpoacgnncinmiaa
open Go.RowKit
set_option maxRecDepth 100000

/-- A region that is walked under a stronger condition. -/
theorem wpAnyH_mono {P : Program} {ops : Array Oper} {Q : Exit → Act → World → Prop} {md : Region.Mode} {S S' : World → Prop} (hS : ∀ w, S' w → S w) :
    ∀ (fuel : Nat) (listed : Array Bool) (a : Act) (w : World), wpAnyH P md ops Q S' fuel listed a w → wpAnyH P md ops Q S fuel listed a w
  | 0, _, _, _, h => h
  | fuel + 1, _, _, _, h => ⟨h.1, fun i hi => wpOp_mono (fun a' w' h' => ⟨hS _ h'.1, wpAnyH_mono hS fuel _ a' w' h'.2⟩) (h.2 i hi)⟩

theorem few_of {x : Tm} (hx : x.Ok) (h : fewB x = true) : x.Few := by
  unfold fewB at h
  simp at h
  exact ⟨hx.k, h.1.1, h.1.2, h.2⟩
def zeros (n : Nat) : List UInt8 := List.replicate n 0
theorem zeros_length (n : Nat) : (zeros n).length = n := by simp [zeros]
theorem made_bytes (n : Nat) : madeCells #[.int .u8 0] (n * 1) = (vbs (zeros n)).toArray := by
  apply Array.ext'
  rw [Nat.mul_one, toList_madeCells_one]
  simp [vbs, vb, zeros]

theorem run_make_bytes (n : Nat) (m : Int) (hm : m = n) (hn : n ≤ 1099511627776) (w : World) :
    (Instr.makeSlice 31 (.int .i64 m) (.int .i64 m)).run Try.prog w = .ok (.slice (some ⟨w.heap.size, 0, none⟩) n n) (w.alloc (.cells (vbs (zeros n)).toArray 5)) := by
  subst hm
  obtain ⟨i0, hi, hz0, hz1, hz2⟩ := info_parts Try.infoU8
  have h := run_make (P := Try.prog) w 31 5 i0 (.int .u8 0) Try.underlying31 hi hz0 .i64 .i64 n n (by omega) (Int.le_refl _) (by rw [hz2]; omega) (by omega)
  simp only [Int.toNat_natCast, hz1] at h
  rw [h, ← made_bytes]
  rfl


theorem zeros_bs (w : World) (n : Nat) (hn : n ≤ 100) : Bs (w.alloc (.cells (vbs (zeros n)).toArray 5)) (.slice (some ⟨w.heap.size, 0, none⟩) n n) (zeros n) := by
  refine ⟨some ⟨w.heap.size, 0, none⟩, n, by rw [zeros_length], by rw [zeros_length]; exact Nat.le_refl _, by unfold maxLen; omega, (fun h => by cases h), fun ad had j u hu => ?_⟩
  cases had
  rw [Addr.add_lit]
  have h2 : (w.alloc (.cells (vbs (zeros n)).toArray 5)).cell? ⟨w.heap.size, 0 + j, none⟩ = (vbs (zeros n)).toArray[0 + j]? := by simp
  rw [h2, Nat.zero_add]
  simpa using hu
theorem Mine.box0 {W : World} {p : Nat} {x : Tm} (h : Mine W p x) (v : Int) : Box (W.setCell ⟨p, 0, none⟩ (.int .i64 v)) p ⟨v, x.s, x.l, x.t⟩ := by
  obtain ⟨⟨c0, c1, c2, c3⟩, -⟩ := h
  refine ⟨?_, ?_, ?_, ?_⟩
  · rw [cell_of_set c0]; simp
  · rw [cell_of_set c1]; simp
  · rw [cell_of_set c2]; simp
  · rw [cell_of_set c3]; simp
theorem Mine.box1 {W : World} {p : Nat} {x : Tm} (h : Mine W p x) (v : ByteArray) : Box (W.setCell ⟨p, 1, none⟩ (.string v)) p ⟨x.k, v, x.l, x.t⟩ := by
  obtain ⟨⟨c0, c1, c2, c3⟩, -⟩ := h
  refine ⟨?_, ?_, ?_, ?_⟩
  · rw [cell_of_set c0]; simp
  · rw [cell_of_set c1]; simp
  · rw [cell_of_set c2]; simp
  · rw [cell_of_set c3]; simp
theorem Mine.box2 {W : World} {p : Nat} {x : Tm} (h : Mine W p x) (v : ByteArray) : Box (W.setCell ⟨p, 2, none⟩ (.string v)) p ⟨x.k, x.s, v, x.t⟩ := by
  obtain ⟨⟨c0, c1, c2, c3⟩, -⟩ := h
  refine ⟨?_, ?_, ?_, ?_⟩
  · rw [cell_of_set c0]; simp
  · rw [cell_of_set c1]; simp
  · rw [cell_of_set c2]; simp
  · rw [cell_of_set c3]; simp
theorem Mine.box3 {W : World} {p : Nat} {x : Tm} (h : Mine W p x) (v : ByteArray) : Box (W.setCell ⟨p, 3, none⟩ (.string v)) p ⟨x.k, x.s, x.l, v⟩ := by
  obtain ⟨⟨c0, c1, c2, c3⟩, -⟩ := h
  refine ⟨?_, ?_, ?_, ?_⟩
  · rw [cell_of_set c0]; simp
  · rw [cell_of_set c1]; simp
  · rw [cell_of_set c2]; simp
  · rw [cell_of_set c3]; simp
theorem Mine.at {W : World} {g : Tm} : Mine (W.alloc (.cells #[.int .i64 g.k, .string g.s, .string g.l, .string g.t] 23)) W.heap.size g := by
  refine ⟨⟨?_, ?_, ?_, ?_⟩, ?_, ?_, ?_, ?_⟩ <;> simp
set_option maxHeartbeats 16000000 in
theorem checks_walk (x : Tm) (a1 : Int) (c : UInt8) (a3 : Int) (hx : x.Ok) (h1 : (Lit.int .i64 a1).wf = true) (h3 : (Lit.int .i64 a3).wf = true) (w : World) :
    Calls Try.prog 3 #[x.val, .int .i64 a1, .int .u8 c.toNat, .int .i64 a3] w fun e w' => e = .returned (.bool true) ∧ Below w.heap.size w w' := by
  have hfx := few_any x
  have hgx := good_any x
  have hcx := check_any x hx
  have hrx := rcheck_any x hx
  have hgd := good_good x
  generalize hGX : goodT x = gx at hgx hgd
  have hok : gx.Ok := by
    refine ⟨?_, by have := hgd.s; unfold maxLen; omega, by have := hgd.l; unfold maxLen; omega, by have := hgd.t; unfold maxLen; omega⟩
    rcases hgd.k with ⟨h, -⟩ | ⟨h, -⟩ | ⟨h, -⟩ <;> rw [h] <;> decide
  have hcg := check_any gx hok
  rw [hgd.c] at hcg
  have HGX := Lib.hid fun h => hgx (few_of hx h)
  have hzs := hgd.s
  have hzl := hgd.l
  have hzt := hgd.t
  have hwk := hok.k
  clear hGX hgx hgd hok hx
  generalize checkOf x = cx at *
  generalize fewB x = fx at *
  obtain ⟨k, s, l, t⟩ := x
  obtain ⟨gk, gs, gl, gt⟩ := gx
  unfold Tm.val at hfx hcx hrx hcg HGX ⊢
  dsimp only at hfx hcx hrx hcg HGX hzs hzl hzt hwk ⊢
  have HFX := Lib.hid hfx
  have HCX := Lib.hid hcx
  have HRX := Lib.hid hrx
  have HCG := Lib.hid hcg
  have HZ := Lib.hid (And.intro hzs (And.intro hzl (And.intro hzt hwk)))
  clear hfx hcx hrx hcg hzs hzl hzt hwk
  obtain ⟨W, hW⟩ : ∃ W, W = w.alloc (.cells #[.int .i64 k, .string s, .string l, .string t] 23) := ⟨_, rfl⟩
  have hA : Box W w.heap.size ⟨k, s, l, t⟩ ∧ Below w.heap.size w W := by
    subst hW
    refine ⟨⟨?_, ?_, ?_, ?_⟩, (Below.refl _ _).alloc (Nat.le_refl _) _⟩ <;> simp
  have HA := Lib.hid hA
  have HW := Lib.hid hW
  clear hA hW
  go_enter Try.func3, Try.ntmps3
  go_wp2_with fail
  simp only [← HW.out]
  refine (known_any W).mono ?_
  rintro e w1 ⟨rfl, hb⟩
  have HA1 := Lib.hid (And.intro (HA.out.1.below hb) (HA.out.2.trans (hb.mono HA.out.2.size)))
  clear hb HA HW
  obtain ⟨c0, c1, c2, c3⟩ := HA1.out.1
  go_wp2_with fail
  refine (HFX.out _).mono ?_
  rintro e w2 ⟨rfl, hb⟩
  have HA2 := Lib.hid (And.intro (HA1.out.1.below hb) (HA1.out.2.trans (hb.mono HA1.out.2.size)))
  clear hb HA1 c0 c1 c2 c3
  cases fx with
  | false =>
    go_wp2_with fail
    go_ret
    exact ⟨rfl, HA2.out.2⟩
  | true =>
  obtain ⟨c0, c1, c2, c3⟩ := HA2.out.1
  go_wp2_with fail
  refine (HGX.out (by trivial) _).mono ?_
  rintro e w3 ⟨rfl, hb⟩
  have HA3 := Lib.hid (And.intro (HA2.out.1.below hb) (HA2.out.2.trans (hb.mono HA2.out.2.size)))
  clear hb HA2 c0 c1 c2 c3
  have hm : Mine (w3.alloc (.cells #[.int .i64 gk, .string gs, .string gl, .string gt] 23)) w3.heap.size ⟨gk, gs, gl, gt⟩ := Mine.at (g := ⟨gk, gs, gl, gt⟩)
  have hb : Below w3.heap.size w3 (w3.alloc (.cells #[.int .i64 gk, .string gs, .string gl, .string gt] 23)) := (Below.refl _ _).alloc (Nat.le_refl _) _
  have hs : Box (w3.alloc (.cells #[.int .i64 gk, .string gs, .string gl, .string gt] 23)) w.heap.size ⟨k, s, l, t⟩ := HA3.out.1.below hb
  have hs2 : Below w.heap.size w (w3.alloc (.cells #[.int .i64 gk, .string gs, .string gl, .string gt] 23)) := HA3.out.2.trans (hb.mono HA3.out.2.size)
  have hp := HA3.out.2.size
  have HM := Lib.hid hm
  have HS := Lib.hid hs
  have HS2 := Lib.hid hs2
  clear hm hb hs hs2
  go_wp2_with fail
  generalize w3.alloc _ = V0 at HM HS HS2 ⊢
  generalize w3.heap.size = p at hp HM ⊢
  have hS : (fun w' : World => Box w' w.heap.size ⟨k, s, l, t⟩ ∧ Mine w' p ⟨gk, gs, gl, gt⟩ ∧ Below w.heap.size w w') V0.drew := ⟨HS.out, HM.out, HS2.out.drew⟩
  clear HM HS HS2 HA3
  refine wp_region_any (by kernel_rfl) ?_
  change wpAny _ _ _ _ _ _ _ (World.drew _)
  generalize V0.drew = V1 at hS ⊢
  refine wpAny_of_held (S := fun w' : World => Box w' w.heap.size ⟨k, s, l, t⟩ ∧ Mine w' p ⟨gk, gs, gl, gt⟩ ∧ Below w.heap.size w w') _ _ _ _ ?_
  try simp only [Act.put, List.setIfInBounds_toArray, List.set_cons_zero, List.set_cons_succ]
  refine wpAnyH_take (i := 0) (oi := ⟨some 17, _, _, _, _, _⟩) (v := ?_) rfl (by kernel_rfl) (by kernel_rfl) (by kernel_rfl) (fun _ _ _ h => h) (Or.inl ⟨by simp only [Region.wanted], ?_⟩) hS ?_
  rotate_left
  · intro wz hSw; obtain ⟨⟨c0, c1, c2, c3⟩, ⟨⟨d0, d1, d2, d3⟩, -⟩, -⟩ := hSw
    (try dsimp only at hSw)
    (try go_split_ands)
    go_simp
    first | done | with_reducible rfl
  try simp only [Act.put, List.setIfInBounds_toArray, List.set_cons_zero, List.set_cons_succ]
  refine wpAnyH_take (i := 2) (oi := ⟨some 19, _, _, _, _, _⟩) (v := ?_) rfl (by kernel_rfl) (by kernel_rfl) (by kernel_rfl) (fun _ _ _ h => h) (Or.inl ⟨by simp only [Region.wanted], ?_⟩) hS ?_
  rotate_left
  · intro wz hSw; obtain ⟨⟨c0, c1, c2, c3⟩, ⟨⟨d0, d1, d2, d3⟩, -⟩, -⟩ := hSw
    (try dsimp only at hSw)
    (try go_split_ands)
    go_simp
    first | done | with_reducible rfl
  try simp only [Act.put, List.setIfInBounds_toArray, List.set_cons_zero, List.set_cons_succ]
  refine wpAnyH_ready (rs := [1]) (by kernel_rfl) (by simp) ?_
  refine AllReadyH.cons (o := ⟨some 18, _, _, _, _, _⟩) rfl (fun K hK => ?_) AllReadyH.nil
  go_simp
  refine (HCX.out _).mono ?_
  rintro e V2 ⟨rfl, hb1⟩
  go_simp
  refine hK.out _ _ (⟨hS.1.below hb1, hS.2.1.below hb1, hS.2.2.trans (hb1.mono hS.2.2.size)⟩) (fun hS => ?_)
  clear hK K
  try simp only [Act.put, List.setIfInBounds_toArray, List.set_cons_zero, List.set_cons_succ]
  clear hb1
  refine wpAnyH_ready (rs := [3]) (by kernel_rfl) (by simp) ?_
  refine AllReadyH.cons (o := ⟨some 20, _, _, _, _, _⟩) rfl (fun K hK => ?_) AllReadyH.nil
  go_simp
  refine (HRX.out _).mono ?_
  rintro e V3 ⟨rfl, hb1⟩
  go_simp
  refine hK.out _ _ (⟨hS.1.below hb1, hS.2.1.below hb1, hS.2.2.trans (hb1.mono hS.2.2.size)⟩) (fun hS => ?_)
  clear hK K
  try simp only [Act.put, List.setIfInBounds_toArray, List.set_cons_zero, List.set_cons_succ]
  clear hb1
  refine wpAnyH_take (i := 4) (oi := ⟨some 21, _, _, _, _, _⟩) (v := ?_) rfl (by kernel_rfl) (by kernel_rfl) (by kernel_rfl) (fun _ _ _ h => h) (Or.inl ⟨by simp only [Region.wanted], ?_⟩) hS ?_
  rotate_left
  · intro wz hSw
    clear hSw
    go_simp
    first | done | with_reducible rfl
  try simp only [Act.put, List.setIfInBounds_toArray, List.set_cons_zero, List.set_cons_succ]
  refine wpAnyH_take (i := 5) (oi := ⟨some 22, _, _, _, _, _⟩) (v := ?_) rfl (by kernel_rfl) (by kernel_rfl) (by kernel_rfl) (fun _ _ _ h => h) (Or.inl ⟨by simp only [Region.wanted], ?_⟩) hS ?_
  rotate_left
  · intro wz hSw
    clear hSw
    go_simp
    first | done | with_reducible rfl
  try simp only [Act.put, List.setIfInBounds_toArray, List.set_cons_zero, List.set_cons_succ]
  refine wpAnyH_take (i := 6) (oi := ⟨some 23, _, _, _, _, _⟩) (v := ?_) rfl (by kernel_rfl) (by kernel_rfl) (by kernel_rfl) (fun _ _ _ h => h) (Or.inl ⟨by rfl, ?_⟩) hS ?_
  rotate_left
  · intro wz hSw; obtain ⟨⟨c0, c1, c2, c3⟩, ⟨⟨d0, d1, d2, d3⟩, -⟩, -⟩ := hSw
    (try dsimp only at hSw)
    (try go_split_ands)
    go_simp
    first | done | with_reducible rfl
  try simp only [Act.put, List.setIfInBounds_toArray, List.set_cons_zero, List.set_cons_succ]
  refine wpAnyH_ready (rs := [7]) (by kernel_rfl) (by simp) ?_
  refine AllReadyH.cons (o := ⟨some 24, _, _, _, _, _⟩) rfl (fun K hK => ?_) AllReadyH.nil
  go_simp
  refine (HCG.out _).mono ?_
  rintro e V4 ⟨rfl, hb1⟩
  go_simp
  refine hK.out _ _ (⟨hS.1.below hb1, hS.2.1.below hb1, hS.2.2.trans (hb1.mono hS.2.2.size)⟩) (fun hS => ?_)
  clear hK K
  try simp only [Act.put, List.setIfInBounds_toArray, List.set_cons_zero, List.set_cons_succ]
  clear hb1
  refine wpAnyH_take (i := 8) (oi := ⟨some 25, _, _, _, _, _⟩) (v := ?_) rfl (by kernel_rfl) (by kernel_rfl) (by kernel_rfl) (fun _ _ _ h => h) (Or.inl ⟨by rfl, ?_⟩) hS ?_
  rotate_left
  · intro wz hSw
    clear hSw
    go_simp
    first | done | with_reducible rfl
  try simp only [Act.put, List.setIfInBounds_toArray, List.set_cons_zero, List.set_cons_succ]
  refine wpAnyH_take (i := 9) (oi := ⟨some 26, _, _, _, _, _⟩) (v := ?_) rfl (by kernel_rfl) (by kernel_rfl) (by kernel_rfl) (fun _ _ _ h => h) (Or.inl ⟨by simp only [Region.wanted], ?_⟩) hS ?_
  rotate_left
  · intro wz hSw
    clear hSw
    go_simp
    first | done | with_reducible rfl
  try simp only [Act.put, List.setIfInBounds_toArray, List.set_cons_zero, List.set_cons_succ]
  refine wpAnyH_done (by kernel_rfl) ?_ _
  have HM := Lib.hid hS.2.1
  have HB := Lib.hid hS.2.2
  clear hS HCX HRX HCG
  go_wp2_with fail
  refine (within_any a1 8 (by decide) (by decide) h1 _).mono ?_
  rintro e w' ⟨rfl, rfl⟩
  obtain ⟨r, hr⟩ : ∃ r, r = a1 % 8 := ⟨_, rfl⟩
  rw [← hr]
  have hrc : r = 0 ∨ r = 1 ∨ r = 2 ∨ r = 3 ∨ r = 4 ∨ r = 5 ∨ r = 6 ∨ r = 7 := by omega
  clear hr
  obtain ⟨c0, c1, c2, c3⟩ := HM.out.1
  obtain ⟨f0, f1, f2, f3⟩ := HM.out.2
  have hplt := HM.out.1.lt
  have hle := HB.out.size
  dsimp only at c0 c1 c2 c3
  rcases hrc with rfl | rfl | rfl | rfl | rfl | rfl | rfl | rfl
  · have hadd : ∀ w : World, (Op.stringOp .add gs ⟨#[c]⟩).run Try.prog w = .ok (.string (gs ++ ⟨#[c]⟩)) w := fun w => run_string_add_sum w _ _ (by have h := HZ.out.1; show gs.size + 1 ≤ _; omega)
    have HOK : Hid (⟨gk, gs ++ ⟨#[c]⟩, gl, gt⟩ : Tm).Ok := Lib.hid (by have := HZ.out; exact ⟨this.2.2.2, by have h := this; show (gs ++ ⟨#[c]⟩ : ByteArray).size ≤ maxLen; rw [app_size]; show _ + 1 ≤ _; unfold maxLen; omega, by have h := this.2.1; show gl.size ≤ maxLen; unfold maxLen; omega, by have h := this.2.2.1; show gt.size ≤ maxLen; unfold maxLen; omega⟩)
    have hS : (fun w' : World => Box w' p ⟨gk, gs ++ ⟨#[c]⟩, gl, gt⟩ ∧ Below w.heap.size w w') (World.drew ((V4.setCell ⟨p, 1, none⟩ (.string (gs ++ ⟨#[c]⟩))).alloc (.cells #[.int .u8 c.toNat] 5))) := ⟨(HM.out.box1 _).below ((Below.refl _ _).alloc (Nat.le_refl _) _).drew, ((HB.out.setCell hp _).alloc (by simp [World.setCell]; exact hle) _).drew⟩
    go_wp2_with (refine wpList_conv rfl (.tmp 34) rfl _ _ rfl (Bs.one _ c _ rfl) ?_)
    clear c0 c1 c2 c3 f0 f1 f2 f3 HM HB
    have hok : (⟨gk, gs ++ ⟨#[c]⟩, gl, gt⟩ : Tm).Ok := HOK.out
    have hck := check_any _ hok
    have hrk := rcheck_any _ hok
    unfold Tm.val at hck hrk
    dsimp only at hck hrk
    generalize checkOf _ = cg at hck hrk
    have HCK := Lib.hid hck
    have HRK := Lib.hid hrk
    clear hok hck hrk HOK
    refine wp_region_any (by kernel_rfl) ?_
    change wpAny _ _ _ _ _ _ _ (World.drew _)
    generalize World.drew _ = V6 at hS ⊢
    refine wpAny_of_held (S := fun w' : World => Box w' p ⟨gk, gs ++ ⟨#[c]⟩, gl, gt⟩ ∧ Below w.heap.size w w') _ _ _ _ ?_
    try simp only [Act.put, List.setIfInBounds_toArray, List.set_cons_zero, List.set_cons_succ]
    refine wpAnyH_take (i := 0) (oi := ⟨some 78, _, _, _, _, _⟩) (v := ?_) rfl (by kernel_rfl) (by kernel_rfl) (by kernel_rfl) (fun _ _ _ h => h) (Or.inl ⟨by simp only [Region.wanted], ?_⟩) hS ?_
    rotate_left
    · intro wz hSw; obtain ⟨⟨c0, c1, c2, c3⟩, -⟩ := hSw
      (try dsimp only at hSw)
      (try go_split_ands)
      go_simp
      first | done | with_reducible rfl
    try simp only [Act.put, List.setIfInBounds_toArray, List.set_cons_zero, List.set_cons_succ]
    refine wpAnyH_take (i := 2) (oi := ⟨some 80, _, _, _, _, _⟩) (v := ?_) rfl (by kernel_rfl) (by kernel_rfl) (by kernel_rfl) (fun _ _ _ h => h) (Or.inl ⟨by simp only [Region.wanted], ?_⟩) hS ?_
    rotate_left
    · intro wz hSw; obtain ⟨⟨c0, c1, c2, c3⟩, -⟩ := hSw
      (try dsimp only at hSw)
      (try go_split_ands)
      go_simp
      first | done | with_reducible rfl
    try simp only [Act.put, List.setIfInBounds_toArray, List.set_cons_zero, List.set_cons_succ]
    refine wpAnyH_ready (rs := [1]) (by kernel_rfl) (by simp) ?_
    refine AllReadyH.cons (o := ⟨some 79, _, _, _, _, _⟩) rfl (fun K hK => ?_) AllReadyH.nil
    go_simp
    refine (HCK.out _).mono ?_
    rintro e V7 ⟨rfl, hb1⟩
    go_simp
    refine hK.out _ _ (⟨hS.1.below hb1, hS.2.trans (hb1.mono hS.2.size)⟩) (fun hS => ?_)
    clear hK K
    try simp only [Act.put, List.setIfInBounds_toArray, List.set_cons_zero, List.set_cons_succ]
    clear hb1
    refine wpAnyH_ready (rs := [3]) (by kernel_rfl) (by simp) ?_
    refine AllReadyH.cons (o := ⟨some 81, _, _, _, _, _⟩) rfl (fun K hK => ?_) AllReadyH.nil
    go_simp
    refine (HRK.out _).mono ?_
    rintro e V8 ⟨rfl, hb1⟩
    go_simp
    refine hK.out _ _ (⟨hS.1.below hb1, hS.2.trans (hb1.mono hS.2.size)⟩) (fun hS => ?_)
    clear hK K
    try simp only [Act.put, List.setIfInBounds_toArray, List.set_cons_zero, List.set_cons_succ]
    clear hb1
    refine wpAnyH_take (i := 4) (oi := ⟨some 82, _, _, _, _, _⟩) (v := ?_) rfl (by kernel_rfl) (by kernel_rfl) (by kernel_rfl) (fun _ _ _ h => h) (Or.inl ⟨by simp only [Region.wanted], ?_⟩) hS ?_
    rotate_left
    · intro wz hSw
      clear hSw
      go_simp
      first | done | with_reducible rfl
    try simp only [Act.put, List.setIfInBounds_toArray, List.set_cons_zero, List.set_cons_succ]
    refine wpAnyH_take (i := 5) (oi := ⟨some 8, _, _, _, _, _⟩) (v := ?_) rfl (by kernel_rfl) (by kernel_rfl) (by kernel_rfl) (fun _ _ _ h => h) (Or.inl ⟨by simp only [Region.wanted], ?_⟩) hS ?_
    rotate_left
    · intro wz hSw
      clear hSw
      go_simp
      first | done | with_reducible rfl
    try simp only [Act.put, List.setIfInBounds_toArray, List.set_cons_zero, List.set_cons_succ]
    refine wpAnyH_done (by kernel_rfl) ?_ _
    have HE := Lib.hid hS.2
    clear hS HCK HRK
    go_wp2_with fail
    go_ret
    exact ⟨rfl, HE.out⟩
  · have HOK : Hid (⟨gk, gs, ⟨#[c]⟩, gt⟩ : Tm).Ok := Lib.hid (by have := HZ.out; exact ⟨this.2.2.2, by have h := this.1; show gs.size ≤ maxLen; unfold maxLen; omega, by show 1 ≤ maxLen; decide, by have h := this.2.2.1; show gt.size ≤ maxLen; unfold maxLen; omega⟩)
    have hS : (fun w' : World => Box w' p ⟨gk, gs, ⟨#[c]⟩, gt⟩ ∧ Below w.heap.size w w') (World.drew ((V4.setCell ⟨p, 2, none⟩ (.string ⟨#[c]⟩)).alloc (.cells #[.int .u8 c.toNat] 5))) := ⟨(HM.out.box2 _).below ((Below.refl _ _).alloc (Nat.le_refl _) _).drew, ((HB.out.setCell hp _).alloc (by simp [World.setCell]; exact hle) _).drew⟩
    go_wp2_with (refine wpList_conv rfl (.tmp 41) rfl _ _ rfl (Bs.one _ c _ rfl) ?_)
    clear c0 c1 c2 c3 f0 f1 f2 f3 HM HB
    have hok : (⟨gk, gs, ⟨#[c]⟩, gt⟩ : Tm).Ok := HOK.out
    have hck := check_any _ hok
    have hrk := rcheck_any _ hok
    unfold Tm.val at hck hrk
    dsimp only at hck hrk
    generalize checkOf _ = cg at hck hrk
    have HCK := Lib.hid hck
    have HRK := Lib.hid hrk
    clear hok hck hrk HOK
    refine wp_region_any (by kernel_rfl) ?_
    change wpAny _ _ _ _ _ _ _ (World.drew _)
    generalize World.drew _ = V6 at hS ⊢
    refine wpAny_of_held (S := fun w' : World => Box w' p ⟨gk, gs, ⟨#[c]⟩, gt⟩ ∧ Below w.heap.size w w') _ _ _ _ ?_
    try simp only [Act.put, List.setIfInBounds_toArray, List.set_cons_zero, List.set_cons_succ]
    refine wpAnyH_take (i := 0) (oi := ⟨some 78, _, _, _, _, _⟩) (v := ?_) rfl (by kernel_rfl) (by kernel_rfl) (by kernel_rfl) (fun _ _ _ h => h) (Or.inl ⟨by simp only [Region.wanted], ?_⟩) hS ?_
    rotate_left
    · intro wz hSw; obtain ⟨⟨c0, c1, c2, c3⟩, -⟩ := hSw
      (try dsimp only at hSw)
      (try go_split_ands)
      go_simp
      first | done | with_reducible rfl
    try simp only [Act.put, List.setIfInBounds_toArray, List.set_cons_zero, List.set_cons_succ]
    refine wpAnyH_take (i := 2) (oi := ⟨some 80, _, _, _, _, _⟩) (v := ?_) rfl (by kernel_rfl) (by kernel_rfl) (by kernel_rfl) (fun _ _ _ h => h) (Or.inl ⟨by simp only [Region.wanted], ?_⟩) hS ?_
    rotate_left
    · intro wz hSw; obtain ⟨⟨c0, c1, c2, c3⟩, -⟩ := hSw
      (try dsimp only at hSw)
      (try go_split_ands)
      go_simp
      first | done | with_reducible rfl
    try simp only [Act.put, List.setIfInBounds_toArray, List.set_cons_zero, List.set_cons_succ]
    refine wpAnyH_ready (rs := [1]) (by kernel_rfl) (by simp) ?_
    refine AllReadyH.cons (o := ⟨some 79, _, _, _, _, _⟩) rfl (fun K hK => ?_) AllReadyH.nil
    go_simp
    refine (HCK.out _).mono ?_
    rintro e V7 ⟨rfl, hb1⟩
    go_simp
    refine hK.out _ _ (⟨hS.1.below hb1, hS.2.trans (hb1.mono hS.2.size)⟩) (fun hS => ?_)
    clear hK K
    try simp only [Act.put, List.setIfInBounds_toArray, List.set_cons_zero, List.set_cons_succ]
    clear hb1
    refine wpAnyH_ready (rs := [3]) (by kernel_rfl) (by simp) ?_
    refine AllReadyH.cons (o := ⟨some 81, _, _, _, _, _⟩) rfl (fun K hK => ?_) AllReadyH.nil
    go_simp
    refine (HRK.out _).mono ?_
    rintro e V8 ⟨rfl, hb1⟩
    go_simp
    refine hK.out _ _ (⟨hS.1.below hb1, hS.2.trans (hb1.mono hS.2.size)⟩) (fun hS => ?_)
    clear hK K
    try simp only [Act.put, List.setIfInBounds_toArray, List.set_cons_zero, List.set_cons_succ]
    clear hb1
    refine wpAnyH_take (i := 4) (oi := ⟨some 82, _, _, _, _, _⟩) (v := ?_) rfl (by kernel_rfl) (by kernel_rfl) (by kernel_rfl) (fun _ _ _ h => h) (Or.inl ⟨by simp only [Region.wanted], ?_⟩) hS ?_
    rotate_left
    · intro wz hSw
      clear hSw
      go_simp
      first | done | with_reducible rfl
    try simp only [Act.put, List.setIfInBounds_toArray, List.set_cons_zero, List.set_cons_succ]
    refine wpAnyH_take (i := 5) (oi := ⟨some 8, _, _, _, _, _⟩) (v := ?_) rfl (by kernel_rfl) (by kernel_rfl) (by kernel_rfl) (fun _ _ _ h => h) (Or.inl ⟨by simp only [Region.wanted], ?_⟩) hS ?_
    rotate_left
    · intro wz hSw
      clear hSw
      go_simp
      first | done | with_reducible rfl
    try simp only [Act.put, List.setIfInBounds_toArray, List.set_cons_zero, List.set_cons_succ]
    refine wpAnyH_done (by kernel_rfl) ?_ _
    have HE := Lib.hid hS.2
    clear hS HCK HRK
    go_wp2_with fail
    go_ret
    exact ⟨rfl, HE.out⟩
  · have hadd : ∀ w : World, (Op.stringOp .add gt ⟨#[c]⟩).run Try.prog w = .ok (.string (gt ++ ⟨#[c]⟩)) w := fun w => run_string_add_sum w _ _ (by have h := HZ.out.2.2.1; show gt.size + 1 ≤ _; omega)
    have HOK : Hid (⟨gk, gs, gl, gt ++ ⟨#[c]⟩⟩ : Tm).Ok := Lib.hid (by have := HZ.out; exact ⟨this.2.2.2, by have h := this.1; show gs.size ≤ maxLen; unfold maxLen; omega, by have h := this.2.1; show gl.size ≤ maxLen; unfold maxLen; omega, by have h := this; show (gt ++ ⟨#[c]⟩ : ByteArray).size ≤ maxLen; rw [app_size]; show _ + 1 ≤ _; unfold maxLen; omega⟩)
    have hS : (fun w' : World => Box w' p ⟨gk, gs, gl, gt ++ ⟨#[c]⟩⟩ ∧ Below w.heap.size w w') (World.drew ((V4.setCell ⟨p, 3, none⟩ (.string (gt ++ ⟨#[c]⟩))).alloc (.cells #[.int .u8 c.toNat] 5))) := ⟨(HM.out.box3 _).below ((Below.refl _ _).alloc (Nat.le_refl _) _).drew, ((HB.out.setCell hp _).alloc (by simp [World.setCell]; exact hle) _).drew⟩
    go_wp2_with (refine wpList_conv rfl (.tmp 49) rfl _ _ rfl (Bs.one _ c _ rfl) ?_)
    clear c0 c1 c2 c3 f0 f1 f2 f3 HM HB
    have hok : (⟨gk, gs, gl, gt ++ ⟨#[c]⟩⟩ : Tm).Ok := HOK.out
    have hck := check_any _ hok
    have hrk := rcheck_any _ hok
    unfold Tm.val at hck hrk
    dsimp only at hck hrk
    generalize checkOf _ = cg at hck hrk
    have HCK := Lib.hid hck
    have HRK := Lib.hid hrk
    clear hok hck hrk HOK
    refine wp_region_any (by kernel_rfl) ?_
    change wpAny _ _ _ _ _ _ _ (World.drew _)
    generalize World.drew _ = V6 at hS ⊢
    refine wpAny_of_held (S := fun w' : World => Box w' p ⟨gk, gs, gl, gt ++ ⟨#[c]⟩⟩ ∧ Below w.heap.size w w') _ _ _ _ ?_
    try simp only [Act.put, List.setIfInBounds_toArray, List.set_cons_zero, List.set_cons_succ]
    refine wpAnyH_take (i := 0) (oi := ⟨some 78, _, _, _, _, _⟩) (v := ?_) rfl (by kernel_rfl) (by kernel_rfl) (by kernel_rfl) (fun _ _ _ h => h) (Or.inl ⟨by simp only [Region.wanted], ?_⟩) hS ?_
    rotate_left
    · intro wz hSw; obtain ⟨⟨c0, c1, c2, c3⟩, -⟩ := hSw
      (try dsimp only at hSw)
      (try go_split_ands)
      go_simp
      first | done | with_reducible rfl
    try simp only [Act.put, List.setIfInBounds_toArray, List.set_cons_zero, List.set_cons_succ]
    refine wpAnyH_take (i := 2) (oi := ⟨some 80, _, _, _, _, _⟩) (v := ?_) rfl (by kernel_rfl) (by kernel_rfl) (by kernel_rfl) (fun _ _ _ h => h) (Or.inl ⟨by simp only [Region.wanted], ?_⟩) hS ?_
    rotate_left
    · intro wz hSw; obtain ⟨⟨c0, c1, c2, c3⟩, -⟩ := hSw
      (try dsimp only at hSw)
      (try go_split_ands)
      go_simp
      first | done | with_reducible rfl
    try simp only [Act.put, List.setIfInBounds_toArray, List.set_cons_zero, List.set_cons_succ]
    refine wpAnyH_ready (rs := [1]) (by kernel_rfl) (by simp) ?_
    refine AllReadyH.cons (o := ⟨some 79, _, _, _, _, _⟩) rfl (fun K hK => ?_) AllReadyH.nil
    go_simp
    refine (HCK.out _).mono ?_
    rintro e V7 ⟨rfl, hb1⟩
    go_simp
    refine hK.out _ _ (⟨hS.1.below hb1, hS.2.trans (hb1.mono hS.2.size)⟩) (fun hS => ?_)
    clear hK K
    try simp only [Act.put, List.setIfInBounds_toArray, List.set_cons_zero, List.set_cons_succ]
    clear hb1
    refine wpAnyH_ready (rs := [3]) (by kernel_rfl) (by simp) ?_
    refine AllReadyH.cons (o := ⟨some 81, _, _, _, _, _⟩) rfl (fun K hK => ?_) AllReadyH.nil
    go_simp
    refine (HRK.out _).mono ?_
    rintro e V8 ⟨rfl, hb1⟩
    go_simp
    refine hK.out _ _ (⟨hS.1.below hb1, hS.2.trans (hb1.mono hS.2.size)⟩) (fun hS => ?_)
    clear hK K
    try simp only [Act.put, List.setIfInBounds_toArray, List.set_cons_zero, List.set_cons_succ]
    clear hb1
    refine wpAnyH_take (i := 4) (oi := ⟨some 82, _, _, _, _, _⟩) (v := ?_) rfl (by kernel_rfl) (by kernel_rfl) (by kernel_rfl) (fun _ _ _ h => h) (Or.inl ⟨by simp only [Region.wanted], ?_⟩) hS ?_
    rotate_left
    · intro wz hSw
      clear hSw
      go_simp
      first | done | with_reducible rfl
    try simp only [Act.put, List.setIfInBounds_toArray, List.set_cons_zero, List.set_cons_succ]
    refine wpAnyH_take (i := 5) (oi := ⟨some 8, _, _, _, _, _⟩) (v := ?_) rfl (by kernel_rfl) (by kernel_rfl) (by kernel_rfl) (fun _ _ _ h => h) (Or.inl ⟨by simp only [Region.wanted], ?_⟩) hS ?_
    rotate_left
    · intro wz hSw
      clear hSw
      go_simp
      first | done | with_reducible rfl
    try simp only [Act.put, List.setIfInBounds_toArray, List.set_cons_zero, List.set_cons_succ]
    refine wpAnyH_done (by kernel_rfl) ?_ _
    have HE := Lib.hid hS.2
    clear hS HCK HRK
    go_wp2_with fail
    go_ret
    exact ⟨rfl, HE.out⟩
  · have HOK : Hid (⟨a3, gs, gl, gt⟩ : Tm).Ok := Lib.hid (by have := HZ.out; exact ⟨h3, by have h := this.1; show gs.size ≤ maxLen; unfold maxLen; omega, by have h := this.2.1; show gl.size ≤ maxLen; unfold maxLen; omega, by have h := this.2.2.1; show gt.size ≤ maxLen; unfold maxLen; omega⟩)
    have hS : (fun w' : World => Box w' p ⟨a3, gs, gl, gt⟩ ∧ Below w.heap.size w w') (World.drew (V4.setCell ⟨p, 0, none⟩ (.int .i64 a3))) := ⟨HM.out.box0 _, (HB.out.setCell hp _).drew⟩
    go_wp2_with fail
    clear c0 c1 c2 c3 f0 f1 f2 f3 HM HB
    have hok : (⟨a3, gs, gl, gt⟩ : Tm).Ok := HOK.out
    have hck := check_any _ hok
    have hrk := rcheck_any _ hok
    unfold Tm.val at hck hrk
    dsimp only at hck hrk
    generalize checkOf _ = cg at hck hrk
    have HCK := Lib.hid hck
    have HRK := Lib.hid hrk
    clear hok hck hrk HOK
    refine wp_region_any (by kernel_rfl) ?_
    change wpAny _ _ _ _ _ _ _ (World.drew _)
    generalize World.drew _ = V6 at hS ⊢
    refine wpAny_of_held (S := fun w' : World => Box w' p ⟨a3, gs, gl, gt⟩ ∧ Below w.heap.size w w') _ _ _ _ ?_
    try simp only [Act.put, List.setIfInBounds_toArray, List.set_cons_zero, List.set_cons_succ]
    refine wpAnyH_take (i := 0) (oi := ⟨some 78, _, _, _, _, _⟩) (v := ?_) rfl (by kernel_rfl) (by kernel_rfl) (by kernel_rfl) (fun _ _ _ h => h) (Or.inl ⟨by simp only [Region.wanted], ?_⟩) hS ?_
    rotate_left
    · intro wz hSw; obtain ⟨⟨c0, c1, c2, c3⟩, -⟩ := hSw
      (try dsimp only at hSw)
      (try go_split_ands)
      go_simp
      first | done | with_reducible rfl
    try simp only [Act.put, List.setIfInBounds_toArray, List.set_cons_zero, List.set_cons_succ]
    refine wpAnyH_take (i := 2) (oi := ⟨some 80, _, _, _, _, _⟩) (v := ?_) rfl (by kernel_rfl) (by kernel_rfl) (by kernel_rfl) (fun _ _ _ h => h) (Or.inl ⟨by simp only [Region.wanted], ?_⟩) hS ?_
    rotate_left
    · intro wz hSw; obtain ⟨⟨c0, c1, c2, c3⟩, -⟩ := hSw
      (try dsimp only at hSw)
      (try go_split_ands)
      go_simp
      first | done | with_reducible rfl
    try simp only [Act.put, List.setIfInBounds_toArray, List.set_cons_zero, List.set_cons_succ]
    refine wpAnyH_ready (rs := [1]) (by kernel_rfl) (by simp) ?_
    refine AllReadyH.cons (o := ⟨some 79, _, _, _, _, _⟩) rfl (fun K hK => ?_) AllReadyH.nil
    go_simp
    refine (HCK.out _).mono ?_
    rintro e V7 ⟨rfl, hb1⟩
    go_simp
    refine hK.out _ _ (⟨hS.1.below hb1, hS.2.trans (hb1.mono hS.2.size)⟩) (fun hS => ?_)
    clear hK K
    try simp only [Act.put, List.setIfInBounds_toArray, List.set_cons_zero, List.set_cons_succ]
    clear hb1
    refine wpAnyH_ready (rs := [3]) (by kernel_rfl) (by simp) ?_
    refine AllReadyH.cons (o := ⟨some 81, _, _, _, _, _⟩) rfl (fun K hK => ?_) AllReadyH.nil
    go_simp
    refine (HRK.out _).mono ?_
    rintro e V8 ⟨rfl, hb1⟩
    go_simp
    refine hK.out _ _ (⟨hS.1.below hb1, hS.2.trans (hb1.mono hS.2.size)⟩) (fun hS => ?_)
    clear hK K
    try simp only [Act.put, List.setIfInBounds_toArray, List.set_cons_zero, List.set_cons_succ]
    clear hb1
    refine wpAnyH_take (i := 4) (oi := ⟨some 82, _, _, _, _, _⟩) (v := ?_) rfl (by kernel_rfl) (by kernel_rfl) (by kernel_rfl) (fun _ _ _ h => h) (Or.inl ⟨by simp only [Region.wanted], ?_⟩) hS ?_
    rotate_left
    · intro wz hSw
      clear hSw
      go_simp
      first | done | with_reducible rfl
    try simp only [Act.put, List.setIfInBounds_toArray, List.set_cons_zero, List.set_cons_succ]
    refine wpAnyH_take (i := 5) (oi := ⟨some 8, _, _, _, _, _⟩) (v := ?_) rfl (by kernel_rfl) (by kernel_rfl) (by kernel_rfl) (fun _ _ _ h => h) (Or.inl ⟨by simp only [Region.wanted], ?_⟩) hS ?_
    rotate_left
    · intro wz hSw
      clear hSw
      go_simp
      first | done | with_reducible rfl
    try simp only [Act.put, List.setIfInBounds_toArray, List.set_cons_zero, List.set_cons_succ]
    refine wpAnyH_done (by kernel_rfl) ?_ _
    have HE := Lib.hid hS.2
    clear hS HCK HRK
    go_wp2_with fail
    go_ret
    exact ⟨rfl, HE.out⟩
  · have HOK : Hid (⟨gk, ⟨#[]⟩, gl, gt⟩ : Tm).Ok := Lib.hid (by have := HZ.out; exact ⟨this.2.2.2, by show 0 ≤ maxLen; decide, by have h := this.2.1; show gl.size ≤ maxLen; unfold maxLen; omega, by have h := this.2.2.1; show gt.size ≤ maxLen; unfold maxLen; omega⟩)
    have hS : (fun w' : World => Box w' p ⟨gk, ⟨#[]⟩, gl, gt⟩ ∧ Below w.heap.size w w') (World.drew (V4.setCell ⟨p, 1, none⟩ (.string ⟨#[]⟩))) := ⟨HM.out.box1 _, (HB.out.setCell hp _).drew⟩
    go_wp2_with fail
    clear c0 c1 c2 c3 f0 f1 f2 f3 HM HB
    have hok : (⟨gk, ⟨#[]⟩, gl, gt⟩ : Tm).Ok := HOK.out
    have hck := check_any _ hok
    have hrk := rcheck_any _ hok
    unfold Tm.val at hck hrk
    dsimp only at hck hrk
    generalize checkOf _ = cg at hck hrk
    have HCK := Lib.hid hck
    have HRK := Lib.hid hrk
    clear hok hck hrk HOK
    refine wp_region_any (by kernel_rfl) ?_
    change wpAny _ _ _ _ _ _ _ (World.drew _)
    generalize World.drew _ = V6 at hS ⊢
    refine wpAny_of_held (S := fun w' : World => Box w' p ⟨gk, ⟨#[]⟩, gl, gt⟩ ∧ Below w.heap.size w w') _ _ _ _ ?_
    try simp only [Act.put, List.setIfInBounds_toArray, List.set_cons_zero, List.set_cons_succ]
    refine wpAnyH_take (i := 0) (oi := ⟨some 78, _, _, _, _, _⟩) (v := ?_) rfl (by kernel_rfl) (by kernel_rfl) (by kernel_rfl) (fun _ _ _ h => h) (Or.inl ⟨by simp only [Region.wanted], ?_⟩) hS ?_
    rotate_left
    · intro wz hSw; obtain ⟨⟨c0, c1, c2, c3⟩, -⟩ := hSw
      (try dsimp only at hSw)
      (try go_split_ands)
      go_simp
      first | done | with_reducible rfl
    try simp only [Act.put, List.setIfInBounds_toArray, List.set_cons_zero, List.set_cons_succ]
    refine wpAnyH_take (i := 2) (oi := ⟨some 80, _, _, _, _, _⟩) (v := ?_) rfl (by kernel_rfl) (by kernel_rfl) (by kernel_rfl) (fun _ _ _ h => h) (Or.inl ⟨by simp only [Region.wanted], ?_⟩) hS ?_
    rotate_left
    · intro wz hSw; obtain ⟨⟨c0, c1, c2, c3⟩, -⟩ := hSw
      (try dsimp only at hSw)
      (try go_split_ands)
      go_simp
      first | done | with_reducible rfl
    try simp only [Act.put, List.setIfInBounds_toArray, List.set_cons_zero, List.set_cons_succ]
    refine wpAnyH_ready (rs := [1]) (by kernel_rfl) (by simp) ?_
    refine AllReadyH.cons (o := ⟨some 79, _, _, _, _, _⟩) rfl (fun K hK => ?_) AllReadyH.nil
    go_simp
    refine (HCK.out _).mono ?_
    rintro e V7 ⟨rfl, hb1⟩
    go_simp
    refine hK.out _ _ (⟨hS.1.below hb1, hS.2.trans (hb1.mono hS.2.size)⟩) (fun hS => ?_)
    clear hK K
    try simp only [Act.put, List.setIfInBounds_toArray, List.set_cons_zero, List.set_cons_succ]
    clear hb1
    refine wpAnyH_ready (rs := [3]) (by kernel_rfl) (by simp) ?_
    refine AllReadyH.cons (o := ⟨some 81, _, _, _, _, _⟩) rfl (fun K hK => ?_) AllReadyH.nil
    go_simp
    refine (HRK.out _).mono ?_
    rintro e V8 ⟨rfl, hb1⟩
    go_simp
    refine hK.out _ _ (⟨hS.1.below hb1, hS.2.trans (hb1.mono hS.2.size)⟩) (fun hS => ?_)
    clear hK K
    try simp only [Act.put, List.setIfInBounds_toArray, List.set_cons_zero, List.set_cons_succ]
    clear hb1
    refine wpAnyH_take (i := 4) (oi := ⟨some 82, _, _, _, _, _⟩) (v := ?_) rfl (by kernel_rfl) (by kernel_rfl) (by kernel_rfl) (fun _ _ _ h => h) (Or.inl ⟨by simp only [Region.wanted], ?_⟩) hS ?_
    rotate_left
    · intro wz hSw
      clear hSw
      go_simp
      first | done | with_reducible rfl
    try simp only [Act.put, List.setIfInBounds_toArray, List.set_cons_zero, List.set_cons_succ]
    refine wpAnyH_take (i := 5) (oi := ⟨some 8, _, _, _, _, _⟩) (v := ?_) rfl (by kernel_rfl) (by kernel_rfl) (by kernel_rfl) (fun _ _ _ h => h) (Or.inl ⟨by simp only [Region.wanted], ?_⟩) hS ?_
    rotate_left
    · intro wz hSw
      clear hSw
      go_simp
      first | done | with_reducible rfl
    try simp only [Act.put, List.setIfInBounds_toArray, List.set_cons_zero, List.set_cons_succ]
    refine wpAnyH_done (by kernel_rfl) ?_ _
    have HE := Lib.hid hS.2
    clear hS HCK HRK
    go_wp2_with fail
    go_ret
    exact ⟨rfl, HE.out⟩
  · obtain ⟨j, hj⟩ : ∃ j : Nat, (j : Int) = a3 % 9 := ⟨(a3 % 9).toNat, by omega⟩
    have hj9 : j < 9 := by omega
    have HJ := Lib.hid hj
    clear hj
    have hmk : ∀ w : World, (Instr.makeSlice 31 (.int .i64 (55 + (j : Int))) (.int .i64 (55 + (j : Int)))).run Try.prog w = .ok (.slice (some ⟨w.heap.size, 0, none⟩) (55 + j) (55 + j)) (w.alloc (.cells (vbs (zeros (55 + j))).toArray 5)) := run_make_bytes (55 + j) (55 + (j : Int)) (by omega) (by omega)
    have hadd : ∀ w : World, (Op.stringOp .add ⟨#[97]⟩ ⟨(zeros (55 + j)).toArray⟩).run Try.prog w = .ok (.string (⟨#[97]⟩ ++ ⟨(zeros (55 + j)).toArray⟩)) w := fun w => run_string_add_sum w _ _ (by show 1 + (zeros (55 + j)).toArray.size ≤ _; rw [List.size_toArray, zeros_length]; omega)
    have HOK : Hid (⟨gk, ⟨#[97]⟩ ++ ⟨(zeros (55 + j)).toArray⟩, gl, gt⟩ : Tm).Ok := Lib.hid (by have := HZ.out; exact ⟨this.2.2.2, by show (⟨#[97]⟩ ++ ⟨(zeros (55 + j)).toArray⟩ : ByteArray).size ≤ maxLen; rw [app_size]; show 1 + (zeros (55 + j)).toArray.size ≤ _; rw [List.size_toArray, zeros_length]; unfold maxLen; omega, by have h := this.2.1; show gl.size ≤ maxLen; unfold maxLen; omega, by have h := this.2.2.1; show gt.size ≤ maxLen; unfold maxLen; omega⟩)
    have hS : (fun w' : World => Box w' p ⟨gk, ⟨#[97]⟩ ++ ⟨(zeros (55 + j)).toArray⟩, gl, gt⟩ ∧ Below w.heap.size w w') (World.drew ((V4.setCell ⟨p, 1, none⟩ (.string (⟨#[97]⟩ ++ ⟨(zeros (55 + j)).toArray⟩))).alloc (.cells (vbs (zeros (55 + j))).toArray 5))) := ⟨(HM.out.box1 _).below ((Below.refl _ _).alloc (Nat.le_refl _) _).drew, ((HB.out.setCell hp _).alloc (by simp [World.setCell]; exact hle) _).drew⟩
    go_wp2_with fail
    refine (within_any a3 9 (by decide) (by decide) h3 _).mono ?_
    rintro e w' ⟨rfl, rfl⟩
    rw [← HJ.out]
    go_wp2_with (refine wpList_conv rfl (.tmp 65) rfl _ _ rfl (zeros_bs _ _ (by omega)) ?_)
    clear c0 c1 c2 c3 f0 f1 f2 f3 HM HB
    have hok : (⟨gk, ⟨#[97]⟩ ++ ⟨(zeros (55 + j)).toArray⟩, gl, gt⟩ : Tm).Ok := HOK.out
    have hck := check_any _ hok
    have hrk := rcheck_any _ hok
    unfold Tm.val at hck hrk
    dsimp only at hck hrk
    generalize checkOf _ = cg at hck hrk
    have HCK := Lib.hid hck
    have HRK := Lib.hid hrk
    clear hok hck hrk HOK
    refine wp_region_any (by kernel_rfl) ?_
    change wpAny _ _ _ _ _ _ _ (World.drew _)
    generalize World.drew _ = V6 at hS ⊢
    refine wpAny_of_held (S := fun w' : World => Box w' p ⟨gk, ⟨#[97]⟩ ++ ⟨(zeros (55 + j)).toArray⟩, gl, gt⟩ ∧ Below w.heap.size w w') _ _ _ _ ?_
    try simp only [Act.put, List.setIfInBounds_toArray, List.set_cons_zero, List.set_cons_succ]
    refine wpAnyH_take (i := 0) (oi := ⟨some 78, _, _, _, _, _⟩) (v := ?_) rfl (by kernel_rfl) (by kernel_rfl) (by kernel_rfl) (fun _ _ _ h => h) (Or.inl ⟨by simp only [Region.wanted], ?_⟩) hS ?_
    rotate_left
    · intro wz hSw; obtain ⟨⟨c0, c1, c2, c3⟩, -⟩ := hSw
      (try dsimp only at hSw)
      (try go_split_ands)
      go_simp
      first | done | with_reducible rfl
    try simp only [Act.put, List.setIfInBounds_toArray, List.set_cons_zero, List.set_cons_succ]
    refine wpAnyH_take (i := 2) (oi := ⟨some 80, _, _, _, _, _⟩) (v := ?_) rfl (by kernel_rfl) (by kernel_rfl) (by kernel_rfl) (fun _ _ _ h => h) (Or.inl ⟨by simp only [Region.wanted], ?_⟩) hS ?_
    rotate_left
    · intro wz hSw; obtain ⟨⟨c0, c1, c2, c3⟩, -⟩ := hSw
      (try dsimp only at hSw)
      (try go_split_ands)
      go_simp
      first | done | with_reducible rfl
    try simp only [Act.put, List.setIfInBounds_toArray, List.set_cons_zero, List.set_cons_succ]
    refine wpAnyH_ready (rs := [1]) (by kernel_rfl) (by simp) ?_
    refine AllReadyH.cons (o := ⟨some 79, _, _, _, _, _⟩) rfl (fun K hK => ?_) AllReadyH.nil
    go_simp
    refine (HCK.out _).mono ?_
    rintro e V7 ⟨rfl, hb1⟩
    go_simp
    refine hK.out _ _ (⟨hS.1.below hb1, hS.2.trans (hb1.mono hS.2.size)⟩) (fun hS => ?_)
    clear hK K
    try simp only [Act.put, List.setIfInBounds_toArray, List.set_cons_zero, List.set_cons_succ]
    clear hb1
    refine wpAnyH_ready (rs := [3]) (by kernel_rfl) (by simp) ?_
    refine AllReadyH.cons (o := ⟨some 81, _, _, _, _, _⟩) rfl (fun K hK => ?_) AllReadyH.nil
    go_simp
    refine (HRK.out _).mono ?_
    rintro e V8 ⟨rfl, hb1⟩
    go_simp
    refine hK.out _ _ (⟨hS.1.below hb1, hS.2.trans (hb1.mono hS.2.size)⟩) (fun hS => ?_)
    clear hK K
    try simp only [Act.put, List.setIfInBounds_toArray, List.set_cons_zero, List.set_cons_succ]
    clear hb1
    refine wpAnyH_take (i := 4) (oi := ⟨some 82, _, _, _, _, _⟩) (v := ?_) rfl (by kernel_rfl) (by kernel_rfl) (by kernel_rfl) (fun _ _ _ h => h) (Or.inl ⟨by simp only [Region.wanted], ?_⟩) hS ?_
    rotate_left
    · intro wz hSw
      clear hSw
      go_simp
      first | done | with_reducible rfl
    try simp only [Act.put, List.setIfInBounds_toArray, List.set_cons_zero, List.set_cons_succ]
    refine wpAnyH_take (i := 5) (oi := ⟨some 8, _, _, _, _, _⟩) (v := ?_) rfl (by kernel_rfl) (by kernel_rfl) (by kernel_rfl) (fun _ _ _ h => h) (Or.inl ⟨by simp only [Region.wanted], ?_⟩) hS ?_
    rotate_left
    · intro wz hSw
      clear hSw
      go_simp
      first | done | with_reducible rfl
    try simp only [Act.put, List.setIfInBounds_toArray, List.set_cons_zero, List.set_cons_succ]
    refine wpAnyH_done (by kernel_rfl) ?_ _
    have HE := Lib.hid hS.2
    clear hS HCK HRK
    go_wp2_with fail
    go_ret
    exact ⟨rfl, HE.out⟩
  · obtain ⟨j, hj⟩ : ∃ j : Nat, (j : Int) = a3 % 11 := ⟨(a3 % 11).toNat, by omega⟩
    have hj9 : j ≤ 10 := by omega
    have HJ := Lib.hid hj
    clear hj
    have hsl : ∃ z : ByteArray, z = ByteArray.extract ⟨#[97, 98, 99, 100, 101, 102, 103, 104, 105, 106]⟩ 0 j ∧ z.size ≤ 10 := ⟨_, rfl, by rw [Lib.size_eq, Lib.extract_data, List.length_take]; omega⟩
    obtain ⟨z, hz, hzz⟩ := hsl
    have HZE := Lib.hid hz
    clear hz
    have HOK : Hid (⟨gk, gs, z, gt⟩ : Tm).Ok := Lib.hid (by have := HZ.out; exact ⟨this.2.2.2, by have h := this.1; show gs.size ≤ maxLen; unfold maxLen; omega, by show z.size ≤ maxLen; unfold maxLen; omega, by have h := this.2.2.1; show gt.size ≤ maxLen; unfold maxLen; omega⟩)
    have hS : (fun w' : World => Box w' p ⟨gk, gs, z, gt⟩ ∧ Below w.heap.size w w') (World.drew (V4.setCell ⟨p, 2, none⟩ (.string z))) := ⟨HM.out.box2 _, (HB.out.setCell hp _).drew⟩
    go_wp2_with fail
    refine (within_any a3 11 (by decide) (by decide) h3 _).mono ?_
    rintro e w' ⟨rfl, rfl⟩
    rw [← HJ.out]
    go_wp2_with fail
    rw [← HZE.out]
    clear c0 c1 c2 c3 f0 f1 f2 f3 HM HB
    have hok : (⟨gk, gs, z, gt⟩ : Tm).Ok := HOK.out
    have hck := check_any _ hok
    have hrk := rcheck_any _ hok
    unfold Tm.val at hck hrk
    dsimp only at hck hrk
    generalize checkOf _ = cg at hck hrk
    have HCK := Lib.hid hck
    have HRK := Lib.hid hrk
    clear hok hck hrk HOK
    refine wp_region_any (by kernel_rfl) ?_
    change wpAny _ _ _ _ _ _ _ (World.drew _)
    generalize World.drew _ = V6 at hS ⊢
    refine wpAny_of_held (S := fun w' : World => Box w' p ⟨gk, gs, z, gt⟩ ∧ Below w.heap.size w w') _ _ _ _ ?_
    try simp only [Act.put, List.setIfInBounds_toArray, List.set_cons_zero, List.set_cons_succ]
    refine wpAnyH_take (i := 0) (oi := ⟨some 78, _, _, _, _, _⟩) (v := ?_) rfl (by kernel_rfl) (by kernel_rfl) (by kernel_rfl) (fun _ _ _ h => h) (Or.inl ⟨by simp only [Region.wanted], ?_⟩) hS ?_
    rotate_left
    · intro wz hSw; obtain ⟨⟨c0, c1, c2, c3⟩, -⟩ := hSw
      (try dsimp only at hSw)
      (try go_split_ands)
      go_simp
      first | done | with_reducible rfl
    try simp only [Act.put, List.setIfInBounds_toArray, List.set_cons_zero, List.set_cons_succ]
    refine wpAnyH_take (i := 2) (oi := ⟨some 80, _, _, _, _, _⟩) (v := ?_) rfl (by kernel_rfl) (by kernel_rfl) (by kernel_rfl) (fun _ _ _ h => h) (Or.inl ⟨by simp only [Region.wanted], ?_⟩) hS ?_
    rotate_left
    · intro wz hSw; obtain ⟨⟨c0, c1, c2, c3⟩, -⟩ := hSw
      (try dsimp only at hSw)
      (try go_split_ands)
      go_simp
      first | done | with_reducible rfl
    try simp only [Act.put, List.setIfInBounds_toArray, List.set_cons_zero, List.set_cons_succ]
    refine wpAnyH_ready (rs := [1]) (by kernel_rfl) (by simp) ?_
    refine AllReadyH.cons (o := ⟨some 79, _, _, _, _, _⟩) rfl (fun K hK => ?_) AllReadyH.nil
    go_simp
    refine (HCK.out _).mono ?_
    rintro e V7 ⟨rfl, hb1⟩
    go_simp
    refine hK.out _ _ (⟨hS.1.below hb1, hS.2.trans (hb1.mono hS.2.size)⟩) (fun hS => ?_)
    clear hK K
    try simp only [Act.put, List.setIfInBounds_toArray, List.set_cons_zero, List.set_cons_succ]
    clear hb1
    refine wpAnyH_ready (rs := [3]) (by kernel_rfl) (by simp) ?_
    refine AllReadyH.cons (o := ⟨some 81, _, _, _, _, _⟩) rfl (fun K hK => ?_) AllReadyH.nil
    go_simp
    refine (HRK.out _).mono ?_
    rintro e V8 ⟨rfl, hb1⟩
    go_simp
    refine hK.out _ _ (⟨hS.1.below hb1, hS.2.trans (hb1.mono hS.2.size)⟩) (fun hS => ?_)
    clear hK K
    try simp only [Act.put, List.setIfInBounds_toArray, List.set_cons_zero, List.set_cons_succ]
    clear hb1
    refine wpAnyH_take (i := 4) (oi := ⟨some 82, _, _, _, _, _⟩) (v := ?_) rfl (by kernel_rfl) (by kernel_rfl) (by kernel_rfl) (fun _ _ _ h => h) (Or.inl ⟨by simp only [Region.wanted], ?_⟩) hS ?_
    rotate_left
    · intro wz hSw
      clear hSw
      go_simp
      first | done | with_reducible rfl
    try simp only [Act.put, List.setIfInBounds_toArray, List.set_cons_zero, List.set_cons_succ]
    refine wpAnyH_take (i := 5) (oi := ⟨some 8, _, _, _, _, _⟩) (v := ?_) rfl (by kernel_rfl) (by kernel_rfl) (by kernel_rfl) (fun _ _ _ h => h) (Or.inl ⟨by simp only [Region.wanted], ?_⟩) hS ?_
    rotate_left
    · intro wz hSw
      clear hSw
      go_simp
      first | done | with_reducible rfl
    try simp only [Act.put, List.setIfInBounds_toArray, List.set_cons_zero, List.set_cons_succ]
    refine wpAnyH_done (by kernel_rfl) ?_ _
    have HE := Lib.hid hS.2
    clear hS HCK HRK
    go_wp2_with fail
    go_ret
    exact ⟨rfl, HE.out⟩
  · have HOK : Hid (⟨2, gs, gl, gt⟩ : Tm).Ok := Lib.hid (by have := HZ.out; exact ⟨by show (Lit.int .i64 2).wf = true; decide, by have h := this.1; show gs.size ≤ maxLen; unfold maxLen; omega, by have h := this.2.1; show gl.size ≤ maxLen; unfold maxLen; omega, by have h := this.2.2.1; show gt.size ≤ maxLen; unfold maxLen; omega⟩)
    have hS : (fun w' : World => Box w' p ⟨2, gs, gl, gt⟩ ∧ Below w.heap.size w w') (World.drew (V4.setCell ⟨p, 0, none⟩ (.int .i64 2))) := ⟨HM.out.box0 _, (HB.out.setCell hp _).drew⟩
    go_wp2_with fail
    clear c0 c1 c2 c3 f0 f1 f2 f3 HM HB
    have hok : (⟨2, gs, gl, gt⟩ : Tm).Ok := HOK.out
    have hck := check_any _ hok
    have hrk := rcheck_any _ hok
    unfold Tm.val at hck hrk
    dsimp only at hck hrk
    generalize checkOf _ = cg at hck hrk
    have HCK := Lib.hid hck
    have HRK := Lib.hid hrk
    clear hok hck hrk HOK
    refine wp_region_any (by kernel_rfl) ?_
    change wpAny _ _ _ _ _ _ _ (World.drew _)
    generalize World.drew _ = V6 at hS ⊢
    refine wpAny_of_held (S := fun w' : World => Box w' p ⟨2, gs, gl, gt⟩ ∧ Below w.heap.size w w') _ _ _ _ ?_
    try simp only [Act.put, List.setIfInBounds_toArray, List.set_cons_zero, List.set_cons_succ]
    refine wpAnyH_take (i := 0) (oi := ⟨some 78, _, _, _, _, _⟩) (v := ?_) rfl (by kernel_rfl) (by kernel_rfl) (by kernel_rfl) (fun _ _ _ h => h) (Or.inl ⟨by simp only [Region.wanted], ?_⟩) hS ?_
    rotate_left
    · intro wz hSw; obtain ⟨⟨c0, c1, c2, c3⟩, -⟩ := hSw
      (try dsimp only at hSw)
      (try go_split_ands)
      go_simp
      first | done | with_reducible rfl
    try simp only [Act.put, List.setIfInBounds_toArray, List.set_cons_zero, List.set_cons_succ]
    refine wpAnyH_take (i := 2) (oi := ⟨some 80, _, _, _, _, _⟩) (v := ?_) rfl (by kernel_rfl) (by kernel_rfl) (by kernel_rfl) (fun _ _ _ h => h) (Or.inl ⟨by simp only [Region.wanted], ?_⟩) hS ?_
    rotate_left
    · intro wz hSw; obtain ⟨⟨c0, c1, c2, c3⟩, -⟩ := hSw
      (try dsimp only at hSw)
      (try go_split_ands)
      go_simp
      first | done | with_reducible rfl
    try simp only [Act.put, List.setIfInBounds_toArray, List.set_cons_zero, List.set_cons_succ]
    refine wpAnyH_ready (rs := [1]) (by kernel_rfl) (by simp) ?_
    refine AllReadyH.cons (o := ⟨some 79, _, _, _, _, _⟩) rfl (fun K hK => ?_) AllReadyH.nil
    go_simp
    refine (HCK.out _).mono ?_
    rintro e V7 ⟨rfl, hb1⟩
    go_simp
    refine hK.out _ _ (⟨hS.1.below hb1, hS.2.trans (hb1.mono hS.2.size)⟩) (fun hS => ?_)
    clear hK K
    try simp only [Act.put, List.setIfInBounds_toArray, List.set_cons_zero, List.set_cons_succ]
    clear hb1
    refine wpAnyH_ready (rs := [3]) (by kernel_rfl) (by simp) ?_
    refine AllReadyH.cons (o := ⟨some 81, _, _, _, _, _⟩) rfl (fun K hK => ?_) AllReadyH.nil
    go_simp
    refine (HRK.out _).mono ?_
    rintro e V8 ⟨rfl, hb1⟩
    go_simp
    refine hK.out _ _ (⟨hS.1.below hb1, hS.2.trans (hb1.mono hS.2.size)⟩) (fun hS => ?_)
    clear hK K
    try simp only [Act.put, List.setIfInBounds_toArray, List.set_cons_zero, List.set_cons_succ]
    clear hb1
    refine wpAnyH_take (i := 4) (oi := ⟨some 82, _, _, _, _, _⟩) (v := ?_) rfl (by kernel_rfl) (by kernel_rfl) (by kernel_rfl) (fun _ _ _ h => h) (Or.inl ⟨by simp only [Region.wanted], ?_⟩) hS ?_
    rotate_left
    · intro wz hSw
      clear hSw
      go_simp
      first | done | with_reducible rfl
    try simp only [Act.put, List.setIfInBounds_toArray, List.set_cons_zero, List.set_cons_succ]
    refine wpAnyH_take (i := 5) (oi := ⟨some 8, _, _, _, _, _⟩) (v := ?_) rfl (by kernel_rfl) (by kernel_rfl) (by kernel_rfl) (fun _ _ _ h => h) (Or.inl ⟨by simp only [Region.wanted], ?_⟩) hS ?_
    rotate_left
    · intro wz hSw
      clear hSw
      go_simp
      first | done | with_reducible rfl
    try simp only [Act.put, List.setIfInBounds_toArray, List.set_cons_zero, List.set_cons_succ]
    refine wpAnyH_done (by kernel_rfl) ?_ _
    have HE := Lib.hid hS.2
    clear hS HCK HRK
    go_wp2_with fail
    go_ret
    exact ⟨rfl, HE.out⟩
end Go.Proofs.Ytpoacgnncinmiaa
