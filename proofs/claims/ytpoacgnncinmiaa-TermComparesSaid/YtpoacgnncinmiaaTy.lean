/- Terms: TermCompares. -/
import Derived.Test.YtpoacgnncinmiaaTl
import Derived.Test.YtpoacgnncinmiaaTx
import Derived.Test.YtpoacgnncinmiaaTm
import Derived.Test.YtpoacgnncinmiaaTn
import Derived.Deep.DeepCutAuto
namespace Go.Proofs.Ytpoacgnncinmiaa
open Go.RowKit
set_option maxRecDepth 100000
set_option linter.unusedVariables false

/-- A region that is walked under a stronger condition. -/
theorem wpAnyH_mono {P : Program} {ops : Array Oper} {Q : Exit → Act → World → Prop} {md : Region.Mode} {S S' : World → Prop} (hS : ∀ w, S' w → S w) :
    ∀ (fuel : Nat) (listed : Array Bool) (a : Act) (w : World), wpAnyH P md ops Q S' fuel listed a w → wpAnyH P md ops Q S fuel listed a w
  | 0, _, _, _, h => h
  | fuel + 1, _, _, _, h => ⟨h.1, fun i hi => wpOp_mono (fun a' w' h' => ⟨hS _ h'.1, wpAnyH_mono hS fuel _ a' w' h'.2⟩) (h.2 i hi)⟩

theorem few_of {x : Tm} (hx : x.Ok) (h : fewB x = true) : x.Few := by
  unfold fewB at h
  simp at h
  exact ⟨hx.k, h.1.1, h.1.2, h.2⟩
theorem Box.new (W : World) (g : Tm) : Box (W.alloc (.cells #[.int .i64 g.k, .string g.s, .string g.l, .string g.t] 23)) W.heap.size g := by
  refine ⟨?_, ?_, ?_, ?_⟩ <;> simp
/-- Two rows of three terms in a block. -/
def Six (W : World) (b : Nat) (x y z x2 y2 z2 : Tm) : Prop := W.cell? ⟨b, 0, none⟩ = some (.int .i64 x.k) ∧ W.cell? ⟨b, 1, none⟩ = some (.string x.s) ∧ W.cell? ⟨b, 2, none⟩ = some (.string x.l) ∧ W.cell? ⟨b, 3, none⟩ = some (.string x.t) ∧ W.cell? ⟨b, 4, none⟩ = some (.int .i64 y.k) ∧ W.cell? ⟨b, 5, none⟩ = some (.string y.s) ∧ W.cell? ⟨b, 6, none⟩ = some (.string y.l) ∧ W.cell? ⟨b, 7, none⟩ = some (.string y.t) ∧ W.cell? ⟨b, 8, none⟩ = some (.int .i64 z.k) ∧ W.cell? ⟨b, 9, none⟩ = some (.string z.s) ∧ W.cell? ⟨b, 10, none⟩ = some (.string z.l) ∧ W.cell? ⟨b, 11, none⟩ = some (.string z.t) ∧ W.cell? ⟨b, 12, none⟩ = some (.int .i64 x2.k) ∧ W.cell? ⟨b, 13, none⟩ = some (.string x2.s) ∧ W.cell? ⟨b, 14, none⟩ = some (.string x2.l) ∧ W.cell? ⟨b, 15, none⟩ = some (.string x2.t) ∧ W.cell? ⟨b, 16, none⟩ = some (.int .i64 y2.k) ∧ W.cell? ⟨b, 17, none⟩ = some (.string y2.s) ∧ W.cell? ⟨b, 18, none⟩ = some (.string y2.l) ∧ W.cell? ⟨b, 19, none⟩ = some (.string y2.t) ∧ W.cell? ⟨b, 20, none⟩ = some (.int .i64 z2.k) ∧ W.cell? ⟨b, 21, none⟩ = some (.string z2.s) ∧ W.cell? ⟨b, 22, none⟩ = some (.string z2.l) ∧ W.cell? ⟨b, 23, none⟩ = some (.string z2.t)
theorem Six.lt {W : World} {b : Nat} {x y z x2 y2 z2 : Tm} (h : Six W b x y z x2 y2 z2) : b < W.heap.size := World.block_lt_of_cell? W _ h.1
theorem Six.below {W W' : World} {b : Nat} {x y z x2 y2 z2 : Tm} (h : Six W b x y z x2 y2 z2) (hb : Below W.heap.size W W') : Six W' b x y z x2 y2 z2 := by
  have hlt := h.lt
  have hc : ∀ o, W'.cell? ⟨b, o, none⟩ = W.cell? ⟨b, o, none⟩ := fun o => hb.cell (p := ⟨b, o, none⟩) hlt
  unfold Six at h ⊢
  simp only [hc]
  exact h
theorem Six.new (W : World) (x y z x2 y2 z2 : Tm) : Six (W.alloc (.cells #[.int .i64 x.k, .string x.s, .string x.l, .string x.t, .int .i64 y.k, .string y.s, .string y.l, .string y.t, .int .i64 z.k, .string z.s, .string z.l, .string z.t, .int .i64 x2.k, .string x2.s, .string x2.l, .string x2.t, .int .i64 y2.k, .string y2.s, .string y2.l, .string y2.t, .int .i64 z2.k, .string z2.s, .string z2.l, .string z2.t] 42)) W.heap.size x y z x2 y2 z2 := by
  unfold Six
  simp
def eqB (x y : Tm) : Bool := x.k == y.k && (x.s.toList == y.s.toList && (x.l.toList == y.l.toList && x.t.toList == y.t.toList))
theorem eqB_iff (x y : Tm) : eqB x y = true ↔ x = y := by
  obtain ⟨k, s, l, t⟩ := x
  obtain ⟨k2, s2, l2, t2⟩ := y
  unfold eqB
  simp only [Lib.toList_data, Bool.and_eq_true, beq_iff_eq, Tm.mk.injEq]
  constructor
  · rintro ⟨h1, h2, h3, h4⟩; exact ⟨h1, ba_ext h2, ba_ext h3, ba_ext h4⟩
  · rintro ⟨rfl, rfl, rfl, rfl⟩; exact ⟨rfl, rfl, rfl, rfl⟩
theorem equal_term (x y : Tm) (w : World) : (Op.equalIn 10000 23 x.val y.val).run Try.prog w = .ok (eqB x y) w := by
  obtain ⟨k, s, l, t⟩ := x
  obtain ⟨k2, s2, l2, t2⟩ := y
  unfold Tm.val eqB
  dsimp only
  cases h1 : k == k2 <;> cases h2 : s.toList == s2.toList <;> cases h3 : l.toList == l2.toList <;> cases h4 : t.toList == t2.toList
  all_goals go_simp
theorem Six.other {W : World} {b p : Nat} {x y z x2 y2 z2 g : Tm} (h : Six W b x y z x2 y2 z2) (hne : p ≠ b) : Six ((((W.setCell ⟨p, 0, none⟩ (.int .i64 g.k)).setCell ⟨p, 1, none⟩ (.string g.s)).setCell ⟨p, 2, none⟩ (.string g.l)).setCell ⟨p, 3, none⟩ (.string g.t)) b x y z x2 y2 z2 := by
  have hn : ∀ i j : Nat, (⟨p, i, none⟩ : Addr) ≠ ⟨b, j, none⟩ := fun i j e => hne (by injection e)
  have hc : ∀ o, ((((W.setCell ⟨p, 0, none⟩ (.int .i64 g.k)).setCell ⟨p, 1, none⟩ (.string g.s)).setCell ⟨p, 2, none⟩ (.string g.l)).setCell ⟨p, 3, none⟩ (.string g.t)).cell? ⟨b, o, none⟩ = W.cell? ⟨b, o, none⟩ := fun o => by
    rw [World.cell?_setCell_other _ _ _ _ (hn _ _), World.cell?_setCell_other _ _ _ _ (hn _ _), World.cell?_setCell_other _ _ _ _ (hn _ _), World.cell?_setCell_other _ _ _ _ (hn _ _)]
  unfold Six at h ⊢
  simp only [hc]
  exact h
/-- Three terms in blocks of the round's own. -/
def Thr (w wx : World) (b : Nat) (s9 s10 s11 : Value) (x y z a1 a2 a3 a4 a5 a6 : Tm) : Prop :=
  ∃ p q r : Nat, s9 = .pointer (some ⟨p, 0, none⟩) ∧ s10 = .pointer (some ⟨q, 0, none⟩) ∧ s11 = .pointer (some ⟨r, 0, none⟩) ∧ Box wx p x ∧ Box wx q y ∧ Box wx r z ∧ Six wx b a1 a2 a3 a4 a5 a6 ∧ Below w.heap.size w wx
theorem cmp_facts (x y z : Tm) : ∃ cp cq cr : Int, -1 ≤ cp ∧ cp ≤ 1 ∧ (cp == 0) = eqB x y ∧ (cp ≤ 0 → cq ≤ 0 → cr ≤ 0) ∧
    (∀ w, Calls Try.prog 22 #[x.val, y.val] w fun e w' => e = .returned (.int .i64 cp) ∧ Below w.heap.size w w') ∧
    (∀ w, Calls Try.prog 22 #[y.val, z.val] w fun e w' => e = .returned (.int .i64 cq) ∧ Below w.heap.size w w') ∧
    (∀ w, Calls Try.prog 22 #[x.val, z.val] w fun e w' => e = .returned (.int .i64 cr) ∧ Below w.heap.size w w') ∧
    (∀ w, Calls Try.prog 23 #[x.val, y.val] w fun e w' => e = .returned (.int .i64 cp) ∧ Below w.heap.size w w') ∧
    (∀ w, Calls Try.prog 23 #[y.val, z.val] w fun e w' => e = .returned (.int .i64 cq) ∧ Below w.heap.size w w') ∧
    (∀ w, Calls Try.prog 22 #[y.val, x.val] w fun e w' => e = .returned (.int .i64 (-cp)) ∧ Below w.heap.size w w') ∧
    (∀ w, Calls Try.prog 22 #[x.val, x.val] w fun e w' => e = .returned (.int .i64 0) ∧ Below w.heap.size w w') := by
  refine ⟨cmpT x y, cmpT y z, cmpT x z, (cmpT_range x y).1, (cmpT_range x y).2, ?_, cmpT_ord.trans x y z, compare_any x y, compare_any y z, compare_any x z, rcompare_any x y, rcompare_any y z, ?_, ?_⟩
  · rw [Bool.eq_iff_iff, eqB_iff, beq_iff_eq]; exact cmpT_zero x y
  · rw [← cmpT_ord.anti x y]; exact compare_any y x
  · rw [← cmpT_ord.self x]; exact compare_any x x
set_option maxHeartbeats 64000000 in
theorem compares_walk (x y z : Tm) (hx : x.Ok) (hy : y.Ok) (hz : z.Ok) (w : World) :
    Calls Try.prog 5 #[x.val, y.val, z.val] w fun e w' => e = .returned (.bool true) ∧ Below w.heap.size w w' := by
  have hfx := few_any x
  have hgx := good_any x
  have HGX := Lib.hid fun h => hgx (few_of hx h)
  clear hgx
  generalize goodT x = gx at *
  have hfy := few_any y
  have hgy := good_any y
  have HGY := Lib.hid fun h => hgy (few_of hy h)
  clear hgy
  generalize goodT y = gy at *
  have hfz := few_any z
  have hgz := good_any z
  have HGZ := Lib.hid fun h => hgz (few_of hz h)
  clear hgz
  generalize goodT z = gz at *
  clear hx hy hz
  generalize fewB x = fx at *
  generalize fewB y = fy at *
  generalize fewB z = fz at *
  obtain ⟨k, s, l, t⟩ := x
  obtain ⟨k2, s2, l2, t2⟩ := y
  obtain ⟨k3, s3, l3, t3⟩ := z
  obtain ⟨gk, gs, gl, gt⟩ := gx
  obtain ⟨hk, hs', hl, ht⟩ := gy
  obtain ⟨jk, js, jl, jt⟩ := gz
  unfold Tm.val at hfx hfy hfz HGX HGY HGZ ⊢
  dsimp only at hfx hfy hfz HGX HGY HGZ ⊢
  have HFX := Lib.hid hfx
  have HFY := Lib.hid hfy
  have HFZ := Lib.hid hfz
  clear hfx hfy hfz
  obtain ⟨W, hW⟩ : ∃ W, W = ((w.alloc (.cells #[.int .i64 k, .string s, .string l, .string t] 23)).alloc (.cells #[.int .i64 k2, .string s2, .string l2, .string t2] 23)).alloc (.cells #[.int .i64 k3, .string s3, .string l3, .string t3] 23) := ⟨_, rfl⟩
  have hA : (fun w' : World => Box w' w.heap.size ⟨k, s, l, t⟩ ∧ Box w' (w.heap.size + 1) ⟨k2, s2, l2, t2⟩ ∧ Box w' (w.heap.size + 1 + 1) ⟨k3, s3, l3, t3⟩ ∧ Below w.heap.size w w') W := by
    subst hW
    have b1 := Box.new w ⟨k, s, l, t⟩
    have b2 := Box.new (w.alloc (.cells #[.int .i64 k, .string s, .string l, .string t] 23)) ⟨k2, s2, l2, t2⟩
    have b3 := Box.new ((w.alloc (.cells #[.int .i64 k, .string s, .string l, .string t] 23)).alloc (.cells #[.int .i64 k2, .string s2, .string l2, .string t2] 23)) ⟨k3, s3, l3, t3⟩
    rw [show (w.alloc (.cells #[.int .i64 k, .string s, .string l, .string t] 23)).heap.size = w.heap.size + 1 from by simp] at b2
    rw [show ((w.alloc (.cells #[.int .i64 k, .string s, .string l, .string t] 23)).alloc (.cells #[.int .i64 k2, .string s2, .string l2, .string t2] 23)).heap.size = w.heap.size + 1 + 1 from by simp] at b3
    exact ⟨(b1.below ((Below.refl _ _).alloc (Nat.le_refl _) _)).below ((Below.refl _ _).alloc (Nat.le_refl _) _), b2.below ((Below.refl _ _).alloc (Nat.le_refl _) _), b3, (((Below.refl _ _).alloc (Nat.le_refl _) _).alloc (by simp) _).alloc (by simp; omega) _⟩
  have HA := Lib.hid hA
  have HW := Lib.hid hW
  clear hA hW
  go_enter Try.func5, Try.ntmps5
  go_wp2_with fail
  simp only [← HW.out]
  refine (known_any W).mono ?_
  rintro e w1 ⟨rfl, hb⟩
  have HB := Lib.hid (show (fun w' : World => Box w' w.heap.size ⟨k, s, l, t⟩ ∧ Box w' (w.heap.size + 1) ⟨k2, s2, l2, t2⟩ ∧ Box w' (w.heap.size + 1 + 1) ⟨k3, s3, l3, t3⟩ ∧ Below w.heap.size w w') w1 from ⟨HA.out.1.below hb, HA.out.2.1.below hb, HA.out.2.2.1.below hb, HA.out.2.2.2.trans (hb.mono HA.out.2.2.2.size)⟩)
  clear hb HA HW
  have HA := HB
  clear HB
  obtain ⟨c0, c1, c2, c3⟩ := HA.out.1
  dsimp only at c0 c1 c2 c3
  go_wp2_with fail
  refine (HFX.out _).mono ?_
  rintro e w2 ⟨rfl, hb⟩
  have HB := Lib.hid (show (fun w' : World => Box w' w.heap.size ⟨k, s, l, t⟩ ∧ Box w' (w.heap.size + 1) ⟨k2, s2, l2, t2⟩ ∧ Box w' (w.heap.size + 1 + 1) ⟨k3, s3, l3, t3⟩ ∧ Below w.heap.size w w') w2 from ⟨HA.out.1.below hb, HA.out.2.1.below hb, HA.out.2.2.1.below hb, HA.out.2.2.2.trans (hb.mono HA.out.2.2.2.size)⟩)
  clear hb HA c0 c1 c2 c3
  have HA := HB
  clear HB
  cases fx with
  | false =>
    go_wp2_with fail
    go_ret
    exact ⟨rfl, HA.out.2.2.2⟩
  | true =>
  obtain ⟨c0, c1, c2, c3⟩ := HA.out.2.1
  dsimp only at c0 c1 c2 c3
  go_wp2_with fail
  refine (HFY.out _).mono ?_
  rintro e w3 ⟨rfl, hb⟩
  have HB := Lib.hid (show (fun w' : World => Box w' w.heap.size ⟨k, s, l, t⟩ ∧ Box w' (w.heap.size + 1) ⟨k2, s2, l2, t2⟩ ∧ Box w' (w.heap.size + 1 + 1) ⟨k3, s3, l3, t3⟩ ∧ Below w.heap.size w w') w3 from ⟨HA.out.1.below hb, HA.out.2.1.below hb, HA.out.2.2.1.below hb, HA.out.2.2.2.trans (hb.mono HA.out.2.2.2.size)⟩)
  clear hb HA c0 c1 c2 c3
  have HA := HB
  clear HB
  cases fy with
  | false =>
    go_wp2_with fail
    go_ret
    exact ⟨rfl, HA.out.2.2.2⟩
  | true =>
  obtain ⟨c0, c1, c2, c3⟩ := HA.out.2.2.1
  dsimp only at c0 c1 c2 c3
  go_wp2_with fail
  refine (HFZ.out _).mono ?_
  rintro e w4 ⟨rfl, hb⟩
  have HB := Lib.hid (show (fun w' : World => Box w' w.heap.size ⟨k, s, l, t⟩ ∧ Box w' (w.heap.size + 1) ⟨k2, s2, l2, t2⟩ ∧ Box w' (w.heap.size + 1 + 1) ⟨k3, s3, l3, t3⟩ ∧ Below w.heap.size w w') w4 from ⟨HA.out.1.below hb, HA.out.2.1.below hb, HA.out.2.2.1.below hb, HA.out.2.2.2.trans (hb.mono HA.out.2.2.2.size)⟩)
  clear hb HA c0 c1 c2 c3
  have HA := HB
  clear HB
  cases fz with
  | false =>
    go_wp2_with fail
    go_ret
    exact ⟨rfl, HA.out.2.2.2⟩
  | true =>
  replace HGX := Lib.hid (HGX.out (by trivial))
  replace HGY := Lib.hid (HGY.out (by trivial))
  replace HGZ := Lib.hid (HGZ.out (by trivial))
  go_wp2_with fail
  obtain ⟨V0, hV0⟩ : ∃ V0, V0 = w4.drew := ⟨_, rfl⟩
  have hS : (fun w' : World => Box w' w.heap.size ⟨k, s, l, t⟩ ∧ Box w' (w.heap.size + 1) ⟨k2, s2, l2, t2⟩ ∧ Box w' (w.heap.size + 1 + 1) ⟨k3, s3, l3, t3⟩ ∧ Below w.heap.size w w') V0 := by subst hV0; exact ⟨HA.out.1, HA.out.2.1, HA.out.2.2.1, HA.out.2.2.2.drew⟩
  refine wp_region_any (by kernel_rfl) ?_
  change wpAny _ _ _ _ _ _ _ (World.drew _)
  rw [← hV0]
  clear hV0 HA HFX HFY HFZ
  refine wpAny_of_held (S := fun w' : World => Box w' w.heap.size ⟨k, s, l, t⟩ ∧ Box w' (w.heap.size + 1) ⟨k2, s2, l2, t2⟩ ∧ Box w' (w.heap.size + 1 + 1) ⟨k3, s3, l3, t3⟩ ∧ Below w.heap.size w w') _ _ _ _ ?_
  try simp only [Act.put, List.setIfInBounds_toArray, List.set_cons_zero, List.set_cons_succ]
  refine wpAnyH_take (i := 0) (oi := ⟨some 30, _, _, _, _, _⟩) (v := ?_) rfl (by kernel_rfl) (by kernel_rfl) (by kernel_rfl) (fun _ _ _ h => h) (Or.inl ⟨by simp only [Region.wanted], ?_⟩) hS ?_
  rotate_left
  · intro wz hSw; obtain ⟨⟨c0, c1, c2, c3⟩, ⟨d0, d1, d2, d3⟩, ⟨e0, e1, e2, e3⟩, -⟩ := hSw
    (try dsimp only at hSw)
    (try go_split_ands)
    go_simp
    first | done | with_reducible rfl
  try simp only [Act.put, List.setIfInBounds_toArray, List.set_cons_zero, List.set_cons_succ]
  refine wpAnyH_take (i := 1) (oi := ⟨some 31, _, _, _, _, _⟩) (v := ?_) rfl (by kernel_rfl) (by kernel_rfl) (by kernel_rfl) (fun _ _ _ h => h) (Or.inl ⟨by simp only [Region.wanted], ?_⟩) hS ?_
  rotate_left
  · intro wz hSw; obtain ⟨⟨c0, c1, c2, c3⟩, ⟨d0, d1, d2, d3⟩, ⟨e0, e1, e2, e3⟩, -⟩ := hSw
    (try dsimp only at hSw)
    (try go_split_ands)
    go_simp
    first | done | with_reducible rfl
  try simp only [Act.put, List.setIfInBounds_toArray, List.set_cons_zero, List.set_cons_succ]
  refine wpAnyH_take (i := 2) (oi := ⟨some 32, _, _, _, _, _⟩) (v := ?_) rfl (by kernel_rfl) (by kernel_rfl) (by kernel_rfl) (fun _ _ _ h => h) (Or.inl ⟨by simp only [Region.wanted], ?_⟩) hS ?_
  rotate_left
  · intro wz hSw; obtain ⟨⟨c0, c1, c2, c3⟩, ⟨d0, d1, d2, d3⟩, ⟨e0, e1, e2, e3⟩, -⟩ := hSw
    (try dsimp only at hSw)
    (try go_split_ands)
    go_simp
    first | done | with_reducible rfl
  try simp only [Act.put, List.setIfInBounds_toArray, List.set_cons_zero, List.set_cons_succ]
  refine wpAnyH_take (i := 4) (oi := ⟨some 34, _, _, _, _, _⟩) (v := ?_) rfl (by kernel_rfl) (by kernel_rfl) (by kernel_rfl) (fun _ _ _ h => h) (Or.inl ⟨by simp only [Region.wanted], ?_⟩) hS ?_
  rotate_left
  · intro wz hSw; obtain ⟨⟨c0, c1, c2, c3⟩, ⟨d0, d1, d2, d3⟩, ⟨e0, e1, e2, e3⟩, -⟩ := hSw
    (try dsimp only at hSw)
    (try go_split_ands)
    go_simp
    first | done | with_reducible rfl
  try simp only [Act.put, List.setIfInBounds_toArray, List.set_cons_zero, List.set_cons_succ]
  refine wpAnyH_take (i := 6) (oi := ⟨some 36, _, _, _, _, _⟩) (v := ?_) rfl (by kernel_rfl) (by kernel_rfl) (by kernel_rfl) (fun _ _ _ h => h) (Or.inl ⟨by simp only [Region.wanted], ?_⟩) hS ?_
  rotate_left
  · intro wz hSw; obtain ⟨⟨c0, c1, c2, c3⟩, ⟨d0, d1, d2, d3⟩, ⟨e0, e1, e2, e3⟩, -⟩ := hSw
    (try dsimp only at hSw)
    (try go_split_ands)
    go_simp
    first | done | with_reducible rfl
  try simp only [Act.put, List.setIfInBounds_toArray, List.set_cons_zero, List.set_cons_succ]
  refine wpAnyH_take (i := 8) (oi := ⟨some 38, _, _, _, _, _⟩) (v := ?_) rfl (by kernel_rfl) (by kernel_rfl) (by kernel_rfl) (fun _ _ _ h => h) (Or.inl ⟨by simp only [Region.wanted], ?_⟩) hS ?_
  rotate_left
  · intro wz hSw; obtain ⟨⟨c0, c1, c2, c3⟩, ⟨d0, d1, d2, d3⟩, ⟨e0, e1, e2, e3⟩, -⟩ := hSw
    (try dsimp only at hSw)
    (try go_split_ands)
    go_simp
    first | done | with_reducible rfl
  try simp only [Act.put, List.setIfInBounds_toArray, List.set_cons_zero, List.set_cons_succ]
  refine wpAnyH_take (i := 3) (oi := ⟨some 33, _, _, _, _, _⟩) (v := ?_) rfl (by kernel_rfl) (by kernel_rfl) (by kernel_rfl) (fun _ _ _ h => h) (Or.inl ⟨by simp only [Region.wanted], ?_⟩) hS ?_
  rotate_left
  · intro wz hSw
    clear hSw
    go_simp
    first | done | with_reducible rfl
  try simp only [Act.put, List.setIfInBounds_toArray, List.set_cons_zero, List.set_cons_succ]
  refine wpAnyH_ready (rs := [5]) (by kernel_rfl) (by simp) ?_
  refine AllReadyH.cons (o := ⟨some 35, _, _, _, _, _⟩) rfl (fun K hK => ?_) AllReadyH.nil
  go_simp
  refine (HGX.out _).mono ?_
  rintro e V1 ⟨rfl, hb⟩
  go_simp
  refine hK.out _ _ (⟨hS.1.below hb, hS.2.1.below hb, hS.2.2.1.below hb, hS.2.2.2.trans (hb.mono hS.2.2.2.size)⟩) (fun hS => ?_)
  clear hK K
  try simp only [Act.put, List.setIfInBounds_toArray, List.set_cons_zero, List.set_cons_succ]
  clear hb
  refine wpAnyH_ready (rs := [7]) (by kernel_rfl) (by simp) ?_
  refine AllReadyH.cons (o := ⟨some 37, _, _, _, _, _⟩) rfl (fun K hK => ?_) AllReadyH.nil
  go_simp
  refine (HGY.out _).mono ?_
  rintro e V2 ⟨rfl, hb⟩
  go_simp
  refine hK.out _ _ (⟨hS.1.below hb, hS.2.1.below hb, hS.2.2.1.below hb, hS.2.2.2.trans (hb.mono hS.2.2.2.size)⟩) (fun hS => ?_)
  clear hK K
  try simp only [Act.put, List.setIfInBounds_toArray, List.set_cons_zero, List.set_cons_succ]
  clear hb
  refine wpAnyH_ready (rs := [9]) (by kernel_rfl) (by simp) ?_
  refine AllReadyH.cons (o := ⟨some 39, _, _, _, _, _⟩) rfl (fun K hK => ?_) AllReadyH.nil
  go_simp
  refine (HGZ.out _).mono ?_
  rintro e V3 ⟨rfl, hb⟩
  go_simp
  refine hK.out _ _ (⟨hS.1.below hb, hS.2.1.below hb, hS.2.2.1.below hb, hS.2.2.2.trans (hb.mono hS.2.2.2.size)⟩) (fun hS => ?_)
  clear hK K
  try simp only [Act.put, List.setIfInBounds_toArray, List.set_cons_zero, List.set_cons_succ]
  clear hb
  refine wpAnyH_take (i := 10) (oi := ⟨some 40, _, _, _, _, _⟩) (v := ?_) rfl (by kernel_rfl) (by kernel_rfl) (by kernel_rfl) (fun _ _ _ h => h) (Or.inl ⟨by simp only [Region.wanted], ?_⟩) hS ?_
  rotate_left
  · intro wz hSw
    clear hSw
    go_simp
    first | done | with_reducible rfl
  try simp only [Act.put, List.setIfInBounds_toArray, List.set_cons_zero, List.set_cons_succ]
  refine wpAnyH_ready (rs := [11]) (by kernel_rfl) (by simp) ?_
  refine AllReadyH.cons (o := ⟨some 41, _, _, _, _, _⟩) rfl (fun K hK => ?_) AllReadyH.nil
  go_simp
  have hb : Below V3.heap.size V3 (V3.alloc (.cells #[.int .i64 k, .string s, .string l, .string t, .int .i64 k2, .string s2, .string l2, .string t2, .int .i64 k3, .string s3, .string l3, .string t3, .int .i64 gk, .string gs, .string gl, .string gt, .int .i64 hk, .string hs', .string hl, .string ht, .int .i64 jk, .string js, .string jl, .string jt] 42)) := (Below.refl _ _).alloc (Nat.le_refl _) _
  have hm : Six (V3.alloc (.cells #[.int .i64 k, .string s, .string l, .string t, .int .i64 k2, .string s2, .string l2, .string t2, .int .i64 k3, .string s3, .string l3, .string t3, .int .i64 gk, .string gs, .string gl, .string gt, .int .i64 hk, .string hs', .string hl, .string ht, .int .i64 jk, .string js, .string jl, .string jt] 42)) V3.heap.size ⟨k, s, l, t⟩ ⟨k2, s2, l2, t2⟩ ⟨k3, s3, l3, t3⟩ ⟨gk, gs, gl, gt⟩ ⟨hk, hs', hl, ht⟩ ⟨jk, js, jl, jt⟩ := Six.new V3 ⟨k, s, l, t⟩ ⟨k2, s2, l2, t2⟩ ⟨k3, s3, l3, t3⟩ ⟨gk, gs, gl, gt⟩ ⟨hk, hs', hl, ht⟩ ⟨jk, js, jl, jt⟩
  have hb2 : w.heap.size + 2 ≤ V3.heap.size := by have := hS.2.2.1.lt; omega
  generalize V3.alloc _ = V4 at hb hm ⊢
  generalize V3.heap.size = b at hm hb2 ⊢
  have HM := Lib.hid hm
  have HB2 := Lib.hid hb2
  clear hm hb2
  refine hK.out _ _ (⟨hS.1.below hb, hS.2.1.below hb, hS.2.2.1.below hb, hS.2.2.2.trans (hb.mono hS.2.2.2.size)⟩) (fun hS => ?_)
  clear hK K
  try simp only [Act.put, List.setIfInBounds_toArray, List.set_cons_zero, List.set_cons_succ]
  clear hb
  refine wpAnyH_take (i := 12) (oi := ⟨some 7, _, _, _, _, _⟩) (v := ?_) rfl (by kernel_rfl) (by kernel_rfl) (by kernel_rfl) (fun _ _ _ h => h) (Or.inl ⟨by simp only [Region.wanted], ?_⟩) hS ?_
  rotate_left
  · intro wz hSw
    clear hSw
    go_simp
    first | done | with_reducible rfl
  try simp only [Act.put, List.setIfInBounds_toArray, List.set_cons_zero, List.set_cons_succ]
  refine wpAnyH_done (by kernel_rfl) ?_ _
  have HT := Lib.hid hS.2.2.2
  go_wp2_with fail
  go_loopw [8, 9, 10, 11, 12, 13, 14, 42, 43, 44, 45, 46, 47, 48, 49, 50, 51, 52, 53, 54, 55, 56, 57, 58, 59, 60, 61, 62, 63, 64, 65, 66, 67, 68, 69, 70, 71, 72, 73, 74, 75, 76, 77, 78, 79, 80, 81, 82, 83, 84, 85, 86, 87, 88, 89, 90, 91, 92, 93, 94, 95, 96, 97, 98, 99, 100, 101, 102, 103, 104, 105, 106, 107, 108, 109, 110, 111, 112, 113, 114, 115] (fun s8 _ _ _ _ _ _ _ _ _ _ _ _ _ _ _ _ _ _ _ _ _ _ _ _ _ _ _ _ _ _ _ _ _ _ _ _ _ _ _ _ _ _ _ _ _ _ _ _ _ _ _ _ _ _ _ _ _ _ _ _ _ _ _ _ _ _ _ _ _ _ _ _ _ _ _ _ _ _ _ _ wr => ∃ i : Nat, i ≤ 2 ∧ s8 = .int .i64 i ∧ Six wr b ⟨k, s, l, t⟩ ⟨k2, s2, l2, t2⟩ ⟨k3, s3, l3, t3⟩ ⟨gk, gs, gl, gt⟩ ⟨hk, hs', hl, ht⟩ ⟨jk, js, jl, jt⟩ ∧ Below w.heap.size w wr) (fun s8 _ _ _ _ _ _ _ _ _ _ _ _ _ _ _ _ _ _ _ _ _ _ _ _ _ _ _ _ _ _ _ _ _ _ _ _ _ _ _ _ _ _ _ _ _ _ _ _ _ _ _ _ _ _ _ _ _ _ _ _ _ _ _ _ _ _ _ _ _ _ _ _ _ _ _ _ _ _ _ _ _ => 2 - (intOf s8).toNat)
  case atStart => exact ⟨0, by omega, rfl, HM.out, HT.out⟩
  case round =>
    obtain ⟨i, hi, rfl, h6, hbl⟩ := hrel
    have HSIX := Lib.hid h6
    have HBEL := Lib.hid hbl
    clear h6 hbl HM HT
    have hic : i = 0 ∨ i = 1 ∨ i = 2 := by omega
    rcases hic with rfl | rfl | rfl
    · have HSZ : Hid (w.heap.size + 2 ≤ wr.heap.size) := Lib.hid (by have h1 := HB2.out; have h2 := HSIX.out.lt; omega)
      go_upto_region 9 with fail
      go_cut [9, 10, 11] from 42 to 115 (fun s9 s10 s11 wx => Thr w wx b s9 s10 s11 ⟨k, s, l, t⟩ ⟨k2, s2, l2, t2⟩ ⟨k3, s3, l3, t3⟩ ⟨k, s, l, t⟩ ⟨k2, s2, l2, t2⟩ ⟨k3, s3, l3, t3⟩ ⟨gk, gs, gl, gt⟩ ⟨hk, hs', hl, ht⟩ ⟨jk, js, jl, jt⟩)
      case first =>
        obtain ⟨U0, hU0⟩ : ∃ U0, U0 = wr.drew := ⟨_, rfl⟩
        have hS : (fun w' : World => Six w' b ⟨k, s, l, t⟩ ⟨k2, s2, l2, t2⟩ ⟨k3, s3, l3, t3⟩ ⟨gk, gs, gl, gt⟩ ⟨hk, hs', hl, ht⟩ ⟨jk, js, jl, jt⟩ ∧ Below w.heap.size w w') U0 := by subst hU0; exact ⟨HSIX.out, HBEL.out.drew⟩
        refine wp_region_any (by kernel_rfl) ?_
        change wpAny _ _ _ _ _ _ _ (World.drew _)
        have HSZ0 : Hid (w.heap.size + 2 ≤ U0.heap.size) := Lib.hid (by subst hU0; exact HSZ.out)
        clear HSZ
        have HSZ := HSZ0
        clear HSZ0
        rw [← hU0]
        clear hU0
        refine wpAny_of_held (S := fun w' : World => Six w' b ⟨k, s, l, t⟩ ⟨k2, s2, l2, t2⟩ ⟨k3, s3, l3, t3⟩ ⟨gk, gs, gl, gt⟩ ⟨hk, hs', hl, ht⟩ ⟨jk, js, jl, jt⟩ ∧ Below w.heap.size w w') _ _ _ _ ?_
        try simp only [Act.put, List.setIfInBounds_toArray, List.set_cons_zero, List.set_cons_succ]
        refine wpAnyH_take (i := 0) (oi := ⟨some 46, _, _, _, _, _⟩) (v := ?_) rfl (by kernel_rfl) (by kernel_rfl) (by kernel_rfl) (fun _ _ _ h => h) (Or.inl ⟨by simp only [Region.wanted], ?_⟩) hS ?_
        rotate_left
        · intro wz hSw
          clear hSw
          go_simp
          first | done | with_reducible rfl
        try simp only [Act.put, List.setIfInBounds_toArray, List.set_cons_zero, List.set_cons_succ]
        refine wpAnyH_take (i := 1) (oi := ⟨some 47, _, _, _, _, _⟩) (v := ?_) rfl (by kernel_rfl) (by kernel_rfl) (by kernel_rfl) (fun _ _ _ h => h) (Or.inl ⟨by simp only [Region.wanted], ?_⟩) hS ?_
        rotate_left
        · intro wz hSw
          clear hSw
          go_simp
          first | done | with_reducible rfl
        try simp only [Act.put, List.setIfInBounds_toArray, List.set_cons_zero, List.set_cons_succ]
        refine wpAnyH_take (i := 2) (oi := ⟨some 48, _, _, _, _, _⟩) (v := ?_) rfl (by kernel_rfl) (by kernel_rfl) (by kernel_rfl) (fun _ _ _ h => h) (Or.inl ⟨by simp only [Region.wanted], ?_⟩) hS ?_
        rotate_left
        · intro wz hSw
          clear hSw
          go_simp
          first | done | with_reducible rfl
        try simp only [Act.put, List.setIfInBounds_toArray, List.set_cons_zero, List.set_cons_succ]
        refine wpAnyH_take (i := 3) (oi := ⟨some 49, _, _, _, _, _⟩) (v := ?_) rfl (by kernel_rfl) (by kernel_rfl) (by kernel_rfl) (fun _ _ _ h => h) (Or.inl ⟨by simp only [Region.wanted], ?_⟩) hS ?_
        rotate_left
        · intro wz hSw
          clear hSw
          go_simp
          first | done | with_reducible rfl
        try simp only [Act.put, List.setIfInBounds_toArray, List.set_cons_zero, List.set_cons_succ]
        refine wpAnyH_take (i := 4) (oi := ⟨some 50, _, _, _, _, _⟩) (v := ?_) rfl (by kernel_rfl) (by kernel_rfl) (by kernel_rfl) (fun _ _ _ h => h) (Or.inl ⟨by simp only [Region.wanted], ?_⟩) hS ?_
        rotate_left
        · intro wz hSw; obtain ⟨⟨c0, c1, c2, c3, c4, c5, c6, c7, c8, c9, c10, c11, c12, c13, c14, c15, c16, c17, c18, c19, c20, c21, c22, c23⟩, -⟩ := hSw
          (try dsimp only at hSw)
          (try go_split_ands)
          go_simp
          first | done | with_reducible rfl
        try simp only [Act.put, List.setIfInBounds_toArray, List.set_cons_zero, List.set_cons_succ]
        refine wpAnyH_take (i := 5) (oi := ⟨some 51, _, _, _, _, _⟩) (v := ?_) rfl (by kernel_rfl) (by kernel_rfl) (by kernel_rfl) (fun _ _ _ h => h) (Or.inl ⟨by simp only [Region.wanted], ?_⟩) hS ?_
        rotate_left
        · intro wz hSw
          clear hSw
          go_simp
          first | done | with_reducible rfl
        try simp only [Act.put, List.setIfInBounds_toArray, List.set_cons_zero, List.set_cons_succ]
        refine wpAnyH_take (i := 6) (oi := ⟨some 52, _, _, _, _, _⟩) (v := ?_) rfl (by kernel_rfl) (by kernel_rfl) (by kernel_rfl) (fun _ _ _ h => h) (Or.inl ⟨by simp only [Region.wanted], ?_⟩) hS ?_
        rotate_left
        · intro wz hSw
          clear hSw
          go_simp
          first | done | with_reducible rfl
        try simp only [Act.put, List.setIfInBounds_toArray, List.set_cons_zero, List.set_cons_succ]
        refine wpAnyH_take (i := 7) (oi := ⟨some 53, _, _, _, _, _⟩) (v := ?_) rfl (by kernel_rfl) (by kernel_rfl) (by kernel_rfl) (fun _ _ _ h => h) (Or.inl ⟨by simp only [Region.wanted], ?_⟩) hS ?_
        rotate_left
        · intro wz hSw
          clear hSw
          go_simp
          first | done | with_reducible rfl
        try simp only [Act.put, List.setIfInBounds_toArray, List.set_cons_zero, List.set_cons_succ]
        refine wpAnyH_take (i := 8) (oi := ⟨some 54, _, _, _, _, _⟩) (v := ?_) rfl (by kernel_rfl) (by kernel_rfl) (by kernel_rfl) (fun _ _ _ h => h) (Or.inl ⟨by simp only [Region.wanted], ?_⟩) hS ?_
        rotate_left
        · intro wz hSw
          clear hSw
          go_simp
          first | done | with_reducible rfl
        try simp only [Act.put, List.setIfInBounds_toArray, List.set_cons_zero, List.set_cons_succ]
        refine wpAnyH_take (i := 9) (oi := ⟨some 55, _, _, _, _, _⟩) (v := ?_) rfl (by kernel_rfl) (by kernel_rfl) (by kernel_rfl) (fun _ _ _ h => h) (Or.inl ⟨by simp only [Region.wanted], ?_⟩) hS ?_
        rotate_left
        · intro wz hSw; obtain ⟨⟨c0, c1, c2, c3, c4, c5, c6, c7, c8, c9, c10, c11, c12, c13, c14, c15, c16, c17, c18, c19, c20, c21, c22, c23⟩, -⟩ := hSw
          (try dsimp only at hSw)
          (try go_split_ands)
          go_simp
          first | done | with_reducible rfl
        try simp only [Act.put, List.setIfInBounds_toArray, List.set_cons_zero, List.set_cons_succ]
        refine wpAnyH_take (i := 10) (oi := ⟨some 56, _, _, _, _, _⟩) (v := ?_) rfl (by kernel_rfl) (by kernel_rfl) (by kernel_rfl) (fun _ _ _ h => h) (Or.inl ⟨by simp only [Region.wanted], ?_⟩) hS ?_
        rotate_left
        · intro wz hSw
          clear hSw
          go_simp
          first | done | with_reducible rfl
        try simp only [Act.put, List.setIfInBounds_toArray, List.set_cons_zero, List.set_cons_succ]
        refine wpAnyH_take (i := 11) (oi := ⟨some 57, _, _, _, _, _⟩) (v := ?_) rfl (by kernel_rfl) (by kernel_rfl) (by kernel_rfl) (fun _ _ _ h => h) (Or.inl ⟨by simp only [Region.wanted], ?_⟩) hS ?_
        rotate_left
        · intro wz hSw
          clear hSw
          go_simp
          first | done | with_reducible rfl
        try simp only [Act.put, List.setIfInBounds_toArray, List.set_cons_zero, List.set_cons_succ]
        refine wpAnyH_take (i := 12) (oi := ⟨some 58, _, _, _, _, _⟩) (v := ?_) rfl (by kernel_rfl) (by kernel_rfl) (by kernel_rfl) (fun _ _ _ h => h) (Or.inl ⟨by simp only [Region.wanted], ?_⟩) hS ?_
        rotate_left
        · intro wz hSw
          clear hSw
          go_simp
          first | done | with_reducible rfl
        try simp only [Act.put, List.setIfInBounds_toArray, List.set_cons_zero, List.set_cons_succ]
        refine wpAnyH_take (i := 13) (oi := ⟨some 59, _, _, _, _, _⟩) (v := ?_) rfl (by kernel_rfl) (by kernel_rfl) (by kernel_rfl) (fun _ _ _ h => h) (Or.inl ⟨by simp only [Region.wanted], ?_⟩) hS ?_
        rotate_left
        · intro wz hSw
          clear hSw
          go_simp
          first | done | with_reducible rfl
        try simp only [Act.put, List.setIfInBounds_toArray, List.set_cons_zero, List.set_cons_succ]
        refine wpAnyH_take (i := 14) (oi := ⟨some 60, _, _, _, _, _⟩) (v := ?_) rfl (by kernel_rfl) (by kernel_rfl) (by kernel_rfl) (fun _ _ _ h => h) (Or.inl ⟨by simp only [Region.wanted], ?_⟩) hS ?_
        rotate_left
        · intro wz hSw; obtain ⟨⟨c0, c1, c2, c3, c4, c5, c6, c7, c8, c9, c10, c11, c12, c13, c14, c15, c16, c17, c18, c19, c20, c21, c22, c23⟩, -⟩ := hSw
          (try dsimp only at hSw)
          (try go_split_ands)
          go_simp
          first | done | with_reducible rfl
        try simp only [Act.put, List.setIfInBounds_toArray, List.set_cons_zero, List.set_cons_succ]
        refine wpAnyH_ready (rs := [15, 16, 17]) (by kernel_rfl) (by simp) ?_
        refine AllReadyH.cons (o := ⟨some 9, _, _, _, _, _⟩) rfl (fun K hK => ?_) (AllReadyH.cons (o := ⟨some 10, _, _, _, _, _⟩) rfl (fun K hK => ?_) (AllReadyH.cons (o := ⟨some 11, _, _, _, _, _⟩) rfl (fun K hK => ?_) (AllReadyH.nil)))
        · go_simp
          have hb : Below U0.heap.size U0 (U0.alloc (.cells #[.int .i64 0, .string ⟨#[]⟩, .string ⟨#[]⟩, .string ⟨#[]⟩] 23)) := (Below.refl _ _).alloc (Nat.le_refl _) _
          have hm : Mine (U0.alloc (.cells #[.int .i64 0, .string ⟨#[]⟩, .string ⟨#[]⟩, .string ⟨#[]⟩] 23)) U0.heap.size ⟨0, ⟨#[]⟩, ⟨#[]⟩, ⟨#[]⟩⟩ := Mine.new U0
          have h1 : b < U0.heap.size := hS.1.lt
          have h2 : w.heap.size + 2 ≤ U0.heap.size := HSZ.out
          have g1 := hS.1.below hb
          have g2 := hS.2.trans (hb.mono hS.2.size)
          have HSZ2 : Hid (w.heap.size + 2 ≤ (U0.alloc (.cells #[.int .i64 0, .string ⟨#[]⟩, .string ⟨#[]⟩, .string ⟨#[]⟩] 23)).heap.size) := Lib.hid (Nat.le_trans h2 hb.size)
          clear HSZ
          generalize U0.alloc _ = U1 at hb hm g1 g2 HSZ2  ⊢
          generalize U0.heap.size = p at hm h1 h2  ⊢
          have HP := Lib.hid (And.intro hm (And.intro (Nat.ne_of_gt h1) h2))
          have HSZ := HSZ2
          clear hm h1 h2 hb HSZ2
          refine hK.out _ _ ⟨g1, g2⟩ (fun hS => ?_)
          clear hK K g1 g2
          try simp only [Act.put, List.setIfInBounds_toArray, List.set_cons_zero, List.set_cons_succ]
          refine wpAnyH_ready (rs := [16, 17]) (by kernel_rfl) (by simp) ?_
          refine AllReadyH.cons (o := ⟨some 10, _, _, _, _, _⟩) rfl (fun K hK => ?_) (AllReadyH.cons (o := ⟨some 11, _, _, _, _, _⟩) rfl (fun K hK => ?_) (AllReadyH.nil))
          · go_simp
            have hb : Below U1.heap.size U1 (U1.alloc (.cells #[.int .i64 0, .string ⟨#[]⟩, .string ⟨#[]⟩, .string ⟨#[]⟩] 23)) := (Below.refl _ _).alloc (Nat.le_refl _) _
            have hm : Mine (U1.alloc (.cells #[.int .i64 0, .string ⟨#[]⟩, .string ⟨#[]⟩, .string ⟨#[]⟩] 23)) U1.heap.size ⟨0, ⟨#[]⟩, ⟨#[]⟩, ⟨#[]⟩⟩ := Mine.new U1
            have h1 : b < U1.heap.size := hS.1.lt
            have h2 : w.heap.size + 2 ≤ U1.heap.size := HSZ.out
            have g1 := hS.1.below hb
            have g2 := hS.2.trans (hb.mono hS.2.size)
            have HP2 := Lib.hid (And.intro (HP.out.1.below hb) HP.out.2)
            have lp : p < U1.heap.size := HP.out.1.1.lt
            clear HP
            have HP := HP2
            clear HP2
            have HSZ2 : Hid (w.heap.size + 2 ≤ (U1.alloc (.cells #[.int .i64 0, .string ⟨#[]⟩, .string ⟨#[]⟩, .string ⟨#[]⟩] 23)).heap.size) := Lib.hid (Nat.le_trans h2 hb.size)
            clear HSZ
            generalize U1.alloc _ = U2 at hb hm g1 g2 HSZ2 HP ⊢
            generalize U1.heap.size = q at hm h1 h2 lp ⊢
            have HQ := Lib.hid (And.intro hm (And.intro (Nat.ne_of_gt h1) h2))
            have HSZ := HSZ2
            clear hm h1 h2 hb HSZ2
            have NEA : Hid (p < q) := Lib.hid lp
            clear lp
            refine hK.out _ _ ⟨g1, g2⟩ (fun hS => ?_)
            clear hK K g1 g2
            try simp only [Act.put, List.setIfInBounds_toArray, List.set_cons_zero, List.set_cons_succ]
            refine wpAnyH_ready (rs := [17]) (by kernel_rfl) (by simp) ?_
            refine AllReadyH.cons (o := ⟨some 11, _, _, _, _, _⟩) rfl (fun K hK => ?_) (AllReadyH.nil)
            · go_simp
              have hb : Below U2.heap.size U2 (U2.alloc (.cells #[.int .i64 0, .string ⟨#[]⟩, .string ⟨#[]⟩, .string ⟨#[]⟩] 23)) := (Below.refl _ _).alloc (Nat.le_refl _) _
              have hm : Mine (U2.alloc (.cells #[.int .i64 0, .string ⟨#[]⟩, .string ⟨#[]⟩, .string ⟨#[]⟩] 23)) U2.heap.size ⟨0, ⟨#[]⟩, ⟨#[]⟩, ⟨#[]⟩⟩ := Mine.new U2
              have h1 : b < U2.heap.size := hS.1.lt
              have h2 : w.heap.size + 2 ≤ U2.heap.size := HSZ.out
              have g1 := hS.1.below hb
              have g2 := hS.2.trans (hb.mono hS.2.size)
              have HP2 := Lib.hid (And.intro (HP.out.1.below hb) HP.out.2)
              have lp : p < U2.heap.size := HP.out.1.1.lt
              clear HP
              have HP := HP2
              clear HP2
              have HQ2 := Lib.hid (And.intro (HQ.out.1.below hb) HQ.out.2)
              have lq : q < U2.heap.size := HQ.out.1.1.lt
              clear HQ
              have HQ := HQ2
              clear HQ2
              have HSZ2 : Hid (w.heap.size + 2 ≤ (U2.alloc (.cells #[.int .i64 0, .string ⟨#[]⟩, .string ⟨#[]⟩, .string ⟨#[]⟩] 23)).heap.size) := Lib.hid (Nat.le_trans h2 hb.size)
              clear HSZ
              generalize U2.alloc _ = U3 at hb hm g1 g2 HSZ2 HP HQ ⊢
              generalize U2.heap.size = r at hm h1 h2 lp lq ⊢
              have HR := Lib.hid (And.intro hm (And.intro (Nat.ne_of_gt h1) h2))
              have HSZ := HSZ2
              clear hm h1 h2 hb HSZ2
              have NE : Hid (p ≠ q ∧ p ≠ r ∧ q ≠ r) := Lib.hid (by have h1 := NEA.out; omega)
              clear lp lq
              refine hK.out _ _ ⟨g1, g2⟩ (fun hS => ?_)
              clear hK K g1 g2
              try simp only [Act.put, List.setIfInBounds_toArray, List.set_cons_zero, List.set_cons_succ]
              obtain ⟨⟨p0, p1, p2, p3⟩, f0, f1, f2, f3⟩ := HP.out.1
              dsimp only at p0 p1 p2 p3
              refine wpAnyH_ready (rs := [18]) (by kernel_rfl) (by simp) ?_
              refine AllReadyH.cons (o := ⟨none, _, _, _, _, _⟩) rfl (fun K hK => ?_) AllReadyH.nil
              go_simp
              clear p0 p1 p2 p3 f0 f1 f2 f3
              have m0 := HP.out.1.set ⟨k, s, l, t⟩
              have m1 := HQ.out.1.other (x := ⟨k, s, l, t⟩) (p := p) (by have h1 := NE.out.1; have h2 := NE.out.2.1; have h3 := NE.out.2.2; omega)
              have m2 := HR.out.1.other (x := ⟨k, s, l, t⟩) (p := p) (by have h1 := NE.out.1; have h2 := NE.out.2.1; have h3 := NE.out.2.2; omega)
              have g1 := hS.1.other (g := ⟨k, s, l, t⟩) (p := p) (by have := HP.out.2.1; omega)
              have g2 := hS.2.trans (HP.out.1.belowSet ⟨k, s, l, t⟩ HP.out.2.2)
              dsimp only at m0 m1 m2 g1 g2
              generalize World.setCell (World.setCell (World.setCell (World.setCell (U3) _ _) _ _) _ _) _ _ = Y0 at m0 m1 m2 g1 g2 ⊢
              have X0 := Lib.hid (And.intro m0 HP.out.2)
              have X1 := Lib.hid (And.intro m1 HQ.out.2)
              have X2 := Lib.hid (And.intro m2 HR.out.2)
              clear m0 m1 m2 HP HQ HR
              have HP := X0
              have HQ := X1
              have HR := X2
              clear X0 X1 X2
              refine hK.out _ _ ⟨g1, g2⟩ (fun hS => ?_)
              clear hK K g1 g2
              try simp only [Act.put, List.setIfInBounds_toArray, List.set_cons_zero, List.set_cons_succ]
              obtain ⟨⟨p0, p1, p2, p3⟩, f0, f1, f2, f3⟩ := HQ.out.1
              dsimp only at p0 p1 p2 p3
              refine wpAnyH_ready (rs := [19]) (by kernel_rfl) (by simp) ?_
              refine AllReadyH.cons (o := ⟨none, _, _, _, _, _⟩) rfl (fun K hK => ?_) AllReadyH.nil
              go_simp
              clear p0 p1 p2 p3 f0 f1 f2 f3
              have m0 := HQ.out.1.set ⟨k2, s2, l2, t2⟩
              have m1 := HP.out.1.other (x := ⟨k2, s2, l2, t2⟩) (p := q) (by have h1 := NE.out.1; have h2 := NE.out.2.1; have h3 := NE.out.2.2; omega)
              have m2 := HR.out.1.other (x := ⟨k2, s2, l2, t2⟩) (p := q) (by have h1 := NE.out.1; have h2 := NE.out.2.1; have h3 := NE.out.2.2; omega)
              have g1 := hS.1.other (g := ⟨k2, s2, l2, t2⟩) (p := q) (by have := HQ.out.2.1; omega)
              have g2 := hS.2.trans (HQ.out.1.belowSet ⟨k2, s2, l2, t2⟩ HQ.out.2.2)
              dsimp only at m0 m1 m2 g1 g2
              generalize World.setCell (World.setCell (World.setCell (World.setCell (Y0) _ _) _ _) _ _) _ _ = Y1 at m0 m1 m2 g1 g2 ⊢
              have X0 := Lib.hid (And.intro m0 HQ.out.2)
              have X1 := Lib.hid (And.intro m1 HP.out.2)
              have X2 := Lib.hid (And.intro m2 HR.out.2)
              clear m0 m1 m2 HQ HP HR
              have HQ := X0
              have HP := X1
              have HR := X2
              clear X0 X1 X2
              refine hK.out _ _ ⟨g1, g2⟩ (fun hS => ?_)
              clear hK K g1 g2
              try simp only [Act.put, List.setIfInBounds_toArray, List.set_cons_zero, List.set_cons_succ]
              obtain ⟨⟨p0, p1, p2, p3⟩, f0, f1, f2, f3⟩ := HR.out.1
              dsimp only at p0 p1 p2 p3
              refine wpAnyH_ready (rs := [20]) (by kernel_rfl) (by simp) ?_
              refine AllReadyH.cons (o := ⟨none, _, _, _, _, _⟩) rfl (fun K hK => ?_) AllReadyH.nil
              go_simp
              clear p0 p1 p2 p3 f0 f1 f2 f3
              have m0 := HR.out.1.set ⟨k3, s3, l3, t3⟩
              have m1 := HP.out.1.other (x := ⟨k3, s3, l3, t3⟩) (p := r) (by have h1 := NE.out.1; have h2 := NE.out.2.1; have h3 := NE.out.2.2; omega)
              have m2 := HQ.out.1.other (x := ⟨k3, s3, l3, t3⟩) (p := r) (by have h1 := NE.out.1; have h2 := NE.out.2.1; have h3 := NE.out.2.2; omega)
              have g1 := hS.1.other (g := ⟨k3, s3, l3, t3⟩) (p := r) (by have := HR.out.2.1; omega)
              have g2 := hS.2.trans (HR.out.1.belowSet ⟨k3, s3, l3, t3⟩ HR.out.2.2)
              dsimp only at m0 m1 m2 g1 g2
              generalize World.setCell (World.setCell (World.setCell (World.setCell (Y1) _ _) _ _) _ _) _ _ = Y2 at m0 m1 m2 g1 g2 ⊢
              have X0 := Lib.hid (And.intro m0 HR.out.2)
              have X1 := Lib.hid (And.intro m1 HP.out.2)
              have X2 := Lib.hid (And.intro m2 HQ.out.2)
              clear m0 m1 m2 HR HP HQ
              have HR := X0
              have HP := X1
              have HQ := X2
              clear X0 X1 X2
              refine hK.out _ _ ⟨g1, g2⟩ (fun hS => ?_)
              clear hK K g1 g2
              try simp only [Act.put, List.setIfInBounds_toArray, List.set_cons_zero, List.set_cons_succ]
              refine wpAnyH_done (by kernel_rfl) ?_ _
              have g1 := hS.1
              have g2 := hS.2
              clear hS
              go_wp2_with fail
              go_meet
              exact ⟨p, q, r, rfl, rfl, rfl, HP.out.1.1, HQ.out.1.1, HR.out.1.1, g1, g2⟩
          · go_simp
            have hb : Below U1.heap.size U1 (U1.alloc (.cells #[.int .i64 0, .string ⟨#[]⟩, .string ⟨#[]⟩, .string ⟨#[]⟩] 23)) := (Below.refl _ _).alloc (Nat.le_refl _) _
            have hm : Mine (U1.alloc (.cells #[.int .i64 0, .string ⟨#[]⟩, .string ⟨#[]⟩, .string ⟨#[]⟩] 23)) U1.heap.size ⟨0, ⟨#[]⟩, ⟨#[]⟩, ⟨#[]⟩⟩ := Mine.new U1
            have h1 : b < U1.heap.size := hS.1.lt
            have h2 : w.heap.size + 2 ≤ U1.heap.size := HSZ.out
            have g1 := hS.1.below hb
            have g2 := hS.2.trans (hb.mono hS.2.size)
            have HP2 := Lib.hid (And.intro (HP.out.1.below hb) HP.out.2)
            have lp : p < U1.heap.size := HP.out.1.1.lt
            clear HP
            have HP := HP2
            clear HP2
            have HSZ2 : Hid (w.heap.size + 2 ≤ (U1.alloc (.cells #[.int .i64 0, .string ⟨#[]⟩, .string ⟨#[]⟩, .string ⟨#[]⟩] 23)).heap.size) := Lib.hid (Nat.le_trans h2 hb.size)
            clear HSZ
            generalize U1.alloc _ = U2 at hb hm g1 g2 HSZ2 HP ⊢
            generalize U1.heap.size = r at hm h1 h2 lp ⊢
            have HR := Lib.hid (And.intro hm (And.intro (Nat.ne_of_gt h1) h2))
            have HSZ := HSZ2
            clear hm h1 h2 hb HSZ2
            have NEA : Hid (p < r) := Lib.hid lp
            clear lp
            refine hK.out _ _ ⟨g1, g2⟩ (fun hS => ?_)
            clear hK K g1 g2
            try simp only [Act.put, List.setIfInBounds_toArray, List.set_cons_zero, List.set_cons_succ]
            refine wpAnyH_ready (rs := [16]) (by kernel_rfl) (by simp) ?_
            refine AllReadyH.cons (o := ⟨some 10, _, _, _, _, _⟩) rfl (fun K hK => ?_) (AllReadyH.nil)
            · go_simp
              have hb : Below U2.heap.size U2 (U2.alloc (.cells #[.int .i64 0, .string ⟨#[]⟩, .string ⟨#[]⟩, .string ⟨#[]⟩] 23)) := (Below.refl _ _).alloc (Nat.le_refl _) _
              have hm : Mine (U2.alloc (.cells #[.int .i64 0, .string ⟨#[]⟩, .string ⟨#[]⟩, .string ⟨#[]⟩] 23)) U2.heap.size ⟨0, ⟨#[]⟩, ⟨#[]⟩, ⟨#[]⟩⟩ := Mine.new U2
              have h1 : b < U2.heap.size := hS.1.lt
              have h2 : w.heap.size + 2 ≤ U2.heap.size := HSZ.out
              have g1 := hS.1.below hb
              have g2 := hS.2.trans (hb.mono hS.2.size)
              have HP2 := Lib.hid (And.intro (HP.out.1.below hb) HP.out.2)
              have lp : p < U2.heap.size := HP.out.1.1.lt
              clear HP
              have HP := HP2
              clear HP2
              have HR2 := Lib.hid (And.intro (HR.out.1.below hb) HR.out.2)
              have lr : r < U2.heap.size := HR.out.1.1.lt
              clear HR
              have HR := HR2
              clear HR2
              have HSZ2 : Hid (w.heap.size + 2 ≤ (U2.alloc (.cells #[.int .i64 0, .string ⟨#[]⟩, .string ⟨#[]⟩, .string ⟨#[]⟩] 23)).heap.size) := Lib.hid (Nat.le_trans h2 hb.size)
              clear HSZ
              generalize U2.alloc _ = U3 at hb hm g1 g2 HSZ2 HP HR ⊢
              generalize U2.heap.size = q at hm h1 h2 lp lr ⊢
              have HQ := Lib.hid (And.intro hm (And.intro (Nat.ne_of_gt h1) h2))
              have HSZ := HSZ2
              clear hm h1 h2 hb HSZ2
              have NE : Hid (p ≠ q ∧ p ≠ r ∧ q ≠ r) := Lib.hid (by have h1 := NEA.out; omega)
              clear lp lr
              refine hK.out _ _ ⟨g1, g2⟩ (fun hS => ?_)
              clear hK K g1 g2
              try simp only [Act.put, List.setIfInBounds_toArray, List.set_cons_zero, List.set_cons_succ]
              obtain ⟨⟨p0, p1, p2, p3⟩, f0, f1, f2, f3⟩ := HP.out.1
              dsimp only at p0 p1 p2 p3
              refine wpAnyH_ready (rs := [18]) (by kernel_rfl) (by simp) ?_
              refine AllReadyH.cons (o := ⟨none, _, _, _, _, _⟩) rfl (fun K hK => ?_) AllReadyH.nil
              go_simp
              clear p0 p1 p2 p3 f0 f1 f2 f3
              have m0 := HP.out.1.set ⟨k, s, l, t⟩
              have m1 := HQ.out.1.other (x := ⟨k, s, l, t⟩) (p := p) (by have h1 := NE.out.1; have h2 := NE.out.2.1; have h3 := NE.out.2.2; omega)
              have m2 := HR.out.1.other (x := ⟨k, s, l, t⟩) (p := p) (by have h1 := NE.out.1; have h2 := NE.out.2.1; have h3 := NE.out.2.2; omega)
              have g1 := hS.1.other (g := ⟨k, s, l, t⟩) (p := p) (by have := HP.out.2.1; omega)
              have g2 := hS.2.trans (HP.out.1.belowSet ⟨k, s, l, t⟩ HP.out.2.2)
              dsimp only at m0 m1 m2 g1 g2
              generalize World.setCell (World.setCell (World.setCell (World.setCell (U3) _ _) _ _) _ _) _ _ = Y0 at m0 m1 m2 g1 g2 ⊢
              have X0 := Lib.hid (And.intro m0 HP.out.2)
              have X1 := Lib.hid (And.intro m1 HQ.out.2)
              have X2 := Lib.hid (And.intro m2 HR.out.2)
              clear m0 m1 m2 HP HQ HR
              have HP := X0
              have HQ := X1
              have HR := X2
              clear X0 X1 X2
              refine hK.out _ _ ⟨g1, g2⟩ (fun hS => ?_)
              clear hK K g1 g2
              try simp only [Act.put, List.setIfInBounds_toArray, List.set_cons_zero, List.set_cons_succ]
              obtain ⟨⟨p0, p1, p2, p3⟩, f0, f1, f2, f3⟩ := HQ.out.1
              dsimp only at p0 p1 p2 p3
              refine wpAnyH_ready (rs := [19]) (by kernel_rfl) (by simp) ?_
              refine AllReadyH.cons (o := ⟨none, _, _, _, _, _⟩) rfl (fun K hK => ?_) AllReadyH.nil
              go_simp
              clear p0 p1 p2 p3 f0 f1 f2 f3
              have m0 := HQ.out.1.set ⟨k2, s2, l2, t2⟩
              have m1 := HP.out.1.other (x := ⟨k2, s2, l2, t2⟩) (p := q) (by have h1 := NE.out.1; have h2 := NE.out.2.1; have h3 := NE.out.2.2; omega)
              have m2 := HR.out.1.other (x := ⟨k2, s2, l2, t2⟩) (p := q) (by have h1 := NE.out.1; have h2 := NE.out.2.1; have h3 := NE.out.2.2; omega)
              have g1 := hS.1.other (g := ⟨k2, s2, l2, t2⟩) (p := q) (by have := HQ.out.2.1; omega)
              have g2 := hS.2.trans (HQ.out.1.belowSet ⟨k2, s2, l2, t2⟩ HQ.out.2.2)
              dsimp only at m0 m1 m2 g1 g2
              generalize World.setCell (World.setCell (World.setCell (World.setCell (Y0) _ _) _ _) _ _) _ _ = Y1 at m0 m1 m2 g1 g2 ⊢
              have X0 := Lib.hid (And.intro m0 HQ.out.2)
              have X1 := Lib.hid (And.intro m1 HP.out.2)
              have X2 := Lib.hid (And.intro m2 HR.out.2)
              clear m0 m1 m2 HQ HP HR
              have HQ := X0
              have HP := X1
              have HR := X2
              clear X0 X1 X2
              refine hK.out _ _ ⟨g1, g2⟩ (fun hS => ?_)
              clear hK K g1 g2
              try simp only [Act.put, List.setIfInBounds_toArray, List.set_cons_zero, List.set_cons_succ]
              obtain ⟨⟨p0, p1, p2, p3⟩, f0, f1, f2, f3⟩ := HR.out.1
              dsimp only at p0 p1 p2 p3
              refine wpAnyH_ready (rs := [20]) (by kernel_rfl) (by simp) ?_
              refine AllReadyH.cons (o := ⟨none, _, _, _, _, _⟩) rfl (fun K hK => ?_) AllReadyH.nil
              go_simp
              clear p0 p1 p2 p3 f0 f1 f2 f3
              have m0 := HR.out.1.set ⟨k3, s3, l3, t3⟩
              have m1 := HP.out.1.other (x := ⟨k3, s3, l3, t3⟩) (p := r) (by have h1 := NE.out.1; have h2 := NE.out.2.1; have h3 := NE.out.2.2; omega)
              have m2 := HQ.out.1.other (x := ⟨k3, s3, l3, t3⟩) (p := r) (by have h1 := NE.out.1; have h2 := NE.out.2.1; have h3 := NE.out.2.2; omega)
              have g1 := hS.1.other (g := ⟨k3, s3, l3, t3⟩) (p := r) (by have := HR.out.2.1; omega)
              have g2 := hS.2.trans (HR.out.1.belowSet ⟨k3, s3, l3, t3⟩ HR.out.2.2)
              dsimp only at m0 m1 m2 g1 g2
              generalize World.setCell (World.setCell (World.setCell (World.setCell (Y1) _ _) _ _) _ _) _ _ = Y2 at m0 m1 m2 g1 g2 ⊢
              have X0 := Lib.hid (And.intro m0 HR.out.2)
              have X1 := Lib.hid (And.intro m1 HP.out.2)
              have X2 := Lib.hid (And.intro m2 HQ.out.2)
              clear m0 m1 m2 HR HP HQ
              have HR := X0
              have HP := X1
              have HQ := X2
              clear X0 X1 X2
              refine hK.out _ _ ⟨g1, g2⟩ (fun hS => ?_)
              clear hK K g1 g2
              try simp only [Act.put, List.setIfInBounds_toArray, List.set_cons_zero, List.set_cons_succ]
              refine wpAnyH_done (by kernel_rfl) ?_ _
              have g1 := hS.1
              have g2 := hS.2
              clear hS
              go_wp2_with fail
              go_meet
              exact ⟨p, q, r, rfl, rfl, rfl, HP.out.1.1, HQ.out.1.1, HR.out.1.1, g1, g2⟩
        · go_simp
          have hb : Below U0.heap.size U0 (U0.alloc (.cells #[.int .i64 0, .string ⟨#[]⟩, .string ⟨#[]⟩, .string ⟨#[]⟩] 23)) := (Below.refl _ _).alloc (Nat.le_refl _) _
          have hm : Mine (U0.alloc (.cells #[.int .i64 0, .string ⟨#[]⟩, .string ⟨#[]⟩, .string ⟨#[]⟩] 23)) U0.heap.size ⟨0, ⟨#[]⟩, ⟨#[]⟩, ⟨#[]⟩⟩ := Mine.new U0
          have h1 : b < U0.heap.size := hS.1.lt
          have h2 : w.heap.size + 2 ≤ U0.heap.size := HSZ.out
          have g1 := hS.1.below hb
          have g2 := hS.2.trans (hb.mono hS.2.size)
          have HSZ2 : Hid (w.heap.size + 2 ≤ (U0.alloc (.cells #[.int .i64 0, .string ⟨#[]⟩, .string ⟨#[]⟩, .string ⟨#[]⟩] 23)).heap.size) := Lib.hid (Nat.le_trans h2 hb.size)
          clear HSZ
          generalize U0.alloc _ = U1 at hb hm g1 g2 HSZ2  ⊢
          generalize U0.heap.size = q at hm h1 h2  ⊢
          have HQ := Lib.hid (And.intro hm (And.intro (Nat.ne_of_gt h1) h2))
          have HSZ := HSZ2
          clear hm h1 h2 hb HSZ2
          refine hK.out _ _ ⟨g1, g2⟩ (fun hS => ?_)
          clear hK K g1 g2
          try simp only [Act.put, List.setIfInBounds_toArray, List.set_cons_zero, List.set_cons_succ]
          refine wpAnyH_ready (rs := [15, 17]) (by kernel_rfl) (by simp) ?_
          refine AllReadyH.cons (o := ⟨some 9, _, _, _, _, _⟩) rfl (fun K hK => ?_) (AllReadyH.cons (o := ⟨some 11, _, _, _, _, _⟩) rfl (fun K hK => ?_) (AllReadyH.nil))
          · go_simp
            have hb : Below U1.heap.size U1 (U1.alloc (.cells #[.int .i64 0, .string ⟨#[]⟩, .string ⟨#[]⟩, .string ⟨#[]⟩] 23)) := (Below.refl _ _).alloc (Nat.le_refl _) _
            have hm : Mine (U1.alloc (.cells #[.int .i64 0, .string ⟨#[]⟩, .string ⟨#[]⟩, .string ⟨#[]⟩] 23)) U1.heap.size ⟨0, ⟨#[]⟩, ⟨#[]⟩, ⟨#[]⟩⟩ := Mine.new U1
            have h1 : b < U1.heap.size := hS.1.lt
            have h2 : w.heap.size + 2 ≤ U1.heap.size := HSZ.out
            have g1 := hS.1.below hb
            have g2 := hS.2.trans (hb.mono hS.2.size)
            have HQ2 := Lib.hid (And.intro (HQ.out.1.below hb) HQ.out.2)
            have lq : q < U1.heap.size := HQ.out.1.1.lt
            clear HQ
            have HQ := HQ2
            clear HQ2
            have HSZ2 : Hid (w.heap.size + 2 ≤ (U1.alloc (.cells #[.int .i64 0, .string ⟨#[]⟩, .string ⟨#[]⟩, .string ⟨#[]⟩] 23)).heap.size) := Lib.hid (Nat.le_trans h2 hb.size)
            clear HSZ
            generalize U1.alloc _ = U2 at hb hm g1 g2 HSZ2 HQ ⊢
            generalize U1.heap.size = p at hm h1 h2 lq ⊢
            have HP := Lib.hid (And.intro hm (And.intro (Nat.ne_of_gt h1) h2))
            have HSZ := HSZ2
            clear hm h1 h2 hb HSZ2
            have NEA : Hid (q < p) := Lib.hid lq
            clear lq
            refine hK.out _ _ ⟨g1, g2⟩ (fun hS => ?_)
            clear hK K g1 g2
            try simp only [Act.put, List.setIfInBounds_toArray, List.set_cons_zero, List.set_cons_succ]
            refine wpAnyH_ready (rs := [17]) (by kernel_rfl) (by simp) ?_
            refine AllReadyH.cons (o := ⟨some 11, _, _, _, _, _⟩) rfl (fun K hK => ?_) (AllReadyH.nil)
            · go_simp
              have hb : Below U2.heap.size U2 (U2.alloc (.cells #[.int .i64 0, .string ⟨#[]⟩, .string ⟨#[]⟩, .string ⟨#[]⟩] 23)) := (Below.refl _ _).alloc (Nat.le_refl _) _
              have hm : Mine (U2.alloc (.cells #[.int .i64 0, .string ⟨#[]⟩, .string ⟨#[]⟩, .string ⟨#[]⟩] 23)) U2.heap.size ⟨0, ⟨#[]⟩, ⟨#[]⟩, ⟨#[]⟩⟩ := Mine.new U2
              have h1 : b < U2.heap.size := hS.1.lt
              have h2 : w.heap.size + 2 ≤ U2.heap.size := HSZ.out
              have g1 := hS.1.below hb
              have g2 := hS.2.trans (hb.mono hS.2.size)
              have HQ2 := Lib.hid (And.intro (HQ.out.1.below hb) HQ.out.2)
              have lq : q < U2.heap.size := HQ.out.1.1.lt
              clear HQ
              have HQ := HQ2
              clear HQ2
              have HP2 := Lib.hid (And.intro (HP.out.1.below hb) HP.out.2)
              have lp : p < U2.heap.size := HP.out.1.1.lt
              clear HP
              have HP := HP2
              clear HP2
              have HSZ2 : Hid (w.heap.size + 2 ≤ (U2.alloc (.cells #[.int .i64 0, .string ⟨#[]⟩, .string ⟨#[]⟩, .string ⟨#[]⟩] 23)).heap.size) := Lib.hid (Nat.le_trans h2 hb.size)
              clear HSZ
              generalize U2.alloc _ = U3 at hb hm g1 g2 HSZ2 HQ HP ⊢
              generalize U2.heap.size = r at hm h1 h2 lq lp ⊢
              have HR := Lib.hid (And.intro hm (And.intro (Nat.ne_of_gt h1) h2))
              have HSZ := HSZ2
              clear hm h1 h2 hb HSZ2
              have NE : Hid (p ≠ q ∧ p ≠ r ∧ q ≠ r) := Lib.hid (by have h1 := NEA.out; omega)
              clear lq lp
              refine hK.out _ _ ⟨g1, g2⟩ (fun hS => ?_)
              clear hK K g1 g2
              try simp only [Act.put, List.setIfInBounds_toArray, List.set_cons_zero, List.set_cons_succ]
              obtain ⟨⟨p0, p1, p2, p3⟩, f0, f1, f2, f3⟩ := HP.out.1
              dsimp only at p0 p1 p2 p3
              refine wpAnyH_ready (rs := [18]) (by kernel_rfl) (by simp) ?_
              refine AllReadyH.cons (o := ⟨none, _, _, _, _, _⟩) rfl (fun K hK => ?_) AllReadyH.nil
              go_simp
              clear p0 p1 p2 p3 f0 f1 f2 f3
              have m0 := HP.out.1.set ⟨k, s, l, t⟩
              have m1 := HQ.out.1.other (x := ⟨k, s, l, t⟩) (p := p) (by have h1 := NE.out.1; have h2 := NE.out.2.1; have h3 := NE.out.2.2; omega)
              have m2 := HR.out.1.other (x := ⟨k, s, l, t⟩) (p := p) (by have h1 := NE.out.1; have h2 := NE.out.2.1; have h3 := NE.out.2.2; omega)
              have g1 := hS.1.other (g := ⟨k, s, l, t⟩) (p := p) (by have := HP.out.2.1; omega)
              have g2 := hS.2.trans (HP.out.1.belowSet ⟨k, s, l, t⟩ HP.out.2.2)
              dsimp only at m0 m1 m2 g1 g2
              generalize World.setCell (World.setCell (World.setCell (World.setCell (U3) _ _) _ _) _ _) _ _ = Y0 at m0 m1 m2 g1 g2 ⊢
              have X0 := Lib.hid (And.intro m0 HP.out.2)
              have X1 := Lib.hid (And.intro m1 HQ.out.2)
              have X2 := Lib.hid (And.intro m2 HR.out.2)
              clear m0 m1 m2 HP HQ HR
              have HP := X0
              have HQ := X1
              have HR := X2
              clear X0 X1 X2
              refine hK.out _ _ ⟨g1, g2⟩ (fun hS => ?_)
              clear hK K g1 g2
              try simp only [Act.put, List.setIfInBounds_toArray, List.set_cons_zero, List.set_cons_succ]
              obtain ⟨⟨p0, p1, p2, p3⟩, f0, f1, f2, f3⟩ := HQ.out.1
              dsimp only at p0 p1 p2 p3
              refine wpAnyH_ready (rs := [19]) (by kernel_rfl) (by simp) ?_
              refine AllReadyH.cons (o := ⟨none, _, _, _, _, _⟩) rfl (fun K hK => ?_) AllReadyH.nil
              go_simp
              clear p0 p1 p2 p3 f0 f1 f2 f3
              have m0 := HQ.out.1.set ⟨k2, s2, l2, t2⟩
              have m1 := HP.out.1.other (x := ⟨k2, s2, l2, t2⟩) (p := q) (by have h1 := NE.out.1; have h2 := NE.out.2.1; have h3 := NE.out.2.2; omega)
              have m2 := HR.out.1.other (x := ⟨k2, s2, l2, t2⟩) (p := q) (by have h1 := NE.out.1; have h2 := NE.out.2.1; have h3 := NE.out.2.2; omega)
              have g1 := hS.1.other (g := ⟨k2, s2, l2, t2⟩) (p := q) (by have := HQ.out.2.1; omega)
              have g2 := hS.2.trans (HQ.out.1.belowSet ⟨k2, s2, l2, t2⟩ HQ.out.2.2)
              dsimp only at m0 m1 m2 g1 g2
              generalize World.setCell (World.setCell (World.setCell (World.setCell (Y0) _ _) _ _) _ _) _ _ = Y1 at m0 m1 m2 g1 g2 ⊢
              have X0 := Lib.hid (And.intro m0 HQ.out.2)
              have X1 := Lib.hid (And.intro m1 HP.out.2)
              have X2 := Lib.hid (And.intro m2 HR.out.2)
              clear m0 m1 m2 HQ HP HR
              have HQ := X0
              have HP := X1
              have HR := X2
              clear X0 X1 X2
              refine hK.out _ _ ⟨g1, g2⟩ (fun hS => ?_)
              clear hK K g1 g2
              try simp only [Act.put, List.setIfInBounds_toArray, List.set_cons_zero, List.set_cons_succ]
              obtain ⟨⟨p0, p1, p2, p3⟩, f0, f1, f2, f3⟩ := HR.out.1
              dsimp only at p0 p1 p2 p3
              refine wpAnyH_ready (rs := [20]) (by kernel_rfl) (by simp) ?_
              refine AllReadyH.cons (o := ⟨none, _, _, _, _, _⟩) rfl (fun K hK => ?_) AllReadyH.nil
              go_simp
              clear p0 p1 p2 p3 f0 f1 f2 f3
              have m0 := HR.out.1.set ⟨k3, s3, l3, t3⟩
              have m1 := HP.out.1.other (x := ⟨k3, s3, l3, t3⟩) (p := r) (by have h1 := NE.out.1; have h2 := NE.out.2.1; have h3 := NE.out.2.2; omega)
              have m2 := HQ.out.1.other (x := ⟨k3, s3, l3, t3⟩) (p := r) (by have h1 := NE.out.1; have h2 := NE.out.2.1; have h3 := NE.out.2.2; omega)
              have g1 := hS.1.other (g := ⟨k3, s3, l3, t3⟩) (p := r) (by have := HR.out.2.1; omega)
              have g2 := hS.2.trans (HR.out.1.belowSet ⟨k3, s3, l3, t3⟩ HR.out.2.2)
              dsimp only at m0 m1 m2 g1 g2
              generalize World.setCell (World.setCell (World.setCell (World.setCell (Y1) _ _) _ _) _ _) _ _ = Y2 at m0 m1 m2 g1 g2 ⊢
              have X0 := Lib.hid (And.intro m0 HR.out.2)
              have X1 := Lib.hid (And.intro m1 HP.out.2)
              have X2 := Lib.hid (And.intro m2 HQ.out.2)
              clear m0 m1 m2 HR HP HQ
              have HR := X0
              have HP := X1
              have HQ := X2
              clear X0 X1 X2
              refine hK.out _ _ ⟨g1, g2⟩ (fun hS => ?_)
              clear hK K g1 g2
              try simp only [Act.put, List.setIfInBounds_toArray, List.set_cons_zero, List.set_cons_succ]
              refine wpAnyH_done (by kernel_rfl) ?_ _
              have g1 := hS.1
              have g2 := hS.2
              clear hS
              go_wp2_with fail
              go_meet
              exact ⟨p, q, r, rfl, rfl, rfl, HP.out.1.1, HQ.out.1.1, HR.out.1.1, g1, g2⟩
          · go_simp
            have hb : Below U1.heap.size U1 (U1.alloc (.cells #[.int .i64 0, .string ⟨#[]⟩, .string ⟨#[]⟩, .string ⟨#[]⟩] 23)) := (Below.refl _ _).alloc (Nat.le_refl _) _
            have hm : Mine (U1.alloc (.cells #[.int .i64 0, .string ⟨#[]⟩, .string ⟨#[]⟩, .string ⟨#[]⟩] 23)) U1.heap.size ⟨0, ⟨#[]⟩, ⟨#[]⟩, ⟨#[]⟩⟩ := Mine.new U1
            have h1 : b < U1.heap.size := hS.1.lt
            have h2 : w.heap.size + 2 ≤ U1.heap.size := HSZ.out
            have g1 := hS.1.below hb
            have g2 := hS.2.trans (hb.mono hS.2.size)
            have HQ2 := Lib.hid (And.intro (HQ.out.1.below hb) HQ.out.2)
            have lq : q < U1.heap.size := HQ.out.1.1.lt
            clear HQ
            have HQ := HQ2
            clear HQ2
            have HSZ2 : Hid (w.heap.size + 2 ≤ (U1.alloc (.cells #[.int .i64 0, .string ⟨#[]⟩, .string ⟨#[]⟩, .string ⟨#[]⟩] 23)).heap.size) := Lib.hid (Nat.le_trans h2 hb.size)
            clear HSZ
            generalize U1.alloc _ = U2 at hb hm g1 g2 HSZ2 HQ ⊢
            generalize U1.heap.size = r at hm h1 h2 lq ⊢
            have HR := Lib.hid (And.intro hm (And.intro (Nat.ne_of_gt h1) h2))
            have HSZ := HSZ2
            clear hm h1 h2 hb HSZ2
            have NEA : Hid (q < r) := Lib.hid lq
            clear lq
            refine hK.out _ _ ⟨g1, g2⟩ (fun hS => ?_)
            clear hK K g1 g2
            try simp only [Act.put, List.setIfInBounds_toArray, List.set_cons_zero, List.set_cons_succ]
            refine wpAnyH_ready (rs := [15]) (by kernel_rfl) (by simp) ?_
            refine AllReadyH.cons (o := ⟨some 9, _, _, _, _, _⟩) rfl (fun K hK => ?_) (AllReadyH.nil)
            · go_simp
              have hb : Below U2.heap.size U2 (U2.alloc (.cells #[.int .i64 0, .string ⟨#[]⟩, .string ⟨#[]⟩, .string ⟨#[]⟩] 23)) := (Below.refl _ _).alloc (Nat.le_refl _) _
              have hm : Mine (U2.alloc (.cells #[.int .i64 0, .string ⟨#[]⟩, .string ⟨#[]⟩, .string ⟨#[]⟩] 23)) U2.heap.size ⟨0, ⟨#[]⟩, ⟨#[]⟩, ⟨#[]⟩⟩ := Mine.new U2
              have h1 : b < U2.heap.size := hS.1.lt
              have h2 : w.heap.size + 2 ≤ U2.heap.size := HSZ.out
              have g1 := hS.1.below hb
              have g2 := hS.2.trans (hb.mono hS.2.size)
              have HQ2 := Lib.hid (And.intro (HQ.out.1.below hb) HQ.out.2)
              have lq : q < U2.heap.size := HQ.out.1.1.lt
              clear HQ
              have HQ := HQ2
              clear HQ2
              have HR2 := Lib.hid (And.intro (HR.out.1.below hb) HR.out.2)
              have lr : r < U2.heap.size := HR.out.1.1.lt
              clear HR
              have HR := HR2
              clear HR2
              have HSZ2 : Hid (w.heap.size + 2 ≤ (U2.alloc (.cells #[.int .i64 0, .string ⟨#[]⟩, .string ⟨#[]⟩, .string ⟨#[]⟩] 23)).heap.size) := Lib.hid (Nat.le_trans h2 hb.size)
              clear HSZ
              generalize U2.alloc _ = U3 at hb hm g1 g2 HSZ2 HQ HR ⊢
              generalize U2.heap.size = p at hm h1 h2 lq lr ⊢
              have HP := Lib.hid (And.intro hm (And.intro (Nat.ne_of_gt h1) h2))
              have HSZ := HSZ2
              clear hm h1 h2 hb HSZ2
              have NE : Hid (p ≠ q ∧ p ≠ r ∧ q ≠ r) := Lib.hid (by have h1 := NEA.out; omega)
              clear lq lr
              refine hK.out _ _ ⟨g1, g2⟩ (fun hS => ?_)
              clear hK K g1 g2
              try simp only [Act.put, List.setIfInBounds_toArray, List.set_cons_zero, List.set_cons_succ]
              obtain ⟨⟨p0, p1, p2, p3⟩, f0, f1, f2, f3⟩ := HP.out.1
              dsimp only at p0 p1 p2 p3
              refine wpAnyH_ready (rs := [18]) (by kernel_rfl) (by simp) ?_
              refine AllReadyH.cons (o := ⟨none, _, _, _, _, _⟩) rfl (fun K hK => ?_) AllReadyH.nil
              go_simp
              clear p0 p1 p2 p3 f0 f1 f2 f3
              have m0 := HP.out.1.set ⟨k, s, l, t⟩
              have m1 := HQ.out.1.other (x := ⟨k, s, l, t⟩) (p := p) (by have h1 := NE.out.1; have h2 := NE.out.2.1; have h3 := NE.out.2.2; omega)
              have m2 := HR.out.1.other (x := ⟨k, s, l, t⟩) (p := p) (by have h1 := NE.out.1; have h2 := NE.out.2.1; have h3 := NE.out.2.2; omega)
              have g1 := hS.1.other (g := ⟨k, s, l, t⟩) (p := p) (by have := HP.out.2.1; omega)
              have g2 := hS.2.trans (HP.out.1.belowSet ⟨k, s, l, t⟩ HP.out.2.2)
              dsimp only at m0 m1 m2 g1 g2
              generalize World.setCell (World.setCell (World.setCell (World.setCell (U3) _ _) _ _) _ _) _ _ = Y0 at m0 m1 m2 g1 g2 ⊢
              have X0 := Lib.hid (And.intro m0 HP.out.2)
              have X1 := Lib.hid (And.intro m1 HQ.out.2)
              have X2 := Lib.hid (And.intro m2 HR.out.2)
              clear m0 m1 m2 HP HQ HR
              have HP := X0
              have HQ := X1
              have HR := X2
              clear X0 X1 X2
              refine hK.out _ _ ⟨g1, g2⟩ (fun hS => ?_)
              clear hK K g1 g2
              try simp only [Act.put, List.setIfInBounds_toArray, List.set_cons_zero, List.set_cons_succ]
              obtain ⟨⟨p0, p1, p2, p3⟩, f0, f1, f2, f3⟩ := HQ.out.1
              dsimp only at p0 p1 p2 p3
              refine wpAnyH_ready (rs := [19]) (by kernel_rfl) (by simp) ?_
              refine AllReadyH.cons (o := ⟨none, _, _, _, _, _⟩) rfl (fun K hK => ?_) AllReadyH.nil
              go_simp
              clear p0 p1 p2 p3 f0 f1 f2 f3
              have m0 := HQ.out.1.set ⟨k2, s2, l2, t2⟩
              have m1 := HP.out.1.other (x := ⟨k2, s2, l2, t2⟩) (p := q) (by have h1 := NE.out.1; have h2 := NE.out.2.1; have h3 := NE.out.2.2; omega)
              have m2 := HR.out.1.other (x := ⟨k2, s2, l2, t2⟩) (p := q) (by have h1 := NE.out.1; have h2 := NE.out.2.1; have h3 := NE.out.2.2; omega)
              have g1 := hS.1.other (g := ⟨k2, s2, l2, t2⟩) (p := q) (by have := HQ.out.2.1; omega)
              have g2 := hS.2.trans (HQ.out.1.belowSet ⟨k2, s2, l2, t2⟩ HQ.out.2.2)
              dsimp only at m0 m1 m2 g1 g2
              generalize World.setCell (World.setCell (World.setCell (World.setCell (Y0) _ _) _ _) _ _) _ _ = Y1 at m0 m1 m2 g1 g2 ⊢
              have X0 := Lib.hid (And.intro m0 HQ.out.2)
              have X1 := Lib.hid (And.intro m1 HP.out.2)
              have X2 := Lib.hid (And.intro m2 HR.out.2)
              clear m0 m1 m2 HQ HP HR
              have HQ := X0
              have HP := X1
              have HR := X2
              clear X0 X1 X2
              refine hK.out _ _ ⟨g1, g2⟩ (fun hS => ?_)
              clear hK K g1 g2
              try simp only [Act.put, List.setIfInBounds_toArray, List.set_cons_zero, List.set_cons_succ]
              obtain ⟨⟨p0, p1, p2, p3⟩, f0, f1, f2, f3⟩ := HR.out.1
              dsimp only at p0 p1 p2 p3
              refine wpAnyH_ready (rs := [20]) (by kernel_rfl) (by simp) ?_
              refine AllReadyH.cons (o := ⟨none, _, _, _, _, _⟩) rfl (fun K hK => ?_) AllReadyH.nil
              go_simp
              clear p0 p1 p2 p3 f0 f1 f2 f3
              have m0 := HR.out.1.set ⟨k3, s3, l3, t3⟩
              have m1 := HP.out.1.other (x := ⟨k3, s3, l3, t3⟩) (p := r) (by have h1 := NE.out.1; have h2 := NE.out.2.1; have h3 := NE.out.2.2; omega)
              have m2 := HQ.out.1.other (x := ⟨k3, s3, l3, t3⟩) (p := r) (by have h1 := NE.out.1; have h2 := NE.out.2.1; have h3 := NE.out.2.2; omega)
              have g1 := hS.1.other (g := ⟨k3, s3, l3, t3⟩) (p := r) (by have := HR.out.2.1; omega)
              have g2 := hS.2.trans (HR.out.1.belowSet ⟨k3, s3, l3, t3⟩ HR.out.2.2)
              dsimp only at m0 m1 m2 g1 g2
              generalize World.setCell (World.setCell (World.setCell (World.setCell (Y1) _ _) _ _) _ _) _ _ = Y2 at m0 m1 m2 g1 g2 ⊢
              have X0 := Lib.hid (And.intro m0 HR.out.2)
              have X1 := Lib.hid (And.intro m1 HP.out.2)
              have X2 := Lib.hid (And.intro m2 HQ.out.2)
              clear m0 m1 m2 HR HP HQ
              have HR := X0
              have HP := X1
              have HQ := X2
              clear X0 X1 X2
              refine hK.out _ _ ⟨g1, g2⟩ (fun hS => ?_)
              clear hK K g1 g2
              try simp only [Act.put, List.setIfInBounds_toArray, List.set_cons_zero, List.set_cons_succ]
              refine wpAnyH_done (by kernel_rfl) ?_ _
              have g1 := hS.1
              have g2 := hS.2
              clear hS
              go_wp2_with fail
              go_meet
              exact ⟨p, q, r, rfl, rfl, rfl, HP.out.1.1, HQ.out.1.1, HR.out.1.1, g1, g2⟩
        · go_simp
          have hb : Below U0.heap.size U0 (U0.alloc (.cells #[.int .i64 0, .string ⟨#[]⟩, .string ⟨#[]⟩, .string ⟨#[]⟩] 23)) := (Below.refl _ _).alloc (Nat.le_refl _) _
          have hm : Mine (U0.alloc (.cells #[.int .i64 0, .string ⟨#[]⟩, .string ⟨#[]⟩, .string ⟨#[]⟩] 23)) U0.heap.size ⟨0, ⟨#[]⟩, ⟨#[]⟩, ⟨#[]⟩⟩ := Mine.new U0
          have h1 : b < U0.heap.size := hS.1.lt
          have h2 : w.heap.size + 2 ≤ U0.heap.size := HSZ.out
          have g1 := hS.1.below hb
          have g2 := hS.2.trans (hb.mono hS.2.size)
          have HSZ2 : Hid (w.heap.size + 2 ≤ (U0.alloc (.cells #[.int .i64 0, .string ⟨#[]⟩, .string ⟨#[]⟩, .string ⟨#[]⟩] 23)).heap.size) := Lib.hid (Nat.le_trans h2 hb.size)
          clear HSZ
          generalize U0.alloc _ = U1 at hb hm g1 g2 HSZ2  ⊢
          generalize U0.heap.size = r at hm h1 h2  ⊢
          have HR := Lib.hid (And.intro hm (And.intro (Nat.ne_of_gt h1) h2))
          have HSZ := HSZ2
          clear hm h1 h2 hb HSZ2
          refine hK.out _ _ ⟨g1, g2⟩ (fun hS => ?_)
          clear hK K g1 g2
          try simp only [Act.put, List.setIfInBounds_toArray, List.set_cons_zero, List.set_cons_succ]
          refine wpAnyH_ready (rs := [15, 16]) (by kernel_rfl) (by simp) ?_
          refine AllReadyH.cons (o := ⟨some 9, _, _, _, _, _⟩) rfl (fun K hK => ?_) (AllReadyH.cons (o := ⟨some 10, _, _, _, _, _⟩) rfl (fun K hK => ?_) (AllReadyH.nil))
          · go_simp
            have hb : Below U1.heap.size U1 (U1.alloc (.cells #[.int .i64 0, .string ⟨#[]⟩, .string ⟨#[]⟩, .string ⟨#[]⟩] 23)) := (Below.refl _ _).alloc (Nat.le_refl _) _
            have hm : Mine (U1.alloc (.cells #[.int .i64 0, .string ⟨#[]⟩, .string ⟨#[]⟩, .string ⟨#[]⟩] 23)) U1.heap.size ⟨0, ⟨#[]⟩, ⟨#[]⟩, ⟨#[]⟩⟩ := Mine.new U1
            have h1 : b < U1.heap.size := hS.1.lt
            have h2 : w.heap.size + 2 ≤ U1.heap.size := HSZ.out
            have g1 := hS.1.below hb
            have g2 := hS.2.trans (hb.mono hS.2.size)
            have HR2 := Lib.hid (And.intro (HR.out.1.below hb) HR.out.2)
            have lr : r < U1.heap.size := HR.out.1.1.lt
            clear HR
            have HR := HR2
            clear HR2
            have HSZ2 : Hid (w.heap.size + 2 ≤ (U1.alloc (.cells #[.int .i64 0, .string ⟨#[]⟩, .string ⟨#[]⟩, .string ⟨#[]⟩] 23)).heap.size) := Lib.hid (Nat.le_trans h2 hb.size)
            clear HSZ
            generalize U1.alloc _ = U2 at hb hm g1 g2 HSZ2 HR ⊢
            generalize U1.heap.size = p at hm h1 h2 lr ⊢
            have HP := Lib.hid (And.intro hm (And.intro (Nat.ne_of_gt h1) h2))
            have HSZ := HSZ2
            clear hm h1 h2 hb HSZ2
            have NEA : Hid (r < p) := Lib.hid lr
            clear lr
            refine hK.out _ _ ⟨g1, g2⟩ (fun hS => ?_)
            clear hK K g1 g2
            try simp only [Act.put, List.setIfInBounds_toArray, List.set_cons_zero, List.set_cons_succ]
            refine wpAnyH_ready (rs := [16]) (by kernel_rfl) (by simp) ?_
            refine AllReadyH.cons (o := ⟨some 10, _, _, _, _, _⟩) rfl (fun K hK => ?_) (AllReadyH.nil)
            · go_simp
              have hb : Below U2.heap.size U2 (U2.alloc (.cells #[.int .i64 0, .string ⟨#[]⟩, .string ⟨#[]⟩, .string ⟨#[]⟩] 23)) := (Below.refl _ _).alloc (Nat.le_refl _) _
              have hm : Mine (U2.alloc (.cells #[.int .i64 0, .string ⟨#[]⟩, .string ⟨#[]⟩, .string ⟨#[]⟩] 23)) U2.heap.size ⟨0, ⟨#[]⟩, ⟨#[]⟩, ⟨#[]⟩⟩ := Mine.new U2
              have h1 : b < U2.heap.size := hS.1.lt
              have h2 : w.heap.size + 2 ≤ U2.heap.size := HSZ.out
              have g1 := hS.1.below hb
              have g2 := hS.2.trans (hb.mono hS.2.size)
              have HR2 := Lib.hid (And.intro (HR.out.1.below hb) HR.out.2)
              have lr : r < U2.heap.size := HR.out.1.1.lt
              clear HR
              have HR := HR2
              clear HR2
              have HP2 := Lib.hid (And.intro (HP.out.1.below hb) HP.out.2)
              have lp : p < U2.heap.size := HP.out.1.1.lt
              clear HP
              have HP := HP2
              clear HP2
              have HSZ2 : Hid (w.heap.size + 2 ≤ (U2.alloc (.cells #[.int .i64 0, .string ⟨#[]⟩, .string ⟨#[]⟩, .string ⟨#[]⟩] 23)).heap.size) := Lib.hid (Nat.le_trans h2 hb.size)
              clear HSZ
              generalize U2.alloc _ = U3 at hb hm g1 g2 HSZ2 HR HP ⊢
              generalize U2.heap.size = q at hm h1 h2 lr lp ⊢
              have HQ := Lib.hid (And.intro hm (And.intro (Nat.ne_of_gt h1) h2))
              have HSZ := HSZ2
              clear hm h1 h2 hb HSZ2
              have NE : Hid (p ≠ q ∧ p ≠ r ∧ q ≠ r) := Lib.hid (by have h1 := NEA.out; omega)
              clear lr lp
              refine hK.out _ _ ⟨g1, g2⟩ (fun hS => ?_)
              clear hK K g1 g2
              try simp only [Act.put, List.setIfInBounds_toArray, List.set_cons_zero, List.set_cons_succ]
              obtain ⟨⟨p0, p1, p2, p3⟩, f0, f1, f2, f3⟩ := HP.out.1
              dsimp only at p0 p1 p2 p3
              refine wpAnyH_ready (rs := [18]) (by kernel_rfl) (by simp) ?_
              refine AllReadyH.cons (o := ⟨none, _, _, _, _, _⟩) rfl (fun K hK => ?_) AllReadyH.nil
              go_simp
              clear p0 p1 p2 p3 f0 f1 f2 f3
              have m0 := HP.out.1.set ⟨k, s, l, t⟩
              have m1 := HQ.out.1.other (x := ⟨k, s, l, t⟩) (p := p) (by have h1 := NE.out.1; have h2 := NE.out.2.1; have h3 := NE.out.2.2; omega)
              have m2 := HR.out.1.other (x := ⟨k, s, l, t⟩) (p := p) (by have h1 := NE.out.1; have h2 := NE.out.2.1; have h3 := NE.out.2.2; omega)
              have g1 := hS.1.other (g := ⟨k, s, l, t⟩) (p := p) (by have := HP.out.2.1; omega)
              have g2 := hS.2.trans (HP.out.1.belowSet ⟨k, s, l, t⟩ HP.out.2.2)
              dsimp only at m0 m1 m2 g1 g2
              generalize World.setCell (World.setCell (World.setCell (World.setCell (U3) _ _) _ _) _ _) _ _ = Y0 at m0 m1 m2 g1 g2 ⊢
              have X0 := Lib.hid (And.intro m0 HP.out.2)
              have X1 := Lib.hid (And.intro m1 HQ.out.2)
              have X2 := Lib.hid (And.intro m2 HR.out.2)
              clear m0 m1 m2 HP HQ HR
              have HP := X0
              have HQ := X1
              have HR := X2
              clear X0 X1 X2
              refine hK.out _ _ ⟨g1, g2⟩ (fun hS => ?_)
              clear hK K g1 g2
              try simp only [Act.put, List.setIfInBounds_toArray, List.set_cons_zero, List.set_cons_succ]
              obtain ⟨⟨p0, p1, p2, p3⟩, f0, f1, f2, f3⟩ := HQ.out.1
              dsimp only at p0 p1 p2 p3
              refine wpAnyH_ready (rs := [19]) (by kernel_rfl) (by simp) ?_
              refine AllReadyH.cons (o := ⟨none, _, _, _, _, _⟩) rfl (fun K hK => ?_) AllReadyH.nil
              go_simp
              clear p0 p1 p2 p3 f0 f1 f2 f3
              have m0 := HQ.out.1.set ⟨k2, s2, l2, t2⟩
              have m1 := HP.out.1.other (x := ⟨k2, s2, l2, t2⟩) (p := q) (by have h1 := NE.out.1; have h2 := NE.out.2.1; have h3 := NE.out.2.2; omega)
              have m2 := HR.out.1.other (x := ⟨k2, s2, l2, t2⟩) (p := q) (by have h1 := NE.out.1; have h2 := NE.out.2.1; have h3 := NE.out.2.2; omega)
              have g1 := hS.1.other (g := ⟨k2, s2, l2, t2⟩) (p := q) (by have := HQ.out.2.1; omega)
              have g2 := hS.2.trans (HQ.out.1.belowSet ⟨k2, s2, l2, t2⟩ HQ.out.2.2)
              dsimp only at m0 m1 m2 g1 g2
              generalize World.setCell (World.setCell (World.setCell (World.setCell (Y0) _ _) _ _) _ _) _ _ = Y1 at m0 m1 m2 g1 g2 ⊢
              have X0 := Lib.hid (And.intro m0 HQ.out.2)
              have X1 := Lib.hid (And.intro m1 HP.out.2)
              have X2 := Lib.hid (And.intro m2 HR.out.2)
              clear m0 m1 m2 HQ HP HR
              have HQ := X0
              have HP := X1
              have HR := X2
              clear X0 X1 X2
              refine hK.out _ _ ⟨g1, g2⟩ (fun hS => ?_)
              clear hK K g1 g2
              try simp only [Act.put, List.setIfInBounds_toArray, List.set_cons_zero, List.set_cons_succ]
              obtain ⟨⟨p0, p1, p2, p3⟩, f0, f1, f2, f3⟩ := HR.out.1
              dsimp only at p0 p1 p2 p3
              refine wpAnyH_ready (rs := [20]) (by kernel_rfl) (by simp) ?_
              refine AllReadyH.cons (o := ⟨none, _, _, _, _, _⟩) rfl (fun K hK => ?_) AllReadyH.nil
              go_simp
              clear p0 p1 p2 p3 f0 f1 f2 f3
              have m0 := HR.out.1.set ⟨k3, s3, l3, t3⟩
              have m1 := HP.out.1.other (x := ⟨k3, s3, l3, t3⟩) (p := r) (by have h1 := NE.out.1; have h2 := NE.out.2.1; have h3 := NE.out.2.2; omega)
              have m2 := HQ.out.1.other (x := ⟨k3, s3, l3, t3⟩) (p := r) (by have h1 := NE.out.1; have h2 := NE.out.2.1; have h3 := NE.out.2.2; omega)
              have g1 := hS.1.other (g := ⟨k3, s3, l3, t3⟩) (p := r) (by have := HR.out.2.1; omega)
              have g2 := hS.2.trans (HR.out.1.belowSet ⟨k3, s3, l3, t3⟩ HR.out.2.2)
              dsimp only at m0 m1 m2 g1 g2
              generalize World.setCell (World.setCell (World.setCell (World.setCell (Y1) _ _) _ _) _ _) _ _ = Y2 at m0 m1 m2 g1 g2 ⊢
              have X0 := Lib.hid (And.intro m0 HR.out.2)
              have X1 := Lib.hid (And.intro m1 HP.out.2)
              have X2 := Lib.hid (And.intro m2 HQ.out.2)
              clear m0 m1 m2 HR HP HQ
              have HR := X0
              have HP := X1
              have HQ := X2
              clear X0 X1 X2
              refine hK.out _ _ ⟨g1, g2⟩ (fun hS => ?_)
              clear hK K g1 g2
              try simp only [Act.put, List.setIfInBounds_toArray, List.set_cons_zero, List.set_cons_succ]
              refine wpAnyH_done (by kernel_rfl) ?_ _
              have g1 := hS.1
              have g2 := hS.2
              clear hS
              go_wp2_with fail
              go_meet
              exact ⟨p, q, r, rfl, rfl, rfl, HP.out.1.1, HQ.out.1.1, HR.out.1.1, g1, g2⟩
          · go_simp
            have hb : Below U1.heap.size U1 (U1.alloc (.cells #[.int .i64 0, .string ⟨#[]⟩, .string ⟨#[]⟩, .string ⟨#[]⟩] 23)) := (Below.refl _ _).alloc (Nat.le_refl _) _
            have hm : Mine (U1.alloc (.cells #[.int .i64 0, .string ⟨#[]⟩, .string ⟨#[]⟩, .string ⟨#[]⟩] 23)) U1.heap.size ⟨0, ⟨#[]⟩, ⟨#[]⟩, ⟨#[]⟩⟩ := Mine.new U1
            have h1 : b < U1.heap.size := hS.1.lt
            have h2 : w.heap.size + 2 ≤ U1.heap.size := HSZ.out
            have g1 := hS.1.below hb
            have g2 := hS.2.trans (hb.mono hS.2.size)
            have HR2 := Lib.hid (And.intro (HR.out.1.below hb) HR.out.2)
            have lr : r < U1.heap.size := HR.out.1.1.lt
            clear HR
            have HR := HR2
            clear HR2
            have HSZ2 : Hid (w.heap.size + 2 ≤ (U1.alloc (.cells #[.int .i64 0, .string ⟨#[]⟩, .string ⟨#[]⟩, .string ⟨#[]⟩] 23)).heap.size) := Lib.hid (Nat.le_trans h2 hb.size)
            clear HSZ
            generalize U1.alloc _ = U2 at hb hm g1 g2 HSZ2 HR ⊢
            generalize U1.heap.size = q at hm h1 h2 lr ⊢
            have HQ := Lib.hid (And.intro hm (And.intro (Nat.ne_of_gt h1) h2))
            have HSZ := HSZ2
            clear hm h1 h2 hb HSZ2
            have NEA : Hid (r < q) := Lib.hid lr
            clear lr
            refine hK.out _ _ ⟨g1, g2⟩ (fun hS => ?_)
            clear hK K g1 g2
            try simp only [Act.put, List.setIfInBounds_toArray, List.set_cons_zero, List.set_cons_succ]
            refine wpAnyH_ready (rs := [15]) (by kernel_rfl) (by simp) ?_
            refine AllReadyH.cons (o := ⟨some 9, _, _, _, _, _⟩) rfl (fun K hK => ?_) (AllReadyH.nil)
            · go_simp
              have hb : Below U2.heap.size U2 (U2.alloc (.cells #[.int .i64 0, .string ⟨#[]⟩, .string ⟨#[]⟩, .string ⟨#[]⟩] 23)) := (Below.refl _ _).alloc (Nat.le_refl _) _
              have hm : Mine (U2.alloc (.cells #[.int .i64 0, .string ⟨#[]⟩, .string ⟨#[]⟩, .string ⟨#[]⟩] 23)) U2.heap.size ⟨0, ⟨#[]⟩, ⟨#[]⟩, ⟨#[]⟩⟩ := Mine.new U2
              have h1 : b < U2.heap.size := hS.1.lt
              have h2 : w.heap.size + 2 ≤ U2.heap.size := HSZ.out
              have g1 := hS.1.below hb
              have g2 := hS.2.trans (hb.mono hS.2.size)
              have HR2 := Lib.hid (And.intro (HR.out.1.below hb) HR.out.2)
              have lr : r < U2.heap.size := HR.out.1.1.lt
              clear HR
              have HR := HR2
              clear HR2
              have HQ2 := Lib.hid (And.intro (HQ.out.1.below hb) HQ.out.2)
              have lq : q < U2.heap.size := HQ.out.1.1.lt
              clear HQ
              have HQ := HQ2
              clear HQ2
              have HSZ2 : Hid (w.heap.size + 2 ≤ (U2.alloc (.cells #[.int .i64 0, .string ⟨#[]⟩, .string ⟨#[]⟩, .string ⟨#[]⟩] 23)).heap.size) := Lib.hid (Nat.le_trans h2 hb.size)
              clear HSZ
              generalize U2.alloc _ = U3 at hb hm g1 g2 HSZ2 HR HQ ⊢
              generalize U2.heap.size = p at hm h1 h2 lr lq ⊢
              have HP := Lib.hid (And.intro hm (And.intro (Nat.ne_of_gt h1) h2))
              have HSZ := HSZ2
              clear hm h1 h2 hb HSZ2
              have NE : Hid (p ≠ q ∧ p ≠ r ∧ q ≠ r) := Lib.hid (by have h1 := NEA.out; omega)
              clear lr lq
              refine hK.out _ _ ⟨g1, g2⟩ (fun hS => ?_)
              clear hK K g1 g2
              try simp only [Act.put, List.setIfInBounds_toArray, List.set_cons_zero, List.set_cons_succ]
              obtain ⟨⟨p0, p1, p2, p3⟩, f0, f1, f2, f3⟩ := HP.out.1
              dsimp only at p0 p1 p2 p3
              refine wpAnyH_ready (rs := [18]) (by kernel_rfl) (by simp) ?_
              refine AllReadyH.cons (o := ⟨none, _, _, _, _, _⟩) rfl (fun K hK => ?_) AllReadyH.nil
              go_simp
              clear p0 p1 p2 p3 f0 f1 f2 f3
              have m0 := HP.out.1.set ⟨k, s, l, t⟩
              have m1 := HQ.out.1.other (x := ⟨k, s, l, t⟩) (p := p) (by have h1 := NE.out.1; have h2 := NE.out.2.1; have h3 := NE.out.2.2; omega)
              have m2 := HR.out.1.other (x := ⟨k, s, l, t⟩) (p := p) (by have h1 := NE.out.1; have h2 := NE.out.2.1; have h3 := NE.out.2.2; omega)
              have g1 := hS.1.other (g := ⟨k, s, l, t⟩) (p := p) (by have := HP.out.2.1; omega)
              have g2 := hS.2.trans (HP.out.1.belowSet ⟨k, s, l, t⟩ HP.out.2.2)
              dsimp only at m0 m1 m2 g1 g2
              generalize World.setCell (World.setCell (World.setCell (World.setCell (U3) _ _) _ _) _ _) _ _ = Y0 at m0 m1 m2 g1 g2 ⊢
              have X0 := Lib.hid (And.intro m0 HP.out.2)
              have X1 := Lib.hid (And.intro m1 HQ.out.2)
              have X2 := Lib.hid (And.intro m2 HR.out.2)
              clear m0 m1 m2 HP HQ HR
              have HP := X0
              have HQ := X1
              have HR := X2
              clear X0 X1 X2
              refine hK.out _ _ ⟨g1, g2⟩ (fun hS => ?_)
              clear hK K g1 g2
              try simp only [Act.put, List.setIfInBounds_toArray, List.set_cons_zero, List.set_cons_succ]
              obtain ⟨⟨p0, p1, p2, p3⟩, f0, f1, f2, f3⟩ := HQ.out.1
              dsimp only at p0 p1 p2 p3
              refine wpAnyH_ready (rs := [19]) (by kernel_rfl) (by simp) ?_
              refine AllReadyH.cons (o := ⟨none, _, _, _, _, _⟩) rfl (fun K hK => ?_) AllReadyH.nil
              go_simp
              clear p0 p1 p2 p3 f0 f1 f2 f3
              have m0 := HQ.out.1.set ⟨k2, s2, l2, t2⟩
              have m1 := HP.out.1.other (x := ⟨k2, s2, l2, t2⟩) (p := q) (by have h1 := NE.out.1; have h2 := NE.out.2.1; have h3 := NE.out.2.2; omega)
              have m2 := HR.out.1.other (x := ⟨k2, s2, l2, t2⟩) (p := q) (by have h1 := NE.out.1; have h2 := NE.out.2.1; have h3 := NE.out.2.2; omega)
              have g1 := hS.1.other (g := ⟨k2, s2, l2, t2⟩) (p := q) (by have := HQ.out.2.1; omega)
              have g2 := hS.2.trans (HQ.out.1.belowSet ⟨k2, s2, l2, t2⟩ HQ.out.2.2)
              dsimp only at m0 m1 m2 g1 g2
              generalize World.setCell (World.setCell (World.setCell (World.setCell (Y0) _ _) _ _) _ _) _ _ = Y1 at m0 m1 m2 g1 g2 ⊢
              have X0 := Lib.hid (And.intro m0 HQ.out.2)
              have X1 := Lib.hid (And.intro m1 HP.out.2)
              have X2 := Lib.hid (And.intro m2 HR.out.2)
              clear m0 m1 m2 HQ HP HR
              have HQ := X0
              have HP := X1
              have HR := X2
              clear X0 X1 X2
              refine hK.out _ _ ⟨g1, g2⟩ (fun hS => ?_)
              clear hK K g1 g2
              try simp only [Act.put, List.setIfInBounds_toArray, List.set_cons_zero, List.set_cons_succ]
              obtain ⟨⟨p0, p1, p2, p3⟩, f0, f1, f2, f3⟩ := HR.out.1
              dsimp only at p0 p1 p2 p3
              refine wpAnyH_ready (rs := [20]) (by kernel_rfl) (by simp) ?_
              refine AllReadyH.cons (o := ⟨none, _, _, _, _, _⟩) rfl (fun K hK => ?_) AllReadyH.nil
              go_simp
              clear p0 p1 p2 p3 f0 f1 f2 f3
              have m0 := HR.out.1.set ⟨k3, s3, l3, t3⟩
              have m1 := HP.out.1.other (x := ⟨k3, s3, l3, t3⟩) (p := r) (by have h1 := NE.out.1; have h2 := NE.out.2.1; have h3 := NE.out.2.2; omega)
              have m2 := HQ.out.1.other (x := ⟨k3, s3, l3, t3⟩) (p := r) (by have h1 := NE.out.1; have h2 := NE.out.2.1; have h3 := NE.out.2.2; omega)
              have g1 := hS.1.other (g := ⟨k3, s3, l3, t3⟩) (p := r) (by have := HR.out.2.1; omega)
              have g2 := hS.2.trans (HR.out.1.belowSet ⟨k3, s3, l3, t3⟩ HR.out.2.2)
              dsimp only at m0 m1 m2 g1 g2
              generalize World.setCell (World.setCell (World.setCell (World.setCell (Y1) _ _) _ _) _ _) _ _ = Y2 at m0 m1 m2 g1 g2 ⊢
              have X0 := Lib.hid (And.intro m0 HR.out.2)
              have X1 := Lib.hid (And.intro m1 HP.out.2)
              have X2 := Lib.hid (And.intro m2 HQ.out.2)
              clear m0 m1 m2 HR HP HQ
              have HR := X0
              have HP := X1
              have HQ := X2
              clear X0 X1 X2
              refine hK.out _ _ ⟨g1, g2⟩ (fun hS => ?_)
              clear hK K g1 g2
              try simp only [Act.put, List.setIfInBounds_toArray, List.set_cons_zero, List.set_cons_succ]
              refine wpAnyH_done (by kernel_rfl) ?_ _
              have g1 := hS.1
              have g2 := hS.2
              clear hS
              go_wp2_with fail
              go_meet
              exact ⟨p, q, r, rfl, rfl, rfl, HP.out.1.1, HQ.out.1.1, HR.out.1.1, g1, g2⟩
      case rest =>
        obtain ⟨p, q, r, rfl, rfl, rfl, hp, hq, hr, h6, hbl⟩ := hcut
        have HS := Lib.hid (show (fun w' : World => Box w' p ⟨k, s, l, t⟩ ∧ Box w' q ⟨k2, s2, l2, t2⟩ ∧ Box w' r ⟨k3, s3, l3, t3⟩ ∧ Six w' b ⟨k, s, l, t⟩ ⟨k2, s2, l2, t2⟩ ⟨k3, s3, l3, t3⟩ ⟨gk, gs, gl, gt⟩ ⟨hk, hs', hl, ht⟩ ⟨jk, js, jl, jt⟩ ∧ Below w.heap.size w w') wc from ⟨hp, hq, hr, h6, hbl⟩)
        clear hp hq hr h6 hbl HSIX HBEL
        obtain ⟨cp, cq, cr, b1, b2, he0, htr, k1, k2', k3', k4, k5, k6, k7⟩ := cmp_facts ⟨k, s, l, t⟩ ⟨k2, s2, l2, t2⟩ ⟨k3, s3, l3, t3⟩
        have hst := equal_term ⟨k, s, l, t⟩ ⟨k2, s2, l2, t2⟩
        generalize eqB ⟨k, s, l, t⟩ ⟨k2, s2, l2, t2⟩ = eqb at he0 hst
        unfold Tm.val at k1 k2' k3' k4 k5 k6 k7 hst
        dsimp only at k1 k2' k3' k4 k5 k6 k7 hst
        have K1 := Lib.hid k1
        have K2 := Lib.hid k2'
        have K3 := Lib.hid k3'
        have K4 := Lib.hid k4
        have K5 := Lib.hid k5
        have K6 := Lib.hid k6
        have K7 := Lib.hid k7
        have HE0 := Lib.hid he0
        have HST := Lib.hid hst
        have hcase : 0 < cp ∨ (cp ≤ 0 ∧ 0 < cq) ∨ (cp ≤ 0 ∧ cq ≤ 0 ∧ cr ≤ 0) := by
          by_cases h1 : 0 < cp
          · exact .inl h1
          by_cases h2 : 0 < cq
          · exact .inr (.inl ⟨by omega, h2⟩)
          · exact .inr (.inr ⟨by omega, by omega, htr (by omega) (by omega)⟩)
        have HCASE := Lib.hid hcase
        clear k1 k2' k3' k4 k5 k6 k7 he0 hst htr hcase
        go_wp2_with fail
        obtain ⟨V0, hV0⟩ : ∃ V0, V0 = wc.drew := ⟨_, rfl⟩
        have hS : (fun w' : World => Box w' p ⟨k, s, l, t⟩ ∧ Box w' q ⟨k2, s2, l2, t2⟩ ∧ Box w' r ⟨k3, s3, l3, t3⟩ ∧ Six w' b ⟨k, s, l, t⟩ ⟨k2, s2, l2, t2⟩ ⟨k3, s3, l3, t3⟩ ⟨gk, gs, gl, gt⟩ ⟨hk, hs', hl, ht⟩ ⟨jk, js, jl, jt⟩ ∧ Below w.heap.size w w') V0 := by subst hV0; exact ⟨HS.out.1, HS.out.2.1, HS.out.2.2.1, HS.out.2.2.2.1, HS.out.2.2.2.2.drew⟩
        refine wp_region_any (by kernel_rfl) ?_
        change wpAny _ _ _ _ _ _ _ (World.drew _)
        rw [← hV0]
        clear hV0 HS
        refine wpAny_of_held (S := fun w' : World => Box w' p ⟨k, s, l, t⟩ ∧ Box w' q ⟨k2, s2, l2, t2⟩ ∧ Box w' r ⟨k3, s3, l3, t3⟩ ∧ Six w' b ⟨k, s, l, t⟩ ⟨k2, s2, l2, t2⟩ ⟨k3, s3, l3, t3⟩ ⟨gk, gs, gl, gt⟩ ⟨hk, hs', hl, ht⟩ ⟨jk, js, jl, jt⟩ ∧ Below w.heap.size w w') _ _ _ _ ?_
        try simp only [Act.put, List.setIfInBounds_toArray, List.set_cons_zero, List.set_cons_succ]
        refine wpAnyH_take (i := 0) (oi := ⟨some 61, _, _, _, _, _⟩) (v := ?_) rfl (by kernel_rfl) (by kernel_rfl) (by kernel_rfl) (fun _ _ _ h => h) (Or.inl ⟨by simp only [Region.wanted], ?_⟩) hS ?_
        rotate_left
        · intro wz hSw; obtain ⟨⟨c0, c1, c2, c3⟩, ⟨d0, d1, d2, d3⟩, ⟨e0, e1, e2, e3⟩, -⟩ := hSw
          (try dsimp only at hSw)
          (try go_split_ands)
          go_simp
          first | done | with_reducible rfl
        try simp only [Act.put, List.setIfInBounds_toArray, List.set_cons_zero, List.set_cons_succ]
        refine wpAnyH_take (i := 1) (oi := ⟨some 62, _, _, _, _, _⟩) (v := ?_) rfl (by kernel_rfl) (by kernel_rfl) (by kernel_rfl) (fun _ _ _ h => h) (Or.inl ⟨by simp only [Region.wanted], ?_⟩) hS ?_
        rotate_left
        · intro wz hSw; obtain ⟨⟨c0, c1, c2, c3⟩, ⟨d0, d1, d2, d3⟩, ⟨e0, e1, e2, e3⟩, -⟩ := hSw
          (try dsimp only at hSw)
          (try go_split_ands)
          go_simp
          first | done | with_reducible rfl
        try simp only [Act.put, List.setIfInBounds_toArray, List.set_cons_zero, List.set_cons_succ]
        refine wpAnyH_take (i := 3) (oi := ⟨some 64, _, _, _, _, _⟩) (v := ?_) rfl (by kernel_rfl) (by kernel_rfl) (by kernel_rfl) (fun _ _ _ h => h) (Or.inl ⟨by simp only [Region.wanted], ?_⟩) hS ?_
        rotate_left
        · intro wz hSw; obtain ⟨⟨c0, c1, c2, c3⟩, ⟨d0, d1, d2, d3⟩, ⟨e0, e1, e2, e3⟩, -⟩ := hSw
          (try dsimp only at hSw)
          (try go_split_ands)
          go_simp
          first | done | with_reducible rfl
        try simp only [Act.put, List.setIfInBounds_toArray, List.set_cons_zero, List.set_cons_succ]
        refine wpAnyH_take (i := 4) (oi := ⟨some 65, _, _, _, _, _⟩) (v := ?_) rfl (by kernel_rfl) (by kernel_rfl) (by kernel_rfl) (fun _ _ _ h => h) (Or.inl ⟨by simp only [Region.wanted], ?_⟩) hS ?_
        rotate_left
        · intro wz hSw; obtain ⟨⟨c0, c1, c2, c3⟩, ⟨d0, d1, d2, d3⟩, ⟨e0, e1, e2, e3⟩, -⟩ := hSw
          (try dsimp only at hSw)
          (try go_split_ands)
          go_simp
          first | done | with_reducible rfl
        try simp only [Act.put, List.setIfInBounds_toArray, List.set_cons_zero, List.set_cons_succ]
        refine wpAnyH_take (i := 6) (oi := ⟨some 67, _, _, _, _, _⟩) (v := ?_) rfl (by kernel_rfl) (by kernel_rfl) (by kernel_rfl) (fun _ _ _ h => h) (Or.inl ⟨by simp only [Region.wanted], ?_⟩) hS ?_
        rotate_left
        · intro wz hSw; obtain ⟨⟨c0, c1, c2, c3⟩, ⟨d0, d1, d2, d3⟩, ⟨e0, e1, e2, e3⟩, -⟩ := hSw
          (try dsimp only at hSw)
          (try go_split_ands)
          go_simp
          first | done | with_reducible rfl
        try simp only [Act.put, List.setIfInBounds_toArray, List.set_cons_zero, List.set_cons_succ]
        refine wpAnyH_take (i := 7) (oi := ⟨some 68, _, _, _, _, _⟩) (v := ?_) rfl (by kernel_rfl) (by kernel_rfl) (by kernel_rfl) (fun _ _ _ h => h) (Or.inl ⟨by simp only [Region.wanted], ?_⟩) hS ?_
        rotate_left
        · intro wz hSw; obtain ⟨⟨c0, c1, c2, c3⟩, ⟨d0, d1, d2, d3⟩, ⟨e0, e1, e2, e3⟩, -⟩ := hSw
          (try dsimp only at hSw)
          (try go_split_ands)
          go_simp
          first | done | with_reducible rfl
        try simp only [Act.put, List.setIfInBounds_toArray, List.set_cons_zero, List.set_cons_succ]
        refine wpAnyH_ready (rs := [2]) (by kernel_rfl) (by simp) ?_
        refine AllReadyH.cons (o := ⟨some 63, _, _, _, _, _⟩) rfl (fun K hK => ?_) AllReadyH.nil
        go_simp
        refine (K1.out _).mono ?_
        rintro e V63 ⟨rfl, hb1⟩
        go_simp
        refine hK.out _ _ (⟨hS.1.below hb1, hS.2.1.below hb1, hS.2.2.1.below hb1, hS.2.2.2.1.below hb1, hS.2.2.2.2.trans (hb1.mono hS.2.2.2.2.size)⟩) (fun hS => ?_)
        clear hK K
        try simp only [Act.put, List.setIfInBounds_toArray, List.set_cons_zero, List.set_cons_succ]
        clear hb1
        refine wpAnyH_ready (rs := [5]) (by kernel_rfl) (by simp) ?_
        refine AllReadyH.cons (o := ⟨some 66, _, _, _, _, _⟩) rfl (fun K hK => ?_) AllReadyH.nil
        go_simp
        refine (K2.out _).mono ?_
        rintro e V66 ⟨rfl, hb1⟩
        go_simp
        refine hK.out _ _ (⟨hS.1.below hb1, hS.2.1.below hb1, hS.2.2.1.below hb1, hS.2.2.2.1.below hb1, hS.2.2.2.2.trans (hb1.mono hS.2.2.2.2.size)⟩) (fun hS => ?_)
        clear hK K
        try simp only [Act.put, List.setIfInBounds_toArray, List.set_cons_zero, List.set_cons_succ]
        clear hb1
        refine wpAnyH_ready (rs := [8]) (by kernel_rfl) (by simp) ?_
        refine AllReadyH.cons (o := ⟨some 69, _, _, _, _, _⟩) rfl (fun K hK => ?_) AllReadyH.nil
        go_simp
        refine (K3.out _).mono ?_
        rintro e V69 ⟨rfl, hb1⟩
        go_simp
        refine hK.out _ _ (⟨hS.1.below hb1, hS.2.1.below hb1, hS.2.2.1.below hb1, hS.2.2.2.1.below hb1, hS.2.2.2.2.trans (hb1.mono hS.2.2.2.2.size)⟩) (fun hS => ?_)
        clear hK K
        try simp only [Act.put, List.setIfInBounds_toArray, List.set_cons_zero, List.set_cons_succ]
        clear hb1
        refine wpAnyH_take (i := 9) (oi := ⟨some 12, _, _, _, _, _⟩) (v := ?_) rfl (by kernel_rfl) (by kernel_rfl) (by kernel_rfl) (fun _ _ _ h => h) (Or.inl ⟨by simp only [Region.wanted], ?_⟩) hS ?_
        rotate_left
        · intro wz hSw
          clear hSw
          go_simp
          first | done | with_reducible rfl
        try simp only [Act.put, List.setIfInBounds_toArray, List.set_cons_zero, List.set_cons_succ]
        refine wpAnyH_take (i := 10) (oi := ⟨some 13, _, _, _, _, _⟩) (v := ?_) rfl (by kernel_rfl) (by kernel_rfl) (by kernel_rfl) (fun _ _ _ h => h) (Or.inl ⟨by simp only [Region.wanted], ?_⟩) hS ?_
        rotate_left
        · intro wz hSw
          clear hSw
          go_simp
          first | done | with_reducible rfl
        try simp only [Act.put, List.setIfInBounds_toArray, List.set_cons_zero, List.set_cons_succ]
        refine wpAnyH_take (i := 11) (oi := ⟨some 14, _, _, _, _, _⟩) (v := ?_) rfl (by kernel_rfl) (by kernel_rfl) (by kernel_rfl) (fun _ _ _ h => h) (Or.inl ⟨by simp only [Region.wanted], ?_⟩) hS ?_
        rotate_left
        · intro wz hSw
          clear hSw
          go_simp
          first | done | with_reducible rfl
        try simp only [Act.put, List.setIfInBounds_toArray, List.set_cons_zero, List.set_cons_succ]
        refine wpAnyH_done (by kernel_rfl) ?_ _
        have HS := Lib.hid hS
        clear hS K1 K2 K3
        obtain ⟨⟨c0, c1, c2, c3⟩, ⟨d0, d1, d2, d3⟩, ⟨e0, e1, e2, e3⟩, -⟩ := HS.out
        dsimp only at c0 c1 c2 c3 d0 d1 d2 d3 e0 e1 e2 e3
        go_wp2_with fail
        refine (K4.out _).mono ?_
        rintro e y4 ⟨rfl, hb⟩
        have HS2 := Lib.hid (show (fun w' : World => Box w' p ⟨k, s, l, t⟩ ∧ Box w' q ⟨k2, s2, l2, t2⟩ ∧ Box w' r ⟨k3, s3, l3, t3⟩ ∧ Six w' b ⟨k, s, l, t⟩ ⟨k2, s2, l2, t2⟩ ⟨k3, s3, l3, t3⟩ ⟨gk, gs, gl, gt⟩ ⟨hk, hs', hl, ht⟩ ⟨jk, js, jl, jt⟩ ∧ Below w.heap.size w w') y4 from ⟨HS.out.1.below hb, HS.out.2.1.below hb, HS.out.2.2.1.below hb, HS.out.2.2.2.1.below hb, HS.out.2.2.2.2.trans (hb.mono HS.out.2.2.2.2.size)⟩)
        clear HS hb c0 c1 c2 c3 d0 d1 d2 d3 e0 e1 e2 e3
        have HS := HS2
        clear HS2
        obtain ⟨⟨c0, c1, c2, c3⟩, ⟨d0, d1, d2, d3⟩, ⟨e0, e1, e2, e3⟩, -⟩ := HS.out
        dsimp only at c0 c1 c2 c3 d0 d1 d2 d3 e0 e1 e2 e3
        go_wp2_with fail
        refine (K5.out _).mono ?_
        rintro e y5 ⟨rfl, hb⟩
        have HS2 := Lib.hid (show (fun w' : World => Box w' p ⟨k, s, l, t⟩ ∧ Box w' q ⟨k2, s2, l2, t2⟩ ∧ Box w' r ⟨k3, s3, l3, t3⟩ ∧ Six w' b ⟨k, s, l, t⟩ ⟨k2, s2, l2, t2⟩ ⟨k3, s3, l3, t3⟩ ⟨gk, gs, gl, gt⟩ ⟨hk, hs', hl, ht⟩ ⟨jk, js, jl, jt⟩ ∧ Below w.heap.size w w') y5 from ⟨HS.out.1.below hb, HS.out.2.1.below hb, HS.out.2.2.1.below hb, HS.out.2.2.2.1.below hb, HS.out.2.2.2.2.trans (hb.mono HS.out.2.2.2.2.size)⟩)
        clear HS hb c0 c1 c2 c3 d0 d1 d2 d3 e0 e1 e2 e3
        have HS := HS2
        clear HS2
        obtain ⟨⟨c0, c1, c2, c3⟩, ⟨d0, d1, d2, d3⟩, ⟨e0, e1, e2, e3⟩, -⟩ := HS.out
        dsimp only at c0 c1 c2 c3 d0 d1 d2 d3 e0 e1 e2 e3
        go_wp2_with fail
        refine (K6.out _).mono ?_
        rintro e y6 ⟨rfl, hb⟩
        have HS2 := Lib.hid (show (fun w' : World => Box w' p ⟨k, s, l, t⟩ ∧ Box w' q ⟨k2, s2, l2, t2⟩ ∧ Box w' r ⟨k3, s3, l3, t3⟩ ∧ Six w' b ⟨k, s, l, t⟩ ⟨k2, s2, l2, t2⟩ ⟨k3, s3, l3, t3⟩ ⟨gk, gs, gl, gt⟩ ⟨hk, hs', hl, ht⟩ ⟨jk, js, jl, jt⟩ ∧ Below w.heap.size w w') y6 from ⟨HS.out.1.below hb, HS.out.2.1.below hb, HS.out.2.2.1.below hb, HS.out.2.2.2.1.below hb, HS.out.2.2.2.2.trans (hb.mono HS.out.2.2.2.2.size)⟩)
        clear HS hb c0 c1 c2 c3 d0 d1 d2 d3 e0 e1 e2 e3
        have HS := HS2
        clear HS2
        obtain ⟨⟨c0, c1, c2, c3⟩, ⟨d0, d1, d2, d3⟩, ⟨e0, e1, e2, e3⟩, -⟩ := HS.out
        dsimp only at c0 c1 c2 c3 d0 d1 d2 d3 e0 e1 e2 e3
        have hst := HST.out
        have he0 := HE0.out
        cases eqb <;> rcases HCASE.out with hc1 | ⟨hc1, hc2⟩ | ⟨hc1, hc2, hc3⟩
        all_goals first | (exfalso; simp at he0; omega) | skip
        all_goals
          go_wp2_with fail
          refine (K7.out _).mono ?_
          rintro e y7 ⟨rfl, hb⟩
          have HS2 := Lib.hid (show (fun w' : World => Box w' p ⟨k, s, l, t⟩ ∧ Box w' q ⟨k2, s2, l2, t2⟩ ∧ Box w' r ⟨k3, s3, l3, t3⟩ ∧ Six w' b ⟨k, s, l, t⟩ ⟨k2, s2, l2, t2⟩ ⟨k3, s3, l3, t3⟩ ⟨gk, gs, gl, gt⟩ ⟨hk, hs', hl, ht⟩ ⟨jk, js, jl, jt⟩ ∧ Below w.heap.size w w') y7 from ⟨HS.out.1.below hb, HS.out.2.1.below hb, HS.out.2.2.1.below hb, HS.out.2.2.2.1.below hb, HS.out.2.2.2.2.trans (hb.mono HS.out.2.2.2.2.size)⟩)
          clear HS hb c0 c1 c2 c3 d0 d1 d2 d3 e0 e1 e2 e3
          have HS := HS2
          clear HS2
          obtain ⟨⟨c0, c1, c2, c3⟩, ⟨d0, d1, d2, d3⟩, ⟨e0, e1, e2, e3⟩, -⟩ := HS.out
          dsimp only at c0 c1 c2 c3 d0 d1 d2 d3 e0 e1 e2 e3
          go_wp2_with fail
          go_roundw
          case rel => exact ⟨1, by omega, rfl, HS.out.2.2.2.1, HS.out.2.2.2.2⟩
          case measure => simp [intOf]
    · have HSZ : Hid (w.heap.size + 2 ≤ wr.heap.size) := Lib.hid (by have h1 := HB2.out; have h2 := HSIX.out.lt; omega)
      go_upto_region 9 with fail
      go_cut [9, 10, 11] from 42 to 115 (fun s9 s10 s11 wx => Thr w wx b s9 s10 s11 ⟨gk, gs, gl, gt⟩ ⟨hk, hs', hl, ht⟩ ⟨jk, js, jl, jt⟩ ⟨k, s, l, t⟩ ⟨k2, s2, l2, t2⟩ ⟨k3, s3, l3, t3⟩ ⟨gk, gs, gl, gt⟩ ⟨hk, hs', hl, ht⟩ ⟨jk, js, jl, jt⟩)
      case first =>
        obtain ⟨U0, hU0⟩ : ∃ U0, U0 = wr.drew := ⟨_, rfl⟩
        have hS : (fun w' : World => Six w' b ⟨k, s, l, t⟩ ⟨k2, s2, l2, t2⟩ ⟨k3, s3, l3, t3⟩ ⟨gk, gs, gl, gt⟩ ⟨hk, hs', hl, ht⟩ ⟨jk, js, jl, jt⟩ ∧ Below w.heap.size w w') U0 := by subst hU0; exact ⟨HSIX.out, HBEL.out.drew⟩
        refine wp_region_any (by kernel_rfl) ?_
        change wpAny _ _ _ _ _ _ _ (World.drew _)
        have HSZ0 : Hid (w.heap.size + 2 ≤ U0.heap.size) := Lib.hid (by subst hU0; exact HSZ.out)
        clear HSZ
        have HSZ := HSZ0
        clear HSZ0
        rw [← hU0]
        clear hU0
        refine wpAny_of_held (S := fun w' : World => Six w' b ⟨k, s, l, t⟩ ⟨k2, s2, l2, t2⟩ ⟨k3, s3, l3, t3⟩ ⟨gk, gs, gl, gt⟩ ⟨hk, hs', hl, ht⟩ ⟨jk, js, jl, jt⟩ ∧ Below w.heap.size w w') _ _ _ _ ?_
        try simp only [Act.put, List.setIfInBounds_toArray, List.set_cons_zero, List.set_cons_succ]
        refine wpAnyH_take (i := 0) (oi := ⟨some 46, _, _, _, _, _⟩) (v := ?_) rfl (by kernel_rfl) (by kernel_rfl) (by kernel_rfl) (fun _ _ _ h => h) (Or.inl ⟨by simp only [Region.wanted], ?_⟩) hS ?_
        rotate_left
        · intro wz hSw
          clear hSw
          go_simp
          first | done | with_reducible rfl
        try simp only [Act.put, List.setIfInBounds_toArray, List.set_cons_zero, List.set_cons_succ]
        refine wpAnyH_take (i := 1) (oi := ⟨some 47, _, _, _, _, _⟩) (v := ?_) rfl (by kernel_rfl) (by kernel_rfl) (by kernel_rfl) (fun _ _ _ h => h) (Or.inl ⟨by simp only [Region.wanted], ?_⟩) hS ?_
        rotate_left
        · intro wz hSw
          clear hSw
          go_simp
          first | done | with_reducible rfl
        try simp only [Act.put, List.setIfInBounds_toArray, List.set_cons_zero, List.set_cons_succ]
        refine wpAnyH_take (i := 2) (oi := ⟨some 48, _, _, _, _, _⟩) (v := ?_) rfl (by kernel_rfl) (by kernel_rfl) (by kernel_rfl) (fun _ _ _ h => h) (Or.inl ⟨by simp only [Region.wanted], ?_⟩) hS ?_
        rotate_left
        · intro wz hSw
          clear hSw
          go_simp
          first | done | with_reducible rfl
        try simp only [Act.put, List.setIfInBounds_toArray, List.set_cons_zero, List.set_cons_succ]
        refine wpAnyH_take (i := 3) (oi := ⟨some 49, _, _, _, _, _⟩) (v := ?_) rfl (by kernel_rfl) (by kernel_rfl) (by kernel_rfl) (fun _ _ _ h => h) (Or.inl ⟨by simp only [Region.wanted], ?_⟩) hS ?_
        rotate_left
        · intro wz hSw
          clear hSw
          go_simp
          first | done | with_reducible rfl
        try simp only [Act.put, List.setIfInBounds_toArray, List.set_cons_zero, List.set_cons_succ]
        refine wpAnyH_take (i := 4) (oi := ⟨some 50, _, _, _, _, _⟩) (v := ?_) rfl (by kernel_rfl) (by kernel_rfl) (by kernel_rfl) (fun _ _ _ h => h) (Or.inl ⟨by simp only [Region.wanted], ?_⟩) hS ?_
        rotate_left
        · intro wz hSw; obtain ⟨⟨c0, c1, c2, c3, c4, c5, c6, c7, c8, c9, c10, c11, c12, c13, c14, c15, c16, c17, c18, c19, c20, c21, c22, c23⟩, -⟩ := hSw
          (try dsimp only at hSw)
          (try go_split_ands)
          go_simp
          first | done | with_reducible rfl
        try simp only [Act.put, List.setIfInBounds_toArray, List.set_cons_zero, List.set_cons_succ]
        refine wpAnyH_take (i := 5) (oi := ⟨some 51, _, _, _, _, _⟩) (v := ?_) rfl (by kernel_rfl) (by kernel_rfl) (by kernel_rfl) (fun _ _ _ h => h) (Or.inl ⟨by simp only [Region.wanted], ?_⟩) hS ?_
        rotate_left
        · intro wz hSw
          clear hSw
          go_simp
          first | done | with_reducible rfl
        try simp only [Act.put, List.setIfInBounds_toArray, List.set_cons_zero, List.set_cons_succ]
        refine wpAnyH_take (i := 6) (oi := ⟨some 52, _, _, _, _, _⟩) (v := ?_) rfl (by kernel_rfl) (by kernel_rfl) (by kernel_rfl) (fun _ _ _ h => h) (Or.inl ⟨by simp only [Region.wanted], ?_⟩) hS ?_
        rotate_left
        · intro wz hSw
          clear hSw
          go_simp
          first | done | with_reducible rfl
        try simp only [Act.put, List.setIfInBounds_toArray, List.set_cons_zero, List.set_cons_succ]
        refine wpAnyH_take (i := 7) (oi := ⟨some 53, _, _, _, _, _⟩) (v := ?_) rfl (by kernel_rfl) (by kernel_rfl) (by kernel_rfl) (fun _ _ _ h => h) (Or.inl ⟨by simp only [Region.wanted], ?_⟩) hS ?_
        rotate_left
        · intro wz hSw
          clear hSw
          go_simp
          first | done | with_reducible rfl
        try simp only [Act.put, List.setIfInBounds_toArray, List.set_cons_zero, List.set_cons_succ]
        refine wpAnyH_take (i := 8) (oi := ⟨some 54, _, _, _, _, _⟩) (v := ?_) rfl (by kernel_rfl) (by kernel_rfl) (by kernel_rfl) (fun _ _ _ h => h) (Or.inl ⟨by simp only [Region.wanted], ?_⟩) hS ?_
        rotate_left
        · intro wz hSw
          clear hSw
          go_simp
          first | done | with_reducible rfl
        try simp only [Act.put, List.setIfInBounds_toArray, List.set_cons_zero, List.set_cons_succ]
        refine wpAnyH_take (i := 9) (oi := ⟨some 55, _, _, _, _, _⟩) (v := ?_) rfl (by kernel_rfl) (by kernel_rfl) (by kernel_rfl) (fun _ _ _ h => h) (Or.inl ⟨by simp only [Region.wanted], ?_⟩) hS ?_
        rotate_left
        · intro wz hSw; obtain ⟨⟨c0, c1, c2, c3, c4, c5, c6, c7, c8, c9, c10, c11, c12, c13, c14, c15, c16, c17, c18, c19, c20, c21, c22, c23⟩, -⟩ := hSw
          (try dsimp only at hSw)
          (try go_split_ands)
          go_simp
          first | done | with_reducible rfl
        try simp only [Act.put, List.setIfInBounds_toArray, List.set_cons_zero, List.set_cons_succ]
        refine wpAnyH_take (i := 10) (oi := ⟨some 56, _, _, _, _, _⟩) (v := ?_) rfl (by kernel_rfl) (by kernel_rfl) (by kernel_rfl) (fun _ _ _ h => h) (Or.inl ⟨by simp only [Region.wanted], ?_⟩) hS ?_
        rotate_left
        · intro wz hSw
          clear hSw
          go_simp
          first | done | with_reducible rfl
        try simp only [Act.put, List.setIfInBounds_toArray, List.set_cons_zero, List.set_cons_succ]
        refine wpAnyH_take (i := 11) (oi := ⟨some 57, _, _, _, _, _⟩) (v := ?_) rfl (by kernel_rfl) (by kernel_rfl) (by kernel_rfl) (fun _ _ _ h => h) (Or.inl ⟨by simp only [Region.wanted], ?_⟩) hS ?_
        rotate_left
        · intro wz hSw
          clear hSw
          go_simp
          first | done | with_reducible rfl
        try simp only [Act.put, List.setIfInBounds_toArray, List.set_cons_zero, List.set_cons_succ]
        refine wpAnyH_take (i := 12) (oi := ⟨some 58, _, _, _, _, _⟩) (v := ?_) rfl (by kernel_rfl) (by kernel_rfl) (by kernel_rfl) (fun _ _ _ h => h) (Or.inl ⟨by simp only [Region.wanted], ?_⟩) hS ?_
        rotate_left
        · intro wz hSw
          clear hSw
          go_simp
          first | done | with_reducible rfl
        try simp only [Act.put, List.setIfInBounds_toArray, List.set_cons_zero, List.set_cons_succ]
        refine wpAnyH_take (i := 13) (oi := ⟨some 59, _, _, _, _, _⟩) (v := ?_) rfl (by kernel_rfl) (by kernel_rfl) (by kernel_rfl) (fun _ _ _ h => h) (Or.inl ⟨by simp only [Region.wanted], ?_⟩) hS ?_
        rotate_left
        · intro wz hSw
          clear hSw
          go_simp
          first | done | with_reducible rfl
        try simp only [Act.put, List.setIfInBounds_toArray, List.set_cons_zero, List.set_cons_succ]
        refine wpAnyH_take (i := 14) (oi := ⟨some 60, _, _, _, _, _⟩) (v := ?_) rfl (by kernel_rfl) (by kernel_rfl) (by kernel_rfl) (fun _ _ _ h => h) (Or.inl ⟨by simp only [Region.wanted], ?_⟩) hS ?_
        rotate_left
        · intro wz hSw; obtain ⟨⟨c0, c1, c2, c3, c4, c5, c6, c7, c8, c9, c10, c11, c12, c13, c14, c15, c16, c17, c18, c19, c20, c21, c22, c23⟩, -⟩ := hSw
          (try dsimp only at hSw)
          (try go_split_ands)
          go_simp
          first | done | with_reducible rfl
        try simp only [Act.put, List.setIfInBounds_toArray, List.set_cons_zero, List.set_cons_succ]
        refine wpAnyH_ready (rs := [15, 16, 17]) (by kernel_rfl) (by simp) ?_
        refine AllReadyH.cons (o := ⟨some 9, _, _, _, _, _⟩) rfl (fun K hK => ?_) (AllReadyH.cons (o := ⟨some 10, _, _, _, _, _⟩) rfl (fun K hK => ?_) (AllReadyH.cons (o := ⟨some 11, _, _, _, _, _⟩) rfl (fun K hK => ?_) (AllReadyH.nil)))
        · go_simp
          have hb : Below U0.heap.size U0 (U0.alloc (.cells #[.int .i64 0, .string ⟨#[]⟩, .string ⟨#[]⟩, .string ⟨#[]⟩] 23)) := (Below.refl _ _).alloc (Nat.le_refl _) _
          have hm : Mine (U0.alloc (.cells #[.int .i64 0, .string ⟨#[]⟩, .string ⟨#[]⟩, .string ⟨#[]⟩] 23)) U0.heap.size ⟨0, ⟨#[]⟩, ⟨#[]⟩, ⟨#[]⟩⟩ := Mine.new U0
          have h1 : b < U0.heap.size := hS.1.lt
          have h2 : w.heap.size + 2 ≤ U0.heap.size := HSZ.out
          have g1 := hS.1.below hb
          have g2 := hS.2.trans (hb.mono hS.2.size)
          have HSZ2 : Hid (w.heap.size + 2 ≤ (U0.alloc (.cells #[.int .i64 0, .string ⟨#[]⟩, .string ⟨#[]⟩, .string ⟨#[]⟩] 23)).heap.size) := Lib.hid (Nat.le_trans h2 hb.size)
          clear HSZ
          generalize U0.alloc _ = U1 at hb hm g1 g2 HSZ2  ⊢
          generalize U0.heap.size = p at hm h1 h2  ⊢
          have HP := Lib.hid (And.intro hm (And.intro (Nat.ne_of_gt h1) h2))
          have HSZ := HSZ2
          clear hm h1 h2 hb HSZ2
          refine hK.out _ _ ⟨g1, g2⟩ (fun hS => ?_)
          clear hK K g1 g2
          try simp only [Act.put, List.setIfInBounds_toArray, List.set_cons_zero, List.set_cons_succ]
          refine wpAnyH_ready (rs := [16, 17]) (by kernel_rfl) (by simp) ?_
          refine AllReadyH.cons (o := ⟨some 10, _, _, _, _, _⟩) rfl (fun K hK => ?_) (AllReadyH.cons (o := ⟨some 11, _, _, _, _, _⟩) rfl (fun K hK => ?_) (AllReadyH.nil))
          · go_simp
            have hb : Below U1.heap.size U1 (U1.alloc (.cells #[.int .i64 0, .string ⟨#[]⟩, .string ⟨#[]⟩, .string ⟨#[]⟩] 23)) := (Below.refl _ _).alloc (Nat.le_refl _) _
            have hm : Mine (U1.alloc (.cells #[.int .i64 0, .string ⟨#[]⟩, .string ⟨#[]⟩, .string ⟨#[]⟩] 23)) U1.heap.size ⟨0, ⟨#[]⟩, ⟨#[]⟩, ⟨#[]⟩⟩ := Mine.new U1
            have h1 : b < U1.heap.size := hS.1.lt
            have h2 : w.heap.size + 2 ≤ U1.heap.size := HSZ.out
            have g1 := hS.1.below hb
            have g2 := hS.2.trans (hb.mono hS.2.size)
            have HP2 := Lib.hid (And.intro (HP.out.1.below hb) HP.out.2)
            have lp : p < U1.heap.size := HP.out.1.1.lt
            clear HP
            have HP := HP2
            clear HP2
            have HSZ2 : Hid (w.heap.size + 2 ≤ (U1.alloc (.cells #[.int .i64 0, .string ⟨#[]⟩, .string ⟨#[]⟩, .string ⟨#[]⟩] 23)).heap.size) := Lib.hid (Nat.le_trans h2 hb.size)
            clear HSZ
            generalize U1.alloc _ = U2 at hb hm g1 g2 HSZ2 HP ⊢
            generalize U1.heap.size = q at hm h1 h2 lp ⊢
            have HQ := Lib.hid (And.intro hm (And.intro (Nat.ne_of_gt h1) h2))
            have HSZ := HSZ2
            clear hm h1 h2 hb HSZ2
            have NEA : Hid (p < q) := Lib.hid lp
            clear lp
            refine hK.out _ _ ⟨g1, g2⟩ (fun hS => ?_)
            clear hK K g1 g2
            try simp only [Act.put, List.setIfInBounds_toArray, List.set_cons_zero, List.set_cons_succ]
            refine wpAnyH_ready (rs := [17]) (by kernel_rfl) (by simp) ?_
            refine AllReadyH.cons (o := ⟨some 11, _, _, _, _, _⟩) rfl (fun K hK => ?_) (AllReadyH.nil)
            · go_simp
              have hb : Below U2.heap.size U2 (U2.alloc (.cells #[.int .i64 0, .string ⟨#[]⟩, .string ⟨#[]⟩, .string ⟨#[]⟩] 23)) := (Below.refl _ _).alloc (Nat.le_refl _) _
              have hm : Mine (U2.alloc (.cells #[.int .i64 0, .string ⟨#[]⟩, .string ⟨#[]⟩, .string ⟨#[]⟩] 23)) U2.heap.size ⟨0, ⟨#[]⟩, ⟨#[]⟩, ⟨#[]⟩⟩ := Mine.new U2
              have h1 : b < U2.heap.size := hS.1.lt
              have h2 : w.heap.size + 2 ≤ U2.heap.size := HSZ.out
              have g1 := hS.1.below hb
              have g2 := hS.2.trans (hb.mono hS.2.size)
              have HP2 := Lib.hid (And.intro (HP.out.1.below hb) HP.out.2)
              have lp : p < U2.heap.size := HP.out.1.1.lt
              clear HP
              have HP := HP2
              clear HP2
              have HQ2 := Lib.hid (And.intro (HQ.out.1.below hb) HQ.out.2)
              have lq : q < U2.heap.size := HQ.out.1.1.lt
              clear HQ
              have HQ := HQ2
              clear HQ2
              have HSZ2 : Hid (w.heap.size + 2 ≤ (U2.alloc (.cells #[.int .i64 0, .string ⟨#[]⟩, .string ⟨#[]⟩, .string ⟨#[]⟩] 23)).heap.size) := Lib.hid (Nat.le_trans h2 hb.size)
              clear HSZ
              generalize U2.alloc _ = U3 at hb hm g1 g2 HSZ2 HP HQ ⊢
              generalize U2.heap.size = r at hm h1 h2 lp lq ⊢
              have HR := Lib.hid (And.intro hm (And.intro (Nat.ne_of_gt h1) h2))
              have HSZ := HSZ2
              clear hm h1 h2 hb HSZ2
              have NE : Hid (p ≠ q ∧ p ≠ r ∧ q ≠ r) := Lib.hid (by have h1 := NEA.out; omega)
              clear lp lq
              refine hK.out _ _ ⟨g1, g2⟩ (fun hS => ?_)
              clear hK K g1 g2
              try simp only [Act.put, List.setIfInBounds_toArray, List.set_cons_zero, List.set_cons_succ]
              obtain ⟨⟨p0, p1, p2, p3⟩, f0, f1, f2, f3⟩ := HP.out.1
              dsimp only at p0 p1 p2 p3
              refine wpAnyH_ready (rs := [18]) (by kernel_rfl) (by simp) ?_
              refine AllReadyH.cons (o := ⟨none, _, _, _, _, _⟩) rfl (fun K hK => ?_) AllReadyH.nil
              go_simp
              clear p0 p1 p2 p3 f0 f1 f2 f3
              have m0 := HP.out.1.set ⟨gk, gs, gl, gt⟩
              have m1 := HQ.out.1.other (x := ⟨gk, gs, gl, gt⟩) (p := p) (by have h1 := NE.out.1; have h2 := NE.out.2.1; have h3 := NE.out.2.2; omega)
              have m2 := HR.out.1.other (x := ⟨gk, gs, gl, gt⟩) (p := p) (by have h1 := NE.out.1; have h2 := NE.out.2.1; have h3 := NE.out.2.2; omega)
              have g1 := hS.1.other (g := ⟨gk, gs, gl, gt⟩) (p := p) (by have := HP.out.2.1; omega)
              have g2 := hS.2.trans (HP.out.1.belowSet ⟨gk, gs, gl, gt⟩ HP.out.2.2)
              dsimp only at m0 m1 m2 g1 g2
              generalize World.setCell (World.setCell (World.setCell (World.setCell (U3) _ _) _ _) _ _) _ _ = Y0 at m0 m1 m2 g1 g2 ⊢
              have X0 := Lib.hid (And.intro m0 HP.out.2)
              have X1 := Lib.hid (And.intro m1 HQ.out.2)
              have X2 := Lib.hid (And.intro m2 HR.out.2)
              clear m0 m1 m2 HP HQ HR
              have HP := X0
              have HQ := X1
              have HR := X2
              clear X0 X1 X2
              refine hK.out _ _ ⟨g1, g2⟩ (fun hS => ?_)
              clear hK K g1 g2
              try simp only [Act.put, List.setIfInBounds_toArray, List.set_cons_zero, List.set_cons_succ]
              obtain ⟨⟨p0, p1, p2, p3⟩, f0, f1, f2, f3⟩ := HQ.out.1
              dsimp only at p0 p1 p2 p3
              refine wpAnyH_ready (rs := [19]) (by kernel_rfl) (by simp) ?_
              refine AllReadyH.cons (o := ⟨none, _, _, _, _, _⟩) rfl (fun K hK => ?_) AllReadyH.nil
              go_simp
              clear p0 p1 p2 p3 f0 f1 f2 f3
              have m0 := HQ.out.1.set ⟨hk, hs', hl, ht⟩
              have m1 := HP.out.1.other (x := ⟨hk, hs', hl, ht⟩) (p := q) (by have h1 := NE.out.1; have h2 := NE.out.2.1; have h3 := NE.out.2.2; omega)
              have m2 := HR.out.1.other (x := ⟨hk, hs', hl, ht⟩) (p := q) (by have h1 := NE.out.1; have h2 := NE.out.2.1; have h3 := NE.out.2.2; omega)
              have g1 := hS.1.other (g := ⟨hk, hs', hl, ht⟩) (p := q) (by have := HQ.out.2.1; omega)
              have g2 := hS.2.trans (HQ.out.1.belowSet ⟨hk, hs', hl, ht⟩ HQ.out.2.2)
              dsimp only at m0 m1 m2 g1 g2
              generalize World.setCell (World.setCell (World.setCell (World.setCell (Y0) _ _) _ _) _ _) _ _ = Y1 at m0 m1 m2 g1 g2 ⊢
              have X0 := Lib.hid (And.intro m0 HQ.out.2)
              have X1 := Lib.hid (And.intro m1 HP.out.2)
              have X2 := Lib.hid (And.intro m2 HR.out.2)
              clear m0 m1 m2 HQ HP HR
              have HQ := X0
              have HP := X1
              have HR := X2
              clear X0 X1 X2
              refine hK.out _ _ ⟨g1, g2⟩ (fun hS => ?_)
              clear hK K g1 g2
              try simp only [Act.put, List.setIfInBounds_toArray, List.set_cons_zero, List.set_cons_succ]
              obtain ⟨⟨p0, p1, p2, p3⟩, f0, f1, f2, f3⟩ := HR.out.1
              dsimp only at p0 p1 p2 p3
              refine wpAnyH_ready (rs := [20]) (by kernel_rfl) (by simp) ?_
              refine AllReadyH.cons (o := ⟨none, _, _, _, _, _⟩) rfl (fun K hK => ?_) AllReadyH.nil
              go_simp
              clear p0 p1 p2 p3 f0 f1 f2 f3
              have m0 := HR.out.1.set ⟨jk, js, jl, jt⟩
              have m1 := HP.out.1.other (x := ⟨jk, js, jl, jt⟩) (p := r) (by have h1 := NE.out.1; have h2 := NE.out.2.1; have h3 := NE.out.2.2; omega)
              have m2 := HQ.out.1.other (x := ⟨jk, js, jl, jt⟩) (p := r) (by have h1 := NE.out.1; have h2 := NE.out.2.1; have h3 := NE.out.2.2; omega)
              have g1 := hS.1.other (g := ⟨jk, js, jl, jt⟩) (p := r) (by have := HR.out.2.1; omega)
              have g2 := hS.2.trans (HR.out.1.belowSet ⟨jk, js, jl, jt⟩ HR.out.2.2)
              dsimp only at m0 m1 m2 g1 g2
              generalize World.setCell (World.setCell (World.setCell (World.setCell (Y1) _ _) _ _) _ _) _ _ = Y2 at m0 m1 m2 g1 g2 ⊢
              have X0 := Lib.hid (And.intro m0 HR.out.2)
              have X1 := Lib.hid (And.intro m1 HP.out.2)
              have X2 := Lib.hid (And.intro m2 HQ.out.2)
              clear m0 m1 m2 HR HP HQ
              have HR := X0
              have HP := X1
              have HQ := X2
              clear X0 X1 X2
              refine hK.out _ _ ⟨g1, g2⟩ (fun hS => ?_)
              clear hK K g1 g2
              try simp only [Act.put, List.setIfInBounds_toArray, List.set_cons_zero, List.set_cons_succ]
              refine wpAnyH_done (by kernel_rfl) ?_ _
              have g1 := hS.1
              have g2 := hS.2
              clear hS
              go_wp2_with fail
              go_meet
              exact ⟨p, q, r, rfl, rfl, rfl, HP.out.1.1, HQ.out.1.1, HR.out.1.1, g1, g2⟩
          · go_simp
            have hb : Below U1.heap.size U1 (U1.alloc (.cells #[.int .i64 0, .string ⟨#[]⟩, .string ⟨#[]⟩, .string ⟨#[]⟩] 23)) := (Below.refl _ _).alloc (Nat.le_refl _) _
            have hm : Mine (U1.alloc (.cells #[.int .i64 0, .string ⟨#[]⟩, .string ⟨#[]⟩, .string ⟨#[]⟩] 23)) U1.heap.size ⟨0, ⟨#[]⟩, ⟨#[]⟩, ⟨#[]⟩⟩ := Mine.new U1
            have h1 : b < U1.heap.size := hS.1.lt
            have h2 : w.heap.size + 2 ≤ U1.heap.size := HSZ.out
            have g1 := hS.1.below hb
            have g2 := hS.2.trans (hb.mono hS.2.size)
            have HP2 := Lib.hid (And.intro (HP.out.1.below hb) HP.out.2)
            have lp : p < U1.heap.size := HP.out.1.1.lt
            clear HP
            have HP := HP2
            clear HP2
            have HSZ2 : Hid (w.heap.size + 2 ≤ (U1.alloc (.cells #[.int .i64 0, .string ⟨#[]⟩, .string ⟨#[]⟩, .string ⟨#[]⟩] 23)).heap.size) := Lib.hid (Nat.le_trans h2 hb.size)
            clear HSZ
            generalize U1.alloc _ = U2 at hb hm g1 g2 HSZ2 HP ⊢
            generalize U1.heap.size = r at hm h1 h2 lp ⊢
            have HR := Lib.hid (And.intro hm (And.intro (Nat.ne_of_gt h1) h2))
            have HSZ := HSZ2
            clear hm h1 h2 hb HSZ2
            have NEA : Hid (p < r) := Lib.hid lp
            clear lp
            refine hK.out _ _ ⟨g1, g2⟩ (fun hS => ?_)
            clear hK K g1 g2
            try simp only [Act.put, List.setIfInBounds_toArray, List.set_cons_zero, List.set_cons_succ]
            refine wpAnyH_ready (rs := [16]) (by kernel_rfl) (by simp) ?_
            refine AllReadyH.cons (o := ⟨some 10, _, _, _, _, _⟩) rfl (fun K hK => ?_) (AllReadyH.nil)
            · go_simp
              have hb : Below U2.heap.size U2 (U2.alloc (.cells #[.int .i64 0, .string ⟨#[]⟩, .string ⟨#[]⟩, .string ⟨#[]⟩] 23)) := (Below.refl _ _).alloc (Nat.le_refl _) _
              have hm : Mine (U2.alloc (.cells #[.int .i64 0, .string ⟨#[]⟩, .string ⟨#[]⟩, .string ⟨#[]⟩] 23)) U2.heap.size ⟨0, ⟨#[]⟩, ⟨#[]⟩, ⟨#[]⟩⟩ := Mine.new U2
              have h1 : b < U2.heap.size := hS.1.lt
              have h2 : w.heap.size + 2 ≤ U2.heap.size := HSZ.out
              have g1 := hS.1.below hb
              have g2 := hS.2.trans (hb.mono hS.2.size)
              have HP2 := Lib.hid (And.intro (HP.out.1.below hb) HP.out.2)
              have lp : p < U2.heap.size := HP.out.1.1.lt
              clear HP
              have HP := HP2
              clear HP2
              have HR2 := Lib.hid (And.intro (HR.out.1.below hb) HR.out.2)
              have lr : r < U2.heap.size := HR.out.1.1.lt
              clear HR
              have HR := HR2
              clear HR2
              have HSZ2 : Hid (w.heap.size + 2 ≤ (U2.alloc (.cells #[.int .i64 0, .string ⟨#[]⟩, .string ⟨#[]⟩, .string ⟨#[]⟩] 23)).heap.size) := Lib.hid (Nat.le_trans h2 hb.size)
              clear HSZ
              generalize U2.alloc _ = U3 at hb hm g1 g2 HSZ2 HP HR ⊢
              generalize U2.heap.size = q at hm h1 h2 lp lr ⊢
              have HQ := Lib.hid (And.intro hm (And.intro (Nat.ne_of_gt h1) h2))
              have HSZ := HSZ2
              clear hm h1 h2 hb HSZ2
              have NE : Hid (p ≠ q ∧ p ≠ r ∧ q ≠ r) := Lib.hid (by have h1 := NEA.out; omega)
              clear lp lr
              refine hK.out _ _ ⟨g1, g2⟩ (fun hS => ?_)
              clear hK K g1 g2
              try simp only [Act.put, List.setIfInBounds_toArray, List.set_cons_zero, List.set_cons_succ]
              obtain ⟨⟨p0, p1, p2, p3⟩, f0, f1, f2, f3⟩ := HP.out.1
              dsimp only at p0 p1 p2 p3
              refine wpAnyH_ready (rs := [18]) (by kernel_rfl) (by simp) ?_
              refine AllReadyH.cons (o := ⟨none, _, _, _, _, _⟩) rfl (fun K hK => ?_) AllReadyH.nil
              go_simp
              clear p0 p1 p2 p3 f0 f1 f2 f3
              have m0 := HP.out.1.set ⟨gk, gs, gl, gt⟩
              have m1 := HQ.out.1.other (x := ⟨gk, gs, gl, gt⟩) (p := p) (by have h1 := NE.out.1; have h2 := NE.out.2.1; have h3 := NE.out.2.2; omega)
              have m2 := HR.out.1.other (x := ⟨gk, gs, gl, gt⟩) (p := p) (by have h1 := NE.out.1; have h2 := NE.out.2.1; have h3 := NE.out.2.2; omega)
              have g1 := hS.1.other (g := ⟨gk, gs, gl, gt⟩) (p := p) (by have := HP.out.2.1; omega)
              have g2 := hS.2.trans (HP.out.1.belowSet ⟨gk, gs, gl, gt⟩ HP.out.2.2)
              dsimp only at m0 m1 m2 g1 g2
              generalize World.setCell (World.setCell (World.setCell (World.setCell (U3) _ _) _ _) _ _) _ _ = Y0 at m0 m1 m2 g1 g2 ⊢
              have X0 := Lib.hid (And.intro m0 HP.out.2)
              have X1 := Lib.hid (And.intro m1 HQ.out.2)
              have X2 := Lib.hid (And.intro m2 HR.out.2)
              clear m0 m1 m2 HP HQ HR
              have HP := X0
              have HQ := X1
              have HR := X2
              clear X0 X1 X2
              refine hK.out _ _ ⟨g1, g2⟩ (fun hS => ?_)
              clear hK K g1 g2
              try simp only [Act.put, List.setIfInBounds_toArray, List.set_cons_zero, List.set_cons_succ]
              obtain ⟨⟨p0, p1, p2, p3⟩, f0, f1, f2, f3⟩ := HQ.out.1
              dsimp only at p0 p1 p2 p3
              refine wpAnyH_ready (rs := [19]) (by kernel_rfl) (by simp) ?_
              refine AllReadyH.cons (o := ⟨none, _, _, _, _, _⟩) rfl (fun K hK => ?_) AllReadyH.nil
              go_simp
              clear p0 p1 p2 p3 f0 f1 f2 f3
              have m0 := HQ.out.1.set ⟨hk, hs', hl, ht⟩
              have m1 := HP.out.1.other (x := ⟨hk, hs', hl, ht⟩) (p := q) (by have h1 := NE.out.1; have h2 := NE.out.2.1; have h3 := NE.out.2.2; omega)
              have m2 := HR.out.1.other (x := ⟨hk, hs', hl, ht⟩) (p := q) (by have h1 := NE.out.1; have h2 := NE.out.2.1; have h3 := NE.out.2.2; omega)
              have g1 := hS.1.other (g := ⟨hk, hs', hl, ht⟩) (p := q) (by have := HQ.out.2.1; omega)
              have g2 := hS.2.trans (HQ.out.1.belowSet ⟨hk, hs', hl, ht⟩ HQ.out.2.2)
              dsimp only at m0 m1 m2 g1 g2
              generalize World.setCell (World.setCell (World.setCell (World.setCell (Y0) _ _) _ _) _ _) _ _ = Y1 at m0 m1 m2 g1 g2 ⊢
              have X0 := Lib.hid (And.intro m0 HQ.out.2)
              have X1 := Lib.hid (And.intro m1 HP.out.2)
              have X2 := Lib.hid (And.intro m2 HR.out.2)
              clear m0 m1 m2 HQ HP HR
              have HQ := X0
              have HP := X1
              have HR := X2
              clear X0 X1 X2
              refine hK.out _ _ ⟨g1, g2⟩ (fun hS => ?_)
              clear hK K g1 g2
              try simp only [Act.put, List.setIfInBounds_toArray, List.set_cons_zero, List.set_cons_succ]
              obtain ⟨⟨p0, p1, p2, p3⟩, f0, f1, f2, f3⟩ := HR.out.1
              dsimp only at p0 p1 p2 p3
              refine wpAnyH_ready (rs := [20]) (by kernel_rfl) (by simp) ?_
              refine AllReadyH.cons (o := ⟨none, _, _, _, _, _⟩) rfl (fun K hK => ?_) AllReadyH.nil
              go_simp
              clear p0 p1 p2 p3 f0 f1 f2 f3
              have m0 := HR.out.1.set ⟨jk, js, jl, jt⟩
              have m1 := HP.out.1.other (x := ⟨jk, js, jl, jt⟩) (p := r) (by have h1 := NE.out.1; have h2 := NE.out.2.1; have h3 := NE.out.2.2; omega)
              have m2 := HQ.out.1.other (x := ⟨jk, js, jl, jt⟩) (p := r) (by have h1 := NE.out.1; have h2 := NE.out.2.1; have h3 := NE.out.2.2; omega)
              have g1 := hS.1.other (g := ⟨jk, js, jl, jt⟩) (p := r) (by have := HR.out.2.1; omega)
              have g2 := hS.2.trans (HR.out.1.belowSet ⟨jk, js, jl, jt⟩ HR.out.2.2)
              dsimp only at m0 m1 m2 g1 g2
              generalize World.setCell (World.setCell (World.setCell (World.setCell (Y1) _ _) _ _) _ _) _ _ = Y2 at m0 m1 m2 g1 g2 ⊢
              have X0 := Lib.hid (And.intro m0 HR.out.2)
              have X1 := Lib.hid (And.intro m1 HP.out.2)
              have X2 := Lib.hid (And.intro m2 HQ.out.2)
              clear m0 m1 m2 HR HP HQ
              have HR := X0
              have HP := X1
              have HQ := X2
              clear X0 X1 X2
              refine hK.out _ _ ⟨g1, g2⟩ (fun hS => ?_)
              clear hK K g1 g2
              try simp only [Act.put, List.setIfInBounds_toArray, List.set_cons_zero, List.set_cons_succ]
              refine wpAnyH_done (by kernel_rfl) ?_ _
              have g1 := hS.1
              have g2 := hS.2
              clear hS
              go_wp2_with fail
              go_meet
              exact ⟨p, q, r, rfl, rfl, rfl, HP.out.1.1, HQ.out.1.1, HR.out.1.1, g1, g2⟩
        · go_simp
          have hb : Below U0.heap.size U0 (U0.alloc (.cells #[.int .i64 0, .string ⟨#[]⟩, .string ⟨#[]⟩, .string ⟨#[]⟩] 23)) := (Below.refl _ _).alloc (Nat.le_refl _) _
          have hm : Mine (U0.alloc (.cells #[.int .i64 0, .string ⟨#[]⟩, .string ⟨#[]⟩, .string ⟨#[]⟩] 23)) U0.heap.size ⟨0, ⟨#[]⟩, ⟨#[]⟩, ⟨#[]⟩⟩ := Mine.new U0
          have h1 : b < U0.heap.size := hS.1.lt
          have h2 : w.heap.size + 2 ≤ U0.heap.size := HSZ.out
          have g1 := hS.1.below hb
          have g2 := hS.2.trans (hb.mono hS.2.size)
          have HSZ2 : Hid (w.heap.size + 2 ≤ (U0.alloc (.cells #[.int .i64 0, .string ⟨#[]⟩, .string ⟨#[]⟩, .string ⟨#[]⟩] 23)).heap.size) := Lib.hid (Nat.le_trans h2 hb.size)
          clear HSZ
          generalize U0.alloc _ = U1 at hb hm g1 g2 HSZ2  ⊢
          generalize U0.heap.size = q at hm h1 h2  ⊢
          have HQ := Lib.hid (And.intro hm (And.intro (Nat.ne_of_gt h1) h2))
          have HSZ := HSZ2
          clear hm h1 h2 hb HSZ2
          refine hK.out _ _ ⟨g1, g2⟩ (fun hS => ?_)
          clear hK K g1 g2
          try simp only [Act.put, List.setIfInBounds_toArray, List.set_cons_zero, List.set_cons_succ]
          refine wpAnyH_ready (rs := [15, 17]) (by kernel_rfl) (by simp) ?_
          refine AllReadyH.cons (o := ⟨some 9, _, _, _, _, _⟩) rfl (fun K hK => ?_) (AllReadyH.cons (o := ⟨some 11, _, _, _, _, _⟩) rfl (fun K hK => ?_) (AllReadyH.nil))
          · go_simp
            have hb : Below U1.heap.size U1 (U1.alloc (.cells #[.int .i64 0, .string ⟨#[]⟩, .string ⟨#[]⟩, .string ⟨#[]⟩] 23)) := (Below.refl _ _).alloc (Nat.le_refl _) _
            have hm : Mine (U1.alloc (.cells #[.int .i64 0, .string ⟨#[]⟩, .string ⟨#[]⟩, .string ⟨#[]⟩] 23)) U1.heap.size ⟨0, ⟨#[]⟩, ⟨#[]⟩, ⟨#[]⟩⟩ := Mine.new U1
            have h1 : b < U1.heap.size := hS.1.lt
            have h2 : w.heap.size + 2 ≤ U1.heap.size := HSZ.out
            have g1 := hS.1.below hb
            have g2 := hS.2.trans (hb.mono hS.2.size)
            have HQ2 := Lib.hid (And.intro (HQ.out.1.below hb) HQ.out.2)
            have lq : q < U1.heap.size := HQ.out.1.1.lt
            clear HQ
            have HQ := HQ2
            clear HQ2
            have HSZ2 : Hid (w.heap.size + 2 ≤ (U1.alloc (.cells #[.int .i64 0, .string ⟨#[]⟩, .string ⟨#[]⟩, .string ⟨#[]⟩] 23)).heap.size) := Lib.hid (Nat.le_trans h2 hb.size)
            clear HSZ
            generalize U1.alloc _ = U2 at hb hm g1 g2 HSZ2 HQ ⊢
            generalize U1.heap.size = p at hm h1 h2 lq ⊢
            have HP := Lib.hid (And.intro hm (And.intro (Nat.ne_of_gt h1) h2))
            have HSZ := HSZ2
            clear hm h1 h2 hb HSZ2
            have NEA : Hid (q < p) := Lib.hid lq
            clear lq
            refine hK.out _ _ ⟨g1, g2⟩ (fun hS => ?_)
            clear hK K g1 g2
            try simp only [Act.put, List.setIfInBounds_toArray, List.set_cons_zero, List.set_cons_succ]
            refine wpAnyH_ready (rs := [17]) (by kernel_rfl) (by simp) ?_
            refine AllReadyH.cons (o := ⟨some 11, _, _, _, _, _⟩) rfl (fun K hK => ?_) (AllReadyH.nil)
            · go_simp
              have hb : Below U2.heap.size U2 (U2.alloc (.cells #[.int .i64 0, .string ⟨#[]⟩, .string ⟨#[]⟩, .string ⟨#[]⟩] 23)) := (Below.refl _ _).alloc (Nat.le_refl _) _
              have hm : Mine (U2.alloc (.cells #[.int .i64 0, .string ⟨#[]⟩, .string ⟨#[]⟩, .string ⟨#[]⟩] 23)) U2.heap.size ⟨0, ⟨#[]⟩, ⟨#[]⟩, ⟨#[]⟩⟩ := Mine.new U2
              have h1 : b < U2.heap.size := hS.1.lt
              have h2 : w.heap.size + 2 ≤ U2.heap.size := HSZ.out
              have g1 := hS.1.below hb
              have g2 := hS.2.trans (hb.mono hS.2.size)
              have HQ2 := Lib.hid (And.intro (HQ.out.1.below hb) HQ.out.2)
              have lq : q < U2.heap.size := HQ.out.1.1.lt
              clear HQ
              have HQ := HQ2
              clear HQ2
              have HP2 := Lib.hid (And.intro (HP.out.1.below hb) HP.out.2)
              have lp : p < U2.heap.size := HP.out.1.1.lt
              clear HP
              have HP := HP2
              clear HP2
              have HSZ2 : Hid (w.heap.size + 2 ≤ (U2.alloc (.cells #[.int .i64 0, .string ⟨#[]⟩, .string ⟨#[]⟩, .string ⟨#[]⟩] 23)).heap.size) := Lib.hid (Nat.le_trans h2 hb.size)
              clear HSZ
              generalize U2.alloc _ = U3 at hb hm g1 g2 HSZ2 HQ HP ⊢
              generalize U2.heap.size = r at hm h1 h2 lq lp ⊢
              have HR := Lib.hid (And.intro hm (And.intro (Nat.ne_of_gt h1) h2))
              have HSZ := HSZ2
              clear hm h1 h2 hb HSZ2
              have NE : Hid (p ≠ q ∧ p ≠ r ∧ q ≠ r) := Lib.hid (by have h1 := NEA.out; omega)
              clear lq lp
              refine hK.out _ _ ⟨g1, g2⟩ (fun hS => ?_)
              clear hK K g1 g2
              try simp only [Act.put, List.setIfInBounds_toArray, List.set_cons_zero, List.set_cons_succ]
              obtain ⟨⟨p0, p1, p2, p3⟩, f0, f1, f2, f3⟩ := HP.out.1
              dsimp only at p0 p1 p2 p3
              refine wpAnyH_ready (rs := [18]) (by kernel_rfl) (by simp) ?_
              refine AllReadyH.cons (o := ⟨none, _, _, _, _, _⟩) rfl (fun K hK => ?_) AllReadyH.nil
              go_simp
              clear p0 p1 p2 p3 f0 f1 f2 f3
              have m0 := HP.out.1.set ⟨gk, gs, gl, gt⟩
              have m1 := HQ.out.1.other (x := ⟨gk, gs, gl, gt⟩) (p := p) (by have h1 := NE.out.1; have h2 := NE.out.2.1; have h3 := NE.out.2.2; omega)
              have m2 := HR.out.1.other (x := ⟨gk, gs, gl, gt⟩) (p := p) (by have h1 := NE.out.1; have h2 := NE.out.2.1; have h3 := NE.out.2.2; omega)
              have g1 := hS.1.other (g := ⟨gk, gs, gl, gt⟩) (p := p) (by have := HP.out.2.1; omega)
              have g2 := hS.2.trans (HP.out.1.belowSet ⟨gk, gs, gl, gt⟩ HP.out.2.2)
              dsimp only at m0 m1 m2 g1 g2
              generalize World.setCell (World.setCell (World.setCell (World.setCell (U3) _ _) _ _) _ _) _ _ = Y0 at m0 m1 m2 g1 g2 ⊢
              have X0 := Lib.hid (And.intro m0 HP.out.2)
              have X1 := Lib.hid (And.intro m1 HQ.out.2)
              have X2 := Lib.hid (And.intro m2 HR.out.2)
              clear m0 m1 m2 HP HQ HR
              have HP := X0
              have HQ := X1
              have HR := X2
              clear X0 X1 X2
              refine hK.out _ _ ⟨g1, g2⟩ (fun hS => ?_)
              clear hK K g1 g2
              try simp only [Act.put, List.setIfInBounds_toArray, List.set_cons_zero, List.set_cons_succ]
              obtain ⟨⟨p0, p1, p2, p3⟩, f0, f1, f2, f3⟩ := HQ.out.1
              dsimp only at p0 p1 p2 p3
              refine wpAnyH_ready (rs := [19]) (by kernel_rfl) (by simp) ?_
              refine AllReadyH.cons (o := ⟨none, _, _, _, _, _⟩) rfl (fun K hK => ?_) AllReadyH.nil
              go_simp
              clear p0 p1 p2 p3 f0 f1 f2 f3
              have m0 := HQ.out.1.set ⟨hk, hs', hl, ht⟩
              have m1 := HP.out.1.other (x := ⟨hk, hs', hl, ht⟩) (p := q) (by have h1 := NE.out.1; have h2 := NE.out.2.1; have h3 := NE.out.2.2; omega)
              have m2 := HR.out.1.other (x := ⟨hk, hs', hl, ht⟩) (p := q) (by have h1 := NE.out.1; have h2 := NE.out.2.1; have h3 := NE.out.2.2; omega)
              have g1 := hS.1.other (g := ⟨hk, hs', hl, ht⟩) (p := q) (by have := HQ.out.2.1; omega)
              have g2 := hS.2.trans (HQ.out.1.belowSet ⟨hk, hs', hl, ht⟩ HQ.out.2.2)
              dsimp only at m0 m1 m2 g1 g2
              generalize World.setCell (World.setCell (World.setCell (World.setCell (Y0) _ _) _ _) _ _) _ _ = Y1 at m0 m1 m2 g1 g2 ⊢
              have X0 := Lib.hid (And.intro m0 HQ.out.2)
              have X1 := Lib.hid (And.intro m1 HP.out.2)
              have X2 := Lib.hid (And.intro m2 HR.out.2)
              clear m0 m1 m2 HQ HP HR
              have HQ := X0
              have HP := X1
              have HR := X2
              clear X0 X1 X2
              refine hK.out _ _ ⟨g1, g2⟩ (fun hS => ?_)
              clear hK K g1 g2
              try simp only [Act.put, List.setIfInBounds_toArray, List.set_cons_zero, List.set_cons_succ]
              obtain ⟨⟨p0, p1, p2, p3⟩, f0, f1, f2, f3⟩ := HR.out.1
              dsimp only at p0 p1 p2 p3
              refine wpAnyH_ready (rs := [20]) (by kernel_rfl) (by simp) ?_
              refine AllReadyH.cons (o := ⟨none, _, _, _, _, _⟩) rfl (fun K hK => ?_) AllReadyH.nil
              go_simp
              clear p0 p1 p2 p3 f0 f1 f2 f3
              have m0 := HR.out.1.set ⟨jk, js, jl, jt⟩
              have m1 := HP.out.1.other (x := ⟨jk, js, jl, jt⟩) (p := r) (by have h1 := NE.out.1; have h2 := NE.out.2.1; have h3 := NE.out.2.2; omega)
              have m2 := HQ.out.1.other (x := ⟨jk, js, jl, jt⟩) (p := r) (by have h1 := NE.out.1; have h2 := NE.out.2.1; have h3 := NE.out.2.2; omega)
              have g1 := hS.1.other (g := ⟨jk, js, jl, jt⟩) (p := r) (by have := HR.out.2.1; omega)
              have g2 := hS.2.trans (HR.out.1.belowSet ⟨jk, js, jl, jt⟩ HR.out.2.2)
              dsimp only at m0 m1 m2 g1 g2
              generalize World.setCell (World.setCell (World.setCell (World.setCell (Y1) _ _) _ _) _ _) _ _ = Y2 at m0 m1 m2 g1 g2 ⊢
              have X0 := Lib.hid (And.intro m0 HR.out.2)
              have X1 := Lib.hid (And.intro m1 HP.out.2)
              have X2 := Lib.hid (And.intro m2 HQ.out.2)
              clear m0 m1 m2 HR HP HQ
              have HR := X0
              have HP := X1
              have HQ := X2
              clear X0 X1 X2
              refine hK.out _ _ ⟨g1, g2⟩ (fun hS => ?_)
              clear hK K g1 g2
              try simp only [Act.put, List.setIfInBounds_toArray, List.set_cons_zero, List.set_cons_succ]
              refine wpAnyH_done (by kernel_rfl) ?_ _
              have g1 := hS.1
              have g2 := hS.2
              clear hS
              go_wp2_with fail
              go_meet
              exact ⟨p, q, r, rfl, rfl, rfl, HP.out.1.1, HQ.out.1.1, HR.out.1.1, g1, g2⟩
          · go_simp
            have hb : Below U1.heap.size U1 (U1.alloc (.cells #[.int .i64 0, .string ⟨#[]⟩, .string ⟨#[]⟩, .string ⟨#[]⟩] 23)) := (Below.refl _ _).alloc (Nat.le_refl _) _
            have hm : Mine (U1.alloc (.cells #[.int .i64 0, .string ⟨#[]⟩, .string ⟨#[]⟩, .string ⟨#[]⟩] 23)) U1.heap.size ⟨0, ⟨#[]⟩, ⟨#[]⟩, ⟨#[]⟩⟩ := Mine.new U1
            have h1 : b < U1.heap.size := hS.1.lt
            have h2 : w.heap.size + 2 ≤ U1.heap.size := HSZ.out
            have g1 := hS.1.below hb
            have g2 := hS.2.trans (hb.mono hS.2.size)
            have HQ2 := Lib.hid (And.intro (HQ.out.1.below hb) HQ.out.2)
            have lq : q < U1.heap.size := HQ.out.1.1.lt
            clear HQ
            have HQ := HQ2
            clear HQ2
            have HSZ2 : Hid (w.heap.size + 2 ≤ (U1.alloc (.cells #[.int .i64 0, .string ⟨#[]⟩, .string ⟨#[]⟩, .string ⟨#[]⟩] 23)).heap.size) := Lib.hid (Nat.le_trans h2 hb.size)
            clear HSZ
            generalize U1.alloc _ = U2 at hb hm g1 g2 HSZ2 HQ ⊢
            generalize U1.heap.size = r at hm h1 h2 lq ⊢
            have HR := Lib.hid (And.intro hm (And.intro (Nat.ne_of_gt h1) h2))
            have HSZ := HSZ2
            clear hm h1 h2 hb HSZ2
            have NEA : Hid (q < r) := Lib.hid lq
            clear lq
            refine hK.out _ _ ⟨g1, g2⟩ (fun hS => ?_)
            clear hK K g1 g2
            try simp only [Act.put, List.setIfInBounds_toArray, List.set_cons_zero, List.set_cons_succ]
            refine wpAnyH_ready (rs := [15]) (by kernel_rfl) (by simp) ?_
            refine AllReadyH.cons (o := ⟨some 9, _, _, _, _, _⟩) rfl (fun K hK => ?_) (AllReadyH.nil)
            · go_simp
              have hb : Below U2.heap.size U2 (U2.alloc (.cells #[.int .i64 0, .string ⟨#[]⟩, .string ⟨#[]⟩, .string ⟨#[]⟩] 23)) := (Below.refl _ _).alloc (Nat.le_refl _) _
              have hm : Mine (U2.alloc (.cells #[.int .i64 0, .string ⟨#[]⟩, .string ⟨#[]⟩, .string ⟨#[]⟩] 23)) U2.heap.size ⟨0, ⟨#[]⟩, ⟨#[]⟩, ⟨#[]⟩⟩ := Mine.new U2
              have h1 : b < U2.heap.size := hS.1.lt
              have h2 : w.heap.size + 2 ≤ U2.heap.size := HSZ.out
              have g1 := hS.1.below hb
              have g2 := hS.2.trans (hb.mono hS.2.size)
              have HQ2 := Lib.hid (And.intro (HQ.out.1.below hb) HQ.out.2)
              have lq : q < U2.heap.size := HQ.out.1.1.lt
              clear HQ
              have HQ := HQ2
              clear HQ2
              have HR2 := Lib.hid (And.intro (HR.out.1.below hb) HR.out.2)
              have lr : r < U2.heap.size := HR.out.1.1.lt
              clear HR
              have HR := HR2
              clear HR2
              have HSZ2 : Hid (w.heap.size + 2 ≤ (U2.alloc (.cells #[.int .i64 0, .string ⟨#[]⟩, .string ⟨#[]⟩, .string ⟨#[]⟩] 23)).heap.size) := Lib.hid (Nat.le_trans h2 hb.size)
              clear HSZ
              generalize U2.alloc _ = U3 at hb hm g1 g2 HSZ2 HQ HR ⊢
              generalize U2.heap.size = p at hm h1 h2 lq lr ⊢
              have HP := Lib.hid (And.intro hm (And.intro (Nat.ne_of_gt h1) h2))
              have HSZ := HSZ2
              clear hm h1 h2 hb HSZ2
              have NE : Hid (p ≠ q ∧ p ≠ r ∧ q ≠ r) := Lib.hid (by have h1 := NEA.out; omega)
              clear lq lr
              refine hK.out _ _ ⟨g1, g2⟩ (fun hS => ?_)
              clear hK K g1 g2
              try simp only [Act.put, List.setIfInBounds_toArray, List.set_cons_zero, List.set_cons_succ]
              obtain ⟨⟨p0, p1, p2, p3⟩, f0, f1, f2, f3⟩ := HP.out.1
              dsimp only at p0 p1 p2 p3
              refine wpAnyH_ready (rs := [18]) (by kernel_rfl) (by simp) ?_
              refine AllReadyH.cons (o := ⟨none, _, _, _, _, _⟩) rfl (fun K hK => ?_) AllReadyH.nil
              go_simp
              clear p0 p1 p2 p3 f0 f1 f2 f3
              have m0 := HP.out.1.set ⟨gk, gs, gl, gt⟩
              have m1 := HQ.out.1.other (x := ⟨gk, gs, gl, gt⟩) (p := p) (by have h1 := NE.out.1; have h2 := NE.out.2.1; have h3 := NE.out.2.2; omega)
              have m2 := HR.out.1.other (x := ⟨gk, gs, gl, gt⟩) (p := p) (by have h1 := NE.out.1; have h2 := NE.out.2.1; have h3 := NE.out.2.2; omega)
              have g1 := hS.1.other (g := ⟨gk, gs, gl, gt⟩) (p := p) (by have := HP.out.2.1; omega)
              have g2 := hS.2.trans (HP.out.1.belowSet ⟨gk, gs, gl, gt⟩ HP.out.2.2)
              dsimp only at m0 m1 m2 g1 g2
              generalize World.setCell (World.setCell (World.setCell (World.setCell (U3) _ _) _ _) _ _) _ _ = Y0 at m0 m1 m2 g1 g2 ⊢
              have X0 := Lib.hid (And.intro m0 HP.out.2)
              have X1 := Lib.hid (And.intro m1 HQ.out.2)
              have X2 := Lib.hid (And.intro m2 HR.out.2)
              clear m0 m1 m2 HP HQ HR
              have HP := X0
              have HQ := X1
              have HR := X2
              clear X0 X1 X2
              refine hK.out _ _ ⟨g1, g2⟩ (fun hS => ?_)
              clear hK K g1 g2
              try simp only [Act.put, List.setIfInBounds_toArray, List.set_cons_zero, List.set_cons_succ]
              obtain ⟨⟨p0, p1, p2, p3⟩, f0, f1, f2, f3⟩ := HQ.out.1
              dsimp only at p0 p1 p2 p3
              refine wpAnyH_ready (rs := [19]) (by kernel_rfl) (by simp) ?_
              refine AllReadyH.cons (o := ⟨none, _, _, _, _, _⟩) rfl (fun K hK => ?_) AllReadyH.nil
              go_simp
              clear p0 p1 p2 p3 f0 f1 f2 f3
              have m0 := HQ.out.1.set ⟨hk, hs', hl, ht⟩
              have m1 := HP.out.1.other (x := ⟨hk, hs', hl, ht⟩) (p := q) (by have h1 := NE.out.1; have h2 := NE.out.2.1; have h3 := NE.out.2.2; omega)
              have m2 := HR.out.1.other (x := ⟨hk, hs', hl, ht⟩) (p := q) (by have h1 := NE.out.1; have h2 := NE.out.2.1; have h3 := NE.out.2.2; omega)
              have g1 := hS.1.other (g := ⟨hk, hs', hl, ht⟩) (p := q) (by have := HQ.out.2.1; omega)
              have g2 := hS.2.trans (HQ.out.1.belowSet ⟨hk, hs', hl, ht⟩ HQ.out.2.2)
              dsimp only at m0 m1 m2 g1 g2
              generalize World.setCell (World.setCell (World.setCell (World.setCell (Y0) _ _) _ _) _ _) _ _ = Y1 at m0 m1 m2 g1 g2 ⊢
              have X0 := Lib.hid (And.intro m0 HQ.out.2)
              have X1 := Lib.hid (And.intro m1 HP.out.2)
              have X2 := Lib.hid (And.intro m2 HR.out.2)
              clear m0 m1 m2 HQ HP HR
              have HQ := X0
              have HP := X1
              have HR := X2
              clear X0 X1 X2
              refine hK.out _ _ ⟨g1, g2⟩ (fun hS => ?_)
              clear hK K g1 g2
              try simp only [Act.put, List.setIfInBounds_toArray, List.set_cons_zero, List.set_cons_succ]
              obtain ⟨⟨p0, p1, p2, p3⟩, f0, f1, f2, f3⟩ := HR.out.1
              dsimp only at p0 p1 p2 p3
              refine wpAnyH_ready (rs := [20]) (by kernel_rfl) (by simp) ?_
              refine AllReadyH.cons (o := ⟨none, _, _, _, _, _⟩) rfl (fun K hK => ?_) AllReadyH.nil
              go_simp
              clear p0 p1 p2 p3 f0 f1 f2 f3
              have m0 := HR.out.1.set ⟨jk, js, jl, jt⟩
              have m1 := HP.out.1.other (x := ⟨jk, js, jl, jt⟩) (p := r) (by have h1 := NE.out.1; have h2 := NE.out.2.1; have h3 := NE.out.2.2; omega)
              have m2 := HQ.out.1.other (x := ⟨jk, js, jl, jt⟩) (p := r) (by have h1 := NE.out.1; have h2 := NE.out.2.1; have h3 := NE.out.2.2; omega)
              have g1 := hS.1.other (g := ⟨jk, js, jl, jt⟩) (p := r) (by have := HR.out.2.1; omega)
              have g2 := hS.2.trans (HR.out.1.belowSet ⟨jk, js, jl, jt⟩ HR.out.2.2)
              dsimp only at m0 m1 m2 g1 g2
              generalize World.setCell (World.setCell (World.setCell (World.setCell (Y1) _ _) _ _) _ _) _ _ = Y2 at m0 m1 m2 g1 g2 ⊢
              have X0 := Lib.hid (And.intro m0 HR.out.2)
              have X1 := Lib.hid (And.intro m1 HP.out.2)
              have X2 := Lib.hid (And.intro m2 HQ.out.2)
              clear m0 m1 m2 HR HP HQ
              have HR := X0
              have HP := X1
              have HQ := X2
              clear X0 X1 X2
              refine hK.out _ _ ⟨g1, g2⟩ (fun hS => ?_)
              clear hK K g1 g2
              try simp only [Act.put, List.setIfInBounds_toArray, List.set_cons_zero, List.set_cons_succ]
              refine wpAnyH_done (by kernel_rfl) ?_ _
              have g1 := hS.1
              have g2 := hS.2
              clear hS
              go_wp2_with fail
              go_meet
              exact ⟨p, q, r, rfl, rfl, rfl, HP.out.1.1, HQ.out.1.1, HR.out.1.1, g1, g2⟩
        · go_simp
          have hb : Below U0.heap.size U0 (U0.alloc (.cells #[.int .i64 0, .string ⟨#[]⟩, .string ⟨#[]⟩, .string ⟨#[]⟩] 23)) := (Below.refl _ _).alloc (Nat.le_refl _) _
          have hm : Mine (U0.alloc (.cells #[.int .i64 0, .string ⟨#[]⟩, .string ⟨#[]⟩, .string ⟨#[]⟩] 23)) U0.heap.size ⟨0, ⟨#[]⟩, ⟨#[]⟩, ⟨#[]⟩⟩ := Mine.new U0
          have h1 : b < U0.heap.size := hS.1.lt
          have h2 : w.heap.size + 2 ≤ U0.heap.size := HSZ.out
          have g1 := hS.1.below hb
          have g2 := hS.2.trans (hb.mono hS.2.size)
          have HSZ2 : Hid (w.heap.size + 2 ≤ (U0.alloc (.cells #[.int .i64 0, .string ⟨#[]⟩, .string ⟨#[]⟩, .string ⟨#[]⟩] 23)).heap.size) := Lib.hid (Nat.le_trans h2 hb.size)
          clear HSZ
          generalize U0.alloc _ = U1 at hb hm g1 g2 HSZ2  ⊢
          generalize U0.heap.size = r at hm h1 h2  ⊢
          have HR := Lib.hid (And.intro hm (And.intro (Nat.ne_of_gt h1) h2))
          have HSZ := HSZ2
          clear hm h1 h2 hb HSZ2
          refine hK.out _ _ ⟨g1, g2⟩ (fun hS => ?_)
          clear hK K g1 g2
          try simp only [Act.put, List.setIfInBounds_toArray, List.set_cons_zero, List.set_cons_succ]
          refine wpAnyH_ready (rs := [15, 16]) (by kernel_rfl) (by simp) ?_
          refine AllReadyH.cons (o := ⟨some 9, _, _, _, _, _⟩) rfl (fun K hK => ?_) (AllReadyH.cons (o := ⟨some 10, _, _, _, _, _⟩) rfl (fun K hK => ?_) (AllReadyH.nil))
          · go_simp
            have hb : Below U1.heap.size U1 (U1.alloc (.cells #[.int .i64 0, .string ⟨#[]⟩, .string ⟨#[]⟩, .string ⟨#[]⟩] 23)) := (Below.refl _ _).alloc (Nat.le_refl _) _
            have hm : Mine (U1.alloc (.cells #[.int .i64 0, .string ⟨#[]⟩, .string ⟨#[]⟩, .string ⟨#[]⟩] 23)) U1.heap.size ⟨0, ⟨#[]⟩, ⟨#[]⟩, ⟨#[]⟩⟩ := Mine.new U1
            have h1 : b < U1.heap.size := hS.1.lt
            have h2 : w.heap.size + 2 ≤ U1.heap.size := HSZ.out
            have g1 := hS.1.below hb
            have g2 := hS.2.trans (hb.mono hS.2.size)
            have HR2 := Lib.hid (And.intro (HR.out.1.below hb) HR.out.2)
            have lr : r < U1.heap.size := HR.out.1.1.lt
            clear HR
            have HR := HR2
            clear HR2
            have HSZ2 : Hid (w.heap.size + 2 ≤ (U1.alloc (.cells #[.int .i64 0, .string ⟨#[]⟩, .string ⟨#[]⟩, .string ⟨#[]⟩] 23)).heap.size) := Lib.hid (Nat.le_trans h2 hb.size)
            clear HSZ
            generalize U1.alloc _ = U2 at hb hm g1 g2 HSZ2 HR ⊢
            generalize U1.heap.size = p at hm h1 h2 lr ⊢
            have HP := Lib.hid (And.intro hm (And.intro (Nat.ne_of_gt h1) h2))
            have HSZ := HSZ2
            clear hm h1 h2 hb HSZ2
            have NEA : Hid (r < p) := Lib.hid lr
            clear lr
            refine hK.out _ _ ⟨g1, g2⟩ (fun hS => ?_)
            clear hK K g1 g2
            try simp only [Act.put, List.setIfInBounds_toArray, List.set_cons_zero, List.set_cons_succ]
            refine wpAnyH_ready (rs := [16]) (by kernel_rfl) (by simp) ?_
            refine AllReadyH.cons (o := ⟨some 10, _, _, _, _, _⟩) rfl (fun K hK => ?_) (AllReadyH.nil)
            · go_simp
              have hb : Below U2.heap.size U2 (U2.alloc (.cells #[.int .i64 0, .string ⟨#[]⟩, .string ⟨#[]⟩, .string ⟨#[]⟩] 23)) := (Below.refl _ _).alloc (Nat.le_refl _) _
              have hm : Mine (U2.alloc (.cells #[.int .i64 0, .string ⟨#[]⟩, .string ⟨#[]⟩, .string ⟨#[]⟩] 23)) U2.heap.size ⟨0, ⟨#[]⟩, ⟨#[]⟩, ⟨#[]⟩⟩ := Mine.new U2
              have h1 : b < U2.heap.size := hS.1.lt
              have h2 : w.heap.size + 2 ≤ U2.heap.size := HSZ.out
              have g1 := hS.1.below hb
              have g2 := hS.2.trans (hb.mono hS.2.size)
              have HR2 := Lib.hid (And.intro (HR.out.1.below hb) HR.out.2)
              have lr : r < U2.heap.size := HR.out.1.1.lt
              clear HR
              have HR := HR2
              clear HR2
              have HP2 := Lib.hid (And.intro (HP.out.1.below hb) HP.out.2)
              have lp : p < U2.heap.size := HP.out.1.1.lt
              clear HP
              have HP := HP2
              clear HP2
              have HSZ2 : Hid (w.heap.size + 2 ≤ (U2.alloc (.cells #[.int .i64 0, .string ⟨#[]⟩, .string ⟨#[]⟩, .string ⟨#[]⟩] 23)).heap.size) := Lib.hid (Nat.le_trans h2 hb.size)
              clear HSZ
              generalize U2.alloc _ = U3 at hb hm g1 g2 HSZ2 HR HP ⊢
              generalize U2.heap.size = q at hm h1 h2 lr lp ⊢
              have HQ := Lib.hid (And.intro hm (And.intro (Nat.ne_of_gt h1) h2))
              have HSZ := HSZ2
              clear hm h1 h2 hb HSZ2
              have NE : Hid (p ≠ q ∧ p ≠ r ∧ q ≠ r) := Lib.hid (by have h1 := NEA.out; omega)
              clear lr lp
              refine hK.out _ _ ⟨g1, g2⟩ (fun hS => ?_)
              clear hK K g1 g2
              try simp only [Act.put, List.setIfInBounds_toArray, List.set_cons_zero, List.set_cons_succ]
              obtain ⟨⟨p0, p1, p2, p3⟩, f0, f1, f2, f3⟩ := HP.out.1
              dsimp only at p0 p1 p2 p3
              refine wpAnyH_ready (rs := [18]) (by kernel_rfl) (by simp) ?_
              refine AllReadyH.cons (o := ⟨none, _, _, _, _, _⟩) rfl (fun K hK => ?_) AllReadyH.nil
              go_simp
              clear p0 p1 p2 p3 f0 f1 f2 f3
              have m0 := HP.out.1.set ⟨gk, gs, gl, gt⟩
              have m1 := HQ.out.1.other (x := ⟨gk, gs, gl, gt⟩) (p := p) (by have h1 := NE.out.1; have h2 := NE.out.2.1; have h3 := NE.out.2.2; omega)
              have m2 := HR.out.1.other (x := ⟨gk, gs, gl, gt⟩) (p := p) (by have h1 := NE.out.1; have h2 := NE.out.2.1; have h3 := NE.out.2.2; omega)
              have g1 := hS.1.other (g := ⟨gk, gs, gl, gt⟩) (p := p) (by have := HP.out.2.1; omega)
              have g2 := hS.2.trans (HP.out.1.belowSet ⟨gk, gs, gl, gt⟩ HP.out.2.2)
              dsimp only at m0 m1 m2 g1 g2
              generalize World.setCell (World.setCell (World.setCell (World.setCell (U3) _ _) _ _) _ _) _ _ = Y0 at m0 m1 m2 g1 g2 ⊢
              have X0 := Lib.hid (And.intro m0 HP.out.2)
              have X1 := Lib.hid (And.intro m1 HQ.out.2)
              have X2 := Lib.hid (And.intro m2 HR.out.2)
              clear m0 m1 m2 HP HQ HR
              have HP := X0
              have HQ := X1
              have HR := X2
              clear X0 X1 X2
              refine hK.out _ _ ⟨g1, g2⟩ (fun hS => ?_)
              clear hK K g1 g2
              try simp only [Act.put, List.setIfInBounds_toArray, List.set_cons_zero, List.set_cons_succ]
              obtain ⟨⟨p0, p1, p2, p3⟩, f0, f1, f2, f3⟩ := HQ.out.1
              dsimp only at p0 p1 p2 p3
              refine wpAnyH_ready (rs := [19]) (by kernel_rfl) (by simp) ?_
              refine AllReadyH.cons (o := ⟨none, _, _, _, _, _⟩) rfl (fun K hK => ?_) AllReadyH.nil
              go_simp
              clear p0 p1 p2 p3 f0 f1 f2 f3
              have m0 := HQ.out.1.set ⟨hk, hs', hl, ht⟩
              have m1 := HP.out.1.other (x := ⟨hk, hs', hl, ht⟩) (p := q) (by have h1 := NE.out.1; have h2 := NE.out.2.1; have h3 := NE.out.2.2; omega)
              have m2 := HR.out.1.other (x := ⟨hk, hs', hl, ht⟩) (p := q) (by have h1 := NE.out.1; have h2 := NE.out.2.1; have h3 := NE.out.2.2; omega)
              have g1 := hS.1.other (g := ⟨hk, hs', hl, ht⟩) (p := q) (by have := HQ.out.2.1; omega)
              have g2 := hS.2.trans (HQ.out.1.belowSet ⟨hk, hs', hl, ht⟩ HQ.out.2.2)
              dsimp only at m0 m1 m2 g1 g2
              generalize World.setCell (World.setCell (World.setCell (World.setCell (Y0) _ _) _ _) _ _) _ _ = Y1 at m0 m1 m2 g1 g2 ⊢
              have X0 := Lib.hid (And.intro m0 HQ.out.2)
              have X1 := Lib.hid (And.intro m1 HP.out.2)
              have X2 := Lib.hid (And.intro m2 HR.out.2)
              clear m0 m1 m2 HQ HP HR
              have HQ := X0
              have HP := X1
              have HR := X2
              clear X0 X1 X2
              refine hK.out _ _ ⟨g1, g2⟩ (fun hS => ?_)
              clear hK K g1 g2
              try simp only [Act.put, List.setIfInBounds_toArray, List.set_cons_zero, List.set_cons_succ]
              obtain ⟨⟨p0, p1, p2, p3⟩, f0, f1, f2, f3⟩ := HR.out.1
              dsimp only at p0 p1 p2 p3
              refine wpAnyH_ready (rs := [20]) (by kernel_rfl) (by simp) ?_
              refine AllReadyH.cons (o := ⟨none, _, _, _, _, _⟩) rfl (fun K hK => ?_) AllReadyH.nil
              go_simp
              clear p0 p1 p2 p3 f0 f1 f2 f3
              have m0 := HR.out.1.set ⟨jk, js, jl, jt⟩
              have m1 := HP.out.1.other (x := ⟨jk, js, jl, jt⟩) (p := r) (by have h1 := NE.out.1; have h2 := NE.out.2.1; have h3 := NE.out.2.2; omega)
              have m2 := HQ.out.1.other (x := ⟨jk, js, jl, jt⟩) (p := r) (by have h1 := NE.out.1; have h2 := NE.out.2.1; have h3 := NE.out.2.2; omega)
              have g1 := hS.1.other (g := ⟨jk, js, jl, jt⟩) (p := r) (by have := HR.out.2.1; omega)
              have g2 := hS.2.trans (HR.out.1.belowSet ⟨jk, js, jl, jt⟩ HR.out.2.2)
              dsimp only at m0 m1 m2 g1 g2
              generalize World.setCell (World.setCell (World.setCell (World.setCell (Y1) _ _) _ _) _ _) _ _ = Y2 at m0 m1 m2 g1 g2 ⊢
              have X0 := Lib.hid (And.intro m0 HR.out.2)
              have X1 := Lib.hid (And.intro m1 HP.out.2)
              have X2 := Lib.hid (And.intro m2 HQ.out.2)
              clear m0 m1 m2 HR HP HQ
              have HR := X0
              have HP := X1
              have HQ := X2
              clear X0 X1 X2
              refine hK.out _ _ ⟨g1, g2⟩ (fun hS => ?_)
              clear hK K g1 g2
              try simp only [Act.put, List.setIfInBounds_toArray, List.set_cons_zero, List.set_cons_succ]
              refine wpAnyH_done (by kernel_rfl) ?_ _
              have g1 := hS.1
              have g2 := hS.2
              clear hS
              go_wp2_with fail
              go_meet
              exact ⟨p, q, r, rfl, rfl, rfl, HP.out.1.1, HQ.out.1.1, HR.out.1.1, g1, g2⟩
          · go_simp
            have hb : Below U1.heap.size U1 (U1.alloc (.cells #[.int .i64 0, .string ⟨#[]⟩, .string ⟨#[]⟩, .string ⟨#[]⟩] 23)) := (Below.refl _ _).alloc (Nat.le_refl _) _
            have hm : Mine (U1.alloc (.cells #[.int .i64 0, .string ⟨#[]⟩, .string ⟨#[]⟩, .string ⟨#[]⟩] 23)) U1.heap.size ⟨0, ⟨#[]⟩, ⟨#[]⟩, ⟨#[]⟩⟩ := Mine.new U1
            have h1 : b < U1.heap.size := hS.1.lt
            have h2 : w.heap.size + 2 ≤ U1.heap.size := HSZ.out
            have g1 := hS.1.below hb
            have g2 := hS.2.trans (hb.mono hS.2.size)
            have HR2 := Lib.hid (And.intro (HR.out.1.below hb) HR.out.2)
            have lr : r < U1.heap.size := HR.out.1.1.lt
            clear HR
            have HR := HR2
            clear HR2
            have HSZ2 : Hid (w.heap.size + 2 ≤ (U1.alloc (.cells #[.int .i64 0, .string ⟨#[]⟩, .string ⟨#[]⟩, .string ⟨#[]⟩] 23)).heap.size) := Lib.hid (Nat.le_trans h2 hb.size)
            clear HSZ
            generalize U1.alloc _ = U2 at hb hm g1 g2 HSZ2 HR ⊢
            generalize U1.heap.size = q at hm h1 h2 lr ⊢
            have HQ := Lib.hid (And.intro hm (And.intro (Nat.ne_of_gt h1) h2))
            have HSZ := HSZ2
            clear hm h1 h2 hb HSZ2
            have NEA : Hid (r < q) := Lib.hid lr
            clear lr
            refine hK.out _ _ ⟨g1, g2⟩ (fun hS => ?_)
            clear hK K g1 g2
            try simp only [Act.put, List.setIfInBounds_toArray, List.set_cons_zero, List.set_cons_succ]
            refine wpAnyH_ready (rs := [15]) (by kernel_rfl) (by simp) ?_
            refine AllReadyH.cons (o := ⟨some 9, _, _, _, _, _⟩) rfl (fun K hK => ?_) (AllReadyH.nil)
            · go_simp
              have hb : Below U2.heap.size U2 (U2.alloc (.cells #[.int .i64 0, .string ⟨#[]⟩, .string ⟨#[]⟩, .string ⟨#[]⟩] 23)) := (Below.refl _ _).alloc (Nat.le_refl _) _
              have hm : Mine (U2.alloc (.cells #[.int .i64 0, .string ⟨#[]⟩, .string ⟨#[]⟩, .string ⟨#[]⟩] 23)) U2.heap.size ⟨0, ⟨#[]⟩, ⟨#[]⟩, ⟨#[]⟩⟩ := Mine.new U2
              have h1 : b < U2.heap.size := hS.1.lt
              have h2 : w.heap.size + 2 ≤ U2.heap.size := HSZ.out
              have g1 := hS.1.below hb
              have g2 := hS.2.trans (hb.mono hS.2.size)
              have HR2 := Lib.hid (And.intro (HR.out.1.below hb) HR.out.2)
              have lr : r < U2.heap.size := HR.out.1.1.lt
              clear HR
              have HR := HR2
              clear HR2
              have HQ2 := Lib.hid (And.intro (HQ.out.1.below hb) HQ.out.2)
              have lq : q < U2.heap.size := HQ.out.1.1.lt
              clear HQ
              have HQ := HQ2
              clear HQ2
              have HSZ2 : Hid (w.heap.size + 2 ≤ (U2.alloc (.cells #[.int .i64 0, .string ⟨#[]⟩, .string ⟨#[]⟩, .string ⟨#[]⟩] 23)).heap.size) := Lib.hid (Nat.le_trans h2 hb.size)
              clear HSZ
              generalize U2.alloc _ = U3 at hb hm g1 g2 HSZ2 HR HQ ⊢
              generalize U2.heap.size = p at hm h1 h2 lr lq ⊢
              have HP := Lib.hid (And.intro hm (And.intro (Nat.ne_of_gt h1) h2))
              have HSZ := HSZ2
              clear hm h1 h2 hb HSZ2
              have NE : Hid (p ≠ q ∧ p ≠ r ∧ q ≠ r) := Lib.hid (by have h1 := NEA.out; omega)
              clear lr lq
              refine hK.out _ _ ⟨g1, g2⟩ (fun hS => ?_)
              clear hK K g1 g2
              try simp only [Act.put, List.setIfInBounds_toArray, List.set_cons_zero, List.set_cons_succ]
              obtain ⟨⟨p0, p1, p2, p3⟩, f0, f1, f2, f3⟩ := HP.out.1
              dsimp only at p0 p1 p2 p3
              refine wpAnyH_ready (rs := [18]) (by kernel_rfl) (by simp) ?_
              refine AllReadyH.cons (o := ⟨none, _, _, _, _, _⟩) rfl (fun K hK => ?_) AllReadyH.nil
              go_simp
              clear p0 p1 p2 p3 f0 f1 f2 f3
              have m0 := HP.out.1.set ⟨gk, gs, gl, gt⟩
              have m1 := HQ.out.1.other (x := ⟨gk, gs, gl, gt⟩) (p := p) (by have h1 := NE.out.1; have h2 := NE.out.2.1; have h3 := NE.out.2.2; omega)
              have m2 := HR.out.1.other (x := ⟨gk, gs, gl, gt⟩) (p := p) (by have h1 := NE.out.1; have h2 := NE.out.2.1; have h3 := NE.out.2.2; omega)
              have g1 := hS.1.other (g := ⟨gk, gs, gl, gt⟩) (p := p) (by have := HP.out.2.1; omega)
              have g2 := hS.2.trans (HP.out.1.belowSet ⟨gk, gs, gl, gt⟩ HP.out.2.2)
              dsimp only at m0 m1 m2 g1 g2
              generalize World.setCell (World.setCell (World.setCell (World.setCell (U3) _ _) _ _) _ _) _ _ = Y0 at m0 m1 m2 g1 g2 ⊢
              have X0 := Lib.hid (And.intro m0 HP.out.2)
              have X1 := Lib.hid (And.intro m1 HQ.out.2)
              have X2 := Lib.hid (And.intro m2 HR.out.2)
              clear m0 m1 m2 HP HQ HR
              have HP := X0
              have HQ := X1
              have HR := X2
              clear X0 X1 X2
              refine hK.out _ _ ⟨g1, g2⟩ (fun hS => ?_)
              clear hK K g1 g2
              try simp only [Act.put, List.setIfInBounds_toArray, List.set_cons_zero, List.set_cons_succ]
              obtain ⟨⟨p0, p1, p2, p3⟩, f0, f1, f2, f3⟩ := HQ.out.1
              dsimp only at p0 p1 p2 p3
              refine wpAnyH_ready (rs := [19]) (by kernel_rfl) (by simp) ?_
              refine AllReadyH.cons (o := ⟨none, _, _, _, _, _⟩) rfl (fun K hK => ?_) AllReadyH.nil
              go_simp
              clear p0 p1 p2 p3 f0 f1 f2 f3
              have m0 := HQ.out.1.set ⟨hk, hs', hl, ht⟩
              have m1 := HP.out.1.other (x := ⟨hk, hs', hl, ht⟩) (p := q) (by have h1 := NE.out.1; have h2 := NE.out.2.1; have h3 := NE.out.2.2; omega)
              have m2 := HR.out.1.other (x := ⟨hk, hs', hl, ht⟩) (p := q) (by have h1 := NE.out.1; have h2 := NE.out.2.1; have h3 := NE.out.2.2; omega)
              have g1 := hS.1.other (g := ⟨hk, hs', hl, ht⟩) (p := q) (by have := HQ.out.2.1; omega)
              have g2 := hS.2.trans (HQ.out.1.belowSet ⟨hk, hs', hl, ht⟩ HQ.out.2.2)
              dsimp only at m0 m1 m2 g1 g2
              generalize World.setCell (World.setCell (World.setCell (World.setCell (Y0) _ _) _ _) _ _) _ _ = Y1 at m0 m1 m2 g1 g2 ⊢
              have X0 := Lib.hid (And.intro m0 HQ.out.2)
              have X1 := Lib.hid (And.intro m1 HP.out.2)
              have X2 := Lib.hid (And.intro m2 HR.out.2)
              clear m0 m1 m2 HQ HP HR
              have HQ := X0
              have HP := X1
              have HR := X2
              clear X0 X1 X2
              refine hK.out _ _ ⟨g1, g2⟩ (fun hS => ?_)
              clear hK K g1 g2
              try simp only [Act.put, List.setIfInBounds_toArray, List.set_cons_zero, List.set_cons_succ]
              obtain ⟨⟨p0, p1, p2, p3⟩, f0, f1, f2, f3⟩ := HR.out.1
              dsimp only at p0 p1 p2 p3
              refine wpAnyH_ready (rs := [20]) (by kernel_rfl) (by simp) ?_
              refine AllReadyH.cons (o := ⟨none, _, _, _, _, _⟩) rfl (fun K hK => ?_) AllReadyH.nil
              go_simp
              clear p0 p1 p2 p3 f0 f1 f2 f3
              have m0 := HR.out.1.set ⟨jk, js, jl, jt⟩
              have m1 := HP.out.1.other (x := ⟨jk, js, jl, jt⟩) (p := r) (by have h1 := NE.out.1; have h2 := NE.out.2.1; have h3 := NE.out.2.2; omega)
              have m2 := HQ.out.1.other (x := ⟨jk, js, jl, jt⟩) (p := r) (by have h1 := NE.out.1; have h2 := NE.out.2.1; have h3 := NE.out.2.2; omega)
              have g1 := hS.1.other (g := ⟨jk, js, jl, jt⟩) (p := r) (by have := HR.out.2.1; omega)
              have g2 := hS.2.trans (HR.out.1.belowSet ⟨jk, js, jl, jt⟩ HR.out.2.2)
              dsimp only at m0 m1 m2 g1 g2
              generalize World.setCell (World.setCell (World.setCell (World.setCell (Y1) _ _) _ _) _ _) _ _ = Y2 at m0 m1 m2 g1 g2 ⊢
              have X0 := Lib.hid (And.intro m0 HR.out.2)
              have X1 := Lib.hid (And.intro m1 HP.out.2)
              have X2 := Lib.hid (And.intro m2 HQ.out.2)
              clear m0 m1 m2 HR HP HQ
              have HR := X0
              have HP := X1
              have HQ := X2
              clear X0 X1 X2
              refine hK.out _ _ ⟨g1, g2⟩ (fun hS => ?_)
              clear hK K g1 g2
              try simp only [Act.put, List.setIfInBounds_toArray, List.set_cons_zero, List.set_cons_succ]
              refine wpAnyH_done (by kernel_rfl) ?_ _
              have g1 := hS.1
              have g2 := hS.2
              clear hS
              go_wp2_with fail
              go_meet
              exact ⟨p, q, r, rfl, rfl, rfl, HP.out.1.1, HQ.out.1.1, HR.out.1.1, g1, g2⟩
      case rest =>
        obtain ⟨p, q, r, rfl, rfl, rfl, hp, hq, hr, h6, hbl⟩ := hcut
        have HS := Lib.hid (show (fun w' : World => Box w' p ⟨gk, gs, gl, gt⟩ ∧ Box w' q ⟨hk, hs', hl, ht⟩ ∧ Box w' r ⟨jk, js, jl, jt⟩ ∧ Six w' b ⟨k, s, l, t⟩ ⟨k2, s2, l2, t2⟩ ⟨k3, s3, l3, t3⟩ ⟨gk, gs, gl, gt⟩ ⟨hk, hs', hl, ht⟩ ⟨jk, js, jl, jt⟩ ∧ Below w.heap.size w w') wc from ⟨hp, hq, hr, h6, hbl⟩)
        clear hp hq hr h6 hbl HSIX HBEL
        obtain ⟨cp, cq, cr, b1, b2, he0, htr, k1, k2', k3', k4, k5, k6, k7⟩ := cmp_facts ⟨gk, gs, gl, gt⟩ ⟨hk, hs', hl, ht⟩ ⟨jk, js, jl, jt⟩
        have hst := equal_term ⟨gk, gs, gl, gt⟩ ⟨hk, hs', hl, ht⟩
        generalize eqB ⟨gk, gs, gl, gt⟩ ⟨hk, hs', hl, ht⟩ = eqb at he0 hst
        unfold Tm.val at k1 k2' k3' k4 k5 k6 k7 hst
        dsimp only at k1 k2' k3' k4 k5 k6 k7 hst
        have K1 := Lib.hid k1
        have K2 := Lib.hid k2'
        have K3 := Lib.hid k3'
        have K4 := Lib.hid k4
        have K5 := Lib.hid k5
        have K6 := Lib.hid k6
        have K7 := Lib.hid k7
        have HE0 := Lib.hid he0
        have HST := Lib.hid hst
        have hcase : 0 < cp ∨ (cp ≤ 0 ∧ 0 < cq) ∨ (cp ≤ 0 ∧ cq ≤ 0 ∧ cr ≤ 0) := by
          by_cases h1 : 0 < cp
          · exact .inl h1
          by_cases h2 : 0 < cq
          · exact .inr (.inl ⟨by omega, h2⟩)
          · exact .inr (.inr ⟨by omega, by omega, htr (by omega) (by omega)⟩)
        have HCASE := Lib.hid hcase
        clear k1 k2' k3' k4 k5 k6 k7 he0 hst htr hcase
        go_wp2_with fail
        obtain ⟨V0, hV0⟩ : ∃ V0, V0 = wc.drew := ⟨_, rfl⟩
        have hS : (fun w' : World => Box w' p ⟨gk, gs, gl, gt⟩ ∧ Box w' q ⟨hk, hs', hl, ht⟩ ∧ Box w' r ⟨jk, js, jl, jt⟩ ∧ Six w' b ⟨k, s, l, t⟩ ⟨k2, s2, l2, t2⟩ ⟨k3, s3, l3, t3⟩ ⟨gk, gs, gl, gt⟩ ⟨hk, hs', hl, ht⟩ ⟨jk, js, jl, jt⟩ ∧ Below w.heap.size w w') V0 := by subst hV0; exact ⟨HS.out.1, HS.out.2.1, HS.out.2.2.1, HS.out.2.2.2.1, HS.out.2.2.2.2.drew⟩
        refine wp_region_any (by kernel_rfl) ?_
        change wpAny _ _ _ _ _ _ _ (World.drew _)
        rw [← hV0]
        clear hV0 HS
        refine wpAny_of_held (S := fun w' : World => Box w' p ⟨gk, gs, gl, gt⟩ ∧ Box w' q ⟨hk, hs', hl, ht⟩ ∧ Box w' r ⟨jk, js, jl, jt⟩ ∧ Six w' b ⟨k, s, l, t⟩ ⟨k2, s2, l2, t2⟩ ⟨k3, s3, l3, t3⟩ ⟨gk, gs, gl, gt⟩ ⟨hk, hs', hl, ht⟩ ⟨jk, js, jl, jt⟩ ∧ Below w.heap.size w w') _ _ _ _ ?_
        try simp only [Act.put, List.setIfInBounds_toArray, List.set_cons_zero, List.set_cons_succ]
        refine wpAnyH_take (i := 0) (oi := ⟨some 61, _, _, _, _, _⟩) (v := ?_) rfl (by kernel_rfl) (by kernel_rfl) (by kernel_rfl) (fun _ _ _ h => h) (Or.inl ⟨by simp only [Region.wanted], ?_⟩) hS ?_
        rotate_left
        · intro wz hSw; obtain ⟨⟨c0, c1, c2, c3⟩, ⟨d0, d1, d2, d3⟩, ⟨e0, e1, e2, e3⟩, -⟩ := hSw
          (try dsimp only at hSw)
          (try go_split_ands)
          go_simp
          first | done | with_reducible rfl
        try simp only [Act.put, List.setIfInBounds_toArray, List.set_cons_zero, List.set_cons_succ]
        refine wpAnyH_take (i := 1) (oi := ⟨some 62, _, _, _, _, _⟩) (v := ?_) rfl (by kernel_rfl) (by kernel_rfl) (by kernel_rfl) (fun _ _ _ h => h) (Or.inl ⟨by simp only [Region.wanted], ?_⟩) hS ?_
        rotate_left
        · intro wz hSw; obtain ⟨⟨c0, c1, c2, c3⟩, ⟨d0, d1, d2, d3⟩, ⟨e0, e1, e2, e3⟩, -⟩ := hSw
          (try dsimp only at hSw)
          (try go_split_ands)
          go_simp
          first | done | with_reducible rfl
        try simp only [Act.put, List.setIfInBounds_toArray, List.set_cons_zero, List.set_cons_succ]
        refine wpAnyH_take (i := 3) (oi := ⟨some 64, _, _, _, _, _⟩) (v := ?_) rfl (by kernel_rfl) (by kernel_rfl) (by kernel_rfl) (fun _ _ _ h => h) (Or.inl ⟨by simp only [Region.wanted], ?_⟩) hS ?_
        rotate_left
        · intro wz hSw; obtain ⟨⟨c0, c1, c2, c3⟩, ⟨d0, d1, d2, d3⟩, ⟨e0, e1, e2, e3⟩, -⟩ := hSw
          (try dsimp only at hSw)
          (try go_split_ands)
          go_simp
          first | done | with_reducible rfl
        try simp only [Act.put, List.setIfInBounds_toArray, List.set_cons_zero, List.set_cons_succ]
        refine wpAnyH_take (i := 4) (oi := ⟨some 65, _, _, _, _, _⟩) (v := ?_) rfl (by kernel_rfl) (by kernel_rfl) (by kernel_rfl) (fun _ _ _ h => h) (Or.inl ⟨by simp only [Region.wanted], ?_⟩) hS ?_
        rotate_left
        · intro wz hSw; obtain ⟨⟨c0, c1, c2, c3⟩, ⟨d0, d1, d2, d3⟩, ⟨e0, e1, e2, e3⟩, -⟩ := hSw
          (try dsimp only at hSw)
          (try go_split_ands)
          go_simp
          first | done | with_reducible rfl
        try simp only [Act.put, List.setIfInBounds_toArray, List.set_cons_zero, List.set_cons_succ]
        refine wpAnyH_take (i := 6) (oi := ⟨some 67, _, _, _, _, _⟩) (v := ?_) rfl (by kernel_rfl) (by kernel_rfl) (by kernel_rfl) (fun _ _ _ h => h) (Or.inl ⟨by simp only [Region.wanted], ?_⟩) hS ?_
        rotate_left
        · intro wz hSw; obtain ⟨⟨c0, c1, c2, c3⟩, ⟨d0, d1, d2, d3⟩, ⟨e0, e1, e2, e3⟩, -⟩ := hSw
          (try dsimp only at hSw)
          (try go_split_ands)
          go_simp
          first | done | with_reducible rfl
        try simp only [Act.put, List.setIfInBounds_toArray, List.set_cons_zero, List.set_cons_succ]
        refine wpAnyH_take (i := 7) (oi := ⟨some 68, _, _, _, _, _⟩) (v := ?_) rfl (by kernel_rfl) (by kernel_rfl) (by kernel_rfl) (fun _ _ _ h => h) (Or.inl ⟨by simp only [Region.wanted], ?_⟩) hS ?_
        rotate_left
        · intro wz hSw; obtain ⟨⟨c0, c1, c2, c3⟩, ⟨d0, d1, d2, d3⟩, ⟨e0, e1, e2, e3⟩, -⟩ := hSw
          (try dsimp only at hSw)
          (try go_split_ands)
          go_simp
          first | done | with_reducible rfl
        try simp only [Act.put, List.setIfInBounds_toArray, List.set_cons_zero, List.set_cons_succ]
        refine wpAnyH_ready (rs := [2]) (by kernel_rfl) (by simp) ?_
        refine AllReadyH.cons (o := ⟨some 63, _, _, _, _, _⟩) rfl (fun K hK => ?_) AllReadyH.nil
        go_simp
        refine (K1.out _).mono ?_
        rintro e V63 ⟨rfl, hb1⟩
        go_simp
        refine hK.out _ _ (⟨hS.1.below hb1, hS.2.1.below hb1, hS.2.2.1.below hb1, hS.2.2.2.1.below hb1, hS.2.2.2.2.trans (hb1.mono hS.2.2.2.2.size)⟩) (fun hS => ?_)
        clear hK K
        try simp only [Act.put, List.setIfInBounds_toArray, List.set_cons_zero, List.set_cons_succ]
        clear hb1
        refine wpAnyH_ready (rs := [5]) (by kernel_rfl) (by simp) ?_
        refine AllReadyH.cons (o := ⟨some 66, _, _, _, _, _⟩) rfl (fun K hK => ?_) AllReadyH.nil
        go_simp
        refine (K2.out _).mono ?_
        rintro e V66 ⟨rfl, hb1⟩
        go_simp
        refine hK.out _ _ (⟨hS.1.below hb1, hS.2.1.below hb1, hS.2.2.1.below hb1, hS.2.2.2.1.below hb1, hS.2.2.2.2.trans (hb1.mono hS.2.2.2.2.size)⟩) (fun hS => ?_)
        clear hK K
        try simp only [Act.put, List.setIfInBounds_toArray, List.set_cons_zero, List.set_cons_succ]
        clear hb1
        refine wpAnyH_ready (rs := [8]) (by kernel_rfl) (by simp) ?_
        refine AllReadyH.cons (o := ⟨some 69, _, _, _, _, _⟩) rfl (fun K hK => ?_) AllReadyH.nil
        go_simp
        refine (K3.out _).mono ?_
        rintro e V69 ⟨rfl, hb1⟩
        go_simp
        refine hK.out _ _ (⟨hS.1.below hb1, hS.2.1.below hb1, hS.2.2.1.below hb1, hS.2.2.2.1.below hb1, hS.2.2.2.2.trans (hb1.mono hS.2.2.2.2.size)⟩) (fun hS => ?_)
        clear hK K
        try simp only [Act.put, List.setIfInBounds_toArray, List.set_cons_zero, List.set_cons_succ]
        clear hb1
        refine wpAnyH_take (i := 9) (oi := ⟨some 12, _, _, _, _, _⟩) (v := ?_) rfl (by kernel_rfl) (by kernel_rfl) (by kernel_rfl) (fun _ _ _ h => h) (Or.inl ⟨by simp only [Region.wanted], ?_⟩) hS ?_
        rotate_left
        · intro wz hSw
          clear hSw
          go_simp
          first | done | with_reducible rfl
        try simp only [Act.put, List.setIfInBounds_toArray, List.set_cons_zero, List.set_cons_succ]
        refine wpAnyH_take (i := 10) (oi := ⟨some 13, _, _, _, _, _⟩) (v := ?_) rfl (by kernel_rfl) (by kernel_rfl) (by kernel_rfl) (fun _ _ _ h => h) (Or.inl ⟨by simp only [Region.wanted], ?_⟩) hS ?_
        rotate_left
        · intro wz hSw
          clear hSw
          go_simp
          first | done | with_reducible rfl
        try simp only [Act.put, List.setIfInBounds_toArray, List.set_cons_zero, List.set_cons_succ]
        refine wpAnyH_take (i := 11) (oi := ⟨some 14, _, _, _, _, _⟩) (v := ?_) rfl (by kernel_rfl) (by kernel_rfl) (by kernel_rfl) (fun _ _ _ h => h) (Or.inl ⟨by simp only [Region.wanted], ?_⟩) hS ?_
        rotate_left
        · intro wz hSw
          clear hSw
          go_simp
          first | done | with_reducible rfl
        try simp only [Act.put, List.setIfInBounds_toArray, List.set_cons_zero, List.set_cons_succ]
        refine wpAnyH_done (by kernel_rfl) ?_ _
        have HS := Lib.hid hS
        clear hS K1 K2 K3
        obtain ⟨⟨c0, c1, c2, c3⟩, ⟨d0, d1, d2, d3⟩, ⟨e0, e1, e2, e3⟩, -⟩ := HS.out
        dsimp only at c0 c1 c2 c3 d0 d1 d2 d3 e0 e1 e2 e3
        go_wp2_with fail
        refine (K4.out _).mono ?_
        rintro e y4 ⟨rfl, hb⟩
        have HS2 := Lib.hid (show (fun w' : World => Box w' p ⟨gk, gs, gl, gt⟩ ∧ Box w' q ⟨hk, hs', hl, ht⟩ ∧ Box w' r ⟨jk, js, jl, jt⟩ ∧ Six w' b ⟨k, s, l, t⟩ ⟨k2, s2, l2, t2⟩ ⟨k3, s3, l3, t3⟩ ⟨gk, gs, gl, gt⟩ ⟨hk, hs', hl, ht⟩ ⟨jk, js, jl, jt⟩ ∧ Below w.heap.size w w') y4 from ⟨HS.out.1.below hb, HS.out.2.1.below hb, HS.out.2.2.1.below hb, HS.out.2.2.2.1.below hb, HS.out.2.2.2.2.trans (hb.mono HS.out.2.2.2.2.size)⟩)
        clear HS hb c0 c1 c2 c3 d0 d1 d2 d3 e0 e1 e2 e3
        have HS := HS2
        clear HS2
        obtain ⟨⟨c0, c1, c2, c3⟩, ⟨d0, d1, d2, d3⟩, ⟨e0, e1, e2, e3⟩, -⟩ := HS.out
        dsimp only at c0 c1 c2 c3 d0 d1 d2 d3 e0 e1 e2 e3
        go_wp2_with fail
        refine (K5.out _).mono ?_
        rintro e y5 ⟨rfl, hb⟩
        have HS2 := Lib.hid (show (fun w' : World => Box w' p ⟨gk, gs, gl, gt⟩ ∧ Box w' q ⟨hk, hs', hl, ht⟩ ∧ Box w' r ⟨jk, js, jl, jt⟩ ∧ Six w' b ⟨k, s, l, t⟩ ⟨k2, s2, l2, t2⟩ ⟨k3, s3, l3, t3⟩ ⟨gk, gs, gl, gt⟩ ⟨hk, hs', hl, ht⟩ ⟨jk, js, jl, jt⟩ ∧ Below w.heap.size w w') y5 from ⟨HS.out.1.below hb, HS.out.2.1.below hb, HS.out.2.2.1.below hb, HS.out.2.2.2.1.below hb, HS.out.2.2.2.2.trans (hb.mono HS.out.2.2.2.2.size)⟩)
        clear HS hb c0 c1 c2 c3 d0 d1 d2 d3 e0 e1 e2 e3
        have HS := HS2
        clear HS2
        obtain ⟨⟨c0, c1, c2, c3⟩, ⟨d0, d1, d2, d3⟩, ⟨e0, e1, e2, e3⟩, -⟩ := HS.out
        dsimp only at c0 c1 c2 c3 d0 d1 d2 d3 e0 e1 e2 e3
        go_wp2_with fail
        refine (K6.out _).mono ?_
        rintro e y6 ⟨rfl, hb⟩
        have HS2 := Lib.hid (show (fun w' : World => Box w' p ⟨gk, gs, gl, gt⟩ ∧ Box w' q ⟨hk, hs', hl, ht⟩ ∧ Box w' r ⟨jk, js, jl, jt⟩ ∧ Six w' b ⟨k, s, l, t⟩ ⟨k2, s2, l2, t2⟩ ⟨k3, s3, l3, t3⟩ ⟨gk, gs, gl, gt⟩ ⟨hk, hs', hl, ht⟩ ⟨jk, js, jl, jt⟩ ∧ Below w.heap.size w w') y6 from ⟨HS.out.1.below hb, HS.out.2.1.below hb, HS.out.2.2.1.below hb, HS.out.2.2.2.1.below hb, HS.out.2.2.2.2.trans (hb.mono HS.out.2.2.2.2.size)⟩)
        clear HS hb c0 c1 c2 c3 d0 d1 d2 d3 e0 e1 e2 e3
        have HS := HS2
        clear HS2
        obtain ⟨⟨c0, c1, c2, c3⟩, ⟨d0, d1, d2, d3⟩, ⟨e0, e1, e2, e3⟩, -⟩ := HS.out
        dsimp only at c0 c1 c2 c3 d0 d1 d2 d3 e0 e1 e2 e3
        have hst := HST.out
        have he0 := HE0.out
        cases eqb <;> rcases HCASE.out with hc1 | ⟨hc1, hc2⟩ | ⟨hc1, hc2, hc3⟩
        all_goals first | (exfalso; simp at he0; omega) | skip
        all_goals
          go_wp2_with fail
          refine (K7.out _).mono ?_
          rintro e y7 ⟨rfl, hb⟩
          have HS2 := Lib.hid (show (fun w' : World => Box w' p ⟨gk, gs, gl, gt⟩ ∧ Box w' q ⟨hk, hs', hl, ht⟩ ∧ Box w' r ⟨jk, js, jl, jt⟩ ∧ Six w' b ⟨k, s, l, t⟩ ⟨k2, s2, l2, t2⟩ ⟨k3, s3, l3, t3⟩ ⟨gk, gs, gl, gt⟩ ⟨hk, hs', hl, ht⟩ ⟨jk, js, jl, jt⟩ ∧ Below w.heap.size w w') y7 from ⟨HS.out.1.below hb, HS.out.2.1.below hb, HS.out.2.2.1.below hb, HS.out.2.2.2.1.below hb, HS.out.2.2.2.2.trans (hb.mono HS.out.2.2.2.2.size)⟩)
          clear HS hb c0 c1 c2 c3 d0 d1 d2 d3 e0 e1 e2 e3
          have HS := HS2
          clear HS2
          obtain ⟨⟨c0, c1, c2, c3⟩, ⟨d0, d1, d2, d3⟩, ⟨e0, e1, e2, e3⟩, -⟩ := HS.out
          dsimp only at c0 c1 c2 c3 d0 d1 d2 d3 e0 e1 e2 e3
          go_wp2_with fail
          go_roundw
          case rel => exact ⟨2, by omega, rfl, HS.out.2.2.2.1, HS.out.2.2.2.2⟩
          case measure => simp [intOf]
    · go_wp2_with fail
      go_ret
      exact ⟨rfl, HBEL.out⟩
end Go.Proofs.Ytpoacgnncinmiaa
