/- The walk of the law RedoOps. -/
import Derived.Test.YtkhdahipnfloeaaSx
namespace Go.Proofs.Ytkhdahipnfloeaa
open Go.RowKit
set_option maxRecDepth 100000

/-- A region that is walked under a stronger condition. -/
theorem wpAnyH_mono {P : Program} {ops : Array Oper} {Q : Exit → Act → World → Prop} {md : Region.Mode} {S S' : World → Prop} (hS : ∀ w, S' w → S w) :
    ∀ (fuel : Nat) (listed : Array Bool) (a : Act) (w : World), wpAnyH P md ops Q S' fuel listed a w → wpAnyH P md ops Q S fuel listed a w
  | 0, _, _, _, h => h
  | fuel + 1, _, _, _, h => ⟨h.1, fun i hi => wpOp_mono (fun a' w' h' => ⟨hS _ h'.1, wpAnyH_mono hS fuel _ a' w' h'.2⟩) (h.2 i hi)⟩

/-- What the call has built: X. -/
def Built (a b : Nat) (k : Nat) : Prop := a ≤ k ∧ k < b
theorem good_pagess (l : Pages) (h : (goodOf l).length ≠ 0) : Pagess 420 (goodOf l) := goodOf_pages l (fun e => h (by rw [e]; rfl))
theorem good_short (l : Pages) : (goodOf l).length ≤ 8 := (goodTo_good l 8).short

set_option maxHeartbeats 4000000 in
theorem ops3_walk (v : Value) (l : Pages) (w : World) (hp : Pus w (fun g => g < w.heap.size) v l) :
    Calls Try.prog 7 #[v] w fun e w' => e = .returned (.bool true) ∧ Below w.heap.size w w' := by
  obtain ⟨ao, cap, rfl, -⟩ := id hp
  have HP := Lib.hid hp
  clear hp
  go_enter Try.func7, Try.ntmps7
  go_wp2_with fail
  refine (l3_known _).mono ?_
  rintro e w1 ⟨rfl, hb1⟩
  have HB1 := Lib.hid hb1
  clear hb1
  go_wp2_with fail
  refine (pfew_any _ l _ w1 (HP.out.below HB1.out)).mono ?_
  rintro e w2 (⟨rfl, hw2⟩ | ⟨rfl, hw2, -⟩)
  · replace hw2 := hw2.symm
    subst hw2
    go_wp2_with fail
    go_ret
    exact ⟨rfl, HB1.out⟩
  replace hw2 := hw2.symm
  subst hw2
  go_wp2_with fail
  refine (good_any _ l _ w1 (HP.out.below HB1.out) (fun g hg => Nat.lt_of_lt_of_le hg HB1.out.size)).mono ?_
  rintro e w3 ⟨gv, rfl, hrow, hb3⟩
  have HB3 := Lib.hid (HB1.out.trans (hb3.mono HB1.out.size))
  have hpu := hrow.pus
  have HS3 := Lib.hid hb3.size
  obtain ⟨so, cg, rfl, hcg1, hcg2⟩ := hrow.form
  have hcg2' : cg ≤ 9223372036854775807 := hcg2
  have HPU := Lib.hid hpu
  clear hrow hb3 hpu hcg2
  obtain ⟨g, hg⟩ : ∃ g, g = goodOf l := ⟨_, rfl⟩
  rw [← hg] at HPU hcg1 ⊢
  have HG := Lib.hid hg
  clear hg
  go_wp2_with fail
  refine (sx_new (w0 := w) (X := Built w1.heap.size w3.heap.size) 420 HB3.out (fun _ h => h.2)).mono ?_
  rintro e w4 ⟨r, rfl, h4, hb4⟩
  rw [show sizeOf' 420 = 420 from rfl] at h4
  have H4 := Lib.hid h4
  have HPU4 := Lib.hid (HPU.out.below hb4)
  clear h4 hb4 HPU
  have hcm : ∀ e A', (Ab.new 420).commit g = (e, A') → Calls Try.prog 18 #[.pointer (some ⟨r, 0, none⟩), .slice so g.length cg] w4 fun e' w' => e' = .returned (.int .i64 e) ∧ Sx w w' (Built w1.heap.size w3.heap.size) r A' := fun e A' he => by
    refine (sx_commit _ g _ H4.out HPU4.out (fun q hq => hq) (new_small _ _)).mono ?_
    rw [he]
    rintro e w5 ⟨rfl, h5, -⟩
    exact ⟨rfl, h5⟩
  have HCM := Lib.hid hcm
  clear hcm
  by_cases h0 : g.length = 0
  · have hc : (Ab.new 420).commit g = (1, Ab.new 420) := by
      obtain rfl : g = [] := List.eq_nil_of_length_eq_zero h0
      exact commit_bad (by decide)
    have HC := Lib.hid (HCM.out _ _ hc)
    obtain ⟨n, hn⟩ : ∃ n, n = g.length := ⟨_, rfl⟩
    rw [← hn] at HC h0 hcg1 ⊢
    subst h0
    clear hc hn HCM
    go_wp2_with fail
    refine HC.out.mono ?_
    rintro e w5 ⟨rfl, h5⟩
    go_wp2_with (go_at_call 31; refine (sx_ops h5).mono ?_; rw [show (Ab.new 420).ops = 0 from rfl]; rintro e _ ⟨rfl, rfl⟩)
    go_ret
    exact ⟨rfl, h5.below⟩
  · have hlp : Pagess 420 g := by rw [HG.out] at h0 ⊢; exact good_pagess l h0
    have hg8 : g.length ≤ 8 := by rw [HG.out]; exact good_short l
    have hK : (List.replicate 420 (zeros 512)).length = 420 := List.length_replicate ..
    obtain ⟨q1, ⟨K', q2, q3⟩, q4, -⟩ := commit_good (new_synced 420) (new_head 420 (by omega)) (by rw [hK]; exact hlp) rfl
    obtain ⟨A', hA'⟩ : ∃ A', A' = ((Ab.new 420).commit g).2 := ⟨_, rfl⟩
    rw [← hA'] at q2 q4
    have HC := Lib.hid (HCM.out 0 A' (by rw [hA', ← q1]))
    have hlen' : K'.length = 420 := q3.len.trans hK
    have hf : A'.fault 0 = 0 := fault0 q2 (by omega)
    have hr : A'.read 0 = zeros 512 := by
      unfold Ab.read
      rw [if_pos hf, q2.now, List.getD_eq_getElem?_getD, show (0 : Int).toNat = 0 from rfl, q3.head]
      rfl
    have hop : A'.ops = 2 * g.length + 6 := by rw [q4]; show 0 + _ = _; omega
    have HF := Lib.hid hf
    have HR := Lib.hid hr
    have HOP := Lib.hid hop
    obtain ⟨n, hn⟩ : ∃ n, n = g.length := ⟨_, rfl⟩
    rw [← hn] at HC h0 hcg1 HOP hg8 ⊢
    have h0' : ¬ (n : Int) = 0 := by omega
    clear hlp hK q1 q2 q3 q4 hA' hlen' hf hr hop hn HCM
    go_wp2_with fail
    refine HC.out.mono ?_
    rintro e w5 ⟨rfl, h5⟩
    have H5 := Lib.hid h5
    clear h5 HC
    go_wp2_with fail
    refine (sx_read 0 H5.out).mono ?_
    rw [HF.out, HR.out]
    rintro e w6 ⟨v6, rfl, hv6, h6, -⟩
    have H6 := Lib.hid h6
    have HV6 := Lib.hid hv6.bs
    obtain ⟨bo, bc, rfl, -⟩ := hv6.bs
    have hmk := run_make_bytes 512 512 rfl (by omega)
    have HBS6 := Lib.hid hv6.bs
    rw [zeros_length] at HBS6 ⊢
    obtain ⟨Z, hZ⟩ : ∃ Z : ByteArray, Z = ⟨(zeros 512).toArray⟩ := ⟨_, rfl⟩
    obtain ⟨C0, hC0⟩ : ∃ C : Array Value, C = (vbs (zeros 512)).toArray := ⟨_, rfl⟩
    simp only [← hC0] at hmk
    have HZ := Lib.hid hZ
    have HC0 := Lib.hid hC0
    obtain ⟨q, hq⟩ : ∃ q : Int, q = 2 * n + 6 := ⟨_, rfl⟩
    have hops : (A'.ops : Int) = q := by rw [HOP.out]; omega
    have hwr1 : IntKind.i64.wrap (2 * (n : Int)) = 2 * n := by rw [IntKind.wrap_i64]; omega
    have hwr2 : IntKind.i64.wrap (2 * (n : Int) + 6) = q := by rw [IntKind.wrap_i64]; omega
    have HOPS := Lib.hid hops
    clear h6 hv6 H5 HV6 hZ hC0 hops hq
    go_wp2_with fail
    refine wp_region_any (by kernel_rfl) ?_
    change wpAny _ _ _ _ _ _ _ (World.drew _)
    refine wpAny_of_held (S := fun w' => Bs w' (.slice bo 512 bc) (zeros 512)) _ _ _ _ ?_
    have hS : (fun w' => Bs w' (.slice bo 512 bc) (zeros 512)) _ := HBS6.out.drew
    refine wpAnyH_take (i := 0) (oi := ⟨some 34, _, _, _, _, _⟩) (v := ?_) rfl (by kernel_rfl) (by kernel_rfl) (by kernel_rfl) (fun _ _ _ h => h) (Or.inl ⟨by rfl, ?_⟩) hS ?_
    rotate_left
    · intro wz hSw
      clear hSw
      go_simp
      first | done | with_reducible rfl
    try simp only [Act.put, List.setIfInBounds_toArray, List.set_cons_zero, List.set_cons_succ]
    refine wpAnyH_take (i := 1) (oi := ⟨some 35, _, _, _, _, _⟩) (v := ?_) rfl (by kernel_rfl) (by kernel_rfl) (by kernel_rfl) (fun _ _ _ h => h) (Or.inl ⟨by rfl, ?_⟩) hS ?_
    rotate_left
    · intro wz hSw
      clear hSw
      go_simp
      first | done | with_reducible rfl
    try simp only [Act.put, List.setIfInBounds_toArray, List.set_cons_zero, List.set_cons_succ]
    refine wpAnyH_take (i := 2) (oi := ⟨some 36, _, _, _, _, _⟩) (v := ?_) rfl (by kernel_rfl) (by kernel_rfl) (by kernel_rfl) (fun _ _ _ h => h) (Or.inl ⟨by rfl, ?_⟩) hS ?_
    rotate_left
    · intro wz hSw
      clear hSw
      go_simp
      first | done | with_reducible rfl
    try simp only [Act.put, List.setIfInBounds_toArray, List.set_cons_zero, List.set_cons_succ]
    refine wpAnyH_take (i := 3) (oi := ⟨some 37, _, _, _, _, _⟩) (v := ?_) rfl (by kernel_rfl) (by kernel_rfl) (by kernel_rfl) (fun _ _ _ h => h) (Or.inl ⟨by rfl, ?_⟩) hS ?_
    rotate_left
    · intro wz hSw
      clear hSw
      go_simp
      first | done | with_reducible rfl
    try simp only [Act.put, List.setIfInBounds_toArray, List.set_cons_zero, List.set_cons_succ]
    refine wpAnyH_take (i := 4) (oi := ⟨some 38, _, _, _, _, _⟩) (v := ?_) rfl (by kernel_rfl) (by kernel_rfl) (by kernel_rfl) (fun _ _ _ h => h) (Or.inl ⟨by rfl, ?_⟩) hS ?_
    rotate_left
    · intro wz hSw
      clear hSw
      go_simp
      first | done | with_reducible rfl
    try simp only [Act.put, List.setIfInBounds_toArray, List.set_cons_zero, List.set_cons_succ]
    refine wpAnyH_take (i := 5) (oi := ⟨some 39, _, _, _, _, _⟩) (v := ?_) rfl (by kernel_rfl) (by kernel_rfl) (by kernel_rfl) (fun _ _ _ h => h) (Or.inl ⟨by rfl, ?_⟩) hS ?_
    rotate_left
    · intro wz hSw
      clear hSw
      go_simp
      first | done | with_reducible rfl
    try simp only [Act.put, List.setIfInBounds_toArray, List.set_cons_zero, List.set_cons_succ]
    refine wpAnyH_take (i := 6) (oi := ⟨some 40, _, _, _, _, _⟩) (v := ?_) rfl (by kernel_rfl) (by kernel_rfl) (by kernel_rfl) (fun _ _ _ h => h) (Or.inl ⟨by rfl, ?_⟩) hS ?_
    rotate_left
    · intro wz hSw
      clear hSw
      go_simp
      first | done | with_reducible rfl
    try simp only [Act.put, List.setIfInBounds_toArray, List.set_cons_zero, List.set_cons_succ]
    refine wpAnyH_take (i := 7) (oi := ⟨some 41, _, _, _, _, _⟩) (v := ?_) rfl (by kernel_rfl) (by kernel_rfl) (by kernel_rfl) (fun _ _ _ h => h) (Or.inl ⟨by rfl, ?_⟩) hS ?_
    rotate_left
    · intro wz hSw
      clear hSw
      go_simp
      first | done | with_reducible rfl
    try simp only [Act.put, List.setIfInBounds_toArray, List.set_cons_zero, List.set_cons_succ]
    refine wpAnyH_take (i := 9) (oi := ⟨some 43, _, _, _, _, _⟩) (v := ?_) rfl (by kernel_rfl) (by kernel_rfl) (by kernel_rfl) (fun _ _ _ h => h) (Or.inl ⟨by rfl, ?_⟩) hS ?_
    rotate_left
    · intro wz hSw
      clear hSw
      go_simp
      first | done | with_reducible rfl
    try simp only [Act.put, List.setIfInBounds_toArray, List.set_cons_zero, List.set_cons_succ]
    refine wpAnyH_take (i := 10) (oi := ⟨some 44, _, _, _, _, _⟩) (v := ?_) rfl (by kernel_rfl) (by kernel_rfl) (by kernel_rfl) (fun _ _ _ h => h) (Or.inl ⟨by rfl, ?_⟩) hS ?_
    rotate_left
    · intro wz hSw
      clear hSw
      go_simp
      first | done | with_reducible rfl
    try simp only [Act.put, List.setIfInBounds_toArray, List.set_cons_zero, List.set_cons_succ]
    refine wpAnyH_take (i := 11) (oi := ⟨some 45, _, _, _, _, _⟩) (v := ?_) rfl (by kernel_rfl) (by kernel_rfl) (by kernel_rfl) (fun _ _ _ h => h) (Or.inl ⟨by rfl, ?_⟩) hS ?_
    rotate_left
    · intro wz hSw
      clear hSw
      go_simp
      first | done | with_reducible rfl
    try simp only [Act.put, List.setIfInBounds_toArray, List.set_cons_zero, List.set_cons_succ]
    refine wpAnyH_take (i := 12) (oi := ⟨some 46, _, _, _, _, _⟩) (v := ?_) rfl (by kernel_rfl) (by kernel_rfl) (by kernel_rfl) (fun _ _ _ h => h) (Or.inl ⟨by rfl, ?_⟩) hS ?_
    rotate_left
    · intro wz hSw
      clear hSw
      go_simp
      first | done | with_reducible rfl
    try simp only [Act.put, List.setIfInBounds_toArray, List.set_cons_zero, List.set_cons_succ]
    refine wpAnyH_ready (rs := [8]) (by kernel_rfl) (by simp) ?_
    refine AllReadyH.cons (o := ⟨some 42, _, _, _, _, _⟩) rfl (fun K hK => ?_) AllReadyH.nil
    go_simp
    refine (sx_ops (H6.out.grow (Below.refl _ _).drew)).mono ?_
    rw [HOPS.out]
    rintro e wz ⟨rfl, hwz⟩
    subst hwz
    go_wp2_with fail
    refine hK.out _ _ (HBS6.out.drew) (fun hS => ?_)
    clear hK K
    try simp only [Act.put, List.setIfInBounds_toArray, List.set_cons_zero, List.set_cons_succ]
    refine wpAnyH_take (i := 13) (oi := ⟨some 47, _, _, _, _, _⟩) (v := ?_) rfl (by kernel_rfl) (by kernel_rfl) (by kernel_rfl) (fun _ _ _ h => h) (Or.inl ⟨by rfl, ?_⟩) hS ?_
    rotate_left
    · intro wz hSw
      clear hSw
      go_simp
      first | done | with_reducible rfl
    try simp only [Act.put, List.setIfInBounds_toArray, List.set_cons_zero, List.set_cons_succ]
    refine wpAnyH_take (i := 14) (oi := ⟨some 48, _, _, _, _, _⟩) (v := ?_) rfl (by kernel_rfl) (by kernel_rfl) (by kernel_rfl) (fun _ _ _ h => h) (Or.inl ⟨by rfl, ?_⟩) hS ?_
    rotate_left
    · intro wz hSw
      clear hSw
      go_simp
      first | done | with_reducible rfl
    try simp only [Act.put, List.setIfInBounds_toArray, List.set_cons_zero, List.set_cons_succ]
    refine wpAnyH_take (i := 15) (oi := ⟨some 49, _, _, _, _, _⟩) (v := ?_) rfl (by kernel_rfl) (by kernel_rfl) (by kernel_rfl) (fun _ _ _ h => h) (Or.inl ⟨by rfl, ?_⟩) hS ?_
    rotate_left
    · intro wz hSw
      clear hSw
      go_simp
      first | done | with_reducible rfl
    try simp only [Act.put, List.setIfInBounds_toArray, List.set_cons_zero, List.set_cons_succ]
    refine wpAnyH_take (i := 16) (oi := ⟨some 50, _, _, _, _, _⟩) (v := ?_) rfl (by kernel_rfl) (by kernel_rfl) (by kernel_rfl) (fun _ _ _ h => h) (Or.inl ⟨by rfl, ?_⟩) hS ?_
    rotate_left
    · intro wz hSw
      clear hSw
      go_simp
      first | done | with_reducible rfl
    try simp only [Act.put, List.setIfInBounds_toArray, List.set_cons_zero, List.set_cons_succ]
    refine wpAnyH_take (i := 17) (oi := ⟨some 51, _, _, _, _, _⟩) (v := ?_) rfl (by kernel_rfl) (by kernel_rfl) (by kernel_rfl) (fun _ _ _ h => h) (Or.inl ⟨by rfl, ?_⟩) hS ?_
    rotate_left
    · intro wz hSw; have hcz := run_conv_bytes hSw; rw [← HZ.out] at hcz
      clear hSw
      go_simp
      first | done | with_reducible rfl
    try simp only [Act.put, List.setIfInBounds_toArray, List.set_cons_zero, List.set_cons_succ]
    refine wpAnyH_ready (rs := [18]) (by kernel_rfl) (by simp) ?_
    refine AllReadyH.cons (o := ⟨some 52, _, _, _, _, _⟩) rfl (fun K hK => ?_) AllReadyH.nil
    go_simp
    refine hK.out _ _ ((HBS6.out.below ((Below.refl _ w6).alloc (Nat.le_refl _) (.cells C0 5))).drew) (fun hS => ?_)
    clear hK K
    try simp only [Act.put, List.setIfInBounds_toArray, List.set_cons_zero, List.set_cons_succ]
    have hS' : (fun w' => Bs w' (.slice bo 512 bc) (zeros 512) ∧ Bs w' (.slice (some ⟨w6.heap.size, 0, none⟩) 512 512) (zeros 512)) ((w6.alloc (.cells C0 5)).drew) := ⟨hS, by rw [HC0.out]; exact (Bs.made w6 512 (by omega)).drew⟩
    refine wpAnyH_mono (S' := fun w' => Bs w' (.slice bo 512 bc) (zeros 512) ∧ Bs w' (.slice (some ⟨w6.heap.size, 0, none⟩) 512 512) (zeros 512)) (fun _ h => h.1) _ _ _ _ ?_
    clear hS
    have hS := hS'
    clear hS'
    refine wpAnyH_take (i := 19) (oi := ⟨some 53, _, _, _, _, _⟩) (v := ?_) rfl (by kernel_rfl) (by kernel_rfl) (by kernel_rfl) (fun _ _ _ h => h) (Or.inl ⟨by rfl, ?_⟩) hS ?_
    rotate_left
    · intro wz hSw; have hcz := run_conv_bytes hSw.2; rw [← HZ.out] at hcz
      clear hSw
      go_simp
      first | done | with_reducible rfl
    try simp only [Act.put, List.setIfInBounds_toArray, List.set_cons_zero, List.set_cons_succ]
    refine wpAnyH_take (i := 20) (oi := ⟨some 54, _, _, _, _, _⟩) (v := ?_) rfl (by kernel_rfl) (by kernel_rfl) (by kernel_rfl) (fun _ _ _ h => h) (Or.inl ⟨by rfl, ?_⟩) hS ?_
    rotate_left
    · intro wz hSw
      clear hSw
      go_simp
      first | done | with_reducible rfl
    try simp only [Act.put, List.setIfInBounds_toArray, List.set_cons_zero, List.set_cons_succ]
    refine wpAnyH_take (i := 21) (oi := ⟨some 55, _, _, _, _, _⟩) (v := ?_) rfl (by kernel_rfl) (by kernel_rfl) (by kernel_rfl) (fun _ _ _ h => h) (Or.inl ⟨by rfl, ?_⟩) hS ?_
    rotate_left
    · intro wz hSw
      clear hSw
      go_simp
      first | done | with_reducible rfl
    try simp only [Act.put, List.setIfInBounds_toArray, List.set_cons_zero, List.set_cons_succ]
    refine wpAnyH_take (i := 22) (oi := ⟨some 2, _, _, _, _, _⟩) (v := ?_) rfl (by kernel_rfl) (by kernel_rfl) (by kernel_rfl) (fun _ _ _ h => h) (Or.inl ⟨by rfl, ?_⟩) hS ?_
    rotate_left
    · intro wz hSw
      clear hSw
      go_simp
      first | done | with_reducible rfl
    try simp only [Act.put, List.setIfInBounds_toArray, List.set_cons_zero, List.set_cons_succ]
    refine wpAnyH_done (by kernel_rfl) ?_ _
    go_wp2
    go_ret
    exact ⟨rfl, (H6.out.below.alloc H6.out.size _).drew⟩

end Go.Proofs.Ytkhdahipnfloeaa
