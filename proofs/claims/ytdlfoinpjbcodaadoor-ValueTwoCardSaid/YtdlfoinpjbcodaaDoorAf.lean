/- Package value: Equal, Less. -/
import Derived.Test.YtdlfoinpjbcodaaDoorAe
namespace Go.Proofs.YtdlfoinpjbcodaaDoor
open Go.RowKit Go.Shelf Flo
set_option maxRecDepth 100000
set_option linter.unusedVariables false
set_option linter.unusedSimpArgs false

theorem equalO_num {a b : Tm} {m s m2 s2} (h : wt a = .num m s) (h2 : wt b = .num m2 s2) : equalO a b = (decide (sixI m s = sixI m2 s2), true) := by unfold equalO; rw [h, h2]
theorem equalO_other {a b : Tm} (h : bothN (wt a) (wt b) = false) : equalO a b = (tmEq a b, tmEq a b || decide (min (wt a).im (wt b).im = -5) || (decide ((wt a).im = (wt b).im) && decide (min (wt a).im (wt b).im ≠ -4))) := by
  unfold equalO
  generalize wt a = x at *
  generalize wt b = y at *
  have h' : ¬ 0 ≤ min x.im y.im := of_decide_eq_false h
  cases x <;> cases y <;> first | rfl | (exfalso; apply h'; simp only [Wt.im]; omega)
theorem cmpI_eq (a b : Int) : (cmpI a b == 0) = decide (a = b) := by
  unfold cmpI
  rcases Int.lt_trichotomy a b with h | h | h
  · rw [if_pos h, decide_eq_false (by omega)]; rfl
  · rw [if_neg (by omega), if_neg (by omega), decide_eq_true h]; rfl
  · rw [if_neg (by omega), if_pos h, decide_eq_false (by omega)]; rfl
theorem cmpI_lt (a b : Int) : decide (cmpI a b < 0) = decide (a < b) := by
  unfold cmpI
  rw [Bool.eq_iff_iff, decide_eq_true_eq, decide_eq_true_eq]
  split
  · omega
  · split <;> omega
set_option maxHeartbeats 2000000 in
theorem equal_any (a b : Tm) (ha : a.Sm) (hb : b.Sm) (w : World) (hP : PowAt w) : Calls Tryd.prog 10 #[a.val, b.val] w fun e w' => e = .returned (.tuple #[.bool (equalO a b).1, .bool (equalO a b).2]) ∧ Below w.heap.size w w' := by
  have HA := Lib.hid (fun w => weigh_any a ha w)
  have HB := Lib.hid (fun w => weigh_any b hb w)
  have HSA := Lib.hid (wt_small ha)
  have HSB := Lib.hid (wt_small hb)
  have HEQ := Lib.hid (fun w => equal_bool a b w)
  have HN := Lib.hid (TwoT.new w a b 23)
  have HP := Lib.hid hP
  obtain ⟨V, hV⟩ : ∃ V, V = Value.tuple #[.bool (equalO a b).1, .bool (equalO a b).2] := ⟨_, rfl⟩
  rw [← hV]
  have HV := Lib.hid hV
  clear hV ha hb hP
  unfold Tm.val
  unfold Tm.val at HA HB
  go_enter Tryd.func10, Tryd.ntmps10
  go_wp2_with fail
  generalize World.alloc (World.alloc w _) _ = wr at HN ⊢
  refine wp_region_any (by kernel_rfl) ?_
  change wpAny _ _ _ _ _ _ _ (World.drew _)
  refine wpAny_of_held (S := fun v => TwoT w a b v) _ _ _ _ ?_
  have hS : (fun v => TwoT w a b v) _ := HN.out.below (below_drew15 _)
  refine wpAnyH_take (i := 0) (oi := ⟨some 9, _, _, _, _, _⟩) (v := ?_) rfl (by kernel_rfl) (by kernel_rfl) (by kernel_rfl) (fun _ _ _ h => h) (Or.inl ⟨by simp only [Region.wanted], ?_⟩) hS ?_
  rotate_left
  · intro wz hSw; obtain ⟨-, k0, k1, k2, k3⟩ := hSw.2.1
    clear hSw
    go_simp
    first | done | with_reducible rfl
  try simp only [Act.put, List.setIfInBounds_toArray, List.set_cons_zero, List.set_cons_succ]
  refine wpAnyH_take (i := 2) (oi := ⟨some 11, _, _, _, _, _⟩) (v := ?_) rfl (by kernel_rfl) (by kernel_rfl) (by kernel_rfl) (fun _ _ _ h => h) (Or.inl ⟨by simp only [Region.wanted], ?_⟩) hS ?_
  rotate_left
  · intro wz hSw; obtain ⟨-, k0, k1, k2, k3⟩ := hSw.2.2
    clear hSw
    go_simp
    first | done | with_reducible rfl
  try simp only [Act.put, List.setIfInBounds_toArray, List.set_cons_zero, List.set_cons_succ]
  refine wpAnyH_ready (rs := [1]) (by kernel_rfl) (by simp) ?_
  refine AllReadyH.cons (o := ⟨some 10, _, _, _, _, _⟩) rfl (fun K hK => ?_) AllReadyH.nil
  go_simp
  refine (HA.out _).mono ?_
  rintro e w1 ⟨xr, xi, rfl, h1, h2⟩
  have HX := Lib.hid h1
  have HB1 := Lib.hid (hS.below h2)
  clear h1 h2
  go_wp2_with fail
  refine hK.out _ _ (HB1.out) (fun hS => ?_)
  clear hK K
  try simp only [Act.put, List.setIfInBounds_toArray, List.set_cons_zero, List.set_cons_succ]
  refine wpAnyH_ready (rs := [3]) (by kernel_rfl) (by simp) ?_
  refine AllReadyH.cons (o := ⟨some 12, _, _, _, _, _⟩) rfl (fun K hK => ?_) AllReadyH.nil
  go_simp
  refine (HB.out _).mono ?_
  rintro e w2 ⟨yr, yi, rfl, h1, h2⟩
  have HY := Lib.hid h1
  have HT := Lib.hid (hS.below h2)
  clear h1 h2
  go_wp2_with fail
  refine hK.out _ _ (HT.out) (fun hS => ?_)
  clear hK K
  try simp only [Act.put, List.setIfInBounds_toArray, List.set_cons_zero, List.set_cons_succ]
  refine wpAnyH_take (i := 4) (oi := ⟨some 6, _, _, _, _, _⟩) (v := ?_) rfl (by kernel_rfl) (by kernel_rfl) (by kernel_rfl) (fun _ _ _ h => h) (Or.inl ⟨by simp only [Region.wanted], ?_⟩) hS ?_
  rotate_left
  · intro wz hSw
    clear hSw
    go_simp
    first | done | with_reducible rfl
  try simp only [Act.put, List.setIfInBounds_toArray, List.set_cons_zero, List.set_cons_succ]
  refine wpAnyH_take (i := 5) (oi := ⟨some 7, _, _, _, _, _⟩) (v := ?_) rfl (by kernel_rfl) (by kernel_rfl) (by kernel_rfl) (fun _ _ _ h => h) (Or.inl ⟨by simp only [Region.wanted], ?_⟩) hS ?_
  rotate_left
  · intro wz hSw
    clear hSw
    go_simp
    first | done | with_reducible rfl
  try simp only [Act.put, List.setIfInBounds_toArray, List.set_cons_zero, List.set_cons_succ]
  refine wpAnyH_done (by kernel_rfl) ?_ _
  clear hS HN HB1
  have HNUM := Lib.hid (fun w => numbers_any xr xi yr yi _ _ HX.out.2 HY.out.2 w)
  have HDX := Lib.hid (fun w => decimal_of xr xi _ _ HX.out.1 HX.out.2 HSA.out.1 HSA.out.2 w)
  have HDY := Lib.hid (fun w => decimal_of yr yi _ _ HY.out.1 HY.out.2 HSB.out.1 HSB.out.2 w)
  by_cases hn : bothN (wt a) (wt b) = true
  · obtain ⟨m, s, m2, s2, ea, eb⟩ := bothN_num hn
    have HG := Lib.hid (And.intro (wt_num_good ea) (wt_num_good eb))
    rw [show decide (0 ≤ min (wt a).im (wt b).im) = true from hn] at HNUM
    rw [ea] at HDX
    rw [eb] at HDY
    replace HDX : Hid (∀ w, Calls Tryd.prog 24 #[.complex .f64 xr xi] w fun e w' => e = .returned (.agg #[.int .i64 m, .int .i64 (s : Int)]) ∧ Below w.heap.size w w') := HDX
    replace HDY : Hid (∀ w, Calls Tryd.prog 24 #[.complex .f64 yr yi] w fun e w' => e = .returned (.agg #[.int .i64 m2, .int .i64 (s2 : Int)]) ∧ Below w.heap.size w w') := HDY
    have HF := Lib.hid (show V = .tuple #[.bool (cmpI (sixI m s) (sixI m2 s2) == 0), .bool true] by rw [HV.out, equalO_num ea eb, cmpI_eq])
    clear hn ea eb HV
    go_wp2_with fail
    refine (HNUM.out _).mono ?_
    rintro e w3 ⟨rfl, rfl⟩
    go_wp2_with fail
    refine (HDX.out _).mono ?_
    rintro e w3 ⟨rfl, hb3⟩
    have HT3 := Lib.hid (HT.out.below hb3)
    clear hb3
    go_wp2_with fail
    refine (HDY.out _).mono ?_
    rintro e w4 ⟨rfl, hb4⟩
    have HT4 := Lib.hid (HT3.out.below hb4)
    clear hb4
    go_wp2_with fail
    refine (cmp_six _ m s m2 s2 HG.out.1 HG.out.2 (HP.out.below HT4.out.1)).mono ?_
    rintro e w5 ⟨rfl, hb5⟩
    have HT5 := Lib.hid (HT4.out.below hb5)
    clear hb5
    simp only [Int.toNat_natCast]
    generalize cmpI (sixI m s) (sixI m2 s2) = c at HF ⊢
    go_wp2_with fail
    go_ret2
    exact ⟨by rw [HF.out]; rfl, HT5.out.1⟩
  · have hn' : bothN (wt a) (wt b) = false := by simpa using hn
    rw [show decide (0 ≤ min (wt a).im (wt b).im) = false from hn'] at HNUM
    obtain ⟨r, hr, hm⟩ := run_min HX.out.2 HY.out.2
    have e1 := rep_eq hr repm5
    have e2 := rep_eq HX.out.2 HY.out.2
    have e3 := rep_eq hr repm4
    have HF := Lib.hid (show V = .tuple #[.bool (tmEq a b), .bool (tmEq a b || decide (min (wt a).im (wt b).im = -5) || (decide ((wt a).im = (wt b).im) && !decide (min (wt a).im (wt b).im = -4)))] by rw [HV.out, equalO_other hn']; simp)
    clear hn hn' HV hr HSA HSB
    generalize decide (min (wt a).im (wt b).im = -5) = c1 at *
    generalize decide ((wt a).im = (wt b).im) = c2 at *
    generalize decide (min (wt a).im (wt b).im = -4) = c3 at *
    obtain ⟨-, ka0, ka1, ka2, ka3⟩ := HT.out.2.1
    obtain ⟨-, kb0, kb1, kb2, kb3⟩ := HT.out.2.2
    have HEQ2 := HEQ.out
    generalize tmEq a b = c0 at *
    clear HEQ
    go_wp2_with fail
    refine (HNUM.out _).mono ?_
    rintro e w3 ⟨rfl, rfl⟩
    cases c0 <;> cases c1 <;> cases c2 <;> cases c3
    all_goals
      go_wp2_with fail
      go_ret2
      exact ⟨by rw [HF.out]; first | rfl | (simp [bne, e3]; done), HT.out.1⟩
theorem lessO_num {a b : Tm} {m s m2 s2} (h : wt a = .num m s) (h2 : wt b = .num m2 s2) : lessO a b = some (decide (sixI m s < sixI m2 s2)) := by unfold lessO; rw [h, h2]
theorem lessO_other {a b : Tm} (h : bothN (wt a) (wt b) = false) : lessO a b = if (wt a).im ≠ (wt b).im then none else if (wt a).im = -1 then some (decide ((wt a).re < (wt b).re)) else if (wt a).im = -2 then some (Op.bytesLess a.sl b.sl) else none := by
  unfold lessO
  generalize wt a = x at *
  generalize wt b = y at *
  have h' : ¬ 0 ≤ min x.im y.im := of_decide_eq_false h
  cases x <;> cases y <;> first | rfl | (exfalso; apply h'; simp only [Wt.im]; omega) | (rename_i n k; show none = if _ then _ else _; rw [if_pos (by simp only [Wt.im]; omega)]) | (rename_i n k k2; show none = if _ then _ else _; rw [if_pos (by simp only [Wt.im]; omega)]) | (rename_i p q; cases p <;> cases q <;> rfl)
set_option maxHeartbeats 2000000 in
theorem less_any (a b : Tm) (ha : a.Sm) (hb : b.Sm) (w : World) (hP : PowAt w) : Calls Tryd.prog 12 #[a.val, b.val] w fun e w' => e = .returned (twoB (lessO a b)) ∧ Below w.heap.size w w' := by
  have HA := Lib.hid (fun w => weigh_any a ha w)
  have HB := Lib.hid (fun w => weigh_any b hb w)
  have HSA := Lib.hid (wt_small ha)
  have HSB := Lib.hid (wt_small hb)
  have HEQ := Lib.hid (fun w => equal_bool a b w)
  have HN := Lib.hid (TwoT.new w a b 23)
  have HP := Lib.hid hP
  obtain ⟨V, hV⟩ : ∃ V, V = twoB (lessO a b) := ⟨_, rfl⟩
  rw [← hV]
  have HV := Lib.hid hV
  clear hV ha hb hP
  unfold Tm.val
  unfold Tm.val at HA HB
  go_enter Tryd.func12, Tryd.ntmps12
  go_wp2_with fail
  generalize World.alloc (World.alloc w _) _ = wr at HN ⊢
  refine wp_region_any (by kernel_rfl) ?_
  change wpAny _ _ _ _ _ _ _ (World.drew _)
  refine wpAny_of_held (S := fun v => TwoT w a b v) _ _ _ _ ?_
  have hS : (fun v => TwoT w a b v) _ := HN.out.below (below_drew15 _)
  refine wpAnyH_take (i := 0) (oi := ⟨some 8, _, _, _, _, _⟩) (v := ?_) rfl (by kernel_rfl) (by kernel_rfl) (by kernel_rfl) (fun _ _ _ h => h) (Or.inl ⟨by simp only [Region.wanted], ?_⟩) hS ?_
  rotate_left
  · intro wz hSw; obtain ⟨-, k0, k1, k2, k3⟩ := hSw.2.1
    clear hSw
    go_simp
    first | done | with_reducible rfl
  try simp only [Act.put, List.setIfInBounds_toArray, List.set_cons_zero, List.set_cons_succ]
  refine wpAnyH_take (i := 2) (oi := ⟨some 10, _, _, _, _, _⟩) (v := ?_) rfl (by kernel_rfl) (by kernel_rfl) (by kernel_rfl) (fun _ _ _ h => h) (Or.inl ⟨by simp only [Region.wanted], ?_⟩) hS ?_
  rotate_left
  · intro wz hSw; obtain ⟨-, k0, k1, k2, k3⟩ := hSw.2.2
    clear hSw
    go_simp
    first | done | with_reducible rfl
  try simp only [Act.put, List.setIfInBounds_toArray, List.set_cons_zero, List.set_cons_succ]
  refine wpAnyH_ready (rs := [1]) (by kernel_rfl) (by simp) ?_
  refine AllReadyH.cons (o := ⟨some 9, _, _, _, _, _⟩) rfl (fun K hK => ?_) AllReadyH.nil
  go_simp
  refine (HA.out _).mono ?_
  rintro e w1 ⟨xr, xi, rfl, h1, h2⟩
  have HX := Lib.hid h1
  have HB1 := Lib.hid (hS.below h2)
  clear h1 h2
  go_wp2_with fail
  refine hK.out _ _ (HB1.out) (fun hS => ?_)
  clear hK K
  try simp only [Act.put, List.setIfInBounds_toArray, List.set_cons_zero, List.set_cons_succ]
  refine wpAnyH_ready (rs := [3]) (by kernel_rfl) (by simp) ?_
  refine AllReadyH.cons (o := ⟨some 11, _, _, _, _, _⟩) rfl (fun K hK => ?_) AllReadyH.nil
  go_simp
  refine (HB.out _).mono ?_
  rintro e w2 ⟨yr, yi, rfl, h1, h2⟩
  have HY := Lib.hid h1
  have HT := Lib.hid (hS.below h2)
  clear h1 h2
  go_wp2_with fail
  refine hK.out _ _ (HT.out) (fun hS => ?_)
  clear hK K
  try simp only [Act.put, List.setIfInBounds_toArray, List.set_cons_zero, List.set_cons_succ]
  refine wpAnyH_take (i := 4) (oi := ⟨some 6, _, _, _, _, _⟩) (v := ?_) rfl (by kernel_rfl) (by kernel_rfl) (by kernel_rfl) (fun _ _ _ h => h) (Or.inl ⟨by simp only [Region.wanted], ?_⟩) hS ?_
  rotate_left
  · intro wz hSw
    clear hSw
    go_simp
    first | done | with_reducible rfl
  try simp only [Act.put, List.setIfInBounds_toArray, List.set_cons_zero, List.set_cons_succ]
  refine wpAnyH_take (i := 5) (oi := ⟨some 7, _, _, _, _, _⟩) (v := ?_) rfl (by kernel_rfl) (by kernel_rfl) (by kernel_rfl) (fun _ _ _ h => h) (Or.inl ⟨by simp only [Region.wanted], ?_⟩) hS ?_
  rotate_left
  · intro wz hSw
    clear hSw
    go_simp
    first | done | with_reducible rfl
  try simp only [Act.put, List.setIfInBounds_toArray, List.set_cons_zero, List.set_cons_succ]
  refine wpAnyH_done (by kernel_rfl) ?_ _
  clear hS HN HB1
  have HNUM := Lib.hid (fun w => numbers_any xr xi yr yi _ _ HX.out.2 HY.out.2 w)
  have HDX := Lib.hid (fun w => decimal_of xr xi _ _ HX.out.1 HX.out.2 HSA.out.1 HSA.out.2 w)
  have HDY := Lib.hid (fun w => decimal_of yr yi _ _ HY.out.1 HY.out.2 HSB.out.1 HSB.out.2 w)
  by_cases hn : bothN (wt a) (wt b) = true
  · obtain ⟨m, s, m2, s2, ea, eb⟩ := bothN_num hn
    have HG := Lib.hid (And.intro (wt_num_good ea) (wt_num_good eb))
    rw [show decide (0 ≤ min (wt a).im (wt b).im) = true from hn] at HNUM
    rw [ea] at HDX
    rw [eb] at HDY
    replace HDX : Hid (∀ w, Calls Tryd.prog 24 #[.complex .f64 xr xi] w fun e w' => e = .returned (.agg #[.int .i64 m, .int .i64 (s : Int)]) ∧ Below w.heap.size w w') := HDX
    replace HDY : Hid (∀ w, Calls Tryd.prog 24 #[.complex .f64 yr yi] w fun e w' => e = .returned (.agg #[.int .i64 m2, .int .i64 (s2 : Int)]) ∧ Below w.heap.size w w') := HDY
    have HF := Lib.hid (show V = .tuple #[.bool (decide (cmpI (sixI m s) (sixI m2 s2) < 0)), .bool true] by rw [HV.out, lessO_num ea eb, cmpI_lt]; rfl)
    clear hn ea eb HV
    go_wp2_with fail
    refine (HNUM.out _).mono ?_
    rintro e w3 ⟨rfl, rfl⟩
    go_wp2_with fail
    refine (HDX.out _).mono ?_
    rintro e w3 ⟨rfl, hb3⟩
    have HT3 := Lib.hid (HT.out.below hb3)
    clear hb3
    go_wp2_with fail
    refine (HDY.out _).mono ?_
    rintro e w4 ⟨rfl, hb4⟩
    have HT4 := Lib.hid (HT3.out.below hb4)
    clear hb4
    go_wp2_with fail
    refine (cmp_six _ m s m2 s2 HG.out.1 HG.out.2 (HP.out.below HT4.out.1)).mono ?_
    rintro e w5 ⟨rfl, hb5⟩
    have HT5 := Lib.hid (HT4.out.below hb5)
    clear hb5
    simp only [Int.toNat_natCast]
    generalize cmpI (sixI m s) (sixI m2 s2) = c at HF ⊢
    go_wp2_with fail
    go_ret2
    exact ⟨by rw [HF.out]; rfl, HT5.out.1⟩
  · have hn' : bothN (wt a) (wt b) = false := by simpa using hn
    rw [show decide (0 ≤ min (wt a).im (wt b).im) = false from hn'] at HNUM
    have e1 := rep_eq HX.out.2 HY.out.2
    have e2 := rep_eq HX.out.2 repm1
    have e3 := rep_eq HX.out.2 repm2
    have e4 := rep_lt HX.out.1 HY.out.1
    have HF := Lib.hid (show V = twoB (if (wt a).im ≠ (wt b).im then none else if (wt a).im = -1 then some (decide ((wt a).re < (wt b).re)) else if (wt a).im = -2 then some (Op.bytesLess a.sl b.sl) else none) by rw [HV.out, lessO_other hn'])
    obtain ⟨-, ka0, ka1, ka2, ka3⟩ := HT.out.2.1
    obtain ⟨-, kb0, kb1, kb2, kb3⟩ := HT.out.2.2
    clear hn hn' HV HSA HSB HDX HDY HEQ
    by_cases c1 : (wt a).im = (wt b).im
    · rw [decide_eq_true c1] at e1
      have e1b : (FloatKind.f64.format.order xi yi != some .eq) = false := by rw [bne, e1]; rfl
      rw [if_neg (by simpa using c1)] at HF
      clear c1
      by_cases c2 : (wt a).im = -1
      · rw [decide_eq_true c2] at e2
        rw [if_pos c2] at HF
        clear c2
        generalize decide ((wt a).re < (wt b).re) = d at HF e4
        go_wp2_with fail
        refine (HNUM.out _).mono ?_
        rintro e w3 ⟨rfl, rfl⟩
        go_wp2_with fail
        go_ret2
        exact ⟨by rw [HF.out]; first | rfl | (simp [bne, e4]; done), HT.out.1⟩
      · rw [decide_eq_false c2] at e2
        rw [if_neg c2] at HF
        clear c2
        by_cases c3 : (wt a).im = -2
        · rw [decide_eq_true c3] at e3
          rw [if_pos c3] at HF
          clear c3
          go_wp2_with fail
          refine (HNUM.out _).mono ?_
          rintro e w3 ⟨rfl, rfl⟩
          go_wp2_with fail
          go_ret2
          exact ⟨by rw [HF.out]; unfold Tm.sl; rw [← Lib.toList_data a.s, ← Lib.toList_data b.s]; rfl, HT.out.1⟩
        · rw [decide_eq_false c3] at e3
          rw [if_neg c3] at HF
          clear c3
          go_wp2_with fail
          refine (HNUM.out _).mono ?_
          rintro e w3 ⟨rfl, rfl⟩
          go_wp2_with fail
          go_ret2
          exact ⟨by rw [HF.out]; first | rfl | (simp [bne, e4]; done), HT.out.1⟩
    · rw [decide_eq_false c1] at e1
      have e1b : (FloatKind.f64.format.order xi yi != some .eq) = true := by rw [bne, e1]; rfl
      rw [if_pos c1] at HF
      clear c1
      go_wp2_with fail
      refine (HNUM.out _).mono ?_
      rintro e w3 ⟨rfl, rfl⟩
      go_wp2_with fail
      go_ret2
      exact ⟨by rw [HF.out]; first | rfl | (simp [bne, e4]; done), HT.out.1⟩

end Go.Proofs.YtdlfoinpjbcodaaDoor
