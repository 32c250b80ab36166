/- Package value: one. -/
import Derived.Test.YtecomfhbdonkbaaGreatDoorAi
namespace Go.Proofs.YtecomfhbdonkbaaGreatDoor
open Go.RowKit Go.Shelf Flo
set_option maxRecDepth 100000
set_option linter.unusedVariables false
set_option linter.unusedSimpArgs false

/-- A term's box that may be written. -/
def AnsB (v : World) (b : Nat) : Prop := (∃ x : Tm, TmB v b x) ∧ ∀ j, v.frozen? ⟨b, j, none⟩ = false
theorem AnsB.below {w w' : World} {b : Nat} (h : AnsB w b) (hb : Below w.heap.size w w') : AnsB w' b := by
  obtain ⟨⟨x, hx⟩, hf⟩ := h
  exact ⟨⟨x, hx.below hb⟩, fun j => (hb.frozen (p := ⟨b, j, none⟩) hx.1).trans (hf j)⟩
theorem AnsB.put {w : World} {b : Nat} (h : AnsB w b) (x : Tm) : AnsB ((((w.setCell ⟨b, 0, none⟩ (.int .i64 x.k)).setCell ⟨b, 1, none⟩ (.string x.s)).setCell ⟨b, 2, none⟩ (.string x.l)).setCell ⟨b, 3, none⟩ (.string x.t)) b := by
  obtain ⟨⟨y, hy⟩, hf⟩ := h
  obtain ⟨h0, h1, h2, h3, h4⟩ := hy
  have same : ∀ (v : World) (j : Nat) (u : Value), (v.cell? ⟨b, j, none⟩).isSome = true → (v.setCell ⟨b, j, none⟩ u).cell? ⟨b, j, none⟩ = some u := fun v j u h => World.cell?_setCell_same' _ _ _ h
  have other : ∀ (v : World) (i j : Nat) (u : Value), i ≠ j → (v.setCell ⟨b, j, none⟩ u).cell? ⟨b, i, none⟩ = v.cell? ⟨b, i, none⟩ := fun v i j u h => World.cell?_setCell_other _ _ _ _ (by simp [h])
  refine ⟨⟨x, by simpa using h0, ?_, ?_, ?_, ?_⟩, fun j => by simp only [World.frozen?_setCell]; exact hf j⟩
  · rw [other _ 0 3 _ (by decide), other _ 0 2 _ (by decide), other _ 0 1 _ (by decide)]; exact same _ _ _ (by rw [h1]; rfl)
  · rw [other _ 1 3 _ (by decide), other _ 1 2 _ (by decide)]; exact same _ _ _ (by rw [other _ 1 0 _ (by decide), h2]; rfl)
  · rw [other _ 2 3 _ (by decide)]; exact same _ _ _ (by rw [other _ 2 1 _ (by decide), other _ 2 0 _ (by decide), h3]; rfl)
  · exact same _ _ _ (by rw [other _ 3 2 _ (by decide), other _ 3 1 _ (by decide), other _ 3 0 _ (by decide), h4]; rfl)
theorem AnsB.new (w : World) (ty : TypeId) : AnsB (w.alloc (.cells #[.int .i64 0, .string ⟨#[]⟩, .string ⟨#[]⟩, .string ⟨#[]⟩] ty)) w.heap.size := ⟨⟨zeroT, TmB.new w zeroT ty⟩, fun j => frozen_new w _ ty j⟩
theorem TmB.far {w : World} {b q : Nat} {t : Tm} (h : TmB w b t) (hne : b ≠ q) (a s l y : Value) : TmB ((((w.setCell ⟨q, 0, none⟩ a).setCell ⟨q, 1, none⟩ s).setCell ⟨q, 2, none⟩ l).setCell ⟨q, 3, none⟩ y) b t := by
  obtain ⟨h0, h1, h2, h3, h4⟩ := h
  have c : ∀ (v : World) (i j : Nat) (u : Value), (v.setCell ⟨q, j, none⟩ u).cell? ⟨b, i, none⟩ = v.cell? ⟨b, i, none⟩ := fun v i j u => World.cell?_setCell_other _ _ _ _ (by simp [hne])
  exact ⟨by simpa using h0, by simp only [c]; exact h1, by simp only [c]; exact h2, by simp only [c]; exact h3, by simp only [c]; exact h4⟩
/-- A term's box and the answer's. -/
def TwoA (w : World) (a : Tm) (v : World) : Prop := Below w.heap.size w v ∧ TmB v w.heap.size a ∧ AnsB v (w.heap.size + 1)
theorem TwoA.below {w v v' : World} {a : Tm} (h : TwoA w a v) (hb : Below v.heap.size v v') : TwoA w a v' := ⟨h.1.trans (hb.mono h.1.size), h.2.1.below hb, h.2.2.below hb⟩
theorem TwoA.put {w v : World} {a : Tm} (h : TwoA w a v) (x : Tm) : TwoA w a ((((v.setCell ⟨w.heap.size + 1, 0, none⟩ (.int .i64 x.k)).setCell ⟨w.heap.size + 1, 1, none⟩ (.string x.s)).setCell ⟨w.heap.size + 1, 2, none⟩ (.string x.l)).setCell ⟨w.heap.size + 1, 3, none⟩ (.string x.t)) :=
  ⟨(((h.1.setCell (by simp only []; omega) _).setCell (by simp only []; omega) _).setCell (by simp only []; omega) _).setCell (by simp only []; omega) _, h.2.1.far (by omega) _ _ _ _, h.2.2.put x⟩
theorem TwoA.new (w : World) (a : Tm) (ty : TypeId) : TwoA w a ((w.alloc (.cells #[.int .i64 a.k, .string a.s, .string a.l, .string a.t] ty)).alloc (.cells #[.int .i64 0, .string ⟨#[]⟩, .string ⟨#[]⟩, .string ⟨#[]⟩] ty)) := by
  have h1 := TmB.new w a ty
  have b1 := (Below.refl w.heap.size w).alloc (Nat.le_refl _) (.cells #[.int .i64 a.k, .string a.s, .string a.l, .string a.t] ty)
  have z1 : (w.alloc (.cells #[.int .i64 a.k, .string a.s, .string a.l, .string a.t] ty)).heap.size = w.heap.size + 1 := by simp
  generalize w.alloc (.cells #[.int .i64 a.k, .string a.s, .string a.l, .string a.t] ty) = w1 at *
  have h2 := AnsB.new w1 ty
  have b2 := (Below.refl w1.heap.size w1).alloc (Nat.le_refl _) (.cells #[.int .i64 0, .string ⟨#[]⟩, .string ⟨#[]⟩, .string ⟨#[]⟩] ty)
  rw [z1] at h2
  exact ⟨b1.trans (b2.mono (by omega)), h1.below b2, h2⟩
set_option maxHeartbeats 800000 in
theorem one_4 (a : Tm) (ha : a.Sm) (w : World) (hY : TabP w) : Calls Tryz.prog 70 #[.int .i64 4, a.val] w fun e w' => Tells e (oneO 4 a) ∧ Below w.heap.size w w' := by
  have HN := Lib.hid (TwoA.new w a 25)
  have HY := Lib.hid hY
  obtain ⟨V, hV⟩ : ∃ V, V = oneO 4 a := ⟨_, rfl⟩
  rw [← hV]
  have HV := Lib.hid hV
  have HA := Lib.hid (fun w => truth_any a ha w)
  clear hV ha hY
  unfold Tm.val
  unfold Tm.val at HA
  have HF0 := Lib.hid (show V = (truthO a).map (fun b => boolT (!b)) from HV.out)
  generalize truthO a = q at HA HF0
  rcases q with _ | b
  · have HF := Lib.hid (show V = none from HF0.out)
    have HA2 : Hid (∀ w, Calls Tryz.prog 22 #[.agg #[.int .i64 a.k, .string a.s, .string a.l, .string a.t]] w fun e w' => e = .returned (.tuple #[.bool false, .bool false]) ∧ Below w.heap.size w w') := HA
    clear HA HF0 HV
    go_enter Tryz.func70, Tryz.ntmps70
    go_wp2_with fail
    generalize World.alloc (World.alloc w _) _ = wr at HN ⊢
    refine (HA2.out _).mono ?_
    rintro e w1 ⟨rfl, hb1⟩
    have HT1 := Lib.hid (HN.out.below hb1)
    clear hb1
    obtain ⟨-, ka0, ka1, ka2, ka3⟩ := HT1.out.2.1
    obtain ⟨⟨xz, -, kz0, kz1, kz2, kz3⟩, fz⟩ := HT1.out.2.2
    have fz0 := fz 0
    have fz1 := fz 1
    have fz2 := fz 2
    have fz3 := fz 3
    clear fz
    go_wp2_with fail
    clear ka0 ka1 ka2 ka3 kz0 kz1 kz2 kz3 fz0 fz1 fz2 fz3 xz
    refine (boolean_ex _ _ _).mono ?_
    rintro e w3 ⟨k, s, l, y, o, rfl, hx, ho, hb3⟩
    have HX := Lib.hid (And.intro hx ho)
    have HT3 := Lib.hid (HT1.out.below hb3)
    clear hx ho hb3
    obtain ⟨-, ka0, ka1, ka2, ka3⟩ := HT3.out.2.1
    obtain ⟨⟨xz, -, kz0, kz1, kz2, kz3⟩, fz⟩ := HT3.out.2.2
    have fz0 := fz 0
    have fz1 := fz 1
    have fz2 := fz 2
    have fz3 := fz 3
    clear fz
    go_wp2_with fail
    refine bodyPost_ret (v := .tuple #[.agg #[.int .i64 k, .string s, .string l, .string y], .bool o]) (by simp [results, Tryz.results70, go_sem, kz0, kz1, kz2, kz3]) rfl ⟨?_, (HT3.out.put ⟨k, s, l, y⟩).1⟩
    rw [HF.out]
    obtain ⟨hx, ho⟩ := HX.out
    subst ho
    first | exact hx ▸ Tells.some (x := ⟨k, s, l, y⟩) rfl | exact Tells.none (x := ⟨k, s, l, y⟩) rfl
  · have HF := Lib.hid (show V = some (boolT (!b)) from HF0.out)
    have HA2 : Hid (∀ w, Calls Tryz.prog 22 #[.agg #[.int .i64 a.k, .string a.s, .string a.l, .string a.t]] w fun e w' => e = .returned (.tuple #[.bool b, .bool true]) ∧ Below w.heap.size w w') := HA
    clear HA HF0 HV
    go_enter Tryz.func70, Tryz.ntmps70
    go_wp2_with fail
    generalize World.alloc (World.alloc w _) _ = wr at HN ⊢
    refine (HA2.out _).mono ?_
    rintro e w1 ⟨rfl, hb1⟩
    have HT1 := Lib.hid (HN.out.below hb1)
    clear hb1
    obtain ⟨-, ka0, ka1, ka2, ka3⟩ := HT1.out.2.1
    obtain ⟨⟨xz, -, kz0, kz1, kz2, kz3⟩, fz⟩ := HT1.out.2.2
    have fz0 := fz 0
    have fz1 := fz 1
    have fz2 := fz 2
    have fz3 := fz 3
    clear fz
    go_wp2_with fail
    clear ka0 ka1 ka2 ka3 kz0 kz1 kz2 kz3 fz0 fz1 fz2 fz3 xz
    refine (boolean_ex _ _ _).mono ?_
    rintro e w3 ⟨k, s, l, y, o, rfl, hx, ho, hb3⟩
    have HX := Lib.hid (And.intro hx ho)
    have HT3 := Lib.hid (HT1.out.below hb3)
    clear hx ho hb3
    obtain ⟨-, ka0, ka1, ka2, ka3⟩ := HT3.out.2.1
    obtain ⟨⟨xz, -, kz0, kz1, kz2, kz3⟩, fz⟩ := HT3.out.2.2
    have fz0 := fz 0
    have fz1 := fz 1
    have fz2 := fz 2
    have fz3 := fz 3
    clear fz
    go_wp2_with fail
    refine bodyPost_ret (v := .tuple #[.agg #[.int .i64 k, .string s, .string l, .string y], .bool o]) (by simp [results, Tryz.results70, go_sem, kz0, kz1, kz2, kz3]) rfl ⟨?_, (HT3.out.put ⟨k, s, l, y⟩).1⟩
    rw [HF.out]
    obtain ⟨hx, ho⟩ := HX.out
    subst ho
    first | exact hx ▸ Tells.some (x := ⟨k, s, l, y⟩) rfl | exact Tells.none (x := ⟨k, s, l, y⟩) rfl
set_option maxHeartbeats 800000 in
theorem one_14 (a : Tm) (ha : a.Sm) (w : World) (hY : TabP w) : Calls Tryz.prog 70 #[.int .i64 14, a.val] w fun e w' => Tells e (oneO 14 a) ∧ Below w.heap.size w w' := by
  have HN := Lib.hid (TwoA.new w a 25)
  have HY := Lib.hid hY
  obtain ⟨V, hV⟩ : ∃ V, V = oneO 14 a := ⟨_, rfl⟩
  rw [← hV]
  have HV := Lib.hid hV
  have HA := Lib.hid (fun w => weigh_any a ha w)
  have HSA := Lib.hid (wt_small ha)
  clear hV ha hY
  unfold Tm.val
  unfold Tm.val at HA
  go_enter Tryz.func70, Tryz.ntmps70
  go_wp2_with fail
  generalize World.alloc (World.alloc w _) _ = wr at HN ⊢
  refine (HA.out _).mono ?_
  rintro e w1 ⟨xr, xi, rfl, hx, hb1⟩
  have HX := Lib.hid hx
  have HT1 := Lib.hid (HN.out.below hb1)
  clear hx hb1
  have HNUM := Lib.hid (fun w => numbers_any xr xi xr xi _ _ HX.out.2 HX.out.2 w)
  have HDX := Lib.hid (fun w => decimal_of xr xi _ _ HX.out.1 HX.out.2 HSA.out.1 HSA.out.2 w)
  have HNG := Lib.hid (fun w => neg_small w (wt a).re (wt a).im HSA.out.1)
  obtain ⟨n, hn⟩ : ∃ n : Bool, n = decide (0 ≤ min (wt a).im (wt a).im) := ⟨_, rfl⟩
  rw [← hn] at HNUM
  have HNN := Lib.hid hn
  clear hn
  generalize hre : (wt a).re = re at HDX HNG
  generalize him : (wt a).im = im at HDX HNG
  have HRE := Lib.hid (And.intro hre him)
  clear hre him
  have HNL : Hid (∃ z : ByteArray, (n = true → ∃ s, wt a = .num re s ∧ z = ⟨(printF (-re) s).toArray⟩) ∧ ∀ w1, TabP w1 → Calls Tryz.prog 93 #[.agg #[.int .i64 (-re), .int .i64 im], .string a.t, .bool n] w1 fun e w' => e = .returned (.tuple #[.agg #[.int .i64 3, .string z, .string ⟨#[]⟩, .string a.t], .bool n]) ∧ Below w1.heap.size w1 w') := Lib.hid (by
    cases n with
    | true =>
      obtain ⟨m, s, m2, s2, ea, -⟩ := bothN_num (x := wt a) (y := wt a) HNN.out.symm
      obtain ⟨h1, h2⟩ := HRE.out
      rw [ea] at h1 h2
      replace h1 : m = re := h1
      replace h2 : (s : Int) = im := h2
      subst h1
      refine ⟨_, fun _ => ⟨s, ea, rfl⟩, fun w1 ht => ?_⟩
      rw [← h2]
      exact numeral_any (-m) s a.t true w1 (good_neg (wt_num_good ea)) ht
    | false =>
      have hlt : im < 0 := by
        have := of_decide_eq_false HNN.out.symm
        rw [← HRE.out.2]
        omega
      exact ⟨⟨#[]⟩, (fun h => by cases h), fun w1 ht => numeral_of (-re) im ⟨#[]⟩ a.t false w1 (fun w2 hb => print_bad w2 (-re) im hlt)⟩)
  obtain ⟨z, hz, hnl⟩ := HNL.out
  have HZ := Lib.hid hz
  have HNL2 := Lib.hid hnl
  clear HNL hz hnl
  obtain ⟨-, ka0, ka1, ka2, ka3⟩ := HT1.out.2.1
  go_wp2_with fail
  refine wp_region_any (by kernel_rfl) ?_
  change wpAny _ _ _ _ _ _ _ (World.drew _)
  refine wpAny_of_held (S := fun v => TwoA w a v) _ _ _ _ ?_
  have hS : (fun v => TwoA w a v) _ := HT1.out.below (below_drew15 _)
  refine wpAnyH_take (i := 0) (oi := ⟨some 31, _, _, _, _, _⟩) (v := ?_) rfl (by kernel_rfl) (by kernel_rfl) (by kernel_rfl) (fun _ _ _ h => h) (Or.inl ⟨by simp only [Region.wanted], ?_⟩) hS ?_
  rotate_left
  · intro wz hSw
    clear hSw
    go_simp
    first | done | with_reducible rfl
  try simp only [Act.put, List.setIfInBounds_toArray, List.set_cons_zero, List.set_cons_succ]
  refine wpAnyH_take (i := 3) (oi := ⟨some 34, _, _, _, _, _⟩) (v := ?_) rfl (by kernel_rfl) (by kernel_rfl) (by kernel_rfl) (fun _ _ _ h => h) (Or.inl ⟨by simp only [Region.wanted], ?_⟩) hS ?_
  rotate_left
  · intro wz hSw
    clear hSw
    go_simp
    first | done | with_reducible rfl
  try simp only [Act.put, List.setIfInBounds_toArray, List.set_cons_zero, List.set_cons_succ]
  refine wpAnyH_take (i := 4) (oi := ⟨some 35, _, _, _, _, _⟩) (v := ?_) rfl (by kernel_rfl) (by kernel_rfl) (by kernel_rfl) (fun _ _ _ h => h) (Or.inl ⟨by simp only [Region.wanted], ?_⟩) hS ?_
  rotate_left
  · intro wz hSw; obtain ⟨-, k0, k1, k2, k3⟩ := hSw.2.1
    clear hSw
    go_simp
    first | done | with_reducible rfl
  try simp only [Act.put, List.setIfInBounds_toArray, List.set_cons_zero, List.set_cons_succ]
  refine wpAnyH_take (i := 5) (oi := ⟨some 36, _, _, _, _, _⟩) (v := ?_) rfl (by kernel_rfl) (by kernel_rfl) (by kernel_rfl) (fun _ _ _ h => h) (Or.inl ⟨by simp only [Region.wanted], ?_⟩) hS ?_
  rotate_left
  · intro wz hSw
    clear hSw
    go_simp
    first | done | with_reducible rfl
  try simp only [Act.put, List.setIfInBounds_toArray, List.set_cons_zero, List.set_cons_succ]
  refine wpAnyH_take (i := 6) (oi := ⟨some 37, _, _, _, _, _⟩) (v := ?_) rfl (by kernel_rfl) (by kernel_rfl) (by kernel_rfl) (fun _ _ _ h => h) (Or.inl ⟨by simp only [Region.wanted], ?_⟩) hS ?_
  rotate_left
  · intro wz hSw
    clear hSw
    go_simp
    first | done | with_reducible rfl
  try simp only [Act.put, List.setIfInBounds_toArray, List.set_cons_zero, List.set_cons_succ]
  refine wpAnyH_ready (rs := [1]) (by kernel_rfl) (by simp) ?_
  refine AllReadyH.cons (o := ⟨some 32, _, _, _, _, _⟩) rfl (fun K hK => ?_) AllReadyH.nil
  go_simp
  refine (HDX.out _).mono ?_
  rintro e w2 ⟨rfl, hb2⟩
  have HT2 := Lib.hid (hS.below hb2)
  clear hb2
  go_wp2_with fail
  refine hK.out _ _ (HT2.out) (fun hS => ?_)
  clear hK K
  try simp only [Act.put, List.setIfInBounds_toArray, List.set_cons_zero, List.set_cons_succ]
  refine wpAnyH_ready (rs := [2]) (by kernel_rfl) (by simp) ?_
  refine AllReadyH.cons (o := ⟨some 33, _, _, _, _, _⟩) rfl (fun K hK => ?_) AllReadyH.nil
  go_simp
  refine (HNG.out _).mono ?_
  rintro e w4 ⟨rfl, hb4⟩
  have HT4 := Lib.hid (hS.below hb4)
  clear hb4
  go_wp2_with fail
  refine hK.out _ _ (HT4.out) (fun hS => ?_)
  clear hK K
  try simp only [Act.put, List.setIfInBounds_toArray, List.set_cons_zero, List.set_cons_succ]
  refine wpAnyH_ready (rs := [7]) (by kernel_rfl) (by simp) ?_
  refine AllReadyH.cons (o := ⟨some 38, _, _, _, _, _⟩) rfl (fun K hK => ?_) AllReadyH.nil
  go_simp
  refine (HNUM.out _).mono ?_
  rintro e w5 ⟨rfl, rfl⟩
  go_wp2_with fail
  refine hK.out _ _ (hS) (fun hS => ?_)
  clear hK K
  try simp only [Act.put, List.setIfInBounds_toArray, List.set_cons_zero, List.set_cons_succ]
  refine wpAnyH_ready (rs := [8]) (by kernel_rfl) (by simp) ?_
  refine AllReadyH.cons (o := ⟨some 39, _, _, _, _, _⟩) rfl (fun K hK => ?_) AllReadyH.nil
  go_simp
  refine (HNL2.out _ (HY.out.below hS.1)).mono ?_
  rintro e w6 ⟨rfl, hb6⟩
  have HT6 := Lib.hid (hS.below hb6)
  clear hb6
  go_wp2_with fail
  refine hK.out _ _ (HT6.out) (fun hS => ?_)
  clear hK K
  try simp only [Act.put, List.setIfInBounds_toArray, List.set_cons_zero, List.set_cons_succ]
  refine wpAnyH_take (i := 9) (oi := ⟨some 40, _, _, _, _, _⟩) (v := ?_) rfl (by kernel_rfl) (by kernel_rfl) (by kernel_rfl) (fun _ _ _ h => h) (Or.inl ⟨by simp only [Region.wanted], ?_⟩) hS ?_
  rotate_left
  · intro wz hSw
    clear hSw
    go_simp
    first | done | with_reducible rfl
  try simp only [Act.put, List.setIfInBounds_toArray, List.set_cons_zero, List.set_cons_succ]
  refine wpAnyH_take (i := 10) (oi := ⟨some 41, _, _, _, _, _⟩) (v := ?_) rfl (by kernel_rfl) (by kernel_rfl) (by kernel_rfl) (fun _ _ _ h => h) (Or.inl ⟨by simp only [Region.wanted], ?_⟩) hS ?_
  rotate_left
  · intro wz hSw
    clear hSw
    go_simp
    first | done | with_reducible rfl
  try simp only [Act.put, List.setIfInBounds_toArray, List.set_cons_zero, List.set_cons_succ]
  refine wpAnyH_ready (rs := [11]) (by kernel_rfl) (by simp) ?_
  refine AllReadyH.cons (o := ⟨none, _, _, _, _, _⟩) rfl (fun K hK => ?_) AllReadyH.nil
  go_simp
  obtain ⟨⟨xz, -, kz0, kz1, kz2, kz3⟩, fz⟩ := hS.2.2
  have fz0 := fz 0
  have fz1 := fz 1
  have fz2 := fz 2
  have fz3 := fz 3
  clear fz
  go_simp
  refine hK.out _ _ (hS.put ⟨3, z, ⟨#[]⟩, a.t⟩) (fun hS => ?_)
  clear hK K
  try simp only [Act.put, List.setIfInBounds_toArray, List.set_cons_zero, List.set_cons_succ]
  refine wpAnyH_take (i := 12) (oi := ⟨some 5, _, _, _, _, _⟩) (v := ?_) rfl (by kernel_rfl) (by kernel_rfl) (by kernel_rfl) (fun _ _ _ h => h) (Or.inl ⟨by simp only [Region.wanted], ?_⟩) hS ?_
  rotate_left
  · intro wz hSw
    clear hSw
    go_simp
    first | done | with_reducible rfl
  try simp only [Act.put, List.setIfInBounds_toArray, List.set_cons_zero, List.set_cons_succ]
  refine wpAnyH_done (by kernel_rfl) ?_ _
  go_wp2_with fail
  refine bodyPost_ret (v := .tuple #[.agg #[.int .i64 3, .string z, .string ⟨#[]⟩, .string a.t], .bool n]) (by simp [results, Tryz.results70, go_sem, kz0, kz1, kz2, kz3]) rfl ⟨?_, hS.1⟩
  rw [HV.out, show oneO 14 a = (numO a).map (fun p => numeralT (-p.1, p.2) a.tl) from rfl]
  have hz := HZ.out
  cases n with
  | true =>
    obtain ⟨s, es, rfl⟩ := hz rfl
    rw [numO_wt es]
    exact Tells.some rfl
  | false =>
    have : numO a = none := by
      have := of_decide_eq_false HNN.out.symm
      unfold numO
      cases hw : wt a <;> first | rfl | (exfalso; apply this; rw [hw]; simp only [Wt.im]; omega)
    rw [this]
    exact Tells.none (x := ⟨3, z, ⟨#[]⟩, a.t⟩) rfl
set_option maxHeartbeats 800000 in
theorem one_16 (a : Tm) (ha : a.Sm) (w : World) (hY : TabP w) : Calls Tryz.prog 70 #[.int .i64 16, a.val] w fun e w' => Tells e (oneO 16 a) ∧ Below w.heap.size w w' := by
  have HN := Lib.hid (TwoA.new w a 25)
  have HY := Lib.hid hY
  obtain ⟨V, hV⟩ : ∃ V, V = oneO 16 a := ⟨_, rfl⟩
  rw [← hV]
  have HV := Lib.hid hV
  clear hV ha hY
  unfold Tm.val
  have HF0 := Lib.hid (show V = if a.k = 3 ∨ a.k = 1 then some (litT a.sl) else none from HV.out)
  by_cases h3 : a.k = 3
  · have HF := Lib.hid (show V = some (litT a.sl) by rw [HF0.out, if_pos (.inl h3)])
    clear HV HF0
    have e3 : (a.k == 3) = true := beq_iff_eq.2 h3
    clear h3
    obtain ⟨-, ka0, ka1, ka2, ka3⟩ := HN.out.2.1
    go_enter Tryz.func70, Tryz.ntmps70
    go_upto_region 10 with fail
    generalize World.alloc (World.alloc w _) _ = wr at HN ka0 ka1 ka2 ka3 ⊢
    refine wp_region_any (by kernel_rfl) ?_
    change wpAny _ _ _ _ _ _ _ (World.drew _)
    refine wpAny_of_held (S := fun v => TwoA w a v) _ _ _ _ ?_
    have hS : (fun v => TwoA w a v) _ := HN.out.below (below_drew15 _)
    generalize World.drew wr = wdr at hS ⊢
    refine wpAnyH_take (i := 0) (oi := ⟨some 44, _, _, _, _, _⟩) (v := ?_) rfl (by kernel_rfl) (by kernel_rfl) (by kernel_rfl) (fun _ _ _ h => h) (Or.inl ⟨by simp only [Region.wanted], ?_⟩) hS ?_
    rotate_left
    · intro wz hSw
      clear hSw
      go_simp
      first | done | with_reducible rfl
    try simp only [Act.put, List.setIfInBounds_toArray, List.set_cons_zero, List.set_cons_succ]
    refine wpAnyH_take (i := 1) (oi := ⟨some 45, _, _, _, _, _⟩) (v := ?_) rfl (by kernel_rfl) (by kernel_rfl) (by kernel_rfl) (fun _ _ _ h => h) (Or.inl ⟨by simp only [Region.wanted], ?_⟩) hS ?_
    rotate_left
    · intro wz hSw; obtain ⟨-, k0, k1, k2, k3⟩ := hSw.2.1
      clear hSw
      go_simp
      first | done | with_reducible rfl
    try simp only [Act.put, List.setIfInBounds_toArray, List.set_cons_zero, List.set_cons_succ]
    refine wpAnyH_take (i := 2) (oi := ⟨some 46, _, _, _, _, _⟩) (v := ?_) rfl (by kernel_rfl) (by kernel_rfl) (by kernel_rfl) (fun _ _ _ h => h) (Or.inl ⟨by simp only [Region.wanted], ?_⟩) hS ?_
    rotate_left
    · intro wz hSw
      clear hSw
      go_simp
      first | done | with_reducible rfl
    try simp only [Act.put, List.setIfInBounds_toArray, List.set_cons_zero, List.set_cons_succ]
    refine wpAnyH_take (i := 3) (oi := ⟨some 47, _, _, _, _, _⟩) (v := ?_) rfl (by kernel_rfl) (by kernel_rfl) (by kernel_rfl) (fun _ _ _ h => h) (Or.inl ⟨by simp only [Region.wanted], ?_⟩) hS ?_
    rotate_left
    · intro wz hSw
      clear hSw
      go_simp
      first | done | with_reducible rfl
    try simp only [Act.put, List.setIfInBounds_toArray, List.set_cons_zero, List.set_cons_succ]
    refine wpAnyH_take (i := 4) (oi := ⟨some 48, _, _, _, _, _⟩) (v := ?_) rfl (by kernel_rfl) (by kernel_rfl) (by kernel_rfl) (fun _ _ _ h => h) (Or.inl ⟨by simp only [Region.wanted], ?_⟩) hS ?_
    rotate_left
    · intro wz hSw
      clear hSw
      go_simp
      first | done | with_reducible rfl
    try simp only [Act.put, List.setIfInBounds_toArray, List.set_cons_zero, List.set_cons_succ]
    refine wpAnyH_take (i := 5) (oi := ⟨some 49, _, _, _, _, _⟩) (v := undef) rfl (by kernel_rfl) (by kernel_rfl) (by kernel_rfl) (fun _ _ _ h => h) (Or.inr ⟨by first | rfl | (simp [Region.wanted, yielded]; done), rfl⟩) hS ?_
    try simp only [Act.put, List.setIfInBounds_toArray, List.set_cons_zero, List.set_cons_succ]
    refine wpAnyH_take (i := 6) (oi := ⟨some 50, _, _, _, _, _⟩) (v := undef) rfl (by kernel_rfl) (by kernel_rfl) (by kernel_rfl) (fun _ _ _ h => h) (Or.inr ⟨by first | rfl | (simp [Region.wanted, yielded]; done), rfl⟩) hS ?_
    try simp only [Act.put, List.setIfInBounds_toArray, List.set_cons_zero, List.set_cons_succ]
    refine wpAnyH_take (i := 7) (oi := ⟨some 51, _, _, _, _, _⟩) (v := undef) rfl (by kernel_rfl) (by kernel_rfl) (by kernel_rfl) (fun _ _ _ h => h) (Or.inr ⟨by first | rfl | (simp [Region.wanted, yielded]; done), rfl⟩) hS ?_
    try simp only [Act.put, List.setIfInBounds_toArray, List.set_cons_zero, List.set_cons_succ]
    refine wpAnyH_take (i := 8) (oi := ⟨some 52, _, _, _, _, _⟩) (v := ?_) rfl (by kernel_rfl) (by kernel_rfl) (by kernel_rfl) (fun _ _ _ h => h) (Or.inl ⟨by simp only [Region.wanted], ?_⟩) hS ?_
    rotate_left
    · intro wz hSw
      clear hSw
      go_simp
      first | done | with_reducible rfl
    try simp only [Act.put, List.setIfInBounds_toArray, List.set_cons_zero, List.set_cons_succ]
    refine wpAnyH_ready (rs := [9]) (by kernel_rfl) (by simp) ?_
    refine AllReadyH.cons (o := ⟨none, _, _, _, _, _⟩) rfl (fun K hK => ?_) AllReadyH.nil
    go_simp
    obtain ⟨⟨xz, -, kz0, kz1, kz2, kz3⟩, fz⟩ := hS.2.2
    have fz0 := fz 0
    have fz1 := fz 1
    have fz2 := fz 2
    have fz3 := fz 3
    clear fz
    go_simp
    refine hK.out _ _ (hS.put ⟨3, a.s, ⟨#[]⟩, ⟨#[]⟩⟩) (fun hS => ?_)
    clear hK K
    try simp only [Act.put, List.setIfInBounds_toArray, List.set_cons_zero, List.set_cons_succ]
    refine wpAnyH_take (i := 10) (oi := ⟨some 5, _, _, _, _, _⟩) (v := ?_) rfl (by kernel_rfl) (by kernel_rfl) (by kernel_rfl) (fun _ _ _ h => h) (Or.inl ⟨by simp only [Region.wanted], ?_⟩) hS ?_
    rotate_left
    · intro wz hSw
      clear hSw
      go_simp
      first | done | with_reducible rfl
    try simp only [Act.put, List.setIfInBounds_toArray, List.set_cons_zero, List.set_cons_succ]
    refine wpAnyH_done (by kernel_rfl) ?_ _
    go_wp2_with fail
    refine bodyPost_ret (v := .tuple #[.agg #[.int .i64 3, .string a.s, .string ⟨#[]⟩, .string ⟨#[]⟩], .bool true]) (by simp [results, Tryz.results70, go_sem, kz0, kz1, kz2, kz3, e3]) rfl ⟨?_, hS.1⟩
    rw [HF.out]
    exact Tells.some (x := litT a.sl) rfl
  · by_cases h1 : a.k = 1
    · have HF := Lib.hid (show V = some (litT a.sl) by rw [HF0.out, if_pos (.inr h1)])
      clear HV HF0
      have e3 : (a.k == 3) = false := beq_eq_false_iff_ne.2 h3
      have e1 : (a.k == 1) = true := beq_iff_eq.2 h1
      clear h3 h1
      obtain ⟨-, ka0, ka1, ka2, ka3⟩ := HN.out.2.1
      go_enter Tryz.func70, Tryz.ntmps70
      go_upto_region 10 with fail
      generalize World.alloc (World.alloc w _) _ = wr at HN ka0 ka1 ka2 ka3 ⊢
      refine wp_region_any (by kernel_rfl) ?_
      change wpAny _ _ _ _ _ _ _ (World.drew _)
      refine wpAny_of_held (S := fun v => TwoA w a v) _ _ _ _ ?_
      have hS : (fun v => TwoA w a v) _ := HN.out.below (below_drew15 _)
      generalize World.drew wr = wdr at hS ⊢
      refine wpAnyH_take (i := 0) (oi := ⟨some 44, _, _, _, _, _⟩) (v := ?_) rfl (by kernel_rfl) (by kernel_rfl) (by kernel_rfl) (fun _ _ _ h => h) (Or.inl ⟨by simp only [Region.wanted], ?_⟩) hS ?_
      rotate_left
      · intro wz hSw
        clear hSw
        go_simp
        first | done | with_reducible rfl
      try simp only [Act.put, List.setIfInBounds_toArray, List.set_cons_zero, List.set_cons_succ]
      refine wpAnyH_take (i := 1) (oi := ⟨some 45, _, _, _, _, _⟩) (v := ?_) rfl (by kernel_rfl) (by kernel_rfl) (by kernel_rfl) (fun _ _ _ h => h) (Or.inl ⟨by simp only [Region.wanted], ?_⟩) hS ?_
      rotate_left
      · intro wz hSw; obtain ⟨-, k0, k1, k2, k3⟩ := hSw.2.1
        clear hSw
        go_simp
        first | done | with_reducible rfl
      try simp only [Act.put, List.setIfInBounds_toArray, List.set_cons_zero, List.set_cons_succ]
      refine wpAnyH_take (i := 2) (oi := ⟨some 46, _, _, _, _, _⟩) (v := ?_) rfl (by kernel_rfl) (by kernel_rfl) (by kernel_rfl) (fun _ _ _ h => h) (Or.inl ⟨by simp only [Region.wanted], ?_⟩) hS ?_
      rotate_left
      · intro wz hSw
        clear hSw
        go_simp
        first | done | with_reducible rfl
      try simp only [Act.put, List.setIfInBounds_toArray, List.set_cons_zero, List.set_cons_succ]
      refine wpAnyH_take (i := 3) (oi := ⟨some 47, _, _, _, _, _⟩) (v := ?_) rfl (by kernel_rfl) (by kernel_rfl) (by kernel_rfl) (fun _ _ _ h => h) (Or.inl ⟨by simp only [Region.wanted], ?_⟩) hS ?_
      rotate_left
      · intro wz hSw
        clear hSw
        go_simp
        first | done | with_reducible rfl
      try simp only [Act.put, List.setIfInBounds_toArray, List.set_cons_zero, List.set_cons_succ]
      refine wpAnyH_take (i := 4) (oi := ⟨some 48, _, _, _, _, _⟩) (v := ?_) rfl (by kernel_rfl) (by kernel_rfl) (by kernel_rfl) (fun _ _ _ h => h) (Or.inl ⟨by simp only [Region.wanted], ?_⟩) hS ?_
      rotate_left
      · intro wz hSw
        clear hSw
        go_simp
        first | done | with_reducible rfl
      try simp only [Act.put, List.setIfInBounds_toArray, List.set_cons_zero, List.set_cons_succ]
      refine wpAnyH_take (i := 5) (oi := ⟨some 49, _, _, _, _, _⟩) (v := ?_) rfl (by kernel_rfl) (by kernel_rfl) (by kernel_rfl) (fun _ _ _ h => h) (Or.inl ⟨by first | rfl | (simp [Region.wanted, yielded]; done), ?_⟩) hS ?_
      rotate_left
      · intro wz hSw
        clear hSw
        go_simp
        first | done | with_reducible rfl
      try simp only [Act.put, List.setIfInBounds_toArray, List.set_cons_zero, List.set_cons_succ]
      refine wpAnyH_take (i := 6) (oi := ⟨some 50, _, _, _, _, _⟩) (v := ?_) rfl (by kernel_rfl) (by kernel_rfl) (by kernel_rfl) (fun _ _ _ h => h) (Or.inl ⟨by first | rfl | (simp [Region.wanted, yielded]; done), ?_⟩) hS ?_
      rotate_left
      · intro wz hSw; obtain ⟨-, k0, k1, k2, k3⟩ := hSw.2.1
        clear hSw
        go_simp
        first | done | with_reducible rfl
      try simp only [Act.put, List.setIfInBounds_toArray, List.set_cons_zero, List.set_cons_succ]
      refine wpAnyH_take (i := 7) (oi := ⟨some 51, _, _, _, _, _⟩) (v := ?_) rfl (by kernel_rfl) (by kernel_rfl) (by kernel_rfl) (fun _ _ _ h => h) (Or.inl ⟨by first | rfl | (simp [Region.wanted, yielded]; done), ?_⟩) hS ?_
      rotate_left
      · intro wz hSw
        clear hSw
        go_simp
        first | done | with_reducible rfl
      try simp only [Act.put, List.setIfInBounds_toArray, List.set_cons_zero, List.set_cons_succ]
      refine wpAnyH_take (i := 8) (oi := ⟨some 52, _, _, _, _, _⟩) (v := ?_) rfl (by kernel_rfl) (by kernel_rfl) (by kernel_rfl) (fun _ _ _ h => h) (Or.inl ⟨by simp only [Region.wanted], ?_⟩) hS ?_
      rotate_left
      · intro wz hSw
        clear hSw
        go_simp
        first | done | with_reducible rfl
      try simp only [Act.put, List.setIfInBounds_toArray, List.set_cons_zero, List.set_cons_succ]
      refine wpAnyH_ready (rs := [9]) (by kernel_rfl) (by simp) ?_
      refine AllReadyH.cons (o := ⟨none, _, _, _, _, _⟩) rfl (fun K hK => ?_) AllReadyH.nil
      go_simp
      obtain ⟨⟨xz, -, kz0, kz1, kz2, kz3⟩, fz⟩ := hS.2.2
      have fz0 := fz 0
      have fz1 := fz 1
      have fz2 := fz 2
      have fz3 := fz 3
      clear fz
      go_simp
      refine hK.out _ _ (hS.put ⟨3, a.s, ⟨#[]⟩, ⟨#[]⟩⟩) (fun hS => ?_)
      clear hK K
      try simp only [Act.put, List.setIfInBounds_toArray, List.set_cons_zero, List.set_cons_succ]
      refine wpAnyH_take (i := 10) (oi := ⟨some 5, _, _, _, _, _⟩) (v := ?_) rfl (by kernel_rfl) (by kernel_rfl) (by kernel_rfl) (fun _ _ _ h => h) (Or.inl ⟨by simp only [Region.wanted], ?_⟩) hS ?_
      rotate_left
      · intro wz hSw
        clear hSw
        go_simp
        first | done | with_reducible rfl
      try simp only [Act.put, List.setIfInBounds_toArray, List.set_cons_zero, List.set_cons_succ]
      refine wpAnyH_done (by kernel_rfl) ?_ _
      go_wp2_with fail
      refine bodyPost_ret (v := .tuple #[.agg #[.int .i64 3, .string a.s, .string ⟨#[]⟩, .string ⟨#[]⟩], .bool true]) (by simp [results, Tryz.results70, go_sem, kz0, kz1, kz2, kz3, e3, e1]) rfl ⟨?_, hS.1⟩
      rw [HF.out]
      exact Tells.some (x := litT a.sl) rfl
    · have HF := Lib.hid (show V = none by rw [HF0.out, if_neg (by rintro (h | h) <;> contradiction)])
      clear HV HF0
      have e3 : (a.k == 3) = false := beq_eq_false_iff_ne.2 h3
      have e1 : (a.k == 1) = false := beq_eq_false_iff_ne.2 h1
      clear h3 h1
      obtain ⟨-, ka0, ka1, ka2, ka3⟩ := HN.out.2.1
      go_enter Tryz.func70, Tryz.ntmps70
      go_upto_region 10 with fail
      generalize World.alloc (World.alloc w _) _ = wr at HN ka0 ka1 ka2 ka3 ⊢
      refine wp_region_any (by kernel_rfl) ?_
      change wpAny _ _ _ _ _ _ _ (World.drew _)
      refine wpAny_of_held (S := fun v => TwoA w a v) _ _ _ _ ?_
      have hS : (fun v => TwoA w a v) _ := HN.out.below (below_drew15 _)
      generalize World.drew wr = wdr at hS ⊢
      refine wpAnyH_take (i := 0) (oi := ⟨some 44, _, _, _, _, _⟩) (v := ?_) rfl (by kernel_rfl) (by kernel_rfl) (by kernel_rfl) (fun _ _ _ h => h) (Or.inl ⟨by simp only [Region.wanted], ?_⟩) hS ?_
      rotate_left
      · intro wz hSw
        clear hSw
        go_simp
        first | done | with_reducible rfl
      try simp only [Act.put, List.setIfInBounds_toArray, List.set_cons_zero, List.set_cons_succ]
      refine wpAnyH_take (i := 1) (oi := ⟨some 45, _, _, _, _, _⟩) (v := ?_) rfl (by kernel_rfl) (by kernel_rfl) (by kernel_rfl) (fun _ _ _ h => h) (Or.inl ⟨by simp only [Region.wanted], ?_⟩) hS ?_
      rotate_left
      · intro wz hSw; obtain ⟨-, k0, k1, k2, k3⟩ := hSw.2.1
        clear hSw
        go_simp
        first | done | with_reducible rfl
      try simp only [Act.put, List.setIfInBounds_toArray, List.set_cons_zero, List.set_cons_succ]
      refine wpAnyH_take (i := 2) (oi := ⟨some 46, _, _, _, _, _⟩) (v := ?_) rfl (by kernel_rfl) (by kernel_rfl) (by kernel_rfl) (fun _ _ _ h => h) (Or.inl ⟨by simp only [Region.wanted], ?_⟩) hS ?_
      rotate_left
      · intro wz hSw
        clear hSw
        go_simp
        first | done | with_reducible rfl
      try simp only [Act.put, List.setIfInBounds_toArray, List.set_cons_zero, List.set_cons_succ]
      refine wpAnyH_take (i := 3) (oi := ⟨some 47, _, _, _, _, _⟩) (v := ?_) rfl (by kernel_rfl) (by kernel_rfl) (by kernel_rfl) (fun _ _ _ h => h) (Or.inl ⟨by simp only [Region.wanted], ?_⟩) hS ?_
      rotate_left
      · intro wz hSw
        clear hSw
        go_simp
        first | done | with_reducible rfl
      try simp only [Act.put, List.setIfInBounds_toArray, List.set_cons_zero, List.set_cons_succ]
      refine wpAnyH_take (i := 4) (oi := ⟨some 48, _, _, _, _, _⟩) (v := ?_) rfl (by kernel_rfl) (by kernel_rfl) (by kernel_rfl) (fun _ _ _ h => h) (Or.inl ⟨by simp only [Region.wanted], ?_⟩) hS ?_
      rotate_left
      · intro wz hSw
        clear hSw
        go_simp
        first | done | with_reducible rfl
      try simp only [Act.put, List.setIfInBounds_toArray, List.set_cons_zero, List.set_cons_succ]
      refine wpAnyH_take (i := 5) (oi := ⟨some 49, _, _, _, _, _⟩) (v := ?_) rfl (by kernel_rfl) (by kernel_rfl) (by kernel_rfl) (fun _ _ _ h => h) (Or.inl ⟨by first | rfl | (simp [Region.wanted, yielded]; done), ?_⟩) hS ?_
      rotate_left
      · intro wz hSw
        clear hSw
        go_simp
        first | done | with_reducible rfl
      try simp only [Act.put, List.setIfInBounds_toArray, List.set_cons_zero, List.set_cons_succ]
      refine wpAnyH_take (i := 6) (oi := ⟨some 50, _, _, _, _, _⟩) (v := ?_) rfl (by kernel_rfl) (by kernel_rfl) (by kernel_rfl) (fun _ _ _ h => h) (Or.inl ⟨by first | rfl | (simp [Region.wanted, yielded]; done), ?_⟩) hS ?_
      rotate_left
      · intro wz hSw; obtain ⟨-, k0, k1, k2, k3⟩ := hSw.2.1
        clear hSw
        go_simp
        first | done | with_reducible rfl
      try simp only [Act.put, List.setIfInBounds_toArray, List.set_cons_zero, List.set_cons_succ]
      refine wpAnyH_take (i := 7) (oi := ⟨some 51, _, _, _, _, _⟩) (v := ?_) rfl (by kernel_rfl) (by kernel_rfl) (by kernel_rfl) (fun _ _ _ h => h) (Or.inl ⟨by first | rfl | (simp [Region.wanted, yielded]; done), ?_⟩) hS ?_
      rotate_left
      · intro wz hSw
        clear hSw
        go_simp
        first | done | with_reducible rfl
      try simp only [Act.put, List.setIfInBounds_toArray, List.set_cons_zero, List.set_cons_succ]
      refine wpAnyH_take (i := 8) (oi := ⟨some 52, _, _, _, _, _⟩) (v := ?_) rfl (by kernel_rfl) (by kernel_rfl) (by kernel_rfl) (fun _ _ _ h => h) (Or.inl ⟨by simp only [Region.wanted], ?_⟩) hS ?_
      rotate_left
      · intro wz hSw
        clear hSw
        go_simp
        first | done | with_reducible rfl
      try simp only [Act.put, List.setIfInBounds_toArray, List.set_cons_zero, List.set_cons_succ]
      refine wpAnyH_ready (rs := [9]) (by kernel_rfl) (by simp) ?_
      refine AllReadyH.cons (o := ⟨none, _, _, _, _, _⟩) rfl (fun K hK => ?_) AllReadyH.nil
      go_simp
      obtain ⟨⟨xz, -, kz0, kz1, kz2, kz3⟩, fz⟩ := hS.2.2
      have fz0 := fz 0
      have fz1 := fz 1
      have fz2 := fz 2
      have fz3 := fz 3
      clear fz
      go_simp
      refine hK.out _ _ (hS.put ⟨3, a.s, ⟨#[]⟩, ⟨#[]⟩⟩) (fun hS => ?_)
      clear hK K
      try simp only [Act.put, List.setIfInBounds_toArray, List.set_cons_zero, List.set_cons_succ]
      refine wpAnyH_take (i := 10) (oi := ⟨some 5, _, _, _, _, _⟩) (v := ?_) rfl (by kernel_rfl) (by kernel_rfl) (by kernel_rfl) (fun _ _ _ h => h) (Or.inl ⟨by simp only [Region.wanted], ?_⟩) hS ?_
      rotate_left
      · intro wz hSw
        clear hSw
        go_simp
        first | done | with_reducible rfl
      try simp only [Act.put, List.setIfInBounds_toArray, List.set_cons_zero, List.set_cons_succ]
      refine wpAnyH_done (by kernel_rfl) ?_ _
      go_wp2_with fail
      refine bodyPost_ret (v := .tuple #[.agg #[.int .i64 3, .string a.s, .string ⟨#[]⟩, .string ⟨#[]⟩], .bool false]) (by simp [results, Tryz.results70, go_sem, kz0, kz1, kz2, kz3, e3, e1]) rfl ⟨?_, hS.1⟩
      rw [HF.out]
      exact Tells.none (x := ⟨3, a.s, ⟨#[]⟩, ⟨#[]⟩⟩) rfl
set_option maxHeartbeats 800000 in
theorem one_17 (a : Tm) (ha : a.Sm) (w : World) (hY : TabP w) : Calls Tryz.prog 70 #[.int .i64 17, a.val] w fun e w' => Tells e (oneO 17 a) ∧ Below w.heap.size w w' := by
  have HN := Lib.hid (TwoA.new w a 25)
  have HY := Lib.hid hY
  obtain ⟨V, hV⟩ : ∃ V, V = oneO 17 a := ⟨_, rfl⟩
  rw [← hV]
  have HV := Lib.hid hV
  clear hV ha hY
  unfold Tm.val
  by_cases h3 : a.k = 3
  · have HF := Lib.hid (show V = some (litT a.ll) by rw [HV.out]; show (if a.k = 3 then _ else _) = _; rw [if_pos h3])
    clear HV
    have e3 : (a.k == 3) = true := beq_iff_eq.2 h3
    clear h3
    go_enter Tryz.func70, Tryz.ntmps70
    go_upto_region 12 with fail
    generalize World.alloc (World.alloc w _) _ = wr at HN ⊢
    obtain ⟨-, ka0, ka1, ka2, ka3⟩ := HN.out.2.1
    obtain ⟨⟨xz, -, kz0, kz1, kz2, kz3⟩, fz⟩ := HN.out.2.2
    have fz0 := fz 0
    have fz1 := fz 1
    have fz2 := fz 2
    have fz3 := fz 3
    clear fz
    go_wp2_with fail
    refine bodyPost_ret (v := .tuple #[.agg #[.int .i64 3, .string a.l, .string ⟨#[]⟩, .string ⟨#[]⟩], .bool true]) (by simp [results, Tryz.results70, go_sem, e3, kz0, kz1, kz2, kz3]) rfl ⟨?_, (HN.out.put ⟨3, a.l, ⟨#[]⟩, ⟨#[]⟩⟩).1⟩
    rw [HF.out]
    exact Tells.some (x := litT a.ll) rfl
  · have HF := Lib.hid (show V = none by rw [HV.out]; show (if a.k = 3 then _ else _) = _; rw [if_neg h3])
    clear HV
    have e3 : (a.k == 3) = false := beq_eq_false_iff_ne.2 h3
    clear h3
    go_enter Tryz.func70, Tryz.ntmps70
    go_upto_region 12 with fail
    generalize World.alloc (World.alloc w _) _ = wr at HN ⊢
    obtain ⟨-, ka0, ka1, ka2, ka3⟩ := HN.out.2.1
    obtain ⟨⟨xz, -, kz0, kz1, kz2, kz3⟩, fz⟩ := HN.out.2.2
    have fz0 := fz 0
    have fz1 := fz 1
    have fz2 := fz 2
    have fz3 := fz 3
    clear fz
    go_wp2_with fail
    refine bodyPost_ret (v := .tuple #[.agg #[.int .i64 3, .string a.l, .string ⟨#[]⟩, .string ⟨#[]⟩], .bool false]) (by simp [results, Tryz.results70, go_sem, e3, kz0, kz1, kz2, kz3]) rfl ⟨?_, (HN.out.put ⟨3, a.l, ⟨#[]⟩, ⟨#[]⟩⟩).1⟩
    rw [HF.out]
    exact Tells.none (x := ⟨3, a.l, ⟨#[]⟩, ⟨#[]⟩⟩) rfl
set_option maxHeartbeats 800000 in
theorem one_18 (a : Tm) (ha : a.Sm) (w : World) (hY : TabP w) : Calls Tryz.prog 70 #[.int .i64 18, a.val] w fun e w' => Tells e (oneO 18 a) ∧ Below w.heap.size w w' := by
  have HN := Lib.hid (TwoA.new w a 25)
  have HY := Lib.hid hY
  obtain ⟨V, hV⟩ : ∃ V, V = oneO 18 a := ⟨_, rfl⟩
  rw [← hV]
  have HV := Lib.hid hV
  have HA := Lib.hid (fun w => typeOf_any a w)
  clear hV ha hY
  unfold Tm.val
  unfold Tm.val at HA
  have HF0 := Lib.hid (show V = if a.k = 3 then some (mkT 1 (typeL a) [] []) else none from HV.out)
  generalize hz : (⟨(typeL a).toArray⟩ : ByteArray) = z at HA
  have HZ := Lib.hid hz
  clear hz
  by_cases h3 : a.k = 3
  · have HF := Lib.hid (show V = some (mkT 1 (typeL a) [] []) by rw [HF0.out, if_pos h3])
    clear HV HF0
    have e3 : (a.k == 3) = true := beq_iff_eq.2 h3
    clear h3
    go_enter Tryz.func70, Tryz.ntmps70
    go_wp2_with fail
    generalize World.alloc (World.alloc w _) _ = wr at HN ⊢
    refine (HA.out _).mono ?_
    rintro e w3 ⟨rfl, hb3⟩
    have HT3 := Lib.hid (HN.out.below hb3)
    clear hb3
    obtain ⟨-, ka0, ka1, ka2, ka3⟩ := HT3.out.2.1
    obtain ⟨⟨xz, -, kz0, kz1, kz2, kz3⟩, fz⟩ := HT3.out.2.2
    have fz0 := fz 0
    have fz1 := fz 1
    have fz2 := fz 2
    have fz3 := fz 3
    clear fz
    go_wp2_with fail
    refine bodyPost_ret (v := .tuple #[.agg #[.int .i64 1, .string z, .string ⟨#[]⟩, .string ⟨#[]⟩], .bool true]) (by simp [results, Tryz.results70, go_sem, kz0, kz1, kz2, kz3, e3]) rfl ⟨?_, (HT3.out.put ⟨1, z, ⟨#[]⟩, ⟨#[]⟩⟩).1⟩
    rw [HF.out]
    exact Tells.some (by rw [← HZ.out]; rfl)
  · have HF := Lib.hid (show V = none by rw [HF0.out, if_neg h3])
    clear HV HF0
    have e3 : (a.k == 3) = false := beq_eq_false_iff_ne.2 h3
    clear h3
    go_enter Tryz.func70, Tryz.ntmps70
    go_wp2_with fail
    generalize World.alloc (World.alloc w _) _ = wr at HN ⊢
    refine (HA.out _).mono ?_
    rintro e w3 ⟨rfl, hb3⟩
    have HT3 := Lib.hid (HN.out.below hb3)
    clear hb3
    obtain ⟨-, ka0, ka1, ka2, ka3⟩ := HT3.out.2.1
    obtain ⟨⟨xz, -, kz0, kz1, kz2, kz3⟩, fz⟩ := HT3.out.2.2
    have fz0 := fz 0
    have fz1 := fz 1
    have fz2 := fz 2
    have fz3 := fz 3
    clear fz
    go_wp2_with fail
    refine bodyPost_ret (v := .tuple #[.agg #[.int .i64 1, .string z, .string ⟨#[]⟩, .string ⟨#[]⟩], .bool false]) (by simp [results, Tryz.results70, go_sem, kz0, kz1, kz2, kz3, e3]) rfl ⟨?_, (HT3.out.put ⟨1, z, ⟨#[]⟩, ⟨#[]⟩⟩).1⟩
    rw [HF.out]
    exact Tells.none (x := ⟨1, z, ⟨#[]⟩, ⟨#[]⟩⟩) rfl
set_option maxHeartbeats 800000 in
theorem one_20 (a : Tm) (ha : a.Sm) (w : World) (hY : TabP w) : Calls Tryz.prog 70 #[.int .i64 20, a.val] w fun e w' => Tells e (oneO 20 a) ∧ Below w.heap.size w w' := by
  have HN := Lib.hid (TwoA.new w a 25)
  have HY := Lib.hid hY
  obtain ⟨V, hV⟩ : ∃ V, V = oneO 20 a := ⟨_, rfl⟩
  rw [← hV]
  have HV := Lib.hid hV
  have HA := Lib.hid (fun w h => itoa_nat a.s.size (by have := ha.s; omega) w h)
  have HP := Lib.hid (printF_nat a.s.size (by have := ha.s; omega))
  clear hV ha hY
  unfold Tm.val
  have HF0 := Lib.hid (show V = if a.k = 3 then some (mkT 3 (printF (a.s.size : Int) 0) [] xIntL) else none from HV.out)
  generalize hz : (⟨(Lib.decDigits a.s.size).toArray⟩ : ByteArray) = z at HA
  have HZ := Lib.hid hz
  clear hz
  by_cases h3 : a.k = 3
  · have HF := Lib.hid (show V = some (mkT 3 (printF (a.s.size : Int) 0) [] xIntL) by rw [HF0.out, if_pos h3])
    clear HV HF0
    have e3 : (a.k == 3) = true := beq_iff_eq.2 h3
    clear h3
    go_enter Tryz.func70, Tryz.ntmps70
    go_wp2_with fail
    generalize World.alloc (World.alloc w _) _ = wr at HN ⊢
    refine (HA.out _ (HY.out.below HN.out.1)).mono ?_
    rintro e w3 ⟨rfl, hb3⟩
    have HT3 := Lib.hid (HN.out.below hb3)
    clear hb3
    obtain ⟨-, ka0, ka1, ka2, ka3⟩ := HT3.out.2.1
    obtain ⟨⟨xz, -, kz0, kz1, kz2, kz3⟩, fz⟩ := HT3.out.2.2
    have fz0 := fz 0
    have fz1 := fz 1
    have fz2 := fz 2
    have fz3 := fz 3
    clear fz
    go_wp2_with fail
    refine bodyPost_ret (v := .tuple #[.agg #[.int .i64 3, .string z, .string ⟨#[]⟩, .string ⟨xIntL.toArray⟩], .bool true]) (by simp [results, Tryz.results70, go_sem, kz0, kz1, kz2, kz3, e3, xIntL]) rfl ⟨?_, (HT3.out.put ⟨3, z, ⟨#[]⟩, ⟨xIntL.toArray⟩⟩).1⟩
    rw [HF.out]
    exact Tells.some (by rw [HP.out, ← HZ.out]; rfl)
  · have HF := Lib.hid (show V = none by rw [HF0.out, if_neg h3])
    clear HV HF0
    have e3 : (a.k == 3) = false := beq_eq_false_iff_ne.2 h3
    clear h3
    go_enter Tryz.func70, Tryz.ntmps70
    go_wp2_with fail
    generalize World.alloc (World.alloc w _) _ = wr at HN ⊢
    refine (HA.out _ (HY.out.below HN.out.1)).mono ?_
    rintro e w3 ⟨rfl, hb3⟩
    have HT3 := Lib.hid (HN.out.below hb3)
    clear hb3
    obtain ⟨-, ka0, ka1, ka2, ka3⟩ := HT3.out.2.1
    obtain ⟨⟨xz, -, kz0, kz1, kz2, kz3⟩, fz⟩ := HT3.out.2.2
    have fz0 := fz 0
    have fz1 := fz 1
    have fz2 := fz 2
    have fz3 := fz 3
    clear fz
    go_wp2_with fail
    refine bodyPost_ret (v := .tuple #[.agg #[.int .i64 3, .string z, .string ⟨#[]⟩, .string ⟨xIntL.toArray⟩], .bool false]) (by simp [results, Tryz.results70, go_sem, kz0, kz1, kz2, kz3, e3, xIntL]) rfl ⟨?_, (HT3.out.put ⟨3, z, ⟨#[]⟩, ⟨xIntL.toArray⟩⟩).1⟩
    rw [HF.out]
    exact Tells.none (x := ⟨3, z, ⟨#[]⟩, ⟨xIntL.toArray⟩⟩) rfl
set_option maxHeartbeats 800000 in
theorem one_21 (a : Tm) (ha : a.Sm) (w : World) (hY : TabP w) : Calls Tryz.prog 70 #[.int .i64 21, a.val] w fun e w' => Tells e (oneO 21 a) ∧ Below w.heap.size w w' := by
  have HN := Lib.hid (TwoA.new w a 25)
  have HY := Lib.hid hY
  obtain ⟨V, hV⟩ : ∃ V, V = oneO 21 a := ⟨_, rfl⟩
  rw [← hV]
  have HV := Lib.hid hV
  clear hV ha hY
  unfold Tm.val
  have HF0 := Lib.hid (show V = some (boolT (decide (a.k = 1))) from HV.out)
  by_cases hk : a.k = 1
  · have HF := Lib.hid (show V = some (boolT true) by rw [HF0.out, decide_eq_true hk])
    clear HF0 HV
    have e3 : (a.k == 1) = true := beq_iff_eq.2 hk
    clear hk
    go_enter Tryz.func70, Tryz.ntmps70
    obtain ⟨-, ka0, ka1, ka2, ka3⟩ := HN.out.2.1
    go_wp2_with fail
    clear ka0 ka1 ka2 ka3
    generalize World.alloc (World.alloc w _) _ = wr at HN ⊢
    refine (boolean_ex _ _ _).mono ?_
    rintro e w3 ⟨k, s, l, y, o, rfl, hx, ho, hb3⟩
    have HX := Lib.hid (And.intro hx ho)
    have HT3 := Lib.hid (HN.out.below hb3)
    clear hx ho hb3
    obtain ⟨-, ka0, ka1, ka2, ka3⟩ := HT3.out.2.1
    obtain ⟨⟨xz, -, kz0, kz1, kz2, kz3⟩, fz⟩ := HT3.out.2.2
    have fz0 := fz 0
    have fz1 := fz 1
    have fz2 := fz 2
    have fz3 := fz 3
    clear fz
    go_wp2_with fail
    refine bodyPost_ret (v := .tuple #[.agg #[.int .i64 k, .string s, .string l, .string y], .bool o]) (by simp [results, Tryz.results70, go_sem, kz0, kz1, kz2, kz3]) rfl ⟨?_, (HT3.out.put ⟨k, s, l, y⟩).1⟩
    rw [HF.out]
    obtain ⟨hx, ho⟩ := HX.out
    subst ho
    first | exact hx ▸ Tells.some (x := ⟨k, s, l, y⟩) rfl | exact Tells.none (x := ⟨k, s, l, y⟩) rfl
  · have HF := Lib.hid (show V = some (boolT false) by rw [HF0.out, decide_eq_false hk])
    clear HF0 HV
    have e3 : (a.k == 1) = false := beq_eq_false_iff_ne.2 hk
    clear hk
    go_enter Tryz.func70, Tryz.ntmps70
    obtain ⟨-, ka0, ka1, ka2, ka3⟩ := HN.out.2.1
    go_wp2_with fail
    clear ka0 ka1 ka2 ka3
    generalize World.alloc (World.alloc w _) _ = wr at HN ⊢
    refine (boolean_ex _ _ _).mono ?_
    rintro e w3 ⟨k, s, l, y, o, rfl, hx, ho, hb3⟩
    have HX := Lib.hid (And.intro hx ho)
    have HT3 := Lib.hid (HN.out.below hb3)
    clear hx ho hb3
    obtain ⟨-, ka0, ka1, ka2, ka3⟩ := HT3.out.2.1
    obtain ⟨⟨xz, -, kz0, kz1, kz2, kz3⟩, fz⟩ := HT3.out.2.2
    have fz0 := fz 0
    have fz1 := fz 1
    have fz2 := fz 2
    have fz3 := fz 3
    clear fz
    go_wp2_with fail
    refine bodyPost_ret (v := .tuple #[.agg #[.int .i64 k, .string s, .string l, .string y], .bool o]) (by simp [results, Tryz.results70, go_sem, kz0, kz1, kz2, kz3]) rfl ⟨?_, (HT3.out.put ⟨k, s, l, y⟩).1⟩
    rw [HF.out]
    obtain ⟨hx, ho⟩ := HX.out
    subst ho
    first | exact hx ▸ Tells.some (x := ⟨k, s, l, y⟩) rfl | exact Tells.none (x := ⟨k, s, l, y⟩) rfl
set_option maxHeartbeats 800000 in
theorem one_22 (a : Tm) (ha : a.Sm) (w : World) (hY : TabP w) : Calls Tryz.prog 70 #[.int .i64 22, a.val] w fun e w' => Tells e (oneO 22 a) ∧ Below w.heap.size w w' := by
  have HN := Lib.hid (TwoA.new w a 25)
  have HY := Lib.hid hY
  obtain ⟨V, hV⟩ : ∃ V, V = oneO 22 a := ⟨_, rfl⟩
  rw [← hV]
  have HV := Lib.hid hV
  clear hV ha hY
  unfold Tm.val
  have HF0 := Lib.hid (show V = some (boolT (decide (a.k = 2))) from HV.out)
  by_cases hk : a.k = 2
  · have HF := Lib.hid (show V = some (boolT true) by rw [HF0.out, decide_eq_true hk])
    clear HF0 HV
    have e3 : (a.k == 2) = true := beq_iff_eq.2 hk
    clear hk
    go_enter Tryz.func70, Tryz.ntmps70
    obtain ⟨-, ka0, ka1, ka2, ka3⟩ := HN.out.2.1
    go_wp2_with fail
    clear ka0 ka1 ka2 ka3
    generalize World.alloc (World.alloc w _) _ = wr at HN ⊢
    refine (boolean_ex _ _ _).mono ?_
    rintro e w3 ⟨k, s, l, y, o, rfl, hx, ho, hb3⟩
    have HX := Lib.hid (And.intro hx ho)
    have HT3 := Lib.hid (HN.out.below hb3)
    clear hx ho hb3
    obtain ⟨-, ka0, ka1, ka2, ka3⟩ := HT3.out.2.1
    obtain ⟨⟨xz, -, kz0, kz1, kz2, kz3⟩, fz⟩ := HT3.out.2.2
    have fz0 := fz 0
    have fz1 := fz 1
    have fz2 := fz 2
    have fz3 := fz 3
    clear fz
    go_wp2_with fail
    refine bodyPost_ret (v := .tuple #[.agg #[.int .i64 k, .string s, .string l, .string y], .bool o]) (by simp [results, Tryz.results70, go_sem, kz0, kz1, kz2, kz3]) rfl ⟨?_, (HT3.out.put ⟨k, s, l, y⟩).1⟩
    rw [HF.out]
    obtain ⟨hx, ho⟩ := HX.out
    subst ho
    first | exact hx ▸ Tells.some (x := ⟨k, s, l, y⟩) rfl | exact Tells.none (x := ⟨k, s, l, y⟩) rfl
  · have HF := Lib.hid (show V = some (boolT false) by rw [HF0.out, decide_eq_false hk])
    clear HF0 HV
    have e3 : (a.k == 2) = false := beq_eq_false_iff_ne.2 hk
    clear hk
    go_enter Tryz.func70, Tryz.ntmps70
    obtain ⟨-, ka0, ka1, ka2, ka3⟩ := HN.out.2.1
    go_wp2_with fail
    clear ka0 ka1 ka2 ka3
    generalize World.alloc (World.alloc w _) _ = wr at HN ⊢
    refine (boolean_ex _ _ _).mono ?_
    rintro e w3 ⟨k, s, l, y, o, rfl, hx, ho, hb3⟩
    have HX := Lib.hid (And.intro hx ho)
    have HT3 := Lib.hid (HN.out.below hb3)
    clear hx ho hb3
    obtain ⟨-, ka0, ka1, ka2, ka3⟩ := HT3.out.2.1
    obtain ⟨⟨xz, -, kz0, kz1, kz2, kz3⟩, fz⟩ := HT3.out.2.2
    have fz0 := fz 0
    have fz1 := fz 1
    have fz2 := fz 2
    have fz3 := fz 3
    clear fz
    go_wp2_with fail
    refine bodyPost_ret (v := .tuple #[.agg #[.int .i64 k, .string s, .string l, .string y], .bool o]) (by simp [results, Tryz.results70, go_sem, kz0, kz1, kz2, kz3]) rfl ⟨?_, (HT3.out.put ⟨k, s, l, y⟩).1⟩
    rw [HF.out]
    obtain ⟨hx, ho⟩ := HX.out
    subst ho
    first | exact hx ▸ Tells.some (x := ⟨k, s, l, y⟩) rfl | exact Tells.none (x := ⟨k, s, l, y⟩) rfl
set_option maxHeartbeats 800000 in
theorem one_23 (a : Tm) (ha : a.Sm) (w : World) (hY : TabP w) : Calls Tryz.prog 70 #[.int .i64 23, a.val] w fun e w' => Tells e (oneO 23 a) ∧ Below w.heap.size w w' := by
  have HN := Lib.hid (TwoA.new w a 25)
  have HY := Lib.hid hY
  obtain ⟨V, hV⟩ : ∃ V, V = oneO 23 a := ⟨_, rfl⟩
  rw [← hV]
  have HV := Lib.hid hV
  clear hV ha hY
  unfold Tm.val
  have HF0 := Lib.hid (show V = some (boolT (decide (a.k = 3))) from HV.out)
  by_cases hk : a.k = 3
  · have HF := Lib.hid (show V = some (boolT true) by rw [HF0.out, decide_eq_true hk])
    clear HF0 HV
    have e3 : (a.k == 3) = true := beq_iff_eq.2 hk
    clear hk
    go_enter Tryz.func70, Tryz.ntmps70
    obtain ⟨-, ka0, ka1, ka2, ka3⟩ := HN.out.2.1
    go_wp2_with fail
    clear ka0 ka1 ka2 ka3
    generalize World.alloc (World.alloc w _) _ = wr at HN ⊢
    refine (boolean_ex _ _ _).mono ?_
    rintro e w3 ⟨k, s, l, y, o, rfl, hx, ho, hb3⟩
    have HX := Lib.hid (And.intro hx ho)
    have HT3 := Lib.hid (HN.out.below hb3)
    clear hx ho hb3
    obtain ⟨-, ka0, ka1, ka2, ka3⟩ := HT3.out.2.1
    obtain ⟨⟨xz, -, kz0, kz1, kz2, kz3⟩, fz⟩ := HT3.out.2.2
    have fz0 := fz 0
    have fz1 := fz 1
    have fz2 := fz 2
    have fz3 := fz 3
    clear fz
    go_wp2_with fail
    refine bodyPost_ret (v := .tuple #[.agg #[.int .i64 k, .string s, .string l, .string y], .bool o]) (by simp [results, Tryz.results70, go_sem, kz0, kz1, kz2, kz3]) rfl ⟨?_, (HT3.out.put ⟨k, s, l, y⟩).1⟩
    rw [HF.out]
    obtain ⟨hx, ho⟩ := HX.out
    subst ho
    first | exact hx ▸ Tells.some (x := ⟨k, s, l, y⟩) rfl | exact Tells.none (x := ⟨k, s, l, y⟩) rfl
  · have HF := Lib.hid (show V = some (boolT false) by rw [HF0.out, decide_eq_false hk])
    clear HF0 HV
    have e3 : (a.k == 3) = false := beq_eq_false_iff_ne.2 hk
    clear hk
    go_enter Tryz.func70, Tryz.ntmps70
    obtain ⟨-, ka0, ka1, ka2, ka3⟩ := HN.out.2.1
    go_wp2_with fail
    clear ka0 ka1 ka2 ka3
    generalize World.alloc (World.alloc w _) _ = wr at HN ⊢
    refine (boolean_ex _ _ _).mono ?_
    rintro e w3 ⟨k, s, l, y, o, rfl, hx, ho, hb3⟩
    have HX := Lib.hid (And.intro hx ho)
    have HT3 := Lib.hid (HN.out.below hb3)
    clear hx ho hb3
    obtain ⟨-, ka0, ka1, ka2, ka3⟩ := HT3.out.2.1
    obtain ⟨⟨xz, -, kz0, kz1, kz2, kz3⟩, fz⟩ := HT3.out.2.2
    have fz0 := fz 0
    have fz1 := fz 1
    have fz2 := fz 2
    have fz3 := fz 3
    clear fz
    go_wp2_with fail
    refine bodyPost_ret (v := .tuple #[.agg #[.int .i64 k, .string s, .string l, .string y], .bool o]) (by simp [results, Tryz.results70, go_sem, kz0, kz1, kz2, kz3]) rfl ⟨?_, (HT3.out.put ⟨k, s, l, y⟩).1⟩
    rw [HF.out]
    obtain ⟨hx, ho⟩ := HX.out
    subst ho
    first | exact hx ▸ Tells.some (x := ⟨k, s, l, y⟩) rfl | exact Tells.none (x := ⟨k, s, l, y⟩) rfl
theorem one_any (op : Int) (hop : op = 4 ∨ op = 14 ∨ op = 16 ∨ op = 17 ∨ op = 18 ∨ op = 20 ∨ op = 21 ∨ op = 22 ∨ op = 23) (a : Tm) (ha : a.Sm) (w : World) (hY : TabP w) :
    Calls Tryz.prog 70 #[.int .i64 op, a.val] w fun e w' => Tells e (oneO op a) ∧ Below w.heap.size w w' := by
  rcases hop with rfl | rfl | rfl | rfl | rfl | rfl | rfl | rfl | rfl
  · exact one_4 a ha w hY
  · exact one_14 a ha w hY
  · exact one_16 a ha w hY
  · exact one_17 a ha w hY
  · exact one_18 a ha w hY
  · exact one_20 a ha w hY
  · exact one_21 a ha w hY
  · exact one_22 a ha w hY
  · exact one_23 a ha w hY
end Go.Proofs.YtecomfhbdonkbaaGreatDoor
