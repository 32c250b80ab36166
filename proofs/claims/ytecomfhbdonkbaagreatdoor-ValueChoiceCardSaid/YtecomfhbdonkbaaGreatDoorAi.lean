/- Package value: reckon. -/
import Derived.Test.YtecomfhbdonkbaaGreatDoorKd
namespace Go.Proofs.YtecomfhbdonkbaaGreatDoor
open Go.RowKit Go.Shelf Flo
set_option maxRecDepth 100000
set_option linter.unusedVariables false
set_option linter.unusedSimpArgs false

/-- What a decimal's answer tells. -/
theorem decP_tell (p : Int × Nat) (h : fitsL p = true → GoodD p.1 (p.2 : Int)) : ∃ (m : Int) (s : Nat), decP p = .tuple #[.agg #[.int .i64 m, .int .i64 (s : Int)], .bool (fitsL p)] ∧ GoodD m (s : Int) ∧ (fitsL p = true → p = (m, s)) := by
  by_cases hf : fitsL p = true
  · refine ⟨p.1, p.2, by unfold decP; rw [if_pos hf, hf], h hf, fun _ => rfl⟩
  · have hf2 : fitsL p = false := by simpa using hf
    exact ⟨0, 0, by unfold decP; rw [if_neg hf, hf2]; rfl, ⟨by decide, by decide, by decide, by decide, .inl rfl⟩, fun h => absurd h hf⟩
theorem sumP_good (op : Int) (p q : Int × Nat) (h : fitsL (sumP op p q) = true) : GoodD (sumP op p q).1 ((sumP op p q).2 : Int) := by
  unfold sumP at h ⊢
  split
  · rename_i h1; rw [if_pos h1] at h; exact good_nrm h
  · rename_i h1
    rw [if_neg h1] at h
    split
    · rename_i h2; rw [if_pos h2] at h; exact good_nrm h
    · rename_i h2; rw [if_neg h2] at h; exact good_nrm h
theorem numO_wt {t : Tm} {m : Int} {s : Nat} (h : wt t = .num m s) : numO t = some (m, s) := by unfold numO; rw [h]
theorem reckonO_num {op : Int} {a b : Tm} {m s m2 s2} (h : wt a = .num m s) (h2 : wt b = .num m2 s2) :
    reckonO op a b = if fitsL (sumP op (m, s) (m2, s2)) then some (numeralT (sumP op (m, s) (m2, s2)) (if a.tl = b.tl then a.tl else xDecL)) else none := by
  unfold reckonO
  rw [numO_wt h, numO_wt h2]
theorem reckonO_other {op : Int} {a b : Tm} (h : bothN (wt a) (wt b) = false) : reckonO op a b = none := by
  unfold reckonO numO
  have h' : ¬ 0 ≤ min (wt a).im (wt b).im := of_decide_eq_false h
  cases ha : wt a <;> cases hb : wt b <;> first | rfl | (exfalso; apply h'; rw [ha, hb]; simp only [Wt.im]; omega)
/-- A number's text, printed. -/
theorem numeral_any (m : Int) (s : Nat) (kind : ByteArray) (ok : Bool) (w : World) (hg : GoodD m (s : Int)) (hY : TabP w) :
    Calls Tryz.prog 93 #[.agg #[.int .i64 m, .int .i64 (s : Int)], .string kind, .bool ok] w fun e w' => e = .returned (.tuple #[.agg #[.int .i64 3, .string ⟨(printF m s).toArray⟩, .string ⟨#[]⟩, .string kind], .bool ok]) ∧ Below w.heap.size w w' := by
  refine numeral_of m s _ kind ok w (fun w1 hb => ?_)
  have := print_any m (s : Int) w1 hg (hY.below hb)
  rw [Int.toNat_natCast, ← printF_eq m s hg.abs] at this
  exact this
/-- The terms' boxes, the answer's, and a decimal's. -/
def FourT (w : World) (a b : Tm) (v : World) : Prop := ThreeT w a b v ∧ DecB v (w.heap.size + 1 + 1 + 1) 0 0
theorem FourT.below {w v v' : World} {a b : Tm} (h : FourT w a b v) (hb : Below v.heap.size v v') : FourT w a b v' := ⟨h.1.below hb, h.2.below hb⟩
theorem FourT.new {w v : World} {a b : Tm} {ty : TypeId} (h : ThreeT w a b v) (hz : v.heap.size = w.heap.size + 1 + 1 + 1) : FourT w a b (v.alloc (.cells #[.int .i64 0, .int .i64 0] ty)) := by
  have hd := DecB.new v 0 0 ty
  rw [hz] at hd
  exact ⟨h.below ((Below.refl _ _).alloc (Nat.le_refl _) _), hd⟩
theorem FourT.put {w v v' : World} {a b : Tm} (h : FourT w a b v) (x y k s l t : Value) : Below w.heap.size w ((((((v.setCell ⟨w.heap.size + 1 + 1 + 1, 0, none⟩ x).setCell ⟨w.heap.size + 1 + 1 + 1, 1, none⟩ y).setCell ⟨w.heap.size + 1 + 1, 0, none⟩ k).setCell ⟨w.heap.size + 1 + 1, 1, none⟩ s).setCell ⟨w.heap.size + 1 + 1, 2, none⟩ l).setCell ⟨w.heap.size + 1 + 1, 3, none⟩ t) :=
  (((((h.1.1.1.setCell (by simp only []; omega) _).setCell (by simp only []; omega) _).setCell (by simp only []; omega) _).setCell (by simp only []; omega) _).setCell (by simp only []; omega) _).setCell (by simp only []; omega) _
theorem FourT.dec {w v : World} {a b : Tm} (h : FourT w a b v) (x y : Value) : ThreeT w a b ((v.setCell ⟨w.heap.size + 1 + 1 + 1, 0, none⟩ x).setCell ⟨w.heap.size + 1 + 1 + 1, 1, none⟩ y) := by
  have key : ∀ {v : World} (j : Nat) (u : Value), ThreeT w a b v → ThreeT w a b (v.setCell ⟨w.heap.size + 1 + 1 + 1, j, none⟩ u) := by
    intro v j u h
    have c : ∀ q i, q < w.heap.size + 1 + 1 + 1 → (v.setCell ⟨w.heap.size + 1 + 1 + 1, j, none⟩ u).cell? ⟨q, i, none⟩ = v.cell? ⟨q, i, none⟩ := fun q i HQ => World.cell?_setCell_other _ _ _ _ (by have hne := Nat.ne_of_lt HQ; simp [hne])
    refine ⟨⟨h.1.1.setCell (by simp only []; omega) _, ?_, ?_⟩, ?_, fun i => by rw [World.frozen?_setCell]; exact h.2.2 i⟩
    · obtain ⟨h0, h1, h2, h3, h4⟩ := h.1.2.1
      exact ⟨by simpa using h0, (c _ _ (by omega)).trans h1, (c _ _ (by omega)).trans h2, (c _ _ (by omega)).trans h3, (c _ _ (by omega)).trans h4⟩
    · obtain ⟨h0, h1, h2, h3, h4⟩ := h.1.2.2
      exact ⟨by simpa using h0, (c _ _ (by omega)).trans h1, (c _ _ (by omega)).trans h2, (c _ _ (by omega)).trans h3, (c _ _ (by omega)).trans h4⟩
    · obtain ⟨h0, h1, h2, h3, h4⟩ := h.2.1
      exact ⟨by simpa using h0, (c _ _ (by omega)).trans h1, (c _ _ (by omega)).trans h2, (c _ _ (by omega)).trans h3, (c _ _ (by omega)).trans h4⟩
  exact key 1 y (key 0 x h.1)
theorem FourT.far {w v : World} {a b : Tm} {q : Nat} (h : FourT w a b v) (hq : w.heap.size + 1 + 1 + 1 < q) (x y : Value) : FourT w a b ((v.setCell ⟨q, 0, none⟩ x).setCell ⟨q, 1, none⟩ y) := by
  have key : ∀ {v : World} (j : Nat) (u : Value), FourT w a b v → FourT w a b (v.setCell ⟨q, j, none⟩ u) := by
    intro v j u h
    have c : ∀ p i, p < q → (v.setCell ⟨q, j, none⟩ u).cell? ⟨p, i, none⟩ = v.cell? ⟨p, i, none⟩ := fun p i HQ => World.cell?_setCell_other _ _ _ _ (by have hne := Nat.ne_of_lt HQ; simp [hne])
    refine ⟨⟨⟨h.1.1.1.setCell (by simp only []; omega) _, ?_, ?_⟩, ?_, fun i => by rw [World.frozen?_setCell]; exact h.1.2.2 i⟩, ?_⟩
    · obtain ⟨h0, h1, h2, h3, h4⟩ := h.1.1.2.1
      exact ⟨by simpa using h0, (c _ _ (by omega)).trans h1, (c _ _ (by omega)).trans h2, (c _ _ (by omega)).trans h3, (c _ _ (by omega)).trans h4⟩
    · obtain ⟨h0, h1, h2, h3, h4⟩ := h.1.1.2.2
      exact ⟨by simpa using h0, (c _ _ (by omega)).trans h1, (c _ _ (by omega)).trans h2, (c _ _ (by omega)).trans h3, (c _ _ (by omega)).trans h4⟩
    · obtain ⟨h0, h1, h2, h3, h4⟩ := h.1.2.1
      exact ⟨by simpa using h0, (c _ _ (by omega)).trans h1, (c _ _ (by omega)).trans h2, (c _ _ (by omega)).trans h3, (c _ _ (by omega)).trans h4⟩
    · obtain ⟨h0, h1, h2, h3, h4⟩ := h.2
      exact ⟨by simpa using h0, (c _ _ (by omega)).trans h1, (c _ _ (by omega)).trans h2, by rw [World.frozen?_setCell]; exact h3, by rw [World.frozen?_setCell]; exact h4⟩
  exact key 1 y (key 0 x h)
set_option maxHeartbeats 1500000 in
theorem reckon_11 (a b : Tm) (ha : a.Sm) (hb : b.Sm) (w : World) (hP : PowAt w) (hY : TabP w) : Calls Tryz.prog 99 #[.int .i64 11, a.val, b.val] w fun e w' => Tells e (reckonO 11 a b) ∧ Below w.heap.size w w' := by
  have HA := Lib.hid (fun w => weigh_any a ha w)
  have HB := Lib.hid (fun w => weigh_any b hb w)
  have HSA := Lib.hid (wt_small ha)
  have HSB := Lib.hid (wt_small hb)
  have HN := Lib.hid (ThreeT.new w a b 25)
  have HPW := Lib.hid hP
  have HTB := Lib.hid hY
  obtain ⟨V, hV⟩ : ∃ V, V = reckonO 11 a b := ⟨_, rfl⟩
  rw [← hV]
  have HV := Lib.hid hV
  clear hV ha hb hP hY
  unfold Tm.val
  unfold Tm.val at HA HB
  go_enter Tryz.func99, Tryz.ntmps99
  go_upto_region 1 with fail
  have hz3 : (World.alloc (World.alloc (World.alloc w (.cells #[.int .i64 a.k, .string a.s, .string a.l, .string a.t] 25)) (.cells #[.int .i64 b.k, .string b.s, .string b.l, .string b.t] 25)) (.cells #[.int .i64 0, .string ⟨#[]⟩, .string ⟨#[]⟩, .string ⟨#[]⟩] 25)).heap.size = w.heap.size + 1 + 1 + 1 := by simp
  generalize World.alloc (World.alloc (World.alloc w _) _) _ = wr at HN hz3 ⊢
  have HN4 := Lib.hid (FourT.new (ty := 44) HN.out hz3)
  clear HN
  go_wp2_with fail
  try rw [hz3]
  generalize World.alloc wr _ = wr2 at HN4 ⊢
  clear hz3
  refine wp_region_any (by kernel_rfl) ?_
  change wpAny _ _ _ _ _ _ _ (World.drew _)
  refine wpAny_of_held (S := fun v => FourT w a b v) _ _ _ _ ?_
  have hS : (fun v => FourT w a b v) _ := HN4.out.below (below_drew15 _)
  refine wpAnyH_take (i := 0) (oi := ⟨some 14, _, _, _, _, _⟩) (v := ?_) rfl (by kernel_rfl) (by kernel_rfl) (by kernel_rfl) (fun _ _ _ h => h) (Or.inl ⟨by simp only [Region.wanted], ?_⟩) hS ?_
  rotate_left
  · intro wz hSw; obtain ⟨-, k0, k1, k2, k3⟩ := hSw.1.1.2.1
    clear hSw
    go_simp
    first | done | with_reducible rfl
  try simp only [Act.put, List.setIfInBounds_toArray, List.set_cons_zero, List.set_cons_succ]
  refine wpAnyH_take (i := 2) (oi := ⟨some 16, _, _, _, _, _⟩) (v := ?_) rfl (by kernel_rfl) (by kernel_rfl) (by kernel_rfl) (fun _ _ _ h => h) (Or.inl ⟨by simp only [Region.wanted], ?_⟩) hS ?_
  rotate_left
  · intro wz hSw; obtain ⟨-, k0, k1, k2, k3⟩ := hSw.1.1.2.2
    clear hSw
    go_simp
    first | done | with_reducible rfl
  try simp only [Act.put, List.setIfInBounds_toArray, List.set_cons_zero, List.set_cons_succ]
  refine wpAnyH_ready (rs := [1]) (by kernel_rfl) (by simp) ?_
  refine AllReadyH.cons (o := ⟨some 15, _, _, _, _, _⟩) rfl (fun K hK => ?_) AllReadyH.nil
  go_simp
  refine (HA.out _).mono ?_
  rintro e w1 ⟨xr, xi, rfl, h1, h2⟩
  have HX := Lib.hid h1
  have HB1 := Lib.hid (hS.below h2)
  clear h1 h2
  go_wp2_with fail
  refine hK.out _ _ (HB1.out) (fun hS => ?_)
  clear hK K
  try simp only [Act.put, List.setIfInBounds_toArray, List.set_cons_zero, List.set_cons_succ]
  refine wpAnyH_ready (rs := [3]) (by kernel_rfl) (by simp) ?_
  refine AllReadyH.cons (o := ⟨some 17, _, _, _, _, _⟩) rfl (fun K hK => ?_) AllReadyH.nil
  go_simp
  refine (HB.out _).mono ?_
  rintro e w2 ⟨yr, yi, rfl, h1, h2⟩
  have HY := Lib.hid h1
  have HT := Lib.hid (hS.below h2)
  clear h1 h2
  go_wp2_with fail
  refine hK.out _ _ (HT.out) (fun hS => ?_)
  clear hK K
  try simp only [Act.put, List.setIfInBounds_toArray, List.set_cons_zero, List.set_cons_succ]
  refine wpAnyH_take (i := 4) (oi := ⟨some 10, _, _, _, _, _⟩) (v := ?_) rfl (by kernel_rfl) (by kernel_rfl) (by kernel_rfl) (fun _ _ _ h => h) (Or.inl ⟨by simp only [Region.wanted], ?_⟩) hS ?_
  rotate_left
  · intro wz hSw
    clear hSw
    go_simp
    first | done | with_reducible rfl
  try simp only [Act.put, List.setIfInBounds_toArray, List.set_cons_zero, List.set_cons_succ]
  refine wpAnyH_take (i := 5) (oi := ⟨some 11, _, _, _, _, _⟩) (v := ?_) rfl (by kernel_rfl) (by kernel_rfl) (by kernel_rfl) (fun _ _ _ h => h) (Or.inl ⟨by simp only [Region.wanted], ?_⟩) hS ?_
  rotate_left
  · intro wz hSw
    clear hSw
    go_simp
    first | done | with_reducible rfl
  try simp only [Act.put, List.setIfInBounds_toArray, List.set_cons_zero, List.set_cons_succ]
  refine wpAnyH_done (by kernel_rfl) ?_ _
  clear hS HN4 HB1
  have HNUM := Lib.hid (fun w => numbers_any xr xi yr yi _ _ HX.out.2 HY.out.2 w)
  have HDX := Lib.hid (fun w => decimal_of xr xi _ _ HX.out.1 HX.out.2 HSA.out.1 HSA.out.2 w)
  have HDY := Lib.hid (fun w => decimal_of yr yi _ _ HY.out.1 HY.out.2 HSB.out.1 HSB.out.2 w)
  by_cases hn : bothN (wt a) (wt b) = true
  · obtain ⟨m, s, m2, s2, ea, eb⟩ := bothN_num hn
    have HG := Lib.hid (And.intro (wt_num_good ea) (wt_num_good eb))
    rw [show decide (0 ≤ min (wt a).im (wt b).im) = true from hn] at HNUM
    rw [ea] at HDX
    rw [eb] at HDY
    replace HDX : Hid (∀ w, Calls Tryz.prog 41 #[.complex .f64 xr xi] w fun e w' => e = .returned (.agg #[.int .i64 m, .int .i64 (s : Int)]) ∧ Below w.heap.size w w') := HDX
    replace HDY : Hid (∀ w, Calls Tryz.prog 41 #[.complex .f64 yr yi] w fun e w' => e = .returned (.agg #[.int .i64 m2, .int .i64 (s2 : Int)]) ∧ Below w.heap.size w w') := HDY
    obtain ⟨vm, vs, hp, hg, hpe⟩ := decP_tell (sumP 11 (m, s) (m2, s2)) (sumP_good _ _ _)
    have HF := Lib.hid (show V = if fitsL (sumP 11 (m, s) (m2, s2)) then some (numeralT (sumP 11 (m, s) (m2, s2)) (if a.tl = b.tl then a.tl else xDecL)) else none by rw [HV.out, reckonO_num ea eb])
    have HPP := Lib.hid hp
    have HGG := Lib.hid hg
    have HPE := Lib.hid hpe
    clear hn ea eb HV hp hg hpe
    go_wp2_with fail
    refine (HNUM.out _).mono ?_
    rintro e w3 ⟨rfl, rfl⟩
    go_wp2_with fail
    refine (HDX.out _).mono ?_
    rintro e w4 ⟨rfl, hb4⟩
    have HT4 := Lib.hid (HT.out.below hb4)
    clear hb4
    go_wp2_with fail
    refine (HDY.out _).mono ?_
    rintro e w5 ⟨rfl, hb5⟩
    have HT5 := Lib.hid (HT4.out.below hb5)
    clear hb5
    have hb6 : Below w5.heap.size w5 ((w5.alloc (.cells #[.int .i64 m, .int .i64 (s : Int)] 44)).alloc (.cells #[.int .i64 m2, .int .i64 (s2 : Int)] 44)) := ((Below.refl _ _).alloc (Nat.le_refl _) _).alloc (by simp) _
    have HM6 := Lib.hid ((DecB.new w5 m (s : Int) 44).below ((Below.refl _ _).alloc (Nat.le_refl _) (.cells #[.int .i64 m2, .int .i64 (s2 : Int)] 44)))
    have hn6 := DecB.new (w5.alloc (.cells #[.int .i64 m, .int .i64 (s : Int)] 44)) m2 (s2 : Int) 44
    simp only [World.size_alloc] at hn6
    have HN6 := Lib.hid hn6
    have HT6 := Lib.hid (HT5.out.below hb6)
    clear hb6 hn6
    go_wp2_with fail
    generalize (w5.alloc (.cells #[.int .i64 m, .int .i64 (s : Int)] 44)).alloc (.cells #[.int .i64 m2, .int .i64 (s2 : Int)] 44) = w6 at HM6 HN6 HT6 ⊢
    refine (add_six w6 m (s : Int) m2 (s2 : Int) HG.out.1 HG.out.2 (HPW.out.below HT6.out.1.1.1)).mono ?_
    rw [show decP (nrm (sixI m (s : Int).toNat + sixI m2 (s2 : Int).toNat) 6) = _ from HPP.out]
    rintro e w9 ⟨rfl, hb9⟩
    have HT9 := Lib.hid (HT6.out.below hb9)
    clear hb9
    obtain ⟨-, d0, d1, fd0, fd1⟩ := HT9.out.2
    obtain ⟨-, ka0, ka1, ka2, ka3⟩ := HT9.out.1.1.2.1
    obtain ⟨-, kb0, kb1, kb2, kb3⟩ := HT9.out.1.1.2.2
    have HTX := Lib.hid (HT9.out.dec (.int .i64 vm) (.int .i64 (vs : Int)))
    generalize fitsL (sumP 11 (m, s) (m2, s2)) = ok at HF HPE ⊢
    by_cases ht : a.tl = b.tl
    · rw [if_pos ht] at HF
      have hc2 : (a.t.toList == b.t.toList) = true := by rw [Lib.toList_data, Lib.toList_data]; exact beq_iff_eq.2 ht
      have hc : (!a.t.toList == b.t.toList) = false := by rw [hc2]; rfl
      clear ht
      go_wp2_with fail
      generalize (w9.setCell ⟨w.heap.size + 1 + 1 + 1, 0, none⟩ (.int .i64 vm)).setCell ⟨w.heap.size + 1 + 1 + 1, 1, none⟩ (.int .i64 (vs : Int)) = w10 at HTX ⊢
      refine (numeral_any vm vs a.t ok w10 HGG.out (HTB.out.below HTX.out.1.1)).mono ?_
      have HZ := Lib.hid (show (⟨(printF vm vs).toArray⟩ : ByteArray) = ⟨(printF vm vs).toArray⟩ from rfl)
      generalize hz : (⟨(printF vm vs).toArray⟩ : ByteArray) = z
      rw [hz] at HZ
      replace HZ := Lib.hid hz.symm
      clear hz
      rintro e w11 ⟨rfl, hb11⟩
      have HT11 := Lib.hid (HTX.out.below hb11)
      clear hb11
      obtain ⟨-, kz0, kz1, kz2, kz3⟩ := HT11.out.2.1
      have fz0 := HT11.out.2.2 0
      have fz1 := HT11.out.2.2 1
      have fz2 := HT11.out.2.2 2
      have fz3 := HT11.out.2.2 3
      simp only [zeroT] at kz0 kz1 kz2 kz3
      go_wp2_with fail
      refine bodyPost_ret (v := .tuple #[.agg #[.int .i64 3, .string z, .string ⟨#[]⟩, .string a.t], .bool ok]) (by simp [results, Tryz.results99, go_sem, kz0, kz1, kz2, kz3]) rfl ⟨?_, HT11.out.put _ _ _ _⟩
      rw [HF.out]
      have hpe := HPE.out
      cases ok with
      | true => rw [hpe rfl]; exact Tells.some (by rw [HZ.out]; rfl)
      | false => exact Tells.none (x := ⟨3, z, ⟨#[]⟩, a.t⟩) rfl
    · rw [if_neg ht] at HF
      have hc2 : (a.t.toList == b.t.toList) = false := by rw [Lib.toList_data, Lib.toList_data]; exact beq_eq_false_iff_ne.2 ht
      have hc : (!a.t.toList == b.t.toList) = true := by rw [hc2]; rfl
      clear ht
      go_wp2_with fail
      generalize (w9.setCell ⟨w.heap.size + 1 + 1 + 1, 0, none⟩ (.int .i64 vm)).setCell ⟨w.heap.size + 1 + 1 + 1, 1, none⟩ (.int .i64 (vs : Int)) = w10 at HTX ⊢
      refine (numeral_any vm vs ⟨xDecL.toArray⟩ ok w10 HGG.out (HTB.out.below HTX.out.1.1)).mono ?_
      have HZ := Lib.hid (show (⟨(printF vm vs).toArray⟩ : ByteArray) = ⟨(printF vm vs).toArray⟩ from rfl)
      generalize hz : (⟨(printF vm vs).toArray⟩ : ByteArray) = z
      rw [hz] at HZ
      replace HZ := Lib.hid hz.symm
      clear hz
      rintro e w11 ⟨rfl, hb11⟩
      have HT11 := Lib.hid (HTX.out.below hb11)
      clear hb11
      obtain ⟨-, kz0, kz1, kz2, kz3⟩ := HT11.out.2.1
      have fz0 := HT11.out.2.2 0
      have fz1 := HT11.out.2.2 1
      have fz2 := HT11.out.2.2 2
      have fz3 := HT11.out.2.2 3
      simp only [zeroT] at kz0 kz1 kz2 kz3
      go_wp2_with fail
      refine bodyPost_ret (v := .tuple #[.agg #[.int .i64 3, .string z, .string ⟨#[]⟩, .string ⟨xDecL.toArray⟩], .bool ok]) (by simp [results, Tryz.results99, go_sem, kz0, kz1, kz2, kz3]) rfl ⟨?_, HT11.out.put _ _ _ _⟩
      rw [HF.out]
      have hpe := HPE.out
      cases ok with
      | true => rw [hpe rfl]; exact Tells.some (by rw [HZ.out]; rfl)
      | false => exact Tells.none (x := ⟨3, z, ⟨#[]⟩, ⟨xDecL.toArray⟩⟩) rfl
  · have hn' : bothN (wt a) (wt b) = false := by simpa using hn
    rw [show decide (0 ≤ min (wt a).im (wt b).im) = false from hn'] at HNUM
    have HF := Lib.hid (show V = none by rw [HV.out, reckonO_other hn'])
    clear hn hn' HV HDX HDY
    go_wp2_with fail
    refine (HNUM.out _).mono ?_
    rintro e w3 ⟨rfl, rfl⟩
    obtain ⟨-, kz0, kz1, kz2, kz3⟩ := HT.out.1.2.1
    have fz0 := HT.out.1.2.2 0
    have fz1 := HT.out.1.2.2 1
    have fz2 := HT.out.1.2.2 2
    have fz3 := HT.out.1.2.2 3
    simp only [zeroT] at kz0 kz1 kz2 kz3
    go_wp2_with fail
    refine bodyPost_ret (v := .tuple #[.agg #[.int .i64 0, .string ⟨#[]⟩, .string ⟨#[]⟩, .string ⟨#[]⟩], .bool false]) (by simp [results, Tryz.results99, go_sem, kz0, kz1, kz2, kz3]) rfl ⟨?_, HT.out.1.put _ _ _ _⟩
    rw [HF.out]
    exact Tells.none (x := zeroT) rfl
set_option maxHeartbeats 1500000 in
theorem reckon_12 (a b : Tm) (ha : a.Sm) (hb : b.Sm) (w : World) (hP : PowAt w) (hY : TabP w) : Calls Tryz.prog 99 #[.int .i64 12, a.val, b.val] w fun e w' => Tells e (reckonO 12 a b) ∧ Below w.heap.size w w' := by
  have HA := Lib.hid (fun w => weigh_any a ha w)
  have HB := Lib.hid (fun w => weigh_any b hb w)
  have HSA := Lib.hid (wt_small ha)
  have HSB := Lib.hid (wt_small hb)
  have HN := Lib.hid (ThreeT.new w a b 25)
  have HPW := Lib.hid hP
  have HTB := Lib.hid hY
  obtain ⟨V, hV⟩ : ∃ V, V = reckonO 12 a b := ⟨_, rfl⟩
  rw [← hV]
  have HV := Lib.hid hV
  clear hV ha hb hP hY
  unfold Tm.val
  unfold Tm.val at HA HB
  go_enter Tryz.func99, Tryz.ntmps99
  go_upto_region 1 with fail
  have hz3 : (World.alloc (World.alloc (World.alloc w (.cells #[.int .i64 a.k, .string a.s, .string a.l, .string a.t] 25)) (.cells #[.int .i64 b.k, .string b.s, .string b.l, .string b.t] 25)) (.cells #[.int .i64 0, .string ⟨#[]⟩, .string ⟨#[]⟩, .string ⟨#[]⟩] 25)).heap.size = w.heap.size + 1 + 1 + 1 := by simp
  generalize World.alloc (World.alloc (World.alloc w _) _) _ = wr at HN hz3 ⊢
  have HN4 := Lib.hid (FourT.new (ty := 44) HN.out hz3)
  clear HN
  go_wp2_with fail
  try rw [hz3]
  generalize World.alloc wr _ = wr2 at HN4 ⊢
  clear hz3
  refine wp_region_any (by kernel_rfl) ?_
  change wpAny _ _ _ _ _ _ _ (World.drew _)
  refine wpAny_of_held (S := fun v => FourT w a b v) _ _ _ _ ?_
  have hS : (fun v => FourT w a b v) _ := HN4.out.below (below_drew15 _)
  refine wpAnyH_take (i := 0) (oi := ⟨some 14, _, _, _, _, _⟩) (v := ?_) rfl (by kernel_rfl) (by kernel_rfl) (by kernel_rfl) (fun _ _ _ h => h) (Or.inl ⟨by simp only [Region.wanted], ?_⟩) hS ?_
  rotate_left
  · intro wz hSw; obtain ⟨-, k0, k1, k2, k3⟩ := hSw.1.1.2.1
    clear hSw
    go_simp
    first | done | with_reducible rfl
  try simp only [Act.put, List.setIfInBounds_toArray, List.set_cons_zero, List.set_cons_succ]
  refine wpAnyH_take (i := 2) (oi := ⟨some 16, _, _, _, _, _⟩) (v := ?_) rfl (by kernel_rfl) (by kernel_rfl) (by kernel_rfl) (fun _ _ _ h => h) (Or.inl ⟨by simp only [Region.wanted], ?_⟩) hS ?_
  rotate_left
  · intro wz hSw; obtain ⟨-, k0, k1, k2, k3⟩ := hSw.1.1.2.2
    clear hSw
    go_simp
    first | done | with_reducible rfl
  try simp only [Act.put, List.setIfInBounds_toArray, List.set_cons_zero, List.set_cons_succ]
  refine wpAnyH_ready (rs := [1]) (by kernel_rfl) (by simp) ?_
  refine AllReadyH.cons (o := ⟨some 15, _, _, _, _, _⟩) rfl (fun K hK => ?_) AllReadyH.nil
  go_simp
  refine (HA.out _).mono ?_
  rintro e w1 ⟨xr, xi, rfl, h1, h2⟩
  have HX := Lib.hid h1
  have HB1 := Lib.hid (hS.below h2)
  clear h1 h2
  go_wp2_with fail
  refine hK.out _ _ (HB1.out) (fun hS => ?_)
  clear hK K
  try simp only [Act.put, List.setIfInBounds_toArray, List.set_cons_zero, List.set_cons_succ]
  refine wpAnyH_ready (rs := [3]) (by kernel_rfl) (by simp) ?_
  refine AllReadyH.cons (o := ⟨some 17, _, _, _, _, _⟩) rfl (fun K hK => ?_) AllReadyH.nil
  go_simp
  refine (HB.out _).mono ?_
  rintro e w2 ⟨yr, yi, rfl, h1, h2⟩
  have HY := Lib.hid h1
  have HT := Lib.hid (hS.below h2)
  clear h1 h2
  go_wp2_with fail
  refine hK.out _ _ (HT.out) (fun hS => ?_)
  clear hK K
  try simp only [Act.put, List.setIfInBounds_toArray, List.set_cons_zero, List.set_cons_succ]
  refine wpAnyH_take (i := 4) (oi := ⟨some 10, _, _, _, _, _⟩) (v := ?_) rfl (by kernel_rfl) (by kernel_rfl) (by kernel_rfl) (fun _ _ _ h => h) (Or.inl ⟨by simp only [Region.wanted], ?_⟩) hS ?_
  rotate_left
  · intro wz hSw
    clear hSw
    go_simp
    first | done | with_reducible rfl
  try simp only [Act.put, List.setIfInBounds_toArray, List.set_cons_zero, List.set_cons_succ]
  refine wpAnyH_take (i := 5) (oi := ⟨some 11, _, _, _, _, _⟩) (v := ?_) rfl (by kernel_rfl) (by kernel_rfl) (by kernel_rfl) (fun _ _ _ h => h) (Or.inl ⟨by simp only [Region.wanted], ?_⟩) hS ?_
  rotate_left
  · intro wz hSw
    clear hSw
    go_simp
    first | done | with_reducible rfl
  try simp only [Act.put, List.setIfInBounds_toArray, List.set_cons_zero, List.set_cons_succ]
  refine wpAnyH_done (by kernel_rfl) ?_ _
  clear hS HN4 HB1
  have HNUM := Lib.hid (fun w => numbers_any xr xi yr yi _ _ HX.out.2 HY.out.2 w)
  have HDX := Lib.hid (fun w => decimal_of xr xi _ _ HX.out.1 HX.out.2 HSA.out.1 HSA.out.2 w)
  have HDY := Lib.hid (fun w => decimal_of yr yi _ _ HY.out.1 HY.out.2 HSB.out.1 HSB.out.2 w)
  by_cases hn : bothN (wt a) (wt b) = true
  · obtain ⟨m, s, m2, s2, ea, eb⟩ := bothN_num hn
    have HG := Lib.hid (And.intro (wt_num_good ea) (wt_num_good eb))
    rw [show decide (0 ≤ min (wt a).im (wt b).im) = true from hn] at HNUM
    rw [ea] at HDX
    rw [eb] at HDY
    replace HDX : Hid (∀ w, Calls Tryz.prog 41 #[.complex .f64 xr xi] w fun e w' => e = .returned (.agg #[.int .i64 m, .int .i64 (s : Int)]) ∧ Below w.heap.size w w') := HDX
    replace HDY : Hid (∀ w, Calls Tryz.prog 41 #[.complex .f64 yr yi] w fun e w' => e = .returned (.agg #[.int .i64 m2, .int .i64 (s2 : Int)]) ∧ Below w.heap.size w w') := HDY
    obtain ⟨vm, vs, hp, hg, hpe⟩ := decP_tell (sumP 12 (m, s) (m2, s2)) (sumP_good _ _ _)
    have HF := Lib.hid (show V = if fitsL (sumP 12 (m, s) (m2, s2)) then some (numeralT (sumP 12 (m, s) (m2, s2)) (if a.tl = b.tl then a.tl else xDecL)) else none by rw [HV.out, reckonO_num ea eb])
    have HPP := Lib.hid hp
    have HGG := Lib.hid hg
    have HPE := Lib.hid hpe
    clear hn ea eb HV hp hg hpe
    go_wp2_with fail
    refine (HNUM.out _).mono ?_
    rintro e w3 ⟨rfl, rfl⟩
    go_wp2_with fail
    refine (HDX.out _).mono ?_
    rintro e w4 ⟨rfl, hb4⟩
    have HT4 := Lib.hid (HT.out.below hb4)
    clear hb4
    go_wp2_with fail
    refine (HDY.out _).mono ?_
    rintro e w5 ⟨rfl, hb5⟩
    have HT5 := Lib.hid (HT4.out.below hb5)
    clear hb5
    have hb6 : Below w5.heap.size w5 ((w5.alloc (.cells #[.int .i64 m, .int .i64 (s : Int)] 44)).alloc (.cells #[.int .i64 m2, .int .i64 (s2 : Int)] 44)) := ((Below.refl _ _).alloc (Nat.le_refl _) _).alloc (by simp) _
    have HM6 := Lib.hid ((DecB.new w5 m (s : Int) 44).below ((Below.refl _ _).alloc (Nat.le_refl _) (.cells #[.int .i64 m2, .int .i64 (s2 : Int)] 44)))
    have hn6 := DecB.new (w5.alloc (.cells #[.int .i64 m, .int .i64 (s : Int)] 44)) m2 (s2 : Int) 44
    simp only [World.size_alloc] at hn6
    have HN6 := Lib.hid hn6
    have HT6 := Lib.hid (HT5.out.below hb6)
    clear hb6 hn6
    go_wp2_with fail
    generalize (w5.alloc (.cells #[.int .i64 m, .int .i64 (s : Int)] 44)).alloc (.cells #[.int .i64 m2, .int .i64 (s2 : Int)] 44) = w6 at HM6 HN6 HT6 ⊢
    refine (neg_any w6 m2 (s2 : Int) HG.out.2).mono ?_
    rintro e w7 ⟨rfl, hb7⟩
    have HT7 := Lib.hid (HT6.out.below hb7)
    have HM7 := Lib.hid (HM6.out.below hb7)
    have HN7 := Lib.hid (HN6.out.below hb7)
    clear hb7
    obtain ⟨hlm, m0, m1, mf0, mf1⟩ := HM7.out
    obtain ⟨hln, n0, n1, nf0, nf1⟩ := HN7.out
    have hne : ¬ w5.heap.size = w5.heap.size + 1 := by omega
    go_wp2_with fail
    have hlt7 : w.heap.size + 1 + 1 + 1 < w5.heap.size := HT5.out.2.1
    have hb8 : ThreeT w a b ((w7.setCell ⟨w5.heap.size + 1, 0, none⟩ (.int .i64 (-m2))).setCell ⟨w5.heap.size + 1, 1, none⟩ (.int .i64 (s2 : Int))) ∧ DecB ((w7.setCell ⟨w5.heap.size + 1, 0, none⟩ (.int .i64 (-m2))).setCell ⟨w5.heap.size + 1, 1, none⟩ (.int .i64 (s2 : Int))) (w.heap.size + 1 + 1 + 1) 0 0 := HT7.out.far (by omega) _ _
    have HT8 := Lib.hid (show FourT w a b _ from hb8)
    clear hb8 m0 m1 mf0 mf1 n0 n1 nf0 nf1
    generalize (w7.setCell ⟨w5.heap.size + 1, 0, none⟩ (.int .i64 (-m2))).setCell ⟨w5.heap.size + 1, 1, none⟩ (.int .i64 (s2 : Int)) = w8 at HT8 ⊢
    refine (add_six w8 m (s : Int) (-m2) (s2 : Int) HG.out.1 (good_neg HG.out.2) (HPW.out.below HT8.out.1.1.1)).mono ?_
    rw [show decP (nrm (sixI m (s : Int).toNat + sixI (-m2) (s2 : Int).toNat) 6) = _ from HPP.out]
    rintro e w9 ⟨rfl, hb9⟩
    have HT9 := Lib.hid (HT8.out.below hb9)
    clear hb9
    obtain ⟨-, d0, d1, fd0, fd1⟩ := HT9.out.2
    obtain ⟨-, ka0, ka1, ka2, ka3⟩ := HT9.out.1.1.2.1
    obtain ⟨-, kb0, kb1, kb2, kb3⟩ := HT9.out.1.1.2.2
    have HTX := Lib.hid (HT9.out.dec (.int .i64 vm) (.int .i64 (vs : Int)))
    generalize fitsL (sumP 12 (m, s) (m2, s2)) = ok at HF HPE ⊢
    by_cases ht : a.tl = b.tl
    · rw [if_pos ht] at HF
      have hc2 : (a.t.toList == b.t.toList) = true := by rw [Lib.toList_data, Lib.toList_data]; exact beq_iff_eq.2 ht
      have hc : (!a.t.toList == b.t.toList) = false := by rw [hc2]; rfl
      clear ht
      go_wp2_with fail
      generalize (w9.setCell ⟨w.heap.size + 1 + 1 + 1, 0, none⟩ (.int .i64 vm)).setCell ⟨w.heap.size + 1 + 1 + 1, 1, none⟩ (.int .i64 (vs : Int)) = w10 at HTX ⊢
      refine (numeral_any vm vs a.t ok w10 HGG.out (HTB.out.below HTX.out.1.1)).mono ?_
      have HZ := Lib.hid (show (⟨(printF vm vs).toArray⟩ : ByteArray) = ⟨(printF vm vs).toArray⟩ from rfl)
      generalize hz : (⟨(printF vm vs).toArray⟩ : ByteArray) = z
      rw [hz] at HZ
      replace HZ := Lib.hid hz.symm
      clear hz
      rintro e w11 ⟨rfl, hb11⟩
      have HT11 := Lib.hid (HTX.out.below hb11)
      clear hb11
      obtain ⟨-, kz0, kz1, kz2, kz3⟩ := HT11.out.2.1
      have fz0 := HT11.out.2.2 0
      have fz1 := HT11.out.2.2 1
      have fz2 := HT11.out.2.2 2
      have fz3 := HT11.out.2.2 3
      simp only [zeroT] at kz0 kz1 kz2 kz3
      go_wp2_with fail
      refine bodyPost_ret (v := .tuple #[.agg #[.int .i64 3, .string z, .string ⟨#[]⟩, .string a.t], .bool ok]) (by simp [results, Tryz.results99, go_sem, kz0, kz1, kz2, kz3]) rfl ⟨?_, HT11.out.put _ _ _ _⟩
      rw [HF.out]
      have hpe := HPE.out
      cases ok with
      | true => rw [hpe rfl]; exact Tells.some (by rw [HZ.out]; rfl)
      | false => exact Tells.none (x := ⟨3, z, ⟨#[]⟩, a.t⟩) rfl
    · rw [if_neg ht] at HF
      have hc2 : (a.t.toList == b.t.toList) = false := by rw [Lib.toList_data, Lib.toList_data]; exact beq_eq_false_iff_ne.2 ht
      have hc : (!a.t.toList == b.t.toList) = true := by rw [hc2]; rfl
      clear ht
      go_wp2_with fail
      generalize (w9.setCell ⟨w.heap.size + 1 + 1 + 1, 0, none⟩ (.int .i64 vm)).setCell ⟨w.heap.size + 1 + 1 + 1, 1, none⟩ (.int .i64 (vs : Int)) = w10 at HTX ⊢
      refine (numeral_any vm vs ⟨xDecL.toArray⟩ ok w10 HGG.out (HTB.out.below HTX.out.1.1)).mono ?_
      have HZ := Lib.hid (show (⟨(printF vm vs).toArray⟩ : ByteArray) = ⟨(printF vm vs).toArray⟩ from rfl)
      generalize hz : (⟨(printF vm vs).toArray⟩ : ByteArray) = z
      rw [hz] at HZ
      replace HZ := Lib.hid hz.symm
      clear hz
      rintro e w11 ⟨rfl, hb11⟩
      have HT11 := Lib.hid (HTX.out.below hb11)
      clear hb11
      obtain ⟨-, kz0, kz1, kz2, kz3⟩ := HT11.out.2.1
      have fz0 := HT11.out.2.2 0
      have fz1 := HT11.out.2.2 1
      have fz2 := HT11.out.2.2 2
      have fz3 := HT11.out.2.2 3
      simp only [zeroT] at kz0 kz1 kz2 kz3
      go_wp2_with fail
      refine bodyPost_ret (v := .tuple #[.agg #[.int .i64 3, .string z, .string ⟨#[]⟩, .string ⟨xDecL.toArray⟩], .bool ok]) (by simp [results, Tryz.results99, go_sem, kz0, kz1, kz2, kz3]) rfl ⟨?_, HT11.out.put _ _ _ _⟩
      rw [HF.out]
      have hpe := HPE.out
      cases ok with
      | true => rw [hpe rfl]; exact Tells.some (by rw [HZ.out]; rfl)
      | false => exact Tells.none (x := ⟨3, z, ⟨#[]⟩, ⟨xDecL.toArray⟩⟩) rfl
  · have hn' : bothN (wt a) (wt b) = false := by simpa using hn
    rw [show decide (0 ≤ min (wt a).im (wt b).im) = false from hn'] at HNUM
    have HF := Lib.hid (show V = none by rw [HV.out, reckonO_other hn'])
    clear hn hn' HV HDX HDY
    go_wp2_with fail
    refine (HNUM.out _).mono ?_
    rintro e w3 ⟨rfl, rfl⟩
    obtain ⟨-, kz0, kz1, kz2, kz3⟩ := HT.out.1.2.1
    have fz0 := HT.out.1.2.2 0
    have fz1 := HT.out.1.2.2 1
    have fz2 := HT.out.1.2.2 2
    have fz3 := HT.out.1.2.2 3
    simp only [zeroT] at kz0 kz1 kz2 kz3
    go_wp2_with fail
    refine bodyPost_ret (v := .tuple #[.agg #[.int .i64 0, .string ⟨#[]⟩, .string ⟨#[]⟩, .string ⟨#[]⟩], .bool false]) (by simp [results, Tryz.results99, go_sem, kz0, kz1, kz2, kz3]) rfl ⟨?_, HT.out.1.put _ _ _ _⟩
    rw [HF.out]
    exact Tells.none (x := zeroT) rfl
set_option maxHeartbeats 1500000 in
theorem reckon_13 (a b : Tm) (ha : a.Sm) (hb : b.Sm) (w : World) (hP : PowAt w) (hY : TabP w) : Calls Tryz.prog 99 #[.int .i64 13, a.val, b.val] w fun e w' => Tells e (reckonO 13 a b) ∧ Below w.heap.size w w' := by
  have HA := Lib.hid (fun w => weigh_any a ha w)
  have HB := Lib.hid (fun w => weigh_any b hb w)
  have HSA := Lib.hid (wt_small ha)
  have HSB := Lib.hid (wt_small hb)
  have HN := Lib.hid (ThreeT.new w a b 25)
  have HPW := Lib.hid hP
  have HTB := Lib.hid hY
  obtain ⟨V, hV⟩ : ∃ V, V = reckonO 13 a b := ⟨_, rfl⟩
  rw [← hV]
  have HV := Lib.hid hV
  clear hV ha hb hP hY
  unfold Tm.val
  unfold Tm.val at HA HB
  go_enter Tryz.func99, Tryz.ntmps99
  go_upto_region 1 with fail
  have hz3 : (World.alloc (World.alloc (World.alloc w (.cells #[.int .i64 a.k, .string a.s, .string a.l, .string a.t] 25)) (.cells #[.int .i64 b.k, .string b.s, .string b.l, .string b.t] 25)) (.cells #[.int .i64 0, .string ⟨#[]⟩, .string ⟨#[]⟩, .string ⟨#[]⟩] 25)).heap.size = w.heap.size + 1 + 1 + 1 := by simp
  generalize World.alloc (World.alloc (World.alloc w _) _) _ = wr at HN hz3 ⊢
  have HN4 := Lib.hid (FourT.new (ty := 44) HN.out hz3)
  clear HN
  go_wp2_with fail
  try rw [hz3]
  generalize World.alloc wr _ = wr2 at HN4 ⊢
  clear hz3
  refine wp_region_any (by kernel_rfl) ?_
  change wpAny _ _ _ _ _ _ _ (World.drew _)
  refine wpAny_of_held (S := fun v => FourT w a b v) _ _ _ _ ?_
  have hS : (fun v => FourT w a b v) _ := HN4.out.below (below_drew15 _)
  refine wpAnyH_take (i := 0) (oi := ⟨some 14, _, _, _, _, _⟩) (v := ?_) rfl (by kernel_rfl) (by kernel_rfl) (by kernel_rfl) (fun _ _ _ h => h) (Or.inl ⟨by simp only [Region.wanted], ?_⟩) hS ?_
  rotate_left
  · intro wz hSw; obtain ⟨-, k0, k1, k2, k3⟩ := hSw.1.1.2.1
    clear hSw
    go_simp
    first | done | with_reducible rfl
  try simp only [Act.put, List.setIfInBounds_toArray, List.set_cons_zero, List.set_cons_succ]
  refine wpAnyH_take (i := 2) (oi := ⟨some 16, _, _, _, _, _⟩) (v := ?_) rfl (by kernel_rfl) (by kernel_rfl) (by kernel_rfl) (fun _ _ _ h => h) (Or.inl ⟨by simp only [Region.wanted], ?_⟩) hS ?_
  rotate_left
  · intro wz hSw; obtain ⟨-, k0, k1, k2, k3⟩ := hSw.1.1.2.2
    clear hSw
    go_simp
    first | done | with_reducible rfl
  try simp only [Act.put, List.setIfInBounds_toArray, List.set_cons_zero, List.set_cons_succ]
  refine wpAnyH_ready (rs := [1]) (by kernel_rfl) (by simp) ?_
  refine AllReadyH.cons (o := ⟨some 15, _, _, _, _, _⟩) rfl (fun K hK => ?_) AllReadyH.nil
  go_simp
  refine (HA.out _).mono ?_
  rintro e w1 ⟨xr, xi, rfl, h1, h2⟩
  have HX := Lib.hid h1
  have HB1 := Lib.hid (hS.below h2)
  clear h1 h2
  go_wp2_with fail
  refine hK.out _ _ (HB1.out) (fun hS => ?_)
  clear hK K
  try simp only [Act.put, List.setIfInBounds_toArray, List.set_cons_zero, List.set_cons_succ]
  refine wpAnyH_ready (rs := [3]) (by kernel_rfl) (by simp) ?_
  refine AllReadyH.cons (o := ⟨some 17, _, _, _, _, _⟩) rfl (fun K hK => ?_) AllReadyH.nil
  go_simp
  refine (HB.out _).mono ?_
  rintro e w2 ⟨yr, yi, rfl, h1, h2⟩
  have HY := Lib.hid h1
  have HT := Lib.hid (hS.below h2)
  clear h1 h2
  go_wp2_with fail
  refine hK.out _ _ (HT.out) (fun hS => ?_)
  clear hK K
  try simp only [Act.put, List.setIfInBounds_toArray, List.set_cons_zero, List.set_cons_succ]
  refine wpAnyH_take (i := 4) (oi := ⟨some 10, _, _, _, _, _⟩) (v := ?_) rfl (by kernel_rfl) (by kernel_rfl) (by kernel_rfl) (fun _ _ _ h => h) (Or.inl ⟨by simp only [Region.wanted], ?_⟩) hS ?_
  rotate_left
  · intro wz hSw
    clear hSw
    go_simp
    first | done | with_reducible rfl
  try simp only [Act.put, List.setIfInBounds_toArray, List.set_cons_zero, List.set_cons_succ]
  refine wpAnyH_take (i := 5) (oi := ⟨some 11, _, _, _, _, _⟩) (v := ?_) rfl (by kernel_rfl) (by kernel_rfl) (by kernel_rfl) (fun _ _ _ h => h) (Or.inl ⟨by simp only [Region.wanted], ?_⟩) hS ?_
  rotate_left
  · intro wz hSw
    clear hSw
    go_simp
    first | done | with_reducible rfl
  try simp only [Act.put, List.setIfInBounds_toArray, List.set_cons_zero, List.set_cons_succ]
  refine wpAnyH_done (by kernel_rfl) ?_ _
  clear hS HN4 HB1
  have HNUM := Lib.hid (fun w => numbers_any xr xi yr yi _ _ HX.out.2 HY.out.2 w)
  have HDX := Lib.hid (fun w => decimal_of xr xi _ _ HX.out.1 HX.out.2 HSA.out.1 HSA.out.2 w)
  have HDY := Lib.hid (fun w => decimal_of yr yi _ _ HY.out.1 HY.out.2 HSB.out.1 HSB.out.2 w)
  by_cases hn : bothN (wt a) (wt b) = true
  · obtain ⟨m, s, m2, s2, ea, eb⟩ := bothN_num hn
    have HG := Lib.hid (And.intro (wt_num_good ea) (wt_num_good eb))
    rw [show decide (0 ≤ min (wt a).im (wt b).im) = true from hn] at HNUM
    rw [ea] at HDX
    rw [eb] at HDY
    replace HDX : Hid (∀ w, Calls Tryz.prog 41 #[.complex .f64 xr xi] w fun e w' => e = .returned (.agg #[.int .i64 m, .int .i64 (s : Int)]) ∧ Below w.heap.size w w') := HDX
    replace HDY : Hid (∀ w, Calls Tryz.prog 41 #[.complex .f64 yr yi] w fun e w' => e = .returned (.agg #[.int .i64 m2, .int .i64 (s2 : Int)]) ∧ Below w.heap.size w w') := HDY
    obtain ⟨vm, vs, hp, hg, hpe⟩ := decP_tell (sumP 13 (m, s) (m2, s2)) (sumP_good _ _ _)
    have HF := Lib.hid (show V = if fitsL (sumP 13 (m, s) (m2, s2)) then some (numeralT (sumP 13 (m, s) (m2, s2)) (if a.tl = b.tl then a.tl else xDecL)) else none by rw [HV.out, reckonO_num ea eb])
    have HPP := Lib.hid hp
    have HGG := Lib.hid hg
    have HPE := Lib.hid hpe
    clear hn ea eb HV hp hg hpe
    go_wp2_with fail
    refine (HNUM.out _).mono ?_
    rintro e w3 ⟨rfl, rfl⟩
    go_wp2_with fail
    refine (HDX.out _).mono ?_
    rintro e w4 ⟨rfl, hb4⟩
    have HT4 := Lib.hid (HT.out.below hb4)
    clear hb4
    go_wp2_with fail
    refine (HDY.out _).mono ?_
    rintro e w5 ⟨rfl, hb5⟩
    have HT5 := Lib.hid (HT4.out.below hb5)
    clear hb5
    have hb6 : Below w5.heap.size w5 ((w5.alloc (.cells #[.int .i64 m, .int .i64 (s : Int)] 44)).alloc (.cells #[.int .i64 m2, .int .i64 (s2 : Int)] 44)) := ((Below.refl _ _).alloc (Nat.le_refl _) _).alloc (by simp) _
    have HM6 := Lib.hid ((DecB.new w5 m (s : Int) 44).below ((Below.refl _ _).alloc (Nat.le_refl _) (.cells #[.int .i64 m2, .int .i64 (s2 : Int)] 44)))
    have hn6 := DecB.new (w5.alloc (.cells #[.int .i64 m, .int .i64 (s : Int)] 44)) m2 (s2 : Int) 44
    simp only [World.size_alloc] at hn6
    have HN6 := Lib.hid hn6
    have HT6 := Lib.hid (HT5.out.below hb6)
    clear hb6 hn6
    go_wp2_with fail
    generalize (w5.alloc (.cells #[.int .i64 m, .int .i64 (s : Int)] 44)).alloc (.cells #[.int .i64 m2, .int .i64 (s2 : Int)] 44) = w6 at HM6 HN6 HT6 ⊢
    refine (mul_any w6 m (s : Int) m2 (s2 : Int) HG.out.1 HG.out.2).mono ?_
    rw [show decP (nrm (m * m2) ((s : Int).toNat + (s2 : Int).toNat)) = _ from HPP.out]
    rintro e w9 ⟨rfl, hb9⟩
    have HT9 := Lib.hid (HT6.out.below hb9)
    clear hb9
    obtain ⟨-, d0, d1, fd0, fd1⟩ := HT9.out.2
    obtain ⟨-, ka0, ka1, ka2, ka3⟩ := HT9.out.1.1.2.1
    obtain ⟨-, kb0, kb1, kb2, kb3⟩ := HT9.out.1.1.2.2
    have HTX := Lib.hid (HT9.out.dec (.int .i64 vm) (.int .i64 (vs : Int)))
    generalize fitsL (sumP 13 (m, s) (m2, s2)) = ok at HF HPE ⊢
    by_cases ht : a.tl = b.tl
    · rw [if_pos ht] at HF
      have hc2 : (a.t.toList == b.t.toList) = true := by rw [Lib.toList_data, Lib.toList_data]; exact beq_iff_eq.2 ht
      have hc : (!a.t.toList == b.t.toList) = false := by rw [hc2]; rfl
      clear ht
      go_wp2_with fail
      generalize (w9.setCell ⟨w.heap.size + 1 + 1 + 1, 0, none⟩ (.int .i64 vm)).setCell ⟨w.heap.size + 1 + 1 + 1, 1, none⟩ (.int .i64 (vs : Int)) = w10 at HTX ⊢
      refine (numeral_any vm vs a.t ok w10 HGG.out (HTB.out.below HTX.out.1.1)).mono ?_
      have HZ := Lib.hid (show (⟨(printF vm vs).toArray⟩ : ByteArray) = ⟨(printF vm vs).toArray⟩ from rfl)
      generalize hz : (⟨(printF vm vs).toArray⟩ : ByteArray) = z
      rw [hz] at HZ
      replace HZ := Lib.hid hz.symm
      clear hz
      rintro e w11 ⟨rfl, hb11⟩
      have HT11 := Lib.hid (HTX.out.below hb11)
      clear hb11
      obtain ⟨-, kz0, kz1, kz2, kz3⟩ := HT11.out.2.1
      have fz0 := HT11.out.2.2 0
      have fz1 := HT11.out.2.2 1
      have fz2 := HT11.out.2.2 2
      have fz3 := HT11.out.2.2 3
      simp only [zeroT] at kz0 kz1 kz2 kz3
      go_wp2_with fail
      refine bodyPost_ret (v := .tuple #[.agg #[.int .i64 3, .string z, .string ⟨#[]⟩, .string a.t], .bool ok]) (by simp [results, Tryz.results99, go_sem, kz0, kz1, kz2, kz3]) rfl ⟨?_, HT11.out.put _ _ _ _⟩
      rw [HF.out]
      have hpe := HPE.out
      cases ok with
      | true => rw [hpe rfl]; exact Tells.some (by rw [HZ.out]; rfl)
      | false => exact Tells.none (x := ⟨3, z, ⟨#[]⟩, a.t⟩) rfl
    · rw [if_neg ht] at HF
      have hc2 : (a.t.toList == b.t.toList) = false := by rw [Lib.toList_data, Lib.toList_data]; exact beq_eq_false_iff_ne.2 ht
      have hc : (!a.t.toList == b.t.toList) = true := by rw [hc2]; rfl
      clear ht
      go_wp2_with fail
      generalize (w9.setCell ⟨w.heap.size + 1 + 1 + 1, 0, none⟩ (.int .i64 vm)).setCell ⟨w.heap.size + 1 + 1 + 1, 1, none⟩ (.int .i64 (vs : Int)) = w10 at HTX ⊢
      refine (numeral_any vm vs ⟨xDecL.toArray⟩ ok w10 HGG.out (HTB.out.below HTX.out.1.1)).mono ?_
      have HZ := Lib.hid (show (⟨(printF vm vs).toArray⟩ : ByteArray) = ⟨(printF vm vs).toArray⟩ from rfl)
      generalize hz : (⟨(printF vm vs).toArray⟩ : ByteArray) = z
      rw [hz] at HZ
      replace HZ := Lib.hid hz.symm
      clear hz
      rintro e w11 ⟨rfl, hb11⟩
      have HT11 := Lib.hid (HTX.out.below hb11)
      clear hb11
      obtain ⟨-, kz0, kz1, kz2, kz3⟩ := HT11.out.2.1
      have fz0 := HT11.out.2.2 0
      have fz1 := HT11.out.2.2 1
      have fz2 := HT11.out.2.2 2
      have fz3 := HT11.out.2.2 3
      simp only [zeroT] at kz0 kz1 kz2 kz3
      go_wp2_with fail
      refine bodyPost_ret (v := .tuple #[.agg #[.int .i64 3, .string z, .string ⟨#[]⟩, .string ⟨xDecL.toArray⟩], .bool ok]) (by simp [results, Tryz.results99, go_sem, kz0, kz1, kz2, kz3]) rfl ⟨?_, HT11.out.put _ _ _ _⟩
      rw [HF.out]
      have hpe := HPE.out
      cases ok with
      | true => rw [hpe rfl]; exact Tells.some (by rw [HZ.out]; rfl)
      | false => exact Tells.none (x := ⟨3, z, ⟨#[]⟩, ⟨xDecL.toArray⟩⟩) rfl
  · have hn' : bothN (wt a) (wt b) = false := by simpa using hn
    rw [show decide (0 ≤ min (wt a).im (wt b).im) = false from hn'] at HNUM
    have HF := Lib.hid (show V = none by rw [HV.out, reckonO_other hn'])
    clear hn hn' HV HDX HDY
    go_wp2_with fail
    refine (HNUM.out _).mono ?_
    rintro e w3 ⟨rfl, rfl⟩
    obtain ⟨-, kz0, kz1, kz2, kz3⟩ := HT.out.1.2.1
    have fz0 := HT.out.1.2.2 0
    have fz1 := HT.out.1.2.2 1
    have fz2 := HT.out.1.2.2 2
    have fz3 := HT.out.1.2.2 3
    simp only [zeroT] at kz0 kz1 kz2 kz3
    go_wp2_with fail
    refine bodyPost_ret (v := .tuple #[.agg #[.int .i64 0, .string ⟨#[]⟩, .string ⟨#[]⟩, .string ⟨#[]⟩], .bool false]) (by simp [results, Tryz.results99, go_sem, kz0, kz1, kz2, kz3]) rfl ⟨?_, HT.out.1.put _ _ _ _⟩
    rw [HF.out]
    exact Tells.none (x := zeroT) rfl
end Go.Proofs.YtecomfhbdonkbaaGreatDoor
