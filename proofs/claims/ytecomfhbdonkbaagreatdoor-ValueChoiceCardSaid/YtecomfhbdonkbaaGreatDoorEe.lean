/- Package dec: Add, Neg, Cmp. -/
import Derived.Test.YtecomfhbdonkbaaGreatDoorEd
import Derived.Deep.RegionHeld3
import Derived.Deep.RegionLaw
namespace Go.Proofs.YtecomfhbdonkbaaGreatDoor
open Go.RowKit Flo
set_option maxRecDepth 100000
set_option linter.unusedVariables false
set_option linter.unusedSimpArgs false

theorem cellB {B : Nat} {w w' : World} (h : Below B w w') {b o : Nat} {v : Value} (hb : b < B) (hc : w.cell? ⟨b, o, none⟩ = some v) : w'.cell? ⟨b, o, none⟩ = some v := (h.cell (p := ⟨b, o, none⟩) hb).trans hc
theorem frozB {B : Nat} {w w' : World} (h : Below B w w') {b o : Nat} {v : Bool} (hb : b < B) (hc : w.frozen? ⟨b, o, none⟩ = v) : w'.frozen? ⟨b, o, none⟩ = v := (h.frozen (p := ⟨b, o, none⟩) hb).trans hc

/-- a decimal in a box. -/
def DecB (w : World) (b : Nat) (m s : Int) : Prop := b < w.heap.size ∧ w.cell? ⟨b, 0, none⟩ = some (.int .i64 m) ∧ w.cell? ⟨b, 1, none⟩ = some (.int .i64 s) ∧ w.frozen? ⟨b, 0, none⟩ = false ∧ w.frozen? ⟨b, 1, none⟩ = false
theorem DecB.below {w w' : World} {b : Nat} {m s : Int} (h : DecB w b m s) (hb : Below w.heap.size w w') : DecB w' b m s :=
  ⟨Nat.lt_of_lt_of_le h.1 hb.size, cellB hb h.1 h.2.1, cellB hb h.1 h.2.2.1, frozB hb h.1 h.2.2.2.1, frozB hb h.1 h.2.2.2.2⟩
theorem DecB.new (w : World) (m s : Int) (t : TypeId) : DecB (w.alloc (.cells #[.int .i64 m, .int .i64 s] t)) w.heap.size m s := by
  refine ⟨by simp, by simp, by simp, by simp, by simp⟩

theorem GoodD.abs {m s : Int} (h : GoodD m s) : m.natAbs ≤ 999999999999999 := by have := h.1; have := h.2.1; omega

theorem dec_boxes (w : World) (m s m2 s2 m3 s3 : Int) (t : TypeId) : DecB (((w.alloc (.cells #[.int .i64 m, .int .i64 s] t)).alloc (.cells #[.int .i64 m2, .int .i64 s2] t)).alloc (.cells #[.int .i64 m3, .int .i64 s3] t)) w.heap.size m s ∧
    DecB (((w.alloc (.cells #[.int .i64 m, .int .i64 s] t)).alloc (.cells #[.int .i64 m2, .int .i64 s2] t)).alloc (.cells #[.int .i64 m3, .int .i64 s3] t)) (w.heap.size + 1) m2 s2 ∧
    DecB (((w.alloc (.cells #[.int .i64 m, .int .i64 s] t)).alloc (.cells #[.int .i64 m2, .int .i64 s2] t)).alloc (.cells #[.int .i64 m3, .int .i64 s3] t)) (w.heap.size + 1 + 1) m3 s3 ∧
    Below w.heap.size w (((w.alloc (.cells #[.int .i64 m, .int .i64 s] t)).alloc (.cells #[.int .i64 m2, .int .i64 s2] t)).alloc (.cells #[.int .i64 m3, .int .i64 s3] t)) := by
  have b1 := (Below.refl w.heap.size w).alloc (Nat.le_refl _) (.cells #[.int .i64 m, .int .i64 s] t)
  have d1 := DecB.new w m s t
  have z1 : (w.alloc (.cells #[.int .i64 m, .int .i64 s] t)).heap.size = w.heap.size + 1 := by simp
  generalize w.alloc (.cells #[.int .i64 m, .int .i64 s] t) = w1 at *
  have b2 := (Below.refl w1.heap.size w1).alloc (Nat.le_refl _) (.cells #[.int .i64 m2, .int .i64 s2] t)
  have d2 := DecB.new w1 m2 s2 t
  have z2 : (w1.alloc (.cells #[.int .i64 m2, .int .i64 s2] t)).heap.size = w1.heap.size + 1 := by simp
  generalize w1.alloc (.cells #[.int .i64 m2, .int .i64 s2] t) = w2 at *
  have b3 := (Below.refl w2.heap.size w2).alloc (Nat.le_refl _) (.cells #[.int .i64 m3, .int .i64 s3] t)
  have d3 := DecB.new w2 m3 s3 t
  generalize w2.alloc (.cells #[.int .i64 m3, .int .i64 s3] t) = w3 at *
  rw [z2, z1] at d3
  rw [z1] at d2
  exact ⟨(d1.below b2).below b3, by rw [← z1]; rw [← z1] at d2; exact d2.below b3, d3, b1.trans ((b2.trans (b3.mono (by omega))).mono (by omega))⟩


/-- what stays while two decimals are reckoned with. -/
def TwoS (w : World) (m s m2 s2 : Int) (v : World) : Prop := Below w.heap.size w v ∧ DecB v w.heap.size m s ∧ DecB v (w.heap.size + 1) m2 s2 ∧ ∃ m3 s3, DecB v (w.heap.size + 1 + 1) m3 s3
theorem TwoS.below {w v v' : World} {m s m2 s2 : Int} (h : TwoS w m s m2 s2 v) (hb : Below v.heap.size v v') : TwoS w m s m2 s2 v' := by
  obtain ⟨h1, h2, h3, m3, s3, h4⟩ := h
  exact ⟨h1.trans (hb.mono h1.size), h2.below hb, h3.below hb, m3, s3, h4.below hb⟩
theorem TwoS.drew {w v : World} {m s m2 s2 : Int} (h : TwoS w m s m2 s2 v) : TwoS w m s m2 s2 v.drew := h.below (Below.refl _ _).drew
theorem two_boxes (w : World) (m s m2 s2 : Int) (t : TypeId) : TwoS w m s m2 s2 (((w.alloc (.cells #[.int .i64 m, .int .i64 s] t)).alloc (.cells #[.int .i64 m2, .int .i64 s2] t)).alloc (.cells #[.int .i64 0, .int .i64 0] t)) := by
  obtain ⟨h1, h2, h3, h4⟩ := dec_boxes w m s m2 s2 0 0 t
  exact ⟨h4, h1, h2, 0, 0, h3⟩
theorem DecB.put {w : World} {b c : Nat} {m s x y : Int} (h : DecB w b m s) (hne : b ≠ c) : DecB ((w.setCell ⟨c, 0, none⟩ (.int .i64 x)).setCell ⟨c, 1, none⟩ (.int .i64 y)) b m s := by
  obtain ⟨h0, h1, h2, h3, h4⟩ := h
  have hne' : ¬ c = b := Ne.symm hne
  refine ⟨by simpa using h0, by rw [World.cell?_setCell_other _ _ _ _ (by simp [hne]), World.cell?_setCell_other _ _ _ _ (by simp [hne])]; exact h1, by rw [World.cell?_setCell_other _ _ _ _ (by simp [hne]), World.cell?_setCell_other _ _ _ _ (by simp [hne])]; exact h2, by rw [World.frozen?_setCell, World.frozen?_setCell]; exact h3, by rw [World.frozen?_setCell, World.frozen?_setCell]; exact h4⟩
theorem DecB.set {w : World} {b : Nat} {m s x y : Int} (h : DecB w b m s) : DecB ((w.setCell ⟨b, 0, none⟩ (.int .i64 x)).setCell ⟨b, 1, none⟩ (.int .i64 y)) b x y := by
  obtain ⟨h0, h1, h2, h3, h4⟩ := h
  refine ⟨by simpa using h0, by rw [World.cell?_setCell_other _ _ _ _ (by simp)]; exact World.cell?_setCell_same' _ _ _ (by rw [h1]; rfl), World.cell?_setCell_same' _ _ _ (by rw [World.cell?_setCell_other _ _ _ _ (by simp), h2]; rfl), by rw [World.frozen?_setCell, World.frozen?_setCell]; exact h3, by rw [World.frozen?_setCell, World.frozen?_setCell]; exact h4⟩
theorem TwoS.put {w v : World} {m s m2 s2 x y : Int} (h : TwoS w m s m2 s2 v) : TwoS w m s m2 s2 ((v.setCell ⟨w.heap.size + 1 + 1, 0, none⟩ (.int .i64 x)).setCell ⟨w.heap.size + 1 + 1, 1, none⟩ (.int .i64 y)) := by
  obtain ⟨h1, h2, h3, m3, s3, h4⟩ := h
  exact ⟨(h1.setCell (by simp only []; omega) _).setCell (by simp only []; omega) _, h2.put (by omega), h3.put (by omega), x, y, h4.set⟩

set_option maxHeartbeats 2000000 in
theorem add_any (w : World) (m s m2 s2 : Int) (h : GoodD m s) (h2 : GoodD m2 s2) (hP : PowAt w) :
    Calls Tryz.prog 122 #[.agg #[.int .i64 m, .int .i64 s], .agg #[.int .i64 m2, .int .i64 s2]] w fun e w' =>
      e = .returned (decV (m * (10 ^ (max s.toNat s2.toNat - s.toNat) : Nat) + m2 * (10 ^ (max s.toNat s2.toNat - s2.toNat) : Nat)) (max s.toNat s2.toNat)) ∧ Below w.heap.size w w' := by
  obtain ⟨k, rfl⟩ : ∃ k : Nat, s = k := ⟨s.toNat, by have := h.2.2.1; omega⟩
  obtain ⟨k2, rfl⟩ : ∃ k : Nat, s2 = k := ⟨s2.toNat, by have := h2.2.2.1; omega⟩
  simp only [Int.toNat_natCast]
  have HA := Lib.hid (fun w => of_any w m k h)
  have HB := Lib.hid (fun w => of_any w m2 k2 h2)
  have HG := Lib.hid (And.intro h.abs (And.intro h2.abs (And.intro (show k ≤ 6 by have := h.2.2.2.1; omega) (show k2 ≤ 6 by have := h2.2.2.2.1; omega))))
  obtain ⟨V, hV⟩ : ∃ V, V = decV (m * (10 ^ (max k k2 - k) : Nat) + m2 * (10 ^ (max k k2 - k2) : Nat)) (max k k2) := ⟨_, rfl⟩
  obtain ⟨vm, vs, vb, hv⟩ := decP_cases (shrt (m * (10 ^ (max k k2 - k) : Nat) + m2 * (10 ^ (max k k2 - k2) : Nat)) (max k k2))
  rw [← decV_eq] at hv
  rw [hv]
  have HV := Lib.hid hv
  clear hv h h2 hV V
  have HC := Lib.hid (two_boxes w m k m2 k2 44)
  have HP := Lib.hid hP
  clear hP
  go_enter Tryz.func122, Tryz.ntmps122
  go_wp2_with fail
  generalize World.alloc (World.alloc (World.alloc w _) _) _ = wr at HC ⊢
  refine wp_region_any (by kernel_rfl) ?_
  change wpAny _ _ _ _ _ _ _ (World.drew _)
  refine wpAny_of_held (S := fun v => TwoS w m k m2 k2 v) _ _ _ _ ?_
  have hS : (fun v => TwoS w m k m2 k2 v) _ := HC.out.drew
  refine wpAnyH_take (i := 0) (oi := ⟨some 6, _, _, _, _, _⟩) (v := ?_) rfl (by kernel_rfl) (by kernel_rfl) (by kernel_rfl) (fun _ _ _ h => h) (Or.inl ⟨by simp only [Region.wanted], ?_⟩) hS ?_
  rotate_left
  · intro wz hSw; obtain ⟨-, f0, f1, -, -⟩ := hSw.2.1
    clear hSw
    go_simp
    first | done | with_reducible rfl
  try simp only [Act.put, List.setIfInBounds_toArray, List.set_cons_zero, List.set_cons_succ]
  refine wpAnyH_take (i := 2) (oi := ⟨some 8, _, _, _, _, _⟩) (v := ?_) rfl (by kernel_rfl) (by kernel_rfl) (by kernel_rfl) (fun _ _ _ h => h) (Or.inl ⟨by simp only [Region.wanted], ?_⟩) hS ?_
  rotate_left
  · intro wz hSw; obtain ⟨-, f0, f1, -, -⟩ := hSw.2.2.1
    clear hSw
    go_simp
    first | done | with_reducible rfl
  try simp only [Act.put, List.setIfInBounds_toArray, List.set_cons_zero, List.set_cons_succ]
  refine wpAnyH_ready (rs := [1]) (by kernel_rfl) (by simp) ?_
  refine AllReadyH.cons (o := ⟨some 7, _, _, _, _, _⟩) rfl (fun K hK => ?_) AllReadyH.nil
  go_simp
  refine (HA.out _).mono ?_
  rintro e w1 ⟨ra, ia, rfl, h1, h2, hb1⟩
  have HQ1 := Lib.hid (And.intro h1 h2)
  clear h1 h2
  have hS1 := hS.below hb1
  clear hb1
  go_wp2_with fail
  refine hK.out _ _ (hS1) (fun hS => ?_)
  clear hK K
  try simp only [Act.put, List.setIfInBounds_toArray, List.set_cons_zero, List.set_cons_succ]
  refine wpAnyH_ready (rs := [3]) (by kernel_rfl) (by simp) ?_
  refine AllReadyH.cons (o := ⟨some 9, _, _, _, _, _⟩) rfl (fun K hK => ?_) AllReadyH.nil
  go_simp
  refine (HB.out _).mono ?_
  rintro e w2 ⟨rb, ib, rfl, h1, h2, hb2⟩
  have HQ2 := Lib.hid (And.intro h1 h2)
  clear h1 h2
  have hS2 := hS.below hb2
  clear hb2
  go_wp2_with fail
  refine hK.out _ _ (hS2) (fun hS => ?_)
  clear hK K
  try simp only [Act.put, List.setIfInBounds_toArray, List.set_cons_zero, List.set_cons_succ]
  refine wpAnyH_ready (rs := [4]) (by kernel_rfl) (by simp) ?_
  refine AllReadyH.cons (o := ⟨some 10, _, _, _, _, _⟩) rfl (fun K hK => ?_) AllReadyH.nil
  go_simp
  refine (sum_any _ ra ia rb ib m m2 k k2 HQ1.out.1 HQ1.out.2 HQ2.out.1 HQ2.out.2 HG.out.1 HG.out.2.1 HG.out.2.2.1 HG.out.2.2.2 (HP.out.below hS.1)).mono ?_
  rintro e w3 ⟨rc, ic, rfl, h1, hb3⟩
  have HQ3 := Lib.hid h1
  clear h1
  have hS3 := hS.below hb3
  clear hb3
  go_wp2_with fail
  refine hK.out _ _ (hS3) (fun hS => ?_)
  clear hK K
  try simp only [Act.put, List.setIfInBounds_toArray, List.set_cons_zero, List.set_cons_succ]
  refine wpAnyH_ready (rs := [5]) (by kernel_rfl) (by simp) ?_
  refine AllReadyH.cons (o := ⟨some 11, _, _, _, _, _⟩) rfl (fun K hK => ?_) AllReadyH.nil
  go_simp
  refine (decimal_any _ rc ic _ _ HQ3.out).mono ?_
  rintro e w4 ⟨rfl, hb4⟩
  rw [HV.out]
  have hS4 := hS.below hb4
  clear hb4
  go_wp2_with fail
  refine hK.out _ _ (hS4) (fun hS => ?_)
  clear hK K
  try simp only [Act.put, List.setIfInBounds_toArray, List.set_cons_zero, List.set_cons_succ]
  refine wpAnyH_take (i := 6) (oi := ⟨some 12, _, _, _, _, _⟩) (v := ?_) rfl (by kernel_rfl) (by kernel_rfl) (by kernel_rfl) (fun _ _ _ h => h) (Or.inl ⟨by simp only [Region.wanted], ?_⟩) hS ?_
  rotate_left
  · intro wz hSw
    clear hSw
    go_simp
    first | done | with_reducible rfl
  try simp only [Act.put, List.setIfInBounds_toArray, List.set_cons_zero, List.set_cons_succ]
  refine wpAnyH_take (i := 7) (oi := ⟨some 13, _, _, _, _, _⟩) (v := ?_) rfl (by kernel_rfl) (by kernel_rfl) (by kernel_rfl) (fun _ _ _ h => h) (Or.inl ⟨by simp only [Region.wanted], ?_⟩) hS ?_
  rotate_left
  · intro wz hSw
    clear hSw
    go_simp
    first | done | with_reducible rfl
  try simp only [Act.put, List.setIfInBounds_toArray, List.set_cons_zero, List.set_cons_succ]
  obtain ⟨g0, g1, g2, m3, s3, q0, q1, q2, q3, q4⟩ := hS
  have hS5 := TwoS.put (x := vm) (y := vs) (show TwoS w m k m2 k2 w4 from ⟨g0, g1, g2, m3, s3, q0, q1, q2, q3, q4⟩)
  clear g0 g1 g2
  refine wpAnyH_ready (rs := [8]) (by kernel_rfl) (by simp) ?_
  refine AllReadyH.cons (o := ⟨none, _, _, _, _, _⟩) rfl (fun K hK => ?_) AllReadyH.nil
  go_simp
  refine hK.out _ _ (hS5) (fun hS => ?_)
  clear hK K
  try simp only [Act.put, List.setIfInBounds_toArray, List.set_cons_zero, List.set_cons_succ]
  refine wpAnyH_take (i := 9) (oi := ⟨some 5, _, _, _, _, _⟩) (v := ?_) rfl (by kernel_rfl) (by kernel_rfl) (by kernel_rfl) (fun _ _ _ h => h) (Or.inl ⟨by simp only [Region.wanted], ?_⟩) hS ?_
  rotate_left
  · intro wz hSw
    clear hSw
    go_simp
    first | done | with_reducible rfl
  try simp only [Act.put, List.setIfInBounds_toArray, List.set_cons_zero, List.set_cons_succ]
  refine wpAnyH_done (by kernel_rfl) ?_ _
  go_wp2_with fail
  have HSF := Lib.hid hS
  clear hS
  exact bodyPost_ret (v := .tuple #[.agg #[.int .i64 vm, .int .i64 vs], .bool vb]) (by simp [results, Tryz.results122, go_sem, q0, q1, q2]) rfl ⟨rfl, HSF.out.1⟩

/-- what stays while two decimals are held against one another. -/
def CmpS (w : World) (m s m2 s2 : Int) (v : World) : Prop := Below w.heap.size w v ∧ DecB v w.heap.size m s ∧ DecB v (w.heap.size + 1) m2 s2
theorem CmpS.below {w v v' : World} {m s m2 s2 : Int} (h : CmpS w m s m2 s2 v) (hb : Below v.heap.size v v') : CmpS w m s m2 s2 v' :=
  ⟨h.1.trans (hb.mono h.1.size), h.2.1.below hb, h.2.2.below hb⟩
theorem CmpS.drew {w v : World} {m s m2 s2 : Int} (h : CmpS w m s m2 s2 v) : CmpS w m s m2 s2 v.drew := h.below (Below.refl _ _).drew
theorem cmp_boxes (w : World) (m s m2 s2 : Int) (t : TypeId) : CmpS w m s m2 s2 ((w.alloc (.cells #[.int .i64 m, .int .i64 s] t)).alloc (.cells #[.int .i64 m2, .int .i64 s2] t)) := by
  have b1 := (Below.refl w.heap.size w).alloc (Nat.le_refl _) (.cells #[.int .i64 m, .int .i64 s] t)
  have d1 := DecB.new w m s t
  have z1 : (w.alloc (.cells #[.int .i64 m, .int .i64 s] t)).heap.size = w.heap.size + 1 := by simp
  generalize w.alloc (.cells #[.int .i64 m, .int .i64 s] t) = w1 at *
  have b2 := (Below.refl w1.heap.size w1).alloc (Nat.le_refl _) (.cells #[.int .i64 m2, .int .i64 s2] t)
  have d2 := DecB.new w1 m2 s2 t
  generalize w1.alloc (.cells #[.int .i64 m2, .int .i64 s2] t) = w2 at *
  rw [z1] at d2
  exact ⟨b1.trans (b2.mono (by omega)), d1.below b2, d2⟩

theorem sgn_swap (x y : Ieee.Datum) : y.order x = (x.order y).map Ordering.swap := by
  cases x <;> cases y <;> simp only [Ieee.Datum.order, Option.map]
  · rename_i s m i t n j
    rw [Int.min_comm]
    congr 1
    simp only [compare, compareOfLessAndEq]
    generalize Ieee.signed s m _ = a
    generalize Ieee.signed t n _ = b
    rcases Int.lt_trichotomy a b with h | h | h
    · rw [if_neg (by omega), if_neg (by omega), if_pos h]; rfl
    · subst h; simp
    · rw [if_pos h, if_neg (by omega), if_neg (by omega)]; rfl
  · rename_i s m i t
    cases t <;> rfl
  · rename_i s t n j
    cases s <;> rfl
  · rename_i s t
    cases s <;> cases t <;> rfl

theorem cmp_lt {a b : Int} (h : a < b) : compare a b = .lt := by simp [compare, compareOfLessAndEq, h]
theorem cmp_gt {a b : Int} (h : b < a) : compare a b = .gt := by
  have h1 : ¬ a < b := by omega
  have h2 : ¬ a = b := by omega
  simp [compare, compareOfLessAndEq, h1, h2]

/-- too great, with either sign, against one that is told whole. -/
theorem order_side {x y B : Nat} {s : Bool} {c : Int} (hx : Big B s x) (hy : Rep y c) (h : c.natAbs < B) : Ieee.double.order x y = some (if s then .lt else .gt) := by
  cases s
  · exact order_big hx hy (by omega)
  · exact order_big_neg hx hy (by omega)
theorem lft_order {x y : Nat} {a b : Int} (hx : Lft x a) (hy : Lft y b) (h : (Rep x a ∧ a.natAbs ≤ 999999999999999) ∨ (Rep y b ∧ b.natAbs ≤ 999999999999999)) :
    FloatKind.f64.format.order x y = some (compare a b) := by
  have one : ∀ {x y : Nat} {a b : Int}, 2 ^ 54 ≤ a.natAbs → Big (2 ^ 54) (decide (a < 0)) x → Rep y b → b.natAbs ≤ 999999999999999 → Ieee.double.order x y = some (compare a b) := by
    intro x y a b ha hx hy hb
    rw [order_side hx hy (by rw [p54]; omega)]
    rw [p54] at ha
    by_cases h0 : a < 0
    · rw [decide_eq_true h0, cmp_lt (by omega)]; rfl
    · rw [decide_eq_false h0, cmp_gt (by omega)]; rfl
  rcases hx with hx | ⟨hx1, hx2⟩
  · rcases hy with hy | ⟨hy1, hy2⟩
    · exact ord hx hy
    · have h9 : Rep x a ∧ a.natAbs ≤ 999999999999999 := by
        rcases h with h | ⟨-, h⟩
        · exact h
        · rw [p54] at hy1; omega
      have h8 := one hy1 hy2 h9.1 h9.2
      have h7 : Ieee.double.order x y = (Ieee.double.order y x).map Ordering.swap := sgn_swap _ _
      show Ieee.double.order x y = _
      rw [h7, h8]
      rcases Int.lt_trichotomy a b with h | h | h
      · rw [cmp_lt h, cmp_gt h]; rfl
      · rw [p54] at hy1; omega
      · rw [cmp_lt h, cmp_gt h]; rfl
  · have h9 : Rep y b ∧ b.natAbs ≤ 999999999999999 := by
      rcases h with ⟨-, h⟩ | h
      · rw [p54] at hx1; omega
      · exact h
    exact one hx1 hx2 h9.1 h9.2
theorem lft_self {x : Nat} {a : Int} (hx : Lft x a) : FloatKind.f64.format.order x x = some .eq := by
  rcases hx with hx | ⟨-, hx, -⟩
  · exact ord_eq hx hx rfl
  · show (Ieee.double.read x).order (Ieee.double.read x) = _
    rcases hx with ⟨m, p, e, -⟩ | e
    · rw [e]; show some (compare _ _) = _; simp
    · rw [e]; cases decide (a < 0) <;> rfl

/-- -1, 0, 1. -/
def cmpI (a b : Int) : Int := if a < b then -1 else if b < a then 1 else 0

theorem isnan_any (x : Nat) (w : World) (h : FloatKind.f64.format.order x x = some .eq) : Calls Tryz.prog 89 #[.float .f64 x] w fun e w' => e = .returned (.bool false) ∧ w = w' := by
  go_enter Tryz.func89, Tryz.ntmps89
  go_wp2
  go_ret
  exact ⟨rfl, rfl⟩
theorem compare_any (x y : Nat) (a b : Int) (w : World) (hx : Lft x a) (hy : Lft y b) (h : (Rep x a ∧ a.natAbs ≤ 999999999999999) ∨ (Rep y b ∧ b.natAbs ≤ 999999999999999)) :
    Calls Tryz.prog 65 #[.float .f64 x, .float .f64 y] w fun e w' => e = .returned (.int .i64 (cmpI a b)) ∧ w = w' := by
  have HA := Lib.hid (fun w => isnan_any x w (lft_self hx))
  have HB := Lib.hid (fun w => isnan_any y w (lft_self hy))
  have ho := lft_order hx hy h
  unfold cmpI
  rcases Int.lt_trichotomy a b with h | h | h
  · rw [cmp_lt h] at ho
    rw [if_pos h]
    clear h hx hy
    go_enter Tryz.func65, Tryz.ntmps65
    go_wp2_with (go_at_call 89; (first | refine (HA.out _).mono ?_ | refine (HB.out _).mono ?_); rintro e w' ⟨rfl, rfl⟩)
    go_ret
    exact ⟨rfl, rfl⟩
  · subst h
    rw [show compare a a = .eq by simp] at ho
    rw [if_neg (by omega), if_neg (by omega)]
    clear h hx hy
    go_enter Tryz.func65, Tryz.ntmps65
    go_wp2_with (go_at_call 89; (first | refine (HA.out _).mono ?_ | refine (HB.out _).mono ?_); rintro e w' ⟨rfl, rfl⟩)
    go_ret
    exact ⟨rfl, rfl⟩
  · rw [cmp_gt h] at ho
    rw [if_neg (by omega), if_pos h]
    clear h hx hy
    go_enter Tryz.func65, Tryz.ntmps65
    go_wp2_with (go_at_call 89; (first | refine (HA.out _).mono ?_ | refine (HB.out _).mono ?_); rintro e w' ⟨rfl, rfl⟩)
    go_ret
    exact ⟨rfl, rfl⟩

set_option maxHeartbeats 2000000 in
theorem cmp_any (w : World) (m s m2 s2 : Int) (h : GoodD m s) (h2 : GoodD m2 s2) (hP : PowAt w) :
    Calls Tryz.prog 40 #[.agg #[.int .i64 m, .int .i64 s], .agg #[.int .i64 m2, .int .i64 s2]] w fun e w' =>
      e = .returned (.int .i64 (cmpI (m * (10 ^ (max s.toNat s2.toNat - s.toNat) : Nat)) (m2 * (10 ^ (max s.toNat s2.toNat - s2.toNat) : Nat)))) ∧ Below w.heap.size w w' := by
  obtain ⟨k, rfl⟩ : ∃ k : Nat, s = k := ⟨s.toNat, by have := h.2.2.1; omega⟩
  obtain ⟨k2, rfl⟩ : ∃ k : Nat, s2 = k := ⟨s2.toNat, by have := h2.2.2.1; omega⟩
  simp only [Int.toNat_natCast]
  have HA := Lib.hid (fun w => of_any w m k h)
  have HB := Lib.hid (fun w => of_any w m2 k2 h2)
  have HG := Lib.hid (And.intro h.abs (And.intro h2.abs (And.intro (show k ≤ 6 by have := h.2.2.2.1; omega) (show k2 ≤ 6 by have := h2.2.2.2.1; omega))))
  have HM := Lib.hid (show (k = max k k2 ∨ k2 = max k k2) by omega)
  obtain ⟨V, hV⟩ : ∃ V, V = cmpI (m * (10 ^ (max k k2 - k) : Nat)) (m2 * (10 ^ (max k k2 - k2) : Nat)) := ⟨_, rfl⟩
  rw [← hV]
  have HV := Lib.hid hV
  clear hV h h2
  have HC := Lib.hid (cmp_boxes w m k m2 k2 44)
  have HP := Lib.hid hP
  clear hP
  go_enter Tryz.func40, Tryz.ntmps40
  go_wp2_with fail
  generalize World.alloc (World.alloc w _) _ = wr at HC ⊢
  refine wp_region_any (by kernel_rfl) ?_
  change wpAny _ _ _ _ _ _ _ (World.drew _)
  refine wpAny_of_held (S := fun v => CmpS w m k m2 k2 v) _ _ _ _ ?_
  have hS : (fun v => CmpS w m k m2 k2 v) _ := HC.out.drew
  refine wpAnyH_take (i := 0) (oi := ⟨some 8, _, _, _, _, _⟩) (v := ?_) rfl (by kernel_rfl) (by kernel_rfl) (by kernel_rfl) (fun _ _ _ h => h) (Or.inl ⟨by simp only [Region.wanted], ?_⟩) hS ?_
  rotate_left
  · intro wz hSw; obtain ⟨-, f0, f1, -, -⟩ := hSw.2.1
    clear hSw
    go_simp
    first | done | with_reducible rfl
  try simp only [Act.put, List.setIfInBounds_toArray, List.set_cons_zero, List.set_cons_succ]
  refine wpAnyH_take (i := 2) (oi := ⟨some 10, _, _, _, _, _⟩) (v := ?_) rfl (by kernel_rfl) (by kernel_rfl) (by kernel_rfl) (fun _ _ _ h => h) (Or.inl ⟨by simp only [Region.wanted], ?_⟩) hS ?_
  rotate_left
  · intro wz hSw; obtain ⟨-, f0, f1, -, -⟩ := hSw.2.2
    clear hSw
    go_simp
    first | done | with_reducible rfl
  try simp only [Act.put, List.setIfInBounds_toArray, List.set_cons_zero, List.set_cons_succ]
  refine wpAnyH_ready (rs := [1]) (by kernel_rfl) (by simp) ?_
  refine AllReadyH.cons (o := ⟨some 9, _, _, _, _, _⟩) rfl (fun K hK => ?_) AllReadyH.nil
  go_simp
  refine (HA.out _).mono ?_
  rintro e w1 ⟨ra, ia, rfl, h1, h2, hb1⟩
  have HQ1 := Lib.hid (And.intro h1 h2)
  clear h1 h2
  have hS1 := hS.below hb1
  clear hb1
  go_wp2_with fail
  refine hK.out _ _ (hS1) (fun hS => ?_)
  clear hK K
  try simp only [Act.put, List.setIfInBounds_toArray, List.set_cons_zero, List.set_cons_succ]
  refine wpAnyH_ready (rs := [3]) (by kernel_rfl) (by simp) ?_
  refine AllReadyH.cons (o := ⟨some 11, _, _, _, _, _⟩) rfl (fun K hK => ?_) AllReadyH.nil
  go_simp
  refine (HB.out _).mono ?_
  rintro e w2 ⟨rb, ib, rfl, h1, h2, hb2⟩
  have HQ2 := Lib.hid (And.intro h1 h2)
  clear h1 h2
  have hS2 := hS.below hb2
  clear hb2
  go_wp2_with fail
  refine hK.out _ _ (hS2) (fun hS => ?_)
  clear hK K
  try simp only [Act.put, List.setIfInBounds_toArray, List.set_cons_zero, List.set_cons_succ]
  refine wpAnyH_ready (rs := [4]) (by kernel_rfl) (by simp) ?_
  refine AllReadyH.cons (o := ⟨some 12, _, _, _, _, _⟩) rfl (fun K hK => ?_) AllReadyH.nil
  go_simp
  refine (level_any _ ra ia rb ib m m2 k k2 HQ1.out.1 HQ1.out.2 HQ2.out.1 HQ2.out.2 HG.out.1 HG.out.2.1 HG.out.2.2.1 HG.out.2.2.2 (HP.out.below hS.1)).mono ?_
  rintro e w3 ⟨x, y, sc, rfl, h1, h2, h3, h4, h5, hb3⟩
  have HQ3 := Lib.hid (And.intro h2 (And.intro h3 (And.intro h4 h5)))
  clear h1 h2 h3 h4 h5
  have hS3 := hS.below hb3
  clear hb3
  go_wp2_with fail
  refine hK.out _ _ (hS3) (fun hS => ?_)
  clear hK K
  try simp only [Act.put, List.setIfInBounds_toArray, List.set_cons_zero, List.set_cons_succ]
  refine wpAnyH_take (i := 5) (oi := ⟨some 7, _, _, _, _, _⟩) (v := ?_) rfl (by kernel_rfl) (by kernel_rfl) (by kernel_rfl) (fun _ _ _ h => h) (Or.inl ⟨by simp only [Region.wanted], ?_⟩) hS ?_
  rotate_left
  · intro wz hSw
    clear hSw
    go_simp
    first | done | with_reducible rfl
  try simp only [Act.put, List.setIfInBounds_toArray, List.set_cons_zero, List.set_cons_succ]
  refine wpAnyH_take (i := 6) (oi := ⟨some 13, _, _, _, _, _⟩) (v := ?_) rfl (by kernel_rfl) (by kernel_rfl) (by kernel_rfl) (fun _ _ _ h => h) (Or.inl ⟨by simp only [Region.wanted], ?_⟩) hS ?_
  rotate_left
  · intro wz hSw
    clear hSw
    go_simp
    first | done | with_reducible rfl
  try simp only [Act.put, List.setIfInBounds_toArray, List.set_cons_zero, List.set_cons_succ]
  refine wpAnyH_take (i := 7) (oi := ⟨some 14, _, _, _, _, _⟩) (v := ?_) rfl (by kernel_rfl) (by kernel_rfl) (by kernel_rfl) (fun _ _ _ h => h) (Or.inl ⟨by simp only [Region.wanted], ?_⟩) hS ?_
  rotate_left
  · intro wz hSw
    clear hSw
    go_simp
    first | done | with_reducible rfl
  try simp only [Act.put, List.setIfInBounds_toArray, List.set_cons_zero, List.set_cons_succ]
  refine wpAnyH_take (i := 8) (oi := ⟨some 5, _, _, _, _, _⟩) (v := ?_) rfl (by kernel_rfl) (by kernel_rfl) (by kernel_rfl) (fun _ _ _ h => h) (Or.inl ⟨by simp only [Region.wanted], ?_⟩) hS ?_
  rotate_left
  · intro wz hSw
    clear hSw
    go_simp
    first | done | with_reducible rfl
  try simp only [Act.put, List.setIfInBounds_toArray, List.set_cons_zero, List.set_cons_succ]
  refine wpAnyH_take (i := 9) (oi := ⟨some 6, _, _, _, _, _⟩) (v := ?_) rfl (by kernel_rfl) (by kernel_rfl) (by kernel_rfl) (fun _ _ _ h => h) (Or.inl ⟨by simp only [Region.wanted], ?_⟩) hS ?_
  rotate_left
  · intro wz hSw
    clear hSw
    go_simp
    first | done | with_reducible rfl
  try simp only [Act.put, List.setIfInBounds_toArray, List.set_cons_zero, List.set_cons_succ]
  refine wpAnyH_done (by kernel_rfl) ?_ _
  have HSF := Lib.hid hS
  clear hS
  have HK := Lib.hid (fun w => compare_any x y _ _ w HQ3.out.1 HQ3.out.2.1 (by
    rcases HM.out with h | h
    · left
      refine ⟨?_, ?_⟩
      · have := HQ3.out.2.2.1 h
        rw [show max k k2 - k = 0 by omega]
        simpa using this
      · rw [show max k k2 - k = 0 by omega]
        simpa using HG.out.1
    · right
      refine ⟨?_, ?_⟩
      · have := HQ3.out.2.2.2 h
        rw [show max k k2 - k2 = 0 by omega]
        simpa using this
      · rw [show max k k2 - k2 = 0 by omega]
        simpa using HG.out.2.1))
  go_wp2_with (go_at_call 65; refine (HK.out _).mono ?_; rintro e w' ⟨rfl, rfl⟩)
  go_ret
  exact ⟨by rw [HV.out]; rfl, HSF.out.1⟩

theorem neg_any (w : World) (m s : Int) (h : GoodD m s) : Calls Tryz.prog 94 #[.agg #[.int .i64 m, .int .i64 s]] w fun e w' => e = .returned (.agg #[.int .i64 (-m), .int .i64 s]) ∧ Below w.heap.size w w' := by
  obtain ⟨h1, h2, h3, h4, -⟩ := h
  go_enter Tryz.func94, Tryz.ntmps94
  go_wp2_with fail
  exact bodyPost_ret (v := .agg #[.int .i64 (-m), .int .i64 s]) (by simp [results, Tryz.results94, go_sem]) rfl ⟨rfl, ((Below.refl _ _).alloc (Nat.le_refl _) _).alloc (by simp) _⟩
end Go.Proofs.YtecomfhbdonkbaaGreatDoor
