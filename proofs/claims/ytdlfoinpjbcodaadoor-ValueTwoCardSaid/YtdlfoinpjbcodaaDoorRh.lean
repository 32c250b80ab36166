/- triadref13: Add, Cmp. -/
import Derived.Test.YtdlfoinpjbcodaaDoorRg
namespace Go.Proofs.YtdlfoinpjbcodaaDoor
open Go.RowKit Go.Shelf Flo
set_option maxRecDepth 100000
set_option linter.unusedVariables false
set_option linter.unusedSimpArgs false

/-- a decimal's number, led to six digits behind the point. -/
def sixI (m : Int) (k : Nat) : Int := m * (10 ^ (6 - k) : Nat)
theorem six_size (m : Int) (k : Nat) : sixI m k = if m < 0 then -(sizeN m k : Int) else (sizeN m k : Int) := by
  unfold sixI sizeN
  rw [Int.natCast_mul]
  by_cases h : m < 0
  · rw [if_pos h, show (m.natAbs : Int) = -m by omega, Int.neg_mul, Int.neg_neg]
  · rw [if_neg h, show (m.natAbs : Int) = m by omega]

theorem cmp_negs (a b : Int) : cmpI (-a) (-b) = cmpI b a := by
  unfold cmpI
  rcases Int.lt_trichotomy a b with h | h | h
  · rw [if_neg (by omega), if_pos (by omega), if_neg (by omega), if_pos (by omega)]
  · rw [if_neg (by omega), if_neg (by omega), if_neg (by omega), if_neg (by omega)]
  · rw [if_pos (by omega), if_pos (by omega)]
def Under20 (N : Nat) : Prop := N ≤ 1000000000000000000000
theorem wid_eq (N : Nat) (a b : Int) (h : a = ((N / 1000000000 : Nat) : Int)) (h2 : b = ((N % 1000000000 : Nat) : Int)) : (Value.agg #[.int .i64 a, .int .i64 b]) = wid N := by rw [h, h2]; rfl

theorem TwoS.off {w v : World} {m s m2 s2 x y : Int} {b : Nat} (h : TwoS w m s m2 s2 v) (hb : w.heap.size + 1 + 1 < b) : TwoS w m s m2 s2 ((v.setCell ⟨b, 0, none⟩ (.int .i64 x)).setCell ⟨b, 1, none⟩ (.int .i64 y)) := by
  obtain ⟨h1, h2, h3, m3, s3, h4⟩ := h
  exact ⟨(h1.setCell (by simp only []; omega) _).setCell (by simp only []; omega) _, h2.put (by omega), h3.put (by omega), m3, s3, h4.put (by omega)⟩

set_option maxHeartbeats 2000000 in
theorem rcmp_any (w : World) (m s m2 s2 : Int) (h : GoodD m s) (h2 : GoodD m2 s2) :
    Calls Tryd.prog 25 #[.agg #[.int .i64 m, .int .i64 s], .agg #[.int .i64 m2, .int .i64 s2]] w fun e w' =>
      e = .returned (.int .i64 (cmpI (sixI m s.toNat) (sixI m2 s2.toNat))) ∧ Below w.heap.size w w' := by
  obtain ⟨V, hV⟩ : ∃ V, V = cmpI (sixI m s.toNat) (sixI m2 s2.toNat) := ⟨_, rfl⟩
  rw [← hV]
  rw [six_size, six_size] at hV
  have HA := Lib.hid (fun w => sized_any w m s h)
  have HB := Lib.hid (fun w => sized_any w m2 s2 h2)
  obtain ⟨p, hp⟩ : ∃ p, p = decide (m < 0) := ⟨_, rfl⟩
  obtain ⟨q, hq⟩ : ∃ q, q = decide (m2 < 0) := ⟨_, rfl⟩
  have hz : (p = true → 0 < sizeN m s.toNat) ∧ (q = true → 0 < sizeN m2 s2.toNat) := by
    constructor
    · intro e
      have : m < 0 := by rw [hp] at e; exact of_decide_eq_true e
      exact Nat.mul_pos (by omega) (Nat.pow_pos (by decide))
    · intro e
      have : m2 < 0 := by rw [hq] at e; exact of_decide_eq_true e
      exact Nat.mul_pos (by omega) (Nat.pow_pos (by decide))
  generalize sizeN m s.toNat = NX at *
  generalize sizeN m2 s2.toNat = NY at *
  have hV2 : V = cmpI (if p then -(NX : Int) else (NX : Int)) (if q then -(NY : Int) else (NY : Int)) := by
    rw [hV, hp, hq]; simp
  rw [← hp] at HA
  rw [← hq] at HB
  have HV := Lib.hid hV2
  have HZ := Lib.hid hz
  have HC := Lib.hid (cmp_boxes w m s m2 s2 43)
  obtain ⟨x1, hx1⟩ : ∃ a, a = NX / 1000000000 := ⟨_, rfl⟩
  obtain ⟨x0, hx0⟩ : ∃ a, a = NX % 1000000000 := ⟨_, rfl⟩
  obtain ⟨y1, hy1⟩ : ∃ a, a = NY / 1000000000 := ⟨_, rfl⟩
  obtain ⟨y0, hy0⟩ : ∃ a, a = NY % 1000000000 := ⟨_, rfl⟩
  have hwx : wid NX = .agg #[.int .i64 (x1 : Int), .int .i64 (x0 : Int)] := by rw [hx1, hx0]; rfl
  have hwy : wid NY = .agg #[.int .i64 (y1 : Int), .int .i64 (y0 : Int)] := by rw [hy1, hy0]; rfl
  rw [hwx] at HA
  rw [hwy] at HB
  clear hV hV2 hp hq h h2 hx1 hx0 hy1 hy0 hz
  go_enter Tryd.func25, Tryd.ntmps25
  go_wp2_with fail
  generalize World.alloc (World.alloc w _) _ = w1 at HC ⊢
  obtain ⟨g0, ⟨a0, a1, a2, -, -⟩, ⟨b0, b1, b2, -, -⟩⟩ := HC.out
  go_wp2_with fail
  (with_reducible refine (HA.out _).mono ?_)
  rintro e w2 ⟨rfl, hb2⟩
  have HC2 := Lib.hid (HC.out.below hb2)
  clear hb2 g0 a0 a1 a2 b0 b1 b2
  obtain ⟨g0, ⟨a0, a1, a2, -, -⟩, ⟨b0, b1, b2, -, -⟩⟩ := HC2.out
  have HDX := Lib.hid (DecB.new w2 (x1 : Int) (x0 : Int) 58)
  have HC3 := Lib.hid (HC2.out.below ((Below.refl w2.heap.size w2).alloc (Nat.le_refl _) (.cells #[.int .i64 (x1 : Int), .int .i64 (x0 : Int)] 58)))
  go_wp2_with fail
  (with_reducible refine (HB.out _).mono ?_)
  rintro e w4 ⟨rfl, hb4⟩
  have HC4 := Lib.hid (HC3.out.below hb4)
  have HDX4 := Lib.hid (HDX.out.below hb4)
  clear hb4 g0 a0 a1 a2 b0 b1 b2
  obtain ⟨bx, hbx⟩ : ∃ b, b = w2.heap.size := ⟨_, rfl⟩
  rw [← hbx] at HDX4 ⊢
  clear hbx
  have HC5 := Lib.hid (HC4.out.below ((Below.refl w4.heap.size w4).alloc (Nat.le_refl _) (.cells #[.int .i64 (y1 : Int), .int .i64 (y0 : Int)] 58)))
  obtain ⟨c0, c1, c2, c3, c4⟩ := HDX4.out
  rcases Bool.eq_false_or_eq_true p with rfl | rfl
  · rcases Bool.eq_false_or_eq_true q with rfl | rfl
    · have HVN := Lib.hid (show V = cmpI (NY : Int) (NX : Int) by rw [HV.out]; simp only [Bool.false_eq_true, if_false, if_true]; exact cmp_negs _ _)
      have HAB := Lib.hid (fun w => above_any w NY NX)
      rw [hwx, hwy] at HAB
      go_wp2_with fail
      (with_reducible refine (HAB.out _).mono ?_)
      rintro e w6 ⟨rfl, hb6⟩
      have HC6 := Lib.hid (HC5.out.below hb6)
      clear hb6
      go_wp2_with fail
      go_ret
      exact ⟨by rw [HVN.out]; rfl, HC6.out.1⟩
    · go_wp2_with fail
      go_ret
      exact ⟨by rw [HV.out]; unfold cmpI; simp only [Bool.false_eq_true, if_false, if_true]; rw [if_pos (by have := HZ.out; simp at this; omega)]; rfl, HC5.out.1⟩
  · rcases Bool.eq_false_or_eq_true q with rfl | rfl
    · go_wp2_with fail
      go_ret
      exact ⟨by rw [HV.out]; unfold cmpI; simp only [Bool.false_eq_true, if_false, if_true]; rw [if_neg (by have := HZ.out; simp at this; omega), if_pos (by have := HZ.out; simp at this; omega)]; rfl, HC5.out.1⟩
    · have HVN := Lib.hid (show V = cmpI (NX : Int) (NY : Int) by rw [HV.out]; simp only [Bool.false_eq_true, if_false, if_true])
      have HAB := Lib.hid (fun w => above_any w NX NY)
      rw [hwx, hwy] at HAB
      go_wp2_with fail
      (with_reducible refine (HAB.out _).mono ?_)
      rintro e w6 ⟨rfl, hb6⟩
      have HC6 := Lib.hid (HC5.out.below hb6)
      clear hb6
      go_wp2_with fail
      go_ret
      exact ⟨by rw [HVN.out]; rfl, HC6.out.1⟩
end Go.Proofs.YtdlfoinpjbcodaaDoor
