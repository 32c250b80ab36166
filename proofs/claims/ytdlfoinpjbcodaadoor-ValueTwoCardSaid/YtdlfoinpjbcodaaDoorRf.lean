/- triadref13: power, times, sized, above, whole. -/
import Derived.Test.YtdlfoinpjbcodaaDoorRd
namespace Go.Proofs.YtdlfoinpjbcodaaDoor
open Go.RowKit Go.Shelf Flo
set_option maxRecDepth 100000
set_option linter.unusedVariables false
set_option linter.unusedSimpArgs false

theorem pow_small {k : Nat} (h : k ≤ 12) : 10 ^ k ≤ 1000000000000 := Nat.pow_le_pow_right (by decide) h

theorem power_any (w : World) (k : Nat) (hk : k ≤ 6) : Calls Tryd.prog 50 #[.int .i64 (k : Int)] w fun e w' => e = .returned (.int .i64 ((10 ^ k : Nat) : Int)) ∧ w = w' := by
  obtain ⟨R, hR⟩ : ∃ R, R = 10 ^ k := ⟨_, rfl⟩
  rw [← hR]
  have HR := Lib.hid hR
  clear hR
  go_enter Tryd.func50, Tryd.ntmps50
  go_wp2_with fail
  go_loop [3, 4] (fun p i => ∃ q j : Nat, p = .int .i64 (q : Int) ∧ i = .int .i64 (j : Int) ∧ j ≤ k ∧ q = 10 ^ j) (fun _ i => k - (intOf i).toNat)
  case atStart => exact ⟨1, 0, rfl, rfl, Nat.zero_le _, rfl⟩
  case round =>
    obtain ⟨q, j, rfl, rfl, hj, hq⟩ := hrel
    have HQ := Lib.hid hq
    have hqs : q ≤ 1000000000000 := by rw [hq]; exact pow_small (by omega)
    have hqi : (q : Int) ≤ 1000000000000 := by omega
    clear hq
    by_cases hlt : j < k
    · go_wp2_with fail
      exact ⟨⟨10 * q, j + 1, rfl, by go_num, hlt, by rw [HQ.out, Nat.pow_succ, Nat.mul_comm]⟩, by simp [intOf]; omega⟩
    · have HE := Lib.hid (show q = R by rw [HR.out, HQ.out]; congr 1; omega)
      go_wp2_with fail
      go_ret
      exact ⟨by rw [← HE.out]; rfl, rfl⟩

/-- a wide number as a value. -/
def wid (N : Nat) : Value := .agg #[.int .i64 ((N / 1000000000 : Nat) : Int), .int .i64 ((N % 1000000000 : Nat) : Int)]

theorem times_any (w : World) (m p : Nat) (hm : m ≤ 999999999999999) (hp : p ≤ 1000000) : Calls Tryd.prog 49 #[.int .i64 (m : Int), .int .i64 (p : Int)] w fun e w' => e = .returned (wid (m * p)) ∧ Below w.heap.size w w' := by
  obtain ⟨V, hV⟩ : ∃ V, V = wid (m * p) := ⟨_, rfl⟩
  rw [← hV]
  have e1 : m * p = m / 1000000000 * p * 1000000000 + m % 1000000000 * p := by
    have := Nat.div_add_mod m 1000000000
    conv => lhs; rw [← this, Nat.add_mul]
    rw [Nat.mul_assoc, Nat.mul_comm 1000000000 (m / 1000000000 * p)]
  have hx : m % 1000000000 * p ≤ 1000000000 * 1000000 := Nat.mul_le_mul (by omega) hp
  have hy : m / 1000000000 * p ≤ 1000000 * 1000000 := Nat.mul_le_mul (by omega) hp
  obtain ⟨a, ha⟩ : ∃ a, a = m % 1000000000 := ⟨_, rfl⟩
  obtain ⟨b, hb⟩ : ∃ b, b = m / 1000000000 := ⟨_, rfl⟩
  obtain ⟨x, hx'⟩ : ∃ x, x = a * p := ⟨_, rfl⟩
  obtain ⟨y, hy'⟩ : ∃ y, y = b * p := ⟨_, rfl⟩
  rw [← ha, ← hx'] at hx
  rw [← hb, ← hy'] at hy
  rw [← ha, ← hb, ← hx', ← hy'] at e1
  have HV := Lib.hid (show V = .agg #[.int .i64 ((y : Int) + (x : Int) / 1000000000), .int .i64 ((x : Int) % 1000000000)] by
    rw [hV]; unfold wid
    rw [e1]
    have c1 : (((y * 1000000000 + x) / 1000000000 : Nat) : Int) = (y : Int) + (x : Int) / 1000000000 := by omega
    have c2 : (((y * 1000000000 + x) % 1000000000 : Nat) : Int) = (x : Int) % 1000000000 := by omega
    rw [c1, c2])
  have hai : (a : Int) ≤ 1000000000 := by omega
  have hbi : (b : Int) ≤ 1000000 := by omega
  have hpi : (p : Int) ≤ 1000000 := by omega
  have t1 : (m : Int) % 1000000000 = (a : Int) := by omega
  have t2 : (m : Int) / 1000000000 = (b : Int) := by omega
  have t3 : (a : Int) * (p : Int) = (x : Int) := by rw [hx']; exact (Int.natCast_mul _ _).symm
  have t4 : (b : Int) * (p : Int) = (y : Int) := by rw [hy']; exact (Int.natCast_mul _ _).symm
  have hxi : (x : Int) ≤ 1000000000000000 := by omega
  have hyi : (y : Int) ≤ 1000000000000 := by omega
  have hx0 : (0 : Int) ≤ x := by omega
  have hy0 : (0 : Int) ≤ y := by omega
  clear hV e1 hx hy ha hb hx' hy' hm hp
  go_enter Tryd.func49, Tryd.ntmps49
  go_wp2_with fail
  rw [HV.out]
  exact bodyPost_ret (v := .agg #[.int .i64 ((y : Int) + (x : Int) / 1000000000), .int .i64 ((x : Int) % 1000000000)]) (by simp [results, Tryd.results49, go_sem]) rfl ⟨rfl, (Below.refl _ _).alloc (Nat.le_refl _) _⟩

/-- a decimal's digits, led to six behind the point. -/
def sizeN (m : Int) (k : Nat) : Nat := m.natAbs * 10 ^ (6 - k)
theorem sizeN_le {m : Int} {k : Nat} (h : m.natAbs ≤ 999999999999999) : sizeN m k ≤ 999999999999999 * 1000000 :=
  Nat.mul_le_mul h (Nat.le_trans (Nat.pow_le_pow_right (show 0 < 10 by decide) (show 6 - k ≤ 6 by omega)) (by decide))

theorem boxes2 (w : World) (m s m2 s2 : Int) (t t2 : TypeId) : DecB ((w.alloc (.cells #[.int .i64 m, .int .i64 s] t)).alloc (.cells #[.int .i64 m2, .int .i64 s2] t2)) w.heap.size m s ∧
    DecB ((w.alloc (.cells #[.int .i64 m, .int .i64 s] t)).alloc (.cells #[.int .i64 m2, .int .i64 s2] t2)) (w.heap.size + 1) m2 s2 ∧ Below w.heap.size w ((w.alloc (.cells #[.int .i64 m, .int .i64 s] t)).alloc (.cells #[.int .i64 m2, .int .i64 s2] t2)) := by
  have b1 := (Below.refl w.heap.size w).alloc (Nat.le_refl _) (.cells #[.int .i64 m, .int .i64 s] t)
  have d1 := DecB.new w m s t
  have z1 : (w.alloc (.cells #[.int .i64 m, .int .i64 s] t)).heap.size = w.heap.size + 1 := by simp
  generalize w.alloc (.cells #[.int .i64 m, .int .i64 s] t) = w1 at *
  have b2 := (Below.refl w1.heap.size w1).alloc (Nat.le_refl _) (.cells #[.int .i64 m2, .int .i64 s2] t2)
  have d2 := DecB.new w1 m2 s2 t2
  generalize w1.alloc (.cells #[.int .i64 m2, .int .i64 s2] t2) = w2 at *
  rw [z1] at d2
  exact ⟨d1.below b2, d2, b1.trans (b2.mono (by omega))⟩

/-- a block of two whole numbers. -/
theorem DecB.wid (w : World) (N : Nat) (t : TypeId) : DecB (w.alloc (.cells #[.int .i64 ((N / 1000000000 : Nat) : Int), .int .i64 ((N % 1000000000 : Nat) : Int)] t)) w.heap.size ((N / 1000000000 : Nat) : Int) ((N % 1000000000 : Nat) : Int) := DecB.new w _ _ t

set_option maxHeartbeats 1000000 in
theorem sized_any (w : World) (m s : Int) (h : GoodD m s) : Calls Tryd.prog 33 #[.agg #[.int .i64 m, .int .i64 s]] w fun e w' => e = .returned (.tuple #[wid (sizeN m s.toNat), .bool (decide (m < 0))]) ∧ Below w.heap.size w w' := by
  obtain ⟨k, rfl⟩ : ∃ k : Nat, s = k := ⟨s.toNat, by have := h.2.2.1; omega⟩
  simp only [Int.toNat_natCast]
  have hk : k ≤ 6 := by have := h.2.2.2.1; omega
  have hab := h.abs
  have HP := Lib.hid (fun w => power_any w (6 - k) (by omega))
  have HT := Lib.hid (fun w => times_any w m.natAbs (10 ^ (6 - k)) hab (Nat.pow_le_pow_right (show 0 < 10 by decide) (show 6 - k ≤ 6 by omega)))
  rw [show m.natAbs * 10 ^ (6 - k) = sizeN m k from rfl] at HT
  generalize sizeN m k = N at *
  generalize 10 ^ (6 - k) = Q at *
  have h1 := h.1
  have h2 := h.2.1
  obtain ⟨j, hj⟩ : ∃ j, j = 6 - k := ⟨_, rfl⟩
  rw [← hj] at HP
  have hj2 : (6 : Int) - k = (j : Int) := by omega
  have HJ := Lib.hid hj
  have hki : (k : Int) ≤ 6 := by omega
  unfold wid at HT ⊢
  generalize ((N / 1000000000 : Nat) : Int) = hi at *
  generalize ((N % 1000000000 : Nat) : Int) = lo at *
  obtain ⟨a, ha⟩ : ∃ a, a = m.natAbs := ⟨_, rfl⟩
  rw [← ha] at HT
  have HA := Lib.hid ha
  clear h hab hj ha
  rcases Int.lt_or_le m 0 with hlt | hge
  · have e : decide (m < 0) = true := by simp [hlt]
    have e2 : (0 : Int) - m = (a : Int) := by rw [HA.out]; omega
    have e3 : -m = (a : Int) := by rw [HA.out]; omega
    rw [e]
    clear e
    go_enter Tryd.func33, Tryd.ntmps33
    go_wp2_with fail
    go_quiet (fail)
    have HX := Lib.hid (boxes2 w m k 0 0 43 58)
    have hX := HX.out.1
    generalize World.alloc (World.alloc w _) _ = w0 at HX hX ⊢
    obtain ⟨b0, b1, b2, b3, b4⟩ := hX.below (drewN_below w0 nq)
    have HW := Lib.hid (And.intro (HX.out.2.1.below (drewN_below w0 nq)) (HX.out.2.2.trans ((drewN_below w0 nq).mono HX.out.2.2.size)))
    clear hX HX
    generalize w0.drewN nq = w1 at HW b0 b1 b2 b3 b4 ⊢
    go_wp2_with fail
    (with_reducible refine (HP.out _).mono ?_)
    rintro e w' ⟨rfl, rfl⟩
    go_wp2_with fail
    (with_reducible refine (HT.out _).mono ?_)
    rintro e w2 ⟨rfl, hb2⟩
    obtain ⟨c0, c1, c2, c3, c4⟩ := HW.out.1.below hb2
    have HB := Lib.hid (HW.out.2.trans (hb2.mono HW.out.2.size))
    clear hb2 b0 b1 b2 b3 b4
    go_wp2_with fail
    exact bodyPost_ret (v := .tuple #[.agg #[.int .i64 hi, .int .i64 lo], .bool true]) (by simp [results, Tryd.results33, go_sem, c0, c1, c2]) rfl ⟨rfl, (HB.out.setCell (by simp only []; omega) _).setCell (by simp only []; omega) _⟩
  · have e : decide (m < 0) = false := by simp; omega
    have e2 : m = (a : Int) := by rw [HA.out]; omega
    rw [e]
    clear e HA
    subst e2
    go_enter Tryd.func33, Tryd.ntmps33
    go_wp2_with fail
    go_quiet (fail)
    have HX := Lib.hid (boxes2 w (a : Int) k 0 0 43 58)
    have hX := HX.out.1
    generalize World.alloc (World.alloc w _) _ = w0 at HX hX ⊢
    obtain ⟨b0, b1, b2, b3, b4⟩ := hX.below (drewN_below w0 nq)
    have HW := Lib.hid (And.intro (HX.out.2.1.below (drewN_below w0 nq)) (HX.out.2.2.trans ((drewN_below w0 nq).mono HX.out.2.2.size)))
    clear hX HX
    generalize w0.drewN nq = w1 at HW b0 b1 b2 b3 b4 ⊢
    go_wp2_with fail
    (with_reducible refine (HP.out _).mono ?_)
    rintro e w' ⟨rfl, rfl⟩
    go_wp2_with fail
    (with_reducible refine (HT.out _).mono ?_)
    rintro e w2 ⟨rfl, hb2⟩
    obtain ⟨c0, c1, c2, c3, c4⟩ := HW.out.1.below hb2
    have HB := Lib.hid (HW.out.2.trans (hb2.mono HW.out.2.size))
    clear hb2 b0 b1 b2 b3 b4
    go_wp2_with fail
    exact bodyPost_ret (v := .tuple #[.agg #[.int .i64 hi, .int .i64 lo], .bool false]) (by simp [results, Tryd.results33, go_sem, c0, c1, c2]) rfl ⟨rfl, (HB.out.setCell (by simp only []; omega) _).setCell (by simp only []; omega) _⟩
end Go.Proofs.YtdlfoinpjbcodaaDoor
