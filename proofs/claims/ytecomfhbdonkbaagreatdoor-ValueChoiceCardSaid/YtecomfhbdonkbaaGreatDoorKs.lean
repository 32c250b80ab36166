/- triadref13: power, times, sized, above, whole. -/
import Derived.Test.YtecomfhbdonkbaaGreatDoorKr
import Derived.Deep.DeepCutAuto
namespace Go.Proofs.YtecomfhbdonkbaaGreatDoor
open Go.RowKit Go.Shelf Flo
set_option maxRecDepth 100000
set_option linter.unusedVariables false
set_option linter.unusedSimpArgs false

theorem pow_small {k : Nat} (h : k ≤ 12) : 10 ^ k ≤ 1000000000000 := Nat.pow_le_pow_right (by decide) h

theorem power_any (w : World) (k : Nat) (hk : k ≤ 6) : Calls Tryz.prog 60 #[.int .i64 (k : Int)] w fun e w' => e = .returned (.int .i64 ((10 ^ k : Nat) : Int)) ∧ w = w' := by
  obtain ⟨R, hR⟩ : ∃ R, R = 10 ^ k := ⟨_, rfl⟩
  rw [← hR]
  have HR := Lib.hid hR
  clear hR
  go_enter Tryz.func60, Tryz.ntmps60
  go_wp2_with fail
  go_loop [3, 4] (fun p i => ∃ q j : Nat, p = .int .i64 (q : Int) ∧ i = .int .i64 (j : Int) ∧ j ≤ k ∧ q = 10 ^ j) (fun _ i => k - (intOf i).toNat)
  case atStart => exact ⟨1, 0, rfl, rfl, Nat.zero_le _, rfl⟩
  case round =>
    obtain ⟨q, j, rfl, rfl, hj, hq⟩ := hrel
    have HQ := Lib.hid hq
    have hqs : q ≤ 1000000000000 := by rw [hq]; exact pow_small (by omega)
    have hqi : (q : Int) ≤ 1000000000000 := by omega
    clear hq
    by_cases hlt : j < k
    · go_wp2_with fail
      exact ⟨⟨10 * q, j + 1, rfl, by go_num, hlt, by rw [HQ.out, Nat.pow_succ, Nat.mul_comm]⟩, by simp [intOf]; omega⟩
    · have HE := Lib.hid (show q = R by rw [HR.out, HQ.out]; congr 1; omega)
      go_wp2_with fail
      go_ret
      exact ⟨by rw [← HE.out]; rfl, rfl⟩

/-- a wide number as a value. -/
def wid (N : Nat) : Value := .agg #[.int .i64 ((N / 1000000000 : Nat) : Int), .int .i64 ((N % 1000000000 : Nat) : Int)]

theorem times_any (w : World) (m p : Nat) (hm : m ≤ 999999999999999) (hp : p ≤ 1000000) : Calls Tryz.prog 59 #[.int .i64 (m : Int), .int .i64 (p : Int)] w fun e w' => e = .returned (wid (m * p)) ∧ Below w.heap.size w w' := by
  obtain ⟨V, hV⟩ : ∃ V, V = wid (m * p) := ⟨_, rfl⟩
  rw [← hV]
  have e1 : m * p = m / 1000000000 * p * 1000000000 + m % 1000000000 * p := by
    have := Nat.div_add_mod m 1000000000
    conv => lhs; rw [← this, Nat.add_mul]
    rw [Nat.mul_assoc, Nat.mul_comm 1000000000 (m / 1000000000 * p)]
  have hx : m % 1000000000 * p ≤ 1000000000 * 1000000 := Nat.mul_le_mul (by omega) hp
  have hy : m / 1000000000 * p ≤ 1000000 * 1000000 := Nat.mul_le_mul (by omega) hp
  obtain ⟨a, ha⟩ : ∃ a, a = m % 1000000000 := ⟨_, rfl⟩
  obtain ⟨b, hb⟩ : ∃ b, b = m / 1000000000 := ⟨_, rfl⟩
  obtain ⟨x, hx'⟩ : ∃ x, x = a * p := ⟨_, rfl⟩
  obtain ⟨y, hy'⟩ : ∃ y, y = b * p := ⟨_, rfl⟩
  rw [← ha, ← hx'] at hx
  rw [← hb, ← hy'] at hy
  rw [← ha, ← hb, ← hx', ← hy'] at e1
  have HV := Lib.hid (show V = .agg #[.int .i64 ((y : Int) + (x : Int) / 1000000000), .int .i64 ((x : Int) % 1000000000)] by
    rw [hV]; unfold wid
    rw [e1]
    have c1 : (((y * 1000000000 + x) / 1000000000 : Nat) : Int) = (y : Int) + (x : Int) / 1000000000 := by omega
    have c2 : (((y * 1000000000 + x) % 1000000000 : Nat) : Int) = (x : Int) % 1000000000 := by omega
    rw [c1, c2])
  have hai : (a : Int) ≤ 1000000000 := by omega
  have hbi : (b : Int) ≤ 1000000 := by omega
  have hpi : (p : Int) ≤ 1000000 := by omega
  have t1 : (m : Int) % 1000000000 = (a : Int) := by omega
  have t2 : (m : Int) / 1000000000 = (b : Int) := by omega
  have t3 : (a : Int) * (p : Int) = (x : Int) := by rw [hx']; exact (Int.natCast_mul _ _).symm
  have t4 : (b : Int) * (p : Int) = (y : Int) := by rw [hy']; exact (Int.natCast_mul _ _).symm
  have hxi : (x : Int) ≤ 1000000000000000 := by omega
  have hyi : (y : Int) ≤ 1000000000000 := by omega
  have hx0 : (0 : Int) ≤ x := by omega
  have hy0 : (0 : Int) ≤ y := by omega
  clear hV e1 hx hy ha hb hx' hy' hm hp
  go_enter Tryz.func59, Tryz.ntmps59
  go_wp2_with fail
  rw [HV.out]
  exact bodyPost_ret (v := .agg #[.int .i64 ((y : Int) + (x : Int) / 1000000000), .int .i64 ((x : Int) % 1000000000)]) (by simp [results, Tryz.results59, go_sem]) rfl ⟨rfl, (Below.refl _ _).alloc (Nat.le_refl _) _⟩

/-- a decimal's digits, led to six behind the point. -/
def sizeN (m : Int) (k : Nat) : Nat := m.natAbs * 10 ^ (6 - k)
theorem sizeN_le {m : Int} {k : Nat} (h : m.natAbs ≤ 999999999999999) : sizeN m k ≤ 999999999999999 * 1000000 :=
  Nat.mul_le_mul h (Nat.le_trans (Nat.pow_le_pow_right (show 0 < 10 by decide) (show 6 - k ≤ 6 by omega)) (by decide))

theorem boxes2 (w : World) (m s m2 s2 : Int) (t t2 : TypeId) : DecB ((w.alloc (.cells #[.int .i64 m, .int .i64 s] t)).alloc (.cells #[.int .i64 m2, .int .i64 s2] t2)) w.heap.size m s ∧
    DecB ((w.alloc (.cells #[.int .i64 m, .int .i64 s] t)).alloc (.cells #[.int .i64 m2, .int .i64 s2] t2)) (w.heap.size + 1) m2 s2 ∧ Below w.heap.size w ((w.alloc (.cells #[.int .i64 m, .int .i64 s] t)).alloc (.cells #[.int .i64 m2, .int .i64 s2] t2)) := by
  have b1 := (Below.refl w.heap.size w).alloc (Nat.le_refl _) (.cells #[.int .i64 m, .int .i64 s] t)
  have d1 := DecB.new w m s t
  have z1 : (w.alloc (.cells #[.int .i64 m, .int .i64 s] t)).heap.size = w.heap.size + 1 := by simp
  generalize w.alloc (.cells #[.int .i64 m, .int .i64 s] t) = w1 at *
  have b2 := (Below.refl w1.heap.size w1).alloc (Nat.le_refl _) (.cells #[.int .i64 m2, .int .i64 s2] t2)
  have d2 := DecB.new w1 m2 s2 t2
  generalize w1.alloc (.cells #[.int .i64 m2, .int .i64 s2] t2) = w2 at *
  rw [z1] at d2
  exact ⟨d1.below b2, d2, b1.trans (b2.mono (by omega))⟩

/-- a block of two whole numbers. -/
theorem DecB.wid (w : World) (N : Nat) (t : TypeId) : DecB (w.alloc (.cells #[.int .i64 ((N / 1000000000 : Nat) : Int), .int .i64 ((N % 1000000000 : Nat) : Int)] t)) w.heap.size ((N / 1000000000 : Nat) : Int) ((N % 1000000000 : Nat) : Int) := DecB.new w _ _ t

set_option maxHeartbeats 1000000 in
theorem sized_any (w : World) (m s : Int) (h : GoodD m s) : Calls Tryz.prog 32 #[.agg #[.int .i64 m, .int .i64 s]] w fun e w' => e = .returned (.tuple #[wid (sizeN m s.toNat), .bool (decide (m < 0))]) ∧ Below w.heap.size w w' := by
  obtain ⟨k, rfl⟩ : ∃ k : Nat, s = k := ⟨s.toNat, by have := h.2.2.1; omega⟩
  simp only [Int.toNat_natCast]
  have hk : k ≤ 6 := by have := h.2.2.2.1; omega
  have hab := h.abs
  have HP := Lib.hid (fun w => power_any w (6 - k) (by omega))
  have HT := Lib.hid (fun w => times_any w m.natAbs (10 ^ (6 - k)) hab (Nat.pow_le_pow_right (show 0 < 10 by decide) (show 6 - k ≤ 6 by omega)))
  rw [show m.natAbs * 10 ^ (6 - k) = sizeN m k from rfl] at HT
  generalize sizeN m k = N at *
  generalize 10 ^ (6 - k) = Q at *
  have h1 := h.1
  have h2 := h.2.1
  obtain ⟨j, hj⟩ : ∃ j, j = 6 - k := ⟨_, rfl⟩
  rw [← hj] at HP
  have hj2 : (6 : Int) - k = (j : Int) := by omega
  have HJ := Lib.hid hj
  have hki : (k : Int) ≤ 6 := by omega
  unfold wid at HT ⊢
  generalize ((N / 1000000000 : Nat) : Int) = hi at *
  generalize ((N % 1000000000 : Nat) : Int) = lo at *
  obtain ⟨a, ha⟩ : ∃ a, a = m.natAbs := ⟨_, rfl⟩
  rw [← ha] at HT
  have HA := Lib.hid ha
  clear h hab hj ha
  rcases Int.lt_or_le m 0 with hlt | hge
  · have e : decide (m < 0) = true := by simp [hlt]
    have e2 : (0 : Int) - m = (a : Int) := by rw [HA.out]; omega
    have e3 : -m = (a : Int) := by rw [HA.out]; omega
    rw [e]
    clear e
    go_enter Tryz.func32, Tryz.ntmps32
    go_wp2_with fail
    go_quiet (fail)
    have HX := Lib.hid (boxes2 w m k 0 0 44 75)
    have hX := HX.out.1
    generalize World.alloc (World.alloc w _) _ = w0 at HX hX ⊢
    obtain ⟨b0, b1, b2, b3, b4⟩ := hX.below (drewN_below w0 nq)
    have HW := Lib.hid (And.intro (HX.out.2.1.below (drewN_below w0 nq)) (HX.out.2.2.trans ((drewN_below w0 nq).mono HX.out.2.2.size)))
    clear hX HX
    generalize w0.drewN nq = w1 at HW b0 b1 b2 b3 b4 ⊢
    go_wp2_with fail
    (with_reducible refine (HP.out _).mono ?_)
    rintro e w' ⟨rfl, rfl⟩
    go_wp2_with fail
    (with_reducible refine (HT.out _).mono ?_)
    rintro e w2 ⟨rfl, hb2⟩
    obtain ⟨c0, c1, c2, c3, c4⟩ := HW.out.1.below hb2
    have HB := Lib.hid (HW.out.2.trans (hb2.mono HW.out.2.size))
    clear hb2 b0 b1 b2 b3 b4
    go_wp2_with fail
    exact bodyPost_ret (v := .tuple #[.agg #[.int .i64 hi, .int .i64 lo], .bool true]) (by simp [results, Tryz.results32, go_sem, c0, c1, c2]) rfl ⟨rfl, (HB.out.setCell (by simp only []; omega) _).setCell (by simp only []; omega) _⟩
  · have e : decide (m < 0) = false := by simp; omega
    have e2 : m = (a : Int) := by rw [HA.out]; omega
    rw [e]
    clear e HA
    subst e2
    go_enter Tryz.func32, Tryz.ntmps32
    go_wp2_with fail
    go_quiet (fail)
    have HX := Lib.hid (boxes2 w (a : Int) k 0 0 44 75)
    have hX := HX.out.1
    generalize World.alloc (World.alloc w _) _ = w0 at HX hX ⊢
    obtain ⟨b0, b1, b2, b3, b4⟩ := hX.below (drewN_below w0 nq)
    have HW := Lib.hid (And.intro (HX.out.2.1.below (drewN_below w0 nq)) (HX.out.2.2.trans ((drewN_below w0 nq).mono HX.out.2.2.size)))
    clear hX HX
    generalize w0.drewN nq = w1 at HW b0 b1 b2 b3 b4 ⊢
    go_wp2_with fail
    (with_reducible refine (HP.out _).mono ?_)
    rintro e w' ⟨rfl, rfl⟩
    go_wp2_with fail
    (with_reducible refine (HT.out _).mono ?_)
    rintro e w2 ⟨rfl, hb2⟩
    obtain ⟨c0, c1, c2, c3, c4⟩ := HW.out.1.below hb2
    have HB := Lib.hid (HW.out.2.trans (hb2.mono HW.out.2.size))
    clear hb2 b0 b1 b2 b3 b4
    go_wp2_with fail
    exact bodyPost_ret (v := .tuple #[.agg #[.int .i64 hi, .int .i64 lo], .bool false]) (by simp [results, Tryz.results32, go_sem, c0, c1, c2]) rfl ⟨rfl, (HB.out.setCell (by simp only []; omega) _).setCell (by simp only []; omega) _⟩
end Go.Proofs.YtecomfhbdonkbaaGreatDoor
/- triadref13: above, whole, Neg. -/
namespace Go.Proofs.YtecomfhbdonkbaaGreatDoor
open Go.RowKit Go.Shelf Flo
set_option maxRecDepth 100000
set_option linter.unusedVariables false
set_option linter.unusedSimpArgs false

theorem equal_wid (m s m2 s2 : Int) (w : World) : (Op.equalIn 10000 75 (.agg #[.int .i64 m, .int .i64 s]) (.agg #[.int .i64 m2, .int .i64 s2])).run Tryz.prog w = .ok (m == m2 && s == s2) w := by
  cases h1 : m == m2 <;> cases h2 : s == s2
  all_goals go_simp

theorem above_any (w : World) (A B : Nat) : Calls Tryz.prog 34 #[wid A, wid B] w fun e w' => e = .returned (.int .i64 (cmpI (A : Int) (B : Int))) ∧ Below w.heap.size w w' := by
  obtain ⟨R, hR⟩ : ∃ R, R = cmpI (A : Int) (B : Int) := ⟨_, rfl⟩
  rw [← hR]
  have hc : (A < B ∧ R = -1) ∨ (A = B ∧ R = 0) ∨ (B < A ∧ R = 1) := by
    rw [hR]; unfold cmpI
    rcases Nat.lt_trichotomy A B with h | h | h
    · exact .inl ⟨h, if_pos (by omega)⟩
    · exact .inr (.inl ⟨h, by rw [if_neg (by omega), if_neg (by omega)]⟩)
    · exact .inr (.inr ⟨h, by rw [if_neg (by omega), if_pos (by omega)]⟩)
  obtain ⟨a1, ha1⟩ : ∃ a, a = ((A / 1000000000 : Nat) : Int) := ⟨_, rfl⟩
  obtain ⟨a0, ha0⟩ : ∃ a, a = ((A % 1000000000 : Nat) : Int) := ⟨_, rfl⟩
  obtain ⟨b1, hb1⟩ : ∃ a, a = ((B / 1000000000 : Nat) : Int) := ⟨_, rfl⟩
  obtain ⟨b0, hb0⟩ : ∃ a, a = ((B % 1000000000 : Nat) : Int) := ⟨_, rfl⟩
  have h1 : (a1 < b1 ∧ R = -1) ∨ (a1 = b1 ∧ a0 < b0 ∧ R = -1) ∨ (a1 = b1 ∧ a0 = b0 ∧ R = 0) ∨ (b1 < a1 ∧ R = 1) ∨ (a1 = b1 ∧ b0 < a0 ∧ R = 1) := by omega
  unfold wid
  rw [← ha1, ← ha0, ← hb1, ← hb0]
  have hE := fun w => equal_wid a1 a0 b1 b0 w
  clear ha1 ha0 hb1 hb0 hc hR
  have HB := Lib.hid (boxes2 w a1 a0 b1 b0 75 75)
  rcases h1 with ⟨h, rfl⟩ | ⟨h, h', rfl⟩ | ⟨rfl, rfl, rfl⟩ | ⟨h, rfl⟩ | ⟨h, h', rfl⟩
  · go_enter Tryz.func34, Tryz.ntmps34
    go_wp2
    go_ret
    exact ⟨rfl, HB.out.2.2⟩
  · subst h
    go_enter Tryz.func34, Tryz.ntmps34
    go_wp2
    go_ret
    exact ⟨rfl, HB.out.2.2⟩
  · have g : ¬ a0 < a0 := by omega
    have g2 : ¬ a1 < a1 := by omega
    go_enter Tryz.func34, Tryz.ntmps34
    go_wp2
    go_ret
    exact ⟨rfl, HB.out.2.2⟩
  · have g : ¬ a1 < b1 := by omega
    have g2 : (a1 == b1) = false := by simp; omega
    have g3 : (a1 != b1) = true := by simp; omega
    go_enter Tryz.func34, Tryz.ntmps34
    go_wp2
    go_ret
    exact ⟨rfl, HB.out.2.2⟩
  · subst h
    have g : ¬ a0 < b0 := by omega
    have g0 : ¬ a1 < a1 := by omega
    have g2 : (a0 == b0) = false := by simp; omega
    go_enter Tryz.func34, Tryz.ntmps34
    go_wp2
    go_ret
    exact ⟨rfl, HB.out.2.2⟩

theorem rneg_any (w : World) (m s : Int) (h : GoodD m s) : Calls Tryz.prog 19 #[.agg #[.int .i64 m, .int .i64 s]] w fun e w' => e = .returned (.agg #[.int .i64 (-m), .int .i64 s]) ∧ Below w.heap.size w w' := by
  obtain ⟨h1, h2, h3, h4, -⟩ := h
  go_enter Tryz.func19, Tryz.ntmps19
  go_wp2_with fail
  exact bodyPost_ret (v := .agg #[.int .i64 (-m), .int .i64 s]) (by simp [results, Tryz.results19, go_sem]) rfl ⟨rfl, ((Below.refl _ _).alloc (Nat.le_refl _) _).alloc (by simp) _⟩

theorem nrm_idem : ∀ (k : Nat) (n : Int), nrm (nrm n k).1 (nrm n k).2 = nrm n k
  | 0, n => rfl
  | k + 1, n => by
    by_cases h : n % 10 = 0
    · rw [nrm_go (k + 1) (by omega) h]
      exact nrm_idem k (n / 10)
    · rw [nrm_stay _ _ h]
      exact nrm_stay _ _ h
theorem nrm_neg : ∀ (k : Nat) (n : Int), nrm (-n) k = (-(nrm n k).1, (nrm n k).2)
  | 0, n => rfl
  | k + 1, n => by
    by_cases h : n % 10 = 0
    · rw [nrm_go (k + 1) (by omega) h, nrm_go (k + 1) (by omega) (show -n % 10 = 0 by omega)]
      rw [show -n / 10 = -(n / 10) by omega]
      exact nrm_neg k (n / 10)
    · rw [nrm_stay _ _ h, nrm_stay _ _ (show ¬ -n % 10 = 0 by omega)]

/-- not too great for a wide number. -/
def Under21 (N : Nat) : Prop := N ≤ 3000000000000000000000

set_option maxHeartbeats 1000000 in
theorem whole_any (w : World) (N : Nat) (b : Bool) (hN : N ≤ 3000000000000000000000) : Calls Tryz.prog 33 #[wid N, .bool b] w fun e w' => e = .returned (decP (nrm (if b then -(N : Int) else (N : Int)) 6)) ∧ Below w.heap.size w w' := by
  obtain ⟨V, hV⟩ : ∃ V, V = decP (nrm (if b then -(N : Int) else (N : Int)) 6) := ⟨_, rfl⟩
  rw [← hV]
  have HV := Lib.hid hV
  obtain ⟨vm, vs, vb, hv⟩ := decP_cases (nrm (if b then -(N : Int) else (N : Int)) 6)
  rw [← hV] at hv
  have HVT := Lib.hid hv
  clear hV hv
  have HN := Lib.hid (show Under21 N from hN)
  obtain ⟨N1, hN1⟩ : ∃ a, a = N / 1000000000 := ⟨_, rfl⟩
  obtain ⟨N0, hN0⟩ : ∃ a, a = N % 1000000000 := ⟨_, rfl⟩
  have HNN := Lib.hid (And.intro hN1 hN0)
  unfold wid
  rw [← hN1, ← hN0]
  clear hN hN1 hN0
  have HX := Lib.hid (boxes2 w (N1 : Int) (N0 : Int) 0 0 75 44)
  go_enter Tryz.func33, Tryz.ntmps33
  go_wp2_with fail
  generalize World.alloc (World.alloc w _) _ = w1 at HX ⊢
  go_loopw [6] (fun i wx => ∃ (M M1 M0 j : Nat), i = .int .i64 (j : Int) ∧ j ≤ 6 ∧ Under21 M ∧ M1 = M / 1000000000 ∧ M0 = M % 1000000000 ∧ nrm (N : Int) 6 = nrm (M : Int) j ∧ DecB wx w.heap.size (M1 : Int) (M0 : Int) ∧ DecB wx (w.heap.size + 1) 0 0 ∧ Below w.heap.size w wx) (fun i _ => (intOf i).toNat)
  case atStart => exact ⟨N, N1, N0, 6, rfl, by decide, HN.out, HNN.out.1, HNN.out.2, rfl, HX.out⟩
  case round =>
    obtain ⟨M, hi, lo, j, rfl, hj, hM, hhi, hlo, hn, hD, hD2, hB⟩ := hrel
    have HH := Lib.hid (And.intro hn (And.intro hD (And.intro hD2 hB)))
    obtain ⟨d0, d1, d2, d3, d4⟩ := hD
    have HM := Lib.hid (And.intro hhi (And.intro hlo hM))
    have hil : (hi : Int) ≤ 3000000000000 := by unfold Under21 at hM; omega
    have hll : (lo : Int) ≤ 999999999 := by omega
    clear hn hD2 hB hhi hlo hM
    by_cases hgo : 0 < j ∧ lo % 10 = 0
    · have hj0 : (0 : Int) < j := by omega
      have hl0 : (lo : Int) % 10 = 0 := by omega
      have HG := Lib.hid hgo
      clear hgo
      have HF := Lib.hid (show DecB ((wr.setCell ⟨w.heap.size, 0, none⟩ (.int .i64 ((hi : Int) / 10))).setCell ⟨w.heap.size, 1, none⟩ (.int .i64 ((lo : Int) / 10 + (hi : Int) % 10 * 100000000))) w.heap.size ((hi / 10 : Nat) : Int) ((lo / 10 + hi % 10 * 100000000 : Nat) : Int) ∧ DecB ((wr.setCell ⟨w.heap.size, 0, none⟩ (.int .i64 ((hi : Int) / 10))).setCell ⟨w.heap.size, 1, none⟩ (.int .i64 ((lo : Int) / 10 + (hi : Int) % 10 * 100000000))) (w.heap.size + 1) 0 0 ∧ Below w.heap.size w ((wr.setCell ⟨w.heap.size, 0, none⟩ (.int .i64 ((hi : Int) / 10))).setCell ⟨w.heap.size, 1, none⟩ (.int .i64 ((lo : Int) / 10 + (hi : Int) % 10 * 100000000))) from
        ⟨HH.out.2.1.set, HH.out.2.2.1.put (by omega), (HH.out.2.2.2.setCell (Nat.le_refl _) _).setCell (Nat.le_refl _) _⟩)
      go_wp2_with fail
      refine ⟨⟨M / 10, hi / 10, lo / 10 + hi % 10 * 100000000, j - 1, by congr 1; have := HG.out.1; omega, by omega, ?_, ?_, ?_, ?_, HF.out⟩, by have := HG.out.1; simp [intOf]; omega⟩
      · have := HM.out.2.2; unfold Under21 at *; omega
      · have := HM.out.1; omega
      · obtain ⟨g1, g2, -⟩ := HM.out; have := HG.out.2; omega
      · have h10 : (M : Int) % 10 = 0 := by obtain ⟨g1, g2, -⟩ := HM.out; have := HG.out.2; omega
        rw [HH.out.1, nrm_go j HG.out.1 h10]
        congr 1
    · have HP := Lib.hid (show nrm (N : Int) 6 = ((M : Int), j) by
        rw [HH.out.1]
        rcases Nat.eq_zero_or_pos j with h | h
        · rw [h]; rfl
        · exact nrm_stay _ _ (by
            have h1 : ¬ lo % 10 = 0 := fun h2 => hgo ⟨h, h2⟩
            obtain ⟨g1, g2, -⟩ := HM.out
            omega))
      have hgo2 : (j = 0) ∨ (0 < j ∧ ¬ lo % 10 = 0) := by omega
      have HV2 := Lib.hid (show V = decP (nrm (if b then -(M : Int) else (M : Int)) j) by
        have e : nrm (M : Int) j = ((M : Int), j) := by
          have := nrm_idem 6 (N : Int)
          rw [HP.out] at this
          exact this
        rw [HV.out]
        cases b
        · simp only [Bool.false_eq_true, if_false]
          rw [HP.out, e]
        · simp only [if_true]
          rw [nrm_neg, nrm_neg, HP.out, e])
      by_cases hbig : 1000000 ≤ hi
      · have hbi : (1000000 : Int) ≤ (hi : Int) := by omega
        have HO := Lib.hid (show V = .tuple #[.agg #[.int .i64 0, .int .i64 0], .bool false] by
          rw [HV.out]
          cases b
          · simp only [Bool.false_eq_true, if_false]
            rw [HP.out]; unfold decP
            rw [if_neg (by have := HM.out.1; simp [fitsL]; omega)]
          · simp only [if_true]
            rw [nrm_neg, HP.out]; unfold decP
            rw [if_neg (by have := HM.out.1; simp [fitsL]; omega)])
        obtain ⟨e0, e1, e2, e3, e4⟩ := HH.out.2.2.1
        clear hgo hbig
        rcases hgo2 with rfl | ⟨hj1, hl1⟩
        · go_wp2_with fail
          rw [HO.out]
          exact bodyPost_ret (v := .tuple #[.agg #[.int .i64 0, .int .i64 0], .bool false]) (by simp [results, Tryz.results33, go_sem, e0, e1, e2]) rfl ⟨rfl, (HH.out.2.2.2.setCell (by simp only []; omega) _).setCell (by simp only []; omega) _⟩
        · have hj1i : (0 : Int) < j := by omega
          have hl1i : ¬ (lo : Int) % 10 = 0 := by omega
          go_wp2_with fail
          rw [HO.out]
          exact bodyPost_ret (v := .tuple #[.agg #[.int .i64 0, .int .i64 0], .bool false]) (by simp [results, Tryz.results33, go_sem, e0, e1, e2]) rfl ⟨rfl, (HH.out.2.2.2.setCell (by simp only []; omega) _).setCell (by simp only []; omega) _⟩
      · have hbi : ¬ (1000000 : Int) ≤ (hi : Int) := by omega
        have hML : M ≤ 999999999999999 := by obtain ⟨g1, g2, -⟩ := HM.out; omega
        have hMe : (hi : Int) * 1000000000 + (lo : Int) = (M : Int) := by obtain ⟨g1, g2, -⟩ := HM.out; omega
        have hMi : (M : Int) ≤ 999999999999999 := by omega
        have hhs : (hi : Int) ≤ 999999 := by omega
        have HNM := Lib.hid (fun w => norm_any w (if b then -(M : Int) else (M : Int)) j (by cases b <;> simp <;> omega) (by omega))
        rw [← HV2.out, HVT.out] at HNM
        have hD2 := HH.out.2.2.1
        clear hgo hbig hML
        cases b
        all_goals simp only [Bool.false_eq_true, if_false, if_true] at HNM
        all_goals rcases hgo2 with rfl | ⟨hj1, hl1⟩
        all_goals try rw [show ((0 : Nat) : Int) = 0 from rfl] at HNM
        all_goals try have hj1i : (0 : Int) < j := by omega
        all_goals try have hl1i : ¬ (lo : Int) % 10 = 0 := by omega
        all_goals
          go_wp2_with fail
          (with_reducible refine (HNM.out _).mono ?_)
          rintro e w8 ⟨rfl, hb8⟩
          have HB8 := Lib.hid (HH.out.2.2.2.trans (hb8.mono HH.out.2.2.2.size))
          obtain ⟨q0, q1, q2, q3, q4⟩ := hD2.below hb8
          clear hb8
          go_wp2_with fail
          exact bodyPost_ret (v := .tuple #[.agg #[.int .i64 vm, .int .i64 vs], .bool vb]) (by simp [results, Tryz.results33, go_sem, q0, q1, q2]) rfl ⟨by rw [HVT.out], (HB8.out.setCell (by simp only []; omega) _).setCell (by simp only []; omega) _⟩
end Go.Proofs.YtecomfhbdonkbaaGreatDoor
/- triadref13: Add, Cmp. -/
namespace Go.Proofs.YtecomfhbdonkbaaGreatDoor
open Go.RowKit Go.Shelf Flo
set_option maxRecDepth 100000
set_option linter.unusedVariables false
set_option linter.unusedSimpArgs false

/-- a decimal's number, led to six digits behind the point. -/
def sixI (m : Int) (k : Nat) : Int := m * (10 ^ (6 - k) : Nat)
theorem six_size (m : Int) (k : Nat) : sixI m k = if m < 0 then -(sizeN m k : Int) else (sizeN m k : Int) := by
  unfold sixI sizeN
  rw [Int.natCast_mul]
  by_cases h : m < 0
  · rw [if_pos h, show (m.natAbs : Int) = -m by omega, Int.neg_mul, Int.neg_neg]
  · rw [if_neg h, show (m.natAbs : Int) = m by omega]

theorem cmp_negs (a b : Int) : cmpI (-a) (-b) = cmpI b a := by
  unfold cmpI
  rcases Int.lt_trichotomy a b with h | h | h
  · rw [if_neg (by omega), if_pos (by omega), if_neg (by omega), if_pos (by omega)]
  · rw [if_neg (by omega), if_neg (by omega), if_neg (by omega), if_neg (by omega)]
  · rw [if_pos (by omega), if_pos (by omega)]
def Under20 (N : Nat) : Prop := N ≤ 1000000000000000000000
theorem wid_eq (N : Nat) (a b : Int) (h : a = ((N / 1000000000 : Nat) : Int)) (h2 : b = ((N % 1000000000 : Nat) : Int)) : (Value.agg #[.int .i64 a, .int .i64 b]) = wid N := by rw [h, h2]; rfl

theorem TwoS.off {w v : World} {m s m2 s2 x y : Int} {b : Nat} (h : TwoS w m s m2 s2 v) (hb : w.heap.size + 1 + 1 < b) : TwoS w m s m2 s2 ((v.setCell ⟨b, 0, none⟩ (.int .i64 x)).setCell ⟨b, 1, none⟩ (.int .i64 y)) := by
  obtain ⟨h1, h2, h3, m3, s3, h4⟩ := h
  exact ⟨(h1.setCell (by simp only []; omega) _).setCell (by simp only []; omega) _, h2.put (by omega), h3.put (by omega), m3, s3, h4.put (by omega)⟩

set_option maxHeartbeats 2000000 in
theorem radd_any (w : World) (m s m2 s2 : Int) (h : GoodD m s) (h2 : GoodD m2 s2) :
    Calls Tryz.prog 18 #[.agg #[.int .i64 m, .int .i64 s], .agg #[.int .i64 m2, .int .i64 s2]] w fun e w' =>
      e = .returned (decP (nrm (sixI m s.toNat + sixI m2 s2.toNat) 6)) ∧ Below w.heap.size w w' := by
  obtain ⟨V, hV⟩ : ∃ V, V = decP (nrm (sixI m s.toNat + sixI m2 s2.toNat) 6) := ⟨_, rfl⟩
  rw [← hV]
  rw [six_size, six_size] at hV
  obtain ⟨vm, vs, vb, hv⟩ := decP_cases (nrm ((if m < 0 then -(sizeN m s.toNat : Int) else (sizeN m s.toNat : Int)) + (if m2 < 0 then -(sizeN m2 s2.toNat : Int) else (sizeN m2 s2.toNat : Int))) 6)
  rw [← hV] at hv
  have HVT := Lib.hid hv
  have HA := Lib.hid (fun w => sized_any w m s h)
  have HB := Lib.hid (fun w => sized_any w m2 s2 h2)
  have hNX := sizeN_le (m := m) (k := s.toNat) h.abs
  have hNY := sizeN_le (m := m2) (k := s2.toNat) h2.abs
  generalize sizeN m s.toNat = NX at *
  generalize sizeN m2 s2.toNat = NY at *
  obtain ⟨p, hp⟩ : ∃ p, p = decide (m < 0) := ⟨_, rfl⟩
  obtain ⟨q, hq⟩ : ∃ q, q = decide (m2 < 0) := ⟨_, rfl⟩
  have hV2 : V = decP (nrm ((if p then -(NX : Int) else (NX : Int)) + (if q then -(NY : Int) else (NY : Int))) 6) := by
    rw [hV, hp, hq]; simp
  rw [← hp] at HA
  rw [← hq] at HB
  have HV := Lib.hid hV2
  have HC := Lib.hid (two_boxes w m s m2 s2 44)
  obtain ⟨x1, hx1⟩ : ∃ a, a = NX / 1000000000 := ⟨_, rfl⟩
  obtain ⟨x0, hx0⟩ : ∃ a, a = NX % 1000000000 := ⟨_, rfl⟩
  obtain ⟨y1, hy1⟩ : ∃ a, a = NY / 1000000000 := ⟨_, rfl⟩
  obtain ⟨y0, hy0⟩ : ∃ a, a = NY % 1000000000 := ⟨_, rfl⟩
  have hwx : wid NX = .agg #[.int .i64 (x1 : Int), .int .i64 (x0 : Int)] := by rw [hx1, hx0]; rfl
  have hwy : wid NY = .agg #[.int .i64 (y1 : Int), .int .i64 (y0 : Int)] := by rw [hy1, hy0]; rfl
  have HAB := Lib.hid (fun w => above_any w NX NY)
  rw [hwx] at HA HAB
  rw [hwy] at HB HAB
  have HXY := Lib.hid (And.intro hx1 (And.intro hx0 (And.intro hy1 (And.intro hy0 (show Under20 NX ∧ Under20 NY by unfold Under20; omega)))))
  have hx1i : (x1 : Int) ≤ 1000000000000 := by omega
  have hy1i : (y1 : Int) ≤ 1000000000000 := by omega
  have hx0i : (x0 : Int) ≤ 999999999 := by omega
  have hy0i : (y0 : Int) ≤ 999999999 := by omega
  clear hV hv hV2 hp hq h h2 hNX hNY hx1 hx0 hy1 hy0 hwx hwy
  go_enter Tryz.func18, Tryz.ntmps18
  go_wp2_with fail
  generalize World.alloc (World.alloc (World.alloc w _) _) _ = w1 at HC ⊢
  obtain ⟨g0, ⟨a0, a1, a2, -, -⟩, ⟨b0, b1, b2, -, -⟩, -⟩ := HC.out
  go_wp2_with fail
  (with_reducible refine (HA.out _).mono ?_)
  rintro e w2 ⟨rfl, hb2⟩
  have HC2 := Lib.hid (HC.out.below hb2)
  clear hb2 g0 a0 a1 a2 b0 b1 b2
  obtain ⟨g0, ⟨a0, a1, a2, -, -⟩, ⟨b0, b1, b2, -, -⟩, -⟩ := HC2.out
  have HDX := Lib.hid (DecB.new w2 (x1 : Int) (x0 : Int) 75)
  have HC3 := Lib.hid (HC2.out.below ((Below.refl w2.heap.size w2).alloc (Nat.le_refl _) (.cells #[.int .i64 (x1 : Int), .int .i64 (x0 : Int)] 75)))
  have HBE := Lib.hid HC3.out.1
  go_wp2_with fail
  (with_reducible refine (HB.out _).mono ?_)
  rintro e w4 ⟨rfl, hb4⟩
  have HC4 := Lib.hid (HC3.out.below hb4)
  have HDX4 := Lib.hid (HDX.out.below hb4)
  have hbx0 : w.heap.size + 1 + 1 < w2.heap.size := by obtain ⟨-, -, -, m9, s9, h9, -⟩ := HC2.out; exact h9
  clear hb4 g0 a0 a1 a2 b0 b1 b2
  obtain ⟨bx, hbx⟩ : ∃ b, b = w2.heap.size := ⟨_, rfl⟩
  rw [← hbx] at HDX4 hbx0 ⊢
  clear hbx
  have HDY5 := Lib.hid (DecB.new w4 (y1 : Int) (y0 : Int) 75)
  have HDX5 := Lib.hid (HDX4.out.below ((Below.refl w4.heap.size w4).alloc (Nat.le_refl _) (.cells #[.int .i64 (y1 : Int), .int .i64 (y0 : Int)] 75)))
  have HC5 := Lib.hid (HC4.out.below ((Below.refl w4.heap.size w4).alloc (Nat.le_refl _) (.cells #[.int .i64 (y1 : Int), .int .i64 (y0 : Int)] 75)))
  have hby0 : bx < w4.heap.size := HDX4.out.1
  have HBX := Lib.hid (And.intro hbx0 hby0)
  obtain ⟨c0, c1, c2, c3, c4⟩ := HDX4.out
  rcases Bool.eq_false_or_eq_true p with rfl | rfl
  · rcases Bool.eq_false_or_eq_true q with rfl | rfl
    · have HW := Lib.hid (fun w => whole_any w (NX + NY) true (by obtain ⟨-, -, -, -, k1, k2⟩ := HXY.out; unfold Under20 at k1 k2; omega))
      rw [← wid_eq (NX + NY) ((x1 : Int) + y1 + ((x0 : Int) + y0) / 1000000000) (((x0 : Int) + y0) % 1000000000) (by obtain ⟨k1, k2, k3, k4, -⟩ := HXY.out; omega) (by obtain ⟨k1, k2, k3, k4, -⟩ := HXY.out; omega)] at HW
      have hvn : V = decP (nrm (if true then -((NX + NY : Nat) : Int) else ((NX + NY : Nat) : Int)) 6) := by
        rw [HV.out]; congr 2 <;> (simp only [Bool.false_eq_true, if_false, if_true]; try omega)
      rw [← hvn, HVT.out] at HW
      clear hvn
      have HCE := Lib.hid HC5.out
      go_wp2_with fail
      (with_reducible refine (HW.out _).mono ?_)
      rintro e w8 ⟨rfl, hb8⟩
      have HB8 := Lib.hid (HCE.out.below hb8)
      obtain ⟨r0, -, -, m3, s3, r1, r2, r3, r4, r5⟩ := HB8.out
      clear hb8
      go_wp2_with fail
      exact bodyPost_ret (v := .tuple #[.agg #[.int .i64 vm, .int .i64 vs], .bool vb]) (by simp [results, Tryz.results18, go_sem, r1, r2, r3]) rfl ⟨by rw [HVT.out], (TwoS.put HB8.out).1⟩
    · rcases Nat.lt_or_ge NX NY with hcmp | hcmp
      · have HLE := Lib.hid hcmp
        clear hcmp
        by_cases hneg : (y0 : Int) < x0
        rotate_left
        · have HW := Lib.hid (fun w => whole_any w (NY - NX) false (by obtain ⟨-, -, -, -, k1, k2⟩ := HXY.out; unfold Under20 at k1 k2; omega))
          rw [← wid_eq (NY - NX) ((y1 : Int) - x1) ((y0 : Int) - x0) (by obtain ⟨k1, k2, k3, k4, -⟩ := HXY.out; have := HLE.out; omega) (by obtain ⟨k1, k2, k3, k4, -⟩ := HXY.out; have := HLE.out; omega)] at HW
          have hvn : V = decP (nrm (if false then -((NY - NX : Nat) : Int) else ((NY - NX : Nat) : Int)) 6) := by
            rw [HV.out]; congr 2; simp only [Bool.false_eq_true, if_false, if_true]; have := HLE.out; omega
          rw [← hvn, HVT.out] at HW
          clear hvn
          go_wp2_with fail
          (with_reducible refine (HAB.out _).mono ?_)
          rintro e w6 ⟨rfl, hb6⟩
          have HC6 := Lib.hid (HC5.out.below hb6)
          have HDX6 := Lib.hid (HDX5.out.below hb6)
          have HDY6 := Lib.hid (HDY5.out.below hb6)
          obtain ⟨u0, u1, u2, u3, u4⟩ := HDX6.out
          obtain ⟨v0, v1, v2, v3, v4⟩ := HDY6.out
          clear hb6 c0 c1 c2 c3 c4
          have hcm : cmpI (NX : Int) (NY : Int) < 0 := by have := HLE.out; unfold cmpI; split <;> (try split) <;> omega
          have HC7 := Lib.hid (show TwoS w m s m2 s2 ((((w6.setCell ⟨bx, 0, none⟩ (.int .i64 (y1 : Int))).setCell ⟨bx, 1, none⟩ (.int .i64 (y0 : Int))).setCell ⟨w4.heap.size, 0, none⟩ (.int .i64 (x1 : Int))).setCell ⟨w4.heap.size, 1, none⟩ (.int .i64 (x0 : Int))) from (HC6.out.off (by have := HBX.out; omega)).off (by have := HBX.out; omega))
          have HCE := Lib.hid (HC7.out.below ((Below.refl _ _).alloc (Nat.le_refl _) (.cells #[.int .i64 ((y1 : Int) - x1), .int .i64 ((y0 : Int) - x0)] 75)))
          have hne : ¬ bx = w4.heap.size := by have := HBX.out; omega
          have hlo : ¬ ((y0 : Int) - x0) < 0 := by omega
          go_wp2_with fail
          (with_reducible refine (HW.out _).mono ?_)
          rintro e w8 ⟨rfl, hb8⟩
          have HB8 := Lib.hid (HCE.out.below hb8)
          obtain ⟨r0, -, -, m3, s3, r1, r2, r3, r4, r5⟩ := HB8.out
          clear hb8
          go_wp2_with fail
          exact bodyPost_ret (v := .tuple #[.agg #[.int .i64 vm, .int .i64 vs], .bool vb]) (by simp [results, Tryz.results18, go_sem, r1, r2, r3]) rfl ⟨by rw [HVT.out], (TwoS.put HB8.out).1⟩
        · have HW := Lib.hid (fun w => whole_any w (NY - NX) false (by obtain ⟨-, -, -, -, k1, k2⟩ := HXY.out; unfold Under20 at k1 k2; omega))
          rw [← wid_eq (NY - NX) ((y1 : Int) - x1 - 1) ((y0 : Int) - x0 + 1000000000) (by obtain ⟨k1, k2, k3, k4, -⟩ := HXY.out; have := HLE.out; omega) (by obtain ⟨k1, k2, k3, k4, -⟩ := HXY.out; have := HLE.out; omega)] at HW
          have hvn : V = decP (nrm (if false then -((NY - NX : Nat) : Int) else ((NY - NX : Nat) : Int)) 6) := by
            rw [HV.out]; congr 2; simp only [Bool.false_eq_true, if_false, if_true]; have := HLE.out; omega
          rw [← hvn, HVT.out] at HW
          clear hvn
          go_wp2_with fail
          (with_reducible refine (HAB.out _).mono ?_)
          rintro e w6 ⟨rfl, hb6⟩
          have HC6 := Lib.hid (HC5.out.below hb6)
          have HDX6 := Lib.hid (HDX5.out.below hb6)
          have HDY6 := Lib.hid (HDY5.out.below hb6)
          obtain ⟨u0, u1, u2, u3, u4⟩ := HDX6.out
          obtain ⟨v0, v1, v2, v3, v4⟩ := HDY6.out
          clear hb6 c0 c1 c2 c3 c4
          have hcm : cmpI (NX : Int) (NY : Int) < 0 := by have := HLE.out; unfold cmpI; split <;> (try split) <;> omega
          have HC7 := Lib.hid (show TwoS w m s m2 s2 ((((w6.setCell ⟨bx, 0, none⟩ (.int .i64 (y1 : Int))).setCell ⟨bx, 1, none⟩ (.int .i64 (y0 : Int))).setCell ⟨w4.heap.size, 0, none⟩ (.int .i64 (x1 : Int))).setCell ⟨w4.heap.size, 1, none⟩ (.int .i64 (x0 : Int))) from (HC6.out.off (by have := HBX.out; omega)).off (by have := HBX.out; omega))
          have HCE := Lib.hid (HC7.out.below ((Below.refl _ _).alloc (Nat.le_refl _) (.cells #[.int .i64 ((y1 : Int) - x1 - 1), .int .i64 ((y0 : Int) - x0 + 1000000000)] 75)))
          have hne : ¬ bx = w4.heap.size := by have := HBX.out; omega
          have hlo : ((y0 : Int) - x0) < 0 := by omega
          go_wp2_with fail
          (with_reducible refine (HW.out _).mono ?_)
          rintro e w8 ⟨rfl, hb8⟩
          have HB8 := Lib.hid (HCE.out.below hb8)
          obtain ⟨r0, -, -, m3, s3, r1, r2, r3, r4, r5⟩ := HB8.out
          clear hb8
          go_wp2_with fail
          exact bodyPost_ret (v := .tuple #[.agg #[.int .i64 vm, .int .i64 vs], .bool vb]) (by simp [results, Tryz.results18, go_sem, r1, r2, r3]) rfl ⟨by rw [HVT.out], (TwoS.put HB8.out).1⟩
      · have HLE := Lib.hid hcmp
        clear hcmp
        by_cases hneg : (x0 : Int) < y0
        rotate_left
        · have HW := Lib.hid (fun w => whole_any w (NX - NY) true (by obtain ⟨-, -, -, -, k1, k2⟩ := HXY.out; unfold Under20 at k1 k2; omega))
          rw [← wid_eq (NX - NY) ((x1 : Int) - y1) ((x0 : Int) - y0) (by obtain ⟨k1, k2, k3, k4, -⟩ := HXY.out; have := HLE.out; omega) (by obtain ⟨k1, k2, k3, k4, -⟩ := HXY.out; have := HLE.out; omega)] at HW
          have hvn : V = decP (nrm (if true then -((NX - NY : Nat) : Int) else ((NX - NY : Nat) : Int)) 6) := by
            rw [HV.out]; congr 2; simp only [Bool.false_eq_true, if_false, if_true]; have := HLE.out; omega
          rw [← hvn, HVT.out] at HW
          clear hvn
          go_wp2_with fail
          (with_reducible refine (HAB.out _).mono ?_)
          rintro e w6 ⟨rfl, hb6⟩
          have HC6 := Lib.hid (HC5.out.below hb6)
          have HDX6 := Lib.hid (HDX5.out.below hb6)
          have HDY6 := Lib.hid (HDY5.out.below hb6)
          obtain ⟨u0, u1, u2, u3, u4⟩ := HDX6.out
          obtain ⟨v0, v1, v2, v3, v4⟩ := HDY6.out
          clear hb6 c0 c1 c2 c3 c4
          have hcm : ¬ cmpI (NX : Int) (NY : Int) < 0 := by have := HLE.out; unfold cmpI; split <;> (try split) <;> omega
          have HCE := Lib.hid (HC6.out.below ((Below.refl w6.heap.size w6).alloc (Nat.le_refl _) (.cells #[.int .i64 ((x1 : Int) - y1), .int .i64 ((x0 : Int) - y0)] 75)))
          have hlo : ¬ ((x0 : Int) - y0) < 0 := by omega
          go_wp2_with fail
          (with_reducible refine (HW.out _).mono ?_)
          rintro e w8 ⟨rfl, hb8⟩
          have HB8 := Lib.hid (HCE.out.below hb8)
          obtain ⟨r0, -, -, m3, s3, r1, r2, r3, r4, r5⟩ := HB8.out
          clear hb8
          go_wp2_with fail
          exact bodyPost_ret (v := .tuple #[.agg #[.int .i64 vm, .int .i64 vs], .bool vb]) (by simp [results, Tryz.results18, go_sem, r1, r2, r3]) rfl ⟨by rw [HVT.out], (TwoS.put HB8.out).1⟩
        · have HW := Lib.hid (fun w => whole_any w (NX - NY) true (by obtain ⟨-, -, -, -, k1, k2⟩ := HXY.out; unfold Under20 at k1 k2; omega))
          rw [← wid_eq (NX - NY) ((x1 : Int) - y1 - 1) ((x0 : Int) - y0 + 1000000000) (by obtain ⟨k1, k2, k3, k4, -⟩ := HXY.out; have := HLE.out; omega) (by obtain ⟨k1, k2, k3, k4, -⟩ := HXY.out; have := HLE.out; omega)] at HW
          have hvn : V = decP (nrm (if true then -((NX - NY : Nat) : Int) else ((NX - NY : Nat) : Int)) 6) := by
            rw [HV.out]; congr 2; simp only [Bool.false_eq_true, if_false, if_true]; have := HLE.out; omega
          rw [← hvn, HVT.out] at HW
          clear hvn
          go_wp2_with fail
          (with_reducible refine (HAB.out _).mono ?_)
          rintro e w6 ⟨rfl, hb6⟩
          have HC6 := Lib.hid (HC5.out.below hb6)
          have HDX6 := Lib.hid (HDX5.out.below hb6)
          have HDY6 := Lib.hid (HDY5.out.below hb6)
          obtain ⟨u0, u1, u2, u3, u4⟩ := HDX6.out
          obtain ⟨v0, v1, v2, v3, v4⟩ := HDY6.out
          clear hb6 c0 c1 c2 c3 c4
          have hcm : ¬ cmpI (NX : Int) (NY : Int) < 0 := by have := HLE.out; unfold cmpI; split <;> (try split) <;> omega
          have HCE := Lib.hid (HC6.out.below ((Below.refl w6.heap.size w6).alloc (Nat.le_refl _) (.cells #[.int .i64 ((x1 : Int) - y1 - 1), .int .i64 ((x0 : Int) - y0 + 1000000000)] 75)))
          have hlo : ((x0 : Int) - y0) < 0 := by omega
          go_wp2_with fail
          (with_reducible refine (HW.out _).mono ?_)
          rintro e w8 ⟨rfl, hb8⟩
          have HB8 := Lib.hid (HCE.out.below hb8)
          obtain ⟨r0, -, -, m3, s3, r1, r2, r3, r4, r5⟩ := HB8.out
          clear hb8
          go_wp2_with fail
          exact bodyPost_ret (v := .tuple #[.agg #[.int .i64 vm, .int .i64 vs], .bool vb]) (by simp [results, Tryz.results18, go_sem, r1, r2, r3]) rfl ⟨by rw [HVT.out], (TwoS.put HB8.out).1⟩
  · rcases Bool.eq_false_or_eq_true q with rfl | rfl
    · rcases Nat.lt_or_ge NX NY with hcmp | hcmp
      · have HLE := Lib.hid hcmp
        clear hcmp
        by_cases hneg : (y0 : Int) < x0
        rotate_left
        · have HW := Lib.hid (fun w => whole_any w (NY - NX) true (by obtain ⟨-, -, -, -, k1, k2⟩ := HXY.out; unfold Under20 at k1 k2; omega))
          rw [← wid_eq (NY - NX) ((y1 : Int) - x1) ((y0 : Int) - x0) (by obtain ⟨k1, k2, k3, k4, -⟩ := HXY.out; have := HLE.out; omega) (by obtain ⟨k1, k2, k3, k4, -⟩ := HXY.out; have := HLE.out; omega)] at HW
          have hvn : V = decP (nrm (if true then -((NY - NX : Nat) : Int) else ((NY - NX : Nat) : Int)) 6) := by
            rw [HV.out]; congr 2; simp only [Bool.false_eq_true, if_false, if_true]; have := HLE.out; omega
          rw [← hvn, HVT.out] at HW
          clear hvn
          go_wp2_with fail
          (with_reducible refine (HAB.out _).mono ?_)
          rintro e w6 ⟨rfl, hb6⟩
          have HC6 := Lib.hid (HC5.out.below hb6)
          have HDX6 := Lib.hid (HDX5.out.below hb6)
          have HDY6 := Lib.hid (HDY5.out.below hb6)
          obtain ⟨u0, u1, u2, u3, u4⟩ := HDX6.out
          obtain ⟨v0, v1, v2, v3, v4⟩ := HDY6.out
          clear hb6 c0 c1 c2 c3 c4
          have hcm : cmpI (NX : Int) (NY : Int) < 0 := by have := HLE.out; unfold cmpI; split <;> (try split) <;> omega
          have HC7 := Lib.hid (show TwoS w m s m2 s2 ((((w6.setCell ⟨bx, 0, none⟩ (.int .i64 (y1 : Int))).setCell ⟨bx, 1, none⟩ (.int .i64 (y0 : Int))).setCell ⟨w4.heap.size, 0, none⟩ (.int .i64 (x1 : Int))).setCell ⟨w4.heap.size, 1, none⟩ (.int .i64 (x0 : Int))) from (HC6.out.off (by have := HBX.out; omega)).off (by have := HBX.out; omega))
          have HCE := Lib.hid (HC7.out.below ((Below.refl _ _).alloc (Nat.le_refl _) (.cells #[.int .i64 ((y1 : Int) - x1), .int .i64 ((y0 : Int) - x0)] 75)))
          have hne : ¬ bx = w4.heap.size := by have := HBX.out; omega
          have hlo : ¬ ((y0 : Int) - x0) < 0 := by omega
          go_wp2_with fail
          (with_reducible refine (HW.out _).mono ?_)
          rintro e w8 ⟨rfl, hb8⟩
          have HB8 := Lib.hid (HCE.out.below hb8)
          obtain ⟨r0, -, -, m3, s3, r1, r2, r3, r4, r5⟩ := HB8.out
          clear hb8
          go_wp2_with fail
          exact bodyPost_ret (v := .tuple #[.agg #[.int .i64 vm, .int .i64 vs], .bool vb]) (by simp [results, Tryz.results18, go_sem, r1, r2, r3]) rfl ⟨by rw [HVT.out], (TwoS.put HB8.out).1⟩
        · have HW := Lib.hid (fun w => whole_any w (NY - NX) true (by obtain ⟨-, -, -, -, k1, k2⟩ := HXY.out; unfold Under20 at k1 k2; omega))
          rw [← wid_eq (NY - NX) ((y1 : Int) - x1 - 1) ((y0 : Int) - x0 + 1000000000) (by obtain ⟨k1, k2, k3, k4, -⟩ := HXY.out; have := HLE.out; omega) (by obtain ⟨k1, k2, k3, k4, -⟩ := HXY.out; have := HLE.out; omega)] at HW
          have hvn : V = decP (nrm (if true then -((NY - NX : Nat) : Int) else ((NY - NX : Nat) : Int)) 6) := by
            rw [HV.out]; congr 2; simp only [Bool.false_eq_true, if_false, if_true]; have := HLE.out; omega
          rw [← hvn, HVT.out] at HW
          clear hvn
          go_wp2_with fail
          (with_reducible refine (HAB.out _).mono ?_)
          rintro e w6 ⟨rfl, hb6⟩
          have HC6 := Lib.hid (HC5.out.below hb6)
          have HDX6 := Lib.hid (HDX5.out.below hb6)
          have HDY6 := Lib.hid (HDY5.out.below hb6)
          obtain ⟨u0, u1, u2, u3, u4⟩ := HDX6.out
          obtain ⟨v0, v1, v2, v3, v4⟩ := HDY6.out
          clear hb6 c0 c1 c2 c3 c4
          have hcm : cmpI (NX : Int) (NY : Int) < 0 := by have := HLE.out; unfold cmpI; split <;> (try split) <;> omega
          have HC7 := Lib.hid (show TwoS w m s m2 s2 ((((w6.setCell ⟨bx, 0, none⟩ (.int .i64 (y1 : Int))).setCell ⟨bx, 1, none⟩ (.int .i64 (y0 : Int))).setCell ⟨w4.heap.size, 0, none⟩ (.int .i64 (x1 : Int))).setCell ⟨w4.heap.size, 1, none⟩ (.int .i64 (x0 : Int))) from (HC6.out.off (by have := HBX.out; omega)).off (by have := HBX.out; omega))
          have HCE := Lib.hid (HC7.out.below ((Below.refl _ _).alloc (Nat.le_refl _) (.cells #[.int .i64 ((y1 : Int) - x1 - 1), .int .i64 ((y0 : Int) - x0 + 1000000000)] 75)))
          have hne : ¬ bx = w4.heap.size := by have := HBX.out; omega
          have hlo : ((y0 : Int) - x0) < 0 := by omega
          go_wp2_with fail
          (with_reducible refine (HW.out _).mono ?_)
          rintro e w8 ⟨rfl, hb8⟩
          have HB8 := Lib.hid (HCE.out.below hb8)
          obtain ⟨r0, -, -, m3, s3, r1, r2, r3, r4, r5⟩ := HB8.out
          clear hb8
          go_wp2_with fail
          exact bodyPost_ret (v := .tuple #[.agg #[.int .i64 vm, .int .i64 vs], .bool vb]) (by simp [results, Tryz.results18, go_sem, r1, r2, r3]) rfl ⟨by rw [HVT.out], (TwoS.put HB8.out).1⟩
      · have HLE := Lib.hid hcmp
        clear hcmp
        by_cases hneg : (x0 : Int) < y0
        rotate_left
        · have HW := Lib.hid (fun w => whole_any w (NX - NY) false (by obtain ⟨-, -, -, -, k1, k2⟩ := HXY.out; unfold Under20 at k1 k2; omega))
          rw [← wid_eq (NX - NY) ((x1 : Int) - y1) ((x0 : Int) - y0) (by obtain ⟨k1, k2, k3, k4, -⟩ := HXY.out; have := HLE.out; omega) (by obtain ⟨k1, k2, k3, k4, -⟩ := HXY.out; have := HLE.out; omega)] at HW
          have hvn : V = decP (nrm (if false then -((NX - NY : Nat) : Int) else ((NX - NY : Nat) : Int)) 6) := by
            rw [HV.out]; congr 2; simp only [Bool.false_eq_true, if_false, if_true]; have := HLE.out; omega
          rw [← hvn, HVT.out] at HW
          clear hvn
          go_wp2_with fail
          (with_reducible refine (HAB.out _).mono ?_)
          rintro e w6 ⟨rfl, hb6⟩
          have HC6 := Lib.hid (HC5.out.below hb6)
          have HDX6 := Lib.hid (HDX5.out.below hb6)
          have HDY6 := Lib.hid (HDY5.out.below hb6)
          obtain ⟨u0, u1, u2, u3, u4⟩ := HDX6.out
          obtain ⟨v0, v1, v2, v3, v4⟩ := HDY6.out
          clear hb6 c0 c1 c2 c3 c4
          have hcm : ¬ cmpI (NX : Int) (NY : Int) < 0 := by have := HLE.out; unfold cmpI; split <;> (try split) <;> omega
          have HCE := Lib.hid (HC6.out.below ((Below.refl w6.heap.size w6).alloc (Nat.le_refl _) (.cells #[.int .i64 ((x1 : Int) - y1), .int .i64 ((x0 : Int) - y0)] 75)))
          have hlo : ¬ ((x0 : Int) - y0) < 0 := by omega
          go_wp2_with fail
          (with_reducible refine (HW.out _).mono ?_)
          rintro e w8 ⟨rfl, hb8⟩
          have HB8 := Lib.hid (HCE.out.below hb8)
          obtain ⟨r0, -, -, m3, s3, r1, r2, r3, r4, r5⟩ := HB8.out
          clear hb8
          go_wp2_with fail
          exact bodyPost_ret (v := .tuple #[.agg #[.int .i64 vm, .int .i64 vs], .bool vb]) (by simp [results, Tryz.results18, go_sem, r1, r2, r3]) rfl ⟨by rw [HVT.out], (TwoS.put HB8.out).1⟩
        · have HW := Lib.hid (fun w => whole_any w (NX - NY) false (by obtain ⟨-, -, -, -, k1, k2⟩ := HXY.out; unfold Under20 at k1 k2; omega))
          rw [← wid_eq (NX - NY) ((x1 : Int) - y1 - 1) ((x0 : Int) - y0 + 1000000000) (by obtain ⟨k1, k2, k3, k4, -⟩ := HXY.out; have := HLE.out; omega) (by obtain ⟨k1, k2, k3, k4, -⟩ := HXY.out; have := HLE.out; omega)] at HW
          have hvn : V = decP (nrm (if false then -((NX - NY : Nat) : Int) else ((NX - NY : Nat) : Int)) 6) := by
            rw [HV.out]; congr 2; simp only [Bool.false_eq_true, if_false, if_true]; have := HLE.out; omega
          rw [← hvn, HVT.out] at HW
          clear hvn
          go_wp2_with fail
          (with_reducible refine (HAB.out _).mono ?_)
          rintro e w6 ⟨rfl, hb6⟩
          have HC6 := Lib.hid (HC5.out.below hb6)
          have HDX6 := Lib.hid (HDX5.out.below hb6)
          have HDY6 := Lib.hid (HDY5.out.below hb6)
          obtain ⟨u0, u1, u2, u3, u4⟩ := HDX6.out
          obtain ⟨v0, v1, v2, v3, v4⟩ := HDY6.out
          clear hb6 c0 c1 c2 c3 c4
          have hcm : ¬ cmpI (NX : Int) (NY : Int) < 0 := by have := HLE.out; unfold cmpI; split <;> (try split) <;> omega
          have HCE := Lib.hid (HC6.out.below ((Below.refl w6.heap.size w6).alloc (Nat.le_refl _) (.cells #[.int .i64 ((x1 : Int) - y1 - 1), .int .i64 ((x0 : Int) - y0 + 1000000000)] 75)))
          have hlo : ((x0 : Int) - y0) < 0 := by omega
          go_wp2_with fail
          (with_reducible refine (HW.out _).mono ?_)
          rintro e w8 ⟨rfl, hb8⟩
          have HB8 := Lib.hid (HCE.out.below hb8)
          obtain ⟨r0, -, -, m3, s3, r1, r2, r3, r4, r5⟩ := HB8.out
          clear hb8
          go_wp2_with fail
          exact bodyPost_ret (v := .tuple #[.agg #[.int .i64 vm, .int .i64 vs], .bool vb]) (by simp [results, Tryz.results18, go_sem, r1, r2, r3]) rfl ⟨by rw [HVT.out], (TwoS.put HB8.out).1⟩
    · have HW := Lib.hid (fun w => whole_any w (NX + NY) false (by obtain ⟨-, -, -, -, k1, k2⟩ := HXY.out; unfold Under20 at k1 k2; omega))
      rw [← wid_eq (NX + NY) ((x1 : Int) + y1 + ((x0 : Int) + y0) / 1000000000) (((x0 : Int) + y0) % 1000000000) (by obtain ⟨k1, k2, k3, k4, -⟩ := HXY.out; omega) (by obtain ⟨k1, k2, k3, k4, -⟩ := HXY.out; omega)] at HW
      have hvn : V = decP (nrm (if false then -((NX + NY : Nat) : Int) else ((NX + NY : Nat) : Int)) 6) := by
        rw [HV.out]; congr 2 <;> (simp only [Bool.false_eq_true, if_false, if_true]; try omega)
      rw [← hvn, HVT.out] at HW
      clear hvn
      have HCE := Lib.hid HC5.out
      go_wp2_with fail
      (with_reducible refine (HW.out _).mono ?_)
      rintro e w8 ⟨rfl, hb8⟩
      have HB8 := Lib.hid (HCE.out.below hb8)
      obtain ⟨r0, -, -, m3, s3, r1, r2, r3, r4, r5⟩ := HB8.out
      clear hb8
      go_wp2_with fail
      exact bodyPost_ret (v := .tuple #[.agg #[.int .i64 vm, .int .i64 vs], .bool vb]) (by simp [results, Tryz.results18, go_sem, r1, r2, r3]) rfl ⟨by rw [HVT.out], (TwoS.put HB8.out).1⟩

set_option maxHeartbeats 2000000 in
theorem rcmp_any (w : World) (m s m2 s2 : Int) (h : GoodD m s) (h2 : GoodD m2 s2) :
    Calls Tryz.prog 101 #[.agg #[.int .i64 m, .int .i64 s], .agg #[.int .i64 m2, .int .i64 s2]] w fun e w' =>
      e = .returned (.int .i64 (cmpI (sixI m s.toNat) (sixI m2 s2.toNat))) ∧ Below w.heap.size w w' := by
  obtain ⟨V, hV⟩ : ∃ V, V = cmpI (sixI m s.toNat) (sixI m2 s2.toNat) := ⟨_, rfl⟩
  rw [← hV]
  rw [six_size, six_size] at hV
  have HA := Lib.hid (fun w => sized_any w m s h)
  have HB := Lib.hid (fun w => sized_any w m2 s2 h2)
  obtain ⟨p, hp⟩ : ∃ p, p = decide (m < 0) := ⟨_, rfl⟩
  obtain ⟨q, hq⟩ : ∃ q, q = decide (m2 < 0) := ⟨_, rfl⟩
  have hz : (p = true → 0 < sizeN m s.toNat) ∧ (q = true → 0 < sizeN m2 s2.toNat) := by
    constructor
    · intro e
      have : m < 0 := by rw [hp] at e; exact of_decide_eq_true e
      exact Nat.mul_pos (by omega) (Nat.pow_pos (by decide))
    · intro e
      have : m2 < 0 := by rw [hq] at e; exact of_decide_eq_true e
      exact Nat.mul_pos (by omega) (Nat.pow_pos (by decide))
  generalize sizeN m s.toNat = NX at *
  generalize sizeN m2 s2.toNat = NY at *
  have hV2 : V = cmpI (if p then -(NX : Int) else (NX : Int)) (if q then -(NY : Int) else (NY : Int)) := by
    rw [hV, hp, hq]; simp
  rw [← hp] at HA
  rw [← hq] at HB
  have HV := Lib.hid hV2
  have HZ := Lib.hid hz
  have HC := Lib.hid (cmp_boxes w m s m2 s2 44)
  obtain ⟨x1, hx1⟩ : ∃ a, a = NX / 1000000000 := ⟨_, rfl⟩
  obtain ⟨x0, hx0⟩ : ∃ a, a = NX % 1000000000 := ⟨_, rfl⟩
  obtain ⟨y1, hy1⟩ : ∃ a, a = NY / 1000000000 := ⟨_, rfl⟩
  obtain ⟨y0, hy0⟩ : ∃ a, a = NY % 1000000000 := ⟨_, rfl⟩
  have hwx : wid NX = .agg #[.int .i64 (x1 : Int), .int .i64 (x0 : Int)] := by rw [hx1, hx0]; rfl
  have hwy : wid NY = .agg #[.int .i64 (y1 : Int), .int .i64 (y0 : Int)] := by rw [hy1, hy0]; rfl
  rw [hwx] at HA
  rw [hwy] at HB
  clear hV hV2 hp hq h h2 hx1 hx0 hy1 hy0 hz
  go_enter Tryz.func101, Tryz.ntmps101
  go_wp2_with fail
  generalize World.alloc (World.alloc w _) _ = w1 at HC ⊢
  obtain ⟨g0, ⟨a0, a1, a2, -, -⟩, ⟨b0, b1, b2, -, -⟩⟩ := HC.out
  go_wp2_with fail
  (with_reducible refine (HA.out _).mono ?_)
  rintro e w2 ⟨rfl, hb2⟩
  have HC2 := Lib.hid (HC.out.below hb2)
  clear hb2 g0 a0 a1 a2 b0 b1 b2
  obtain ⟨g0, ⟨a0, a1, a2, -, -⟩, ⟨b0, b1, b2, -, -⟩⟩ := HC2.out
  have HDX := Lib.hid (DecB.new w2 (x1 : Int) (x0 : Int) 75)
  have HC3 := Lib.hid (HC2.out.below ((Below.refl w2.heap.size w2).alloc (Nat.le_refl _) (.cells #[.int .i64 (x1 : Int), .int .i64 (x0 : Int)] 75)))
  go_wp2_with fail
  (with_reducible refine (HB.out _).mono ?_)
  rintro e w4 ⟨rfl, hb4⟩
  have HC4 := Lib.hid (HC3.out.below hb4)
  have HDX4 := Lib.hid (HDX.out.below hb4)
  clear hb4 g0 a0 a1 a2 b0 b1 b2
  obtain ⟨bx, hbx⟩ : ∃ b, b = w2.heap.size := ⟨_, rfl⟩
  rw [← hbx] at HDX4 ⊢
  clear hbx
  have HC5 := Lib.hid (HC4.out.below ((Below.refl w4.heap.size w4).alloc (Nat.le_refl _) (.cells #[.int .i64 (y1 : Int), .int .i64 (y0 : Int)] 75)))
  obtain ⟨c0, c1, c2, c3, c4⟩ := HDX4.out
  rcases Bool.eq_false_or_eq_true p with rfl | rfl
  · rcases Bool.eq_false_or_eq_true q with rfl | rfl
    · have HVN := Lib.hid (show V = cmpI (NY : Int) (NX : Int) by rw [HV.out]; simp only [Bool.false_eq_true, if_false, if_true]; exact cmp_negs _ _)
      have HAB := Lib.hid (fun w => above_any w NY NX)
      rw [hwx, hwy] at HAB
      go_wp2_with fail
      (with_reducible refine (HAB.out _).mono ?_)
      rintro e w6 ⟨rfl, hb6⟩
      have HC6 := Lib.hid (HC5.out.below hb6)
      clear hb6
      go_wp2_with fail
      go_ret
      exact ⟨by rw [HVN.out]; rfl, HC6.out.1⟩
    · go_wp2_with fail
      go_ret
      exact ⟨by rw [HV.out]; unfold cmpI; simp only [Bool.false_eq_true, if_false, if_true]; rw [if_pos (by have := HZ.out; simp at this; omega)]; rfl, HC5.out.1⟩
  · rcases Bool.eq_false_or_eq_true q with rfl | rfl
    · go_wp2_with fail
      go_ret
      exact ⟨by rw [HV.out]; unfold cmpI; simp only [Bool.false_eq_true, if_false, if_true]; rw [if_neg (by have := HZ.out; simp at this; omega), if_pos (by have := HZ.out; simp at this; omega)]; rfl, HC5.out.1⟩
    · have HVN := Lib.hid (show V = cmpI (NX : Int) (NY : Int) by rw [HV.out]; simp only [Bool.false_eq_true, if_false, if_true])
      have HAB := Lib.hid (fun w => above_any w NX NY)
      rw [hwx, hwy] at HAB
      go_wp2_with fail
      (with_reducible refine (HAB.out _).mono ?_)
      rintro e w6 ⟨rfl, hb6⟩
      have HC6 := Lib.hid (HC5.out.below hb6)
      clear hb6
      go_wp2_with fail
      go_ret
      exact ⟨by rw [HVN.out]; rfl, HC6.out.1⟩
end Go.Proofs.YtecomfhbdonkbaaGreatDoor
/- Sums and orders: both ways the same, plainly. -/
namespace Go.Proofs.YtecomfhbdonkbaaGreatDoor
open Go.RowKit Go.Shelf Flo
set_option maxRecDepth 100000
set_option linter.unusedVariables false
set_option linter.unusedSimpArgs false

theorem nrm_ten (n : Int) : ∀ (j k : Nat), nrm (n * (10 ^ j : Nat)) (k + j) = nrm n k
  | 0, k => by simp
  | j + 1, k => by
    have e : n * ((10 ^ (j + 1) : Nat) : Int) = 10 * (n * ((10 ^ j : Nat) : Int)) := by
      rw [Nat.pow_succ, Int.natCast_mul, ← Int.mul_assoc, Int.mul_comm (n * _)]; rfl
    rw [e, nrm_go (k + (j + 1)) (by omega) (by omega)]
    rw [show 10 * (n * ((10 ^ j : Nat) : Int)) / 10 = n * ((10 ^ j : Nat) : Int) by omega]
    exact nrm_ten n j k

/-- the sum at the place of the one that has more digits behind the point. -/
def addT (m : Int) (k : Nat) (m2 : Int) (k2 : Nat) : Int := m * (10 ^ (max k k2 - k) : Nat) + m2 * (10 ^ (max k k2 - k2) : Nat)

theorem addT_six (m m2 : Int) (k k2 : Nat) (hk : k ≤ 6) (hk2 : k2 ≤ 6) : sixI m k + sixI m2 k2 = addT m k m2 k2 * (10 ^ (6 - max k k2) : Nat) := by
  unfold sixI addT
  rw [Int.add_mul, Int.mul_assoc, Int.mul_assoc, ← Int.natCast_mul, ← Int.natCast_mul, ← Nat.pow_add, ← Nat.pow_add]
  rw [show max k k2 - k + (6 - max k k2) = 6 - k by omega, show max k k2 - k2 + (6 - max k k2) = 6 - k2 by omega]

theorem addT_last {m m2 : Int} {k k2 : Nat} (h : GoodD m (k : Int)) (h2 : GoodD m2 (k2 : Int)) : (addT m k m2 k2).natAbs < 2 ^ 53 ∨ max k k2 = 0 ∨ ¬ addT m k m2 k2 % 10 = 0 := by
  have ha := h.abs
  have hb := h2.abs
  rcases Nat.lt_trichotomy k k2 with hlt | rfl | hlt
  · right; right
    unfold addT
    rw [show max k k2 = k2 by omega, Nat.sub_self, Nat.pow_zero]
    obtain ⟨j, hj⟩ : ∃ j, k2 - k = j + 1 := ⟨k2 - k - 1, by omega⟩
    rw [hj, Nat.pow_succ, Int.natCast_mul]
    have : ¬ m2 % 10 = 0 := by
      rcases h2.2.2.2.2 with h | h
      · omega
      · exact h
    rw [← Int.mul_assoc]
    generalize m * ((10 ^ j : Nat) : Int) = z
    omega
  · left
    unfold addT
    rw [Nat.max_self, Nat.sub_self, Nat.pow_zero, p53]
    omega
  · right; right
    unfold addT
    rw [show max k k2 = k by omega, Nat.sub_self, Nat.pow_zero]
    obtain ⟨j, hj⟩ : ∃ j, k - k2 = j + 1 := ⟨k - k2 - 1, by omega⟩
    rw [hj, Nat.pow_succ, Int.natCast_mul]
    have : ¬ m % 10 = 0 := by
      rcases h.2.2.2.2 with h | h
      · omega
      · exact h
    rw [← Int.mul_assoc]
    generalize m2 * ((10 ^ j : Nat) : Int) = z
    omega

theorem shrt_of {T : Int} {S : Nat} (h : T.natAbs < 2 ^ 53 ∨ S = 0 ∨ ¬ T % 10 = 0) : shrt T S = nrm T S := by
  unfold shrt
  split
  · rfl
  · rename_i hb
    rcases h with h | h | h
    · exact absurd h hb
    · rw [h]; rfl
    · exact (nrm_stay _ _ h).symm

/-- Add and triadref13's Add answer the same. -/
theorem add_same {m m2 : Int} {k k2 : Nat} (h : GoodD m (k : Int)) (h2 : GoodD m2 (k2 : Int)) : decV (addT m k m2 k2) (max k k2) = decP (nrm (sixI m k + sixI m2 k2) 6) := by
  have hk : k ≤ 6 := by have := h.2.2.2.1; omega
  have hk2 : k2 ≤ 6 := by have := h2.2.2.2.1; omega
  rw [decV_eq, shrt_of (addT_last h h2), addT_six m m2 k k2 hk hk2]
  have := nrm_ten (addT m k m2 k2) (6 - max k k2) (max k k2)
  rw [show max k k2 + (6 - max k k2) = 6 by omega] at this
  rw [this]

theorem cmpI_mul (a b : Int) {c : Int} (h : 0 < c) : cmpI (a * c) (b * c) = cmpI a b := by
  unfold cmpI
  have h1 : a * c < b * c ↔ a < b := ⟨fun x => Int.lt_of_mul_lt_mul_right x (Int.le_of_lt h), fun x => Int.mul_lt_mul_of_pos_right x h⟩
  have h2 : b * c < a * c ↔ b < a := ⟨fun x => Int.lt_of_mul_lt_mul_right x (Int.le_of_lt h), fun x => Int.mul_lt_mul_of_pos_right x h⟩
  simp only [h1, h2]

/-- Cmp and triadref13's Cmp answer the same. -/
theorem cmp_same (m m2 : Int) (k k2 : Nat) (hk : k ≤ 6) (hk2 : k2 ≤ 6) : cmpI (m * (10 ^ (max k k2 - k) : Nat)) (m2 * (10 ^ (max k k2 - k2) : Nat)) = cmpI (sixI m k) (sixI m2 k2) := by
  have hp : (0 : Int) < ((10 ^ (6 - max k k2) : Nat) : Int) := by
    have := Nat.pow_pos (n := 6 - max k k2) (show 0 < 10 by decide)
    omega
  rw [← cmpI_mul _ _ hp]
  unfold sixI
  rw [Int.mul_assoc, Int.mul_assoc, ← Int.natCast_mul, ← Int.natCast_mul, ← Nat.pow_add, ← Nat.pow_add]
  rw [show max k k2 - k + (6 - max k k2) = 6 - k by omega, show max k k2 - k2 + (6 - max k k2) = 6 - k2 by omega]

/-- one number is one decimal. -/
theorem six_inj {m m2 : Int} {k k2 : Nat} (h : GoodD m (k : Int)) (h2 : GoodD m2 (k2 : Int)) (e : sixI m k = sixI m2 k2) : m = m2 ∧ k = k2 := by
  have hk : k ≤ 6 := by have := h.2.2.2.1; omega
  have hk2 : k2 ≤ 6 := by have := h2.2.2.2.1; omega
  have n1 := nrm_ten m (6 - k) k
  have n2 := nrm_ten m2 (6 - k2) k2
  rw [show k + (6 - k) = 6 by omega] at n1
  rw [show k2 + (6 - k2) = 6 by omega] at n2
  have s1 : nrm m k = (m, k) := by
    rcases h.2.2.2.2 with h | h
    · have : k = 0 := by omega
      rw [this]; rfl
    · exact nrm_stay _ _ h
  have s2 : nrm m2 k2 = (m2, k2) := by
    rcases h2.2.2.2.2 with h | h
    · have : k2 = 0 := by omega
      rw [this]; rfl
    · exact nrm_stay _ _ h
  have : nrm (sixI m k) 6 = nrm (sixI m2 k2) 6 := by rw [e]
  unfold sixI at this
  rw [n1, n2, s1, s2] at this
  exact ⟨congrArg Prod.fst this, congrArg Prod.snd this⟩
theorem nrm_self {m : Int} {k : Nat} (h : GoodD m (k : Int)) : nrm m k = (m, k) := by
  rcases h.2.2.2.2 with h | h
  · have : k = 0 := by omega
    rw [this]; rfl
  · exact nrm_stay _ _ h
theorem nrm_six {m : Int} {k : Nat} (h : GoodD m (k : Int)) : nrm (sixI m k) 6 = (m, k) := by
  have hk : k ≤ 6 := by have := h.2.2.2.1; omega
  have n1 := nrm_ten m (6 - k) k
  rw [show k + (6 - k) = 6 by omega] at n1
  unfold sixI
  rw [n1, nrm_self h]
/-- what nrm leaves, led to six digits, is what it was. -/
theorem six_nrm : ∀ (k : Nat) (n : Int), k ≤ 6 → sixI (nrm n k).1 (nrm n k).2 = sixI n k
  | 0, n, h => rfl
  | k + 1, n, h => by
    by_cases hd : n % 10 = 0
    · rw [nrm_go (k + 1) (by omega) hd]
      rw [show k + 1 - 1 = k from rfl, six_nrm k (n / 10) (by omega)]
      unfold sixI
      rw [show 6 - k = (6 - (k + 1)) + 1 by omega, Nat.pow_succ, Int.natCast_mul]
      have : n = 10 * (n / 10) := by omega
      conv => rhs; rw [this]
      rw [Int.mul_comm ((10 ^ (6 - (k + 1)) : Nat) : Int), ← Int.mul_assoc, Int.mul_comm (n / 10)]
      rfl
    · rw [nrm_stay _ _ hd]
theorem good_neg {m s : Int} (h : GoodD m s) : GoodD (-m) s := by
  obtain ⟨h1, h2, h3, h4, h5⟩ := h
  exact ⟨by omega, by omega, h3, h4, by omega⟩
theorem six_neg (m : Int) (k : Nat) : sixI (-m) k = -sixI m k := by unfold sixI; rw [Int.neg_mul]
end Go.Proofs.YtecomfhbdonkbaaGreatDoor
/- DecAdds: the walk. -/
namespace Go.Proofs.YtecomfhbdonkbaaGreatDoor
open Go.RowKit Go.Shelf Flo
set_option maxRecDepth 100000
set_option linter.unusedVariables false
set_option linter.unusedSimpArgs false

/-- Add, said by six digits. -/
theorem add_six (w : World) (m s m2 s2 : Int) (h : GoodD m s) (h2 : GoodD m2 s2) (hP : PowAt w) :
    Calls Tryz.prog 122 #[.agg #[.int .i64 m, .int .i64 s], .agg #[.int .i64 m2, .int .i64 s2]] w fun e w' =>
      e = .returned (decP (nrm (sixI m s.toNat + sixI m2 s2.toNat) 6)) ∧ Below w.heap.size w w' := by
  obtain ⟨k, rfl⟩ : ∃ k : Nat, s = k := ⟨s.toNat, by have := h.2.2.1; omega⟩
  obtain ⟨k2, rfl⟩ : ∃ k : Nat, s2 = k := ⟨s2.toNat, by have := h2.2.2.1; omega⟩
  have := add_any w m k m2 k2 h h2 hP
  simp only [Int.toNat_natCast] at this ⊢
  rw [← add_same h h2]
  exact this
/-- Cmp, said by six digits. -/
theorem cmp_six (w : World) (m s m2 s2 : Int) (h : GoodD m s) (h2 : GoodD m2 s2) (hP : PowAt w) :
    Calls Tryz.prog 40 #[.agg #[.int .i64 m, .int .i64 s], .agg #[.int .i64 m2, .int .i64 s2]] w fun e w' =>
      e = .returned (.int .i64 (cmpI (sixI m s.toNat) (sixI m2 s2.toNat))) ∧ Below w.heap.size w w' := by
  obtain ⟨k, rfl⟩ : ∃ k : Nat, s = k := ⟨s.toNat, by have := h.2.2.1; omega⟩
  obtain ⟨k2, rfl⟩ : ∃ k : Nat, s2 = k := ⟨s2.toNat, by have := h2.2.2.1; omega⟩
  have := cmp_any w m k m2 k2 h h2 hP
  simp only [Int.toNat_natCast] at this ⊢
  rw [← cmp_same m m2 k k2 (by have := h.2.2.2.1; omega) (by have := h2.2.2.2.1; omega)]
  exact this

/-- a number that fits into 64 bits. -/
def In64 (x : Int) : Prop := -9223372036854775808 ≤ x ∧ x ≤ 9223372036854775807
theorem in64_wf {a : Int} (h : (Lit.int .i64 a).wf = true) : In64 a := by
  have h' : IntKind.i64.min ≤ a ∧ a ≤ IntKind.i64.max := by simpa [Lit.wf] using h
  have e1 : IntKind.i64.min = -9223372036854775808 := by decide
  have e2 : IntKind.i64.max = 9223372036854775807 := by decide
  rw [e1, e2] at h'
  exact h'
/-- some blocks of decimals. -/
def Blks (w : World) (l : List (Nat × Int × Int)) : Prop := ∀ x ∈ l, DecB w x.1 x.2.1 x.2.2
theorem Blks.below {w w' : World} {l : List (Nat × Int × Int)} (h : Blks w l) (hb : Below w.heap.size w w') : Blks w' l := fun x hx => (h x hx).below hb
theorem Blks.more {w : World} {l : List (Nat × Int × Int)} {b : Nat} {m s : Int} (h : Blks w l) (hb : DecB w b m s) : Blks w ((b, m, s) :: l) := fun x hx => by
  rcases List.mem_cons.1 hx with rfl | hx
  · exact hb
  · exact h x hx
theorem Blks.new {w : World} {l : List (Nat × Int × Int)} {m s : Int} {t : TypeId} (h : Blks w l) : Blks (w.alloc (.cells #[.int .i64 m, .int .i64 s] t)) ((w.heap.size, m, s) :: l) :=
  (h.below ((Below.refl _ _).alloc (Nat.le_refl _) _)).more (DecB.new w m s t)
theorem Blks.head {w : World} {l : List (Nat × Int × Int)} {b : Nat} {m s : Int} (h : Blks w ((b, m, s) :: l)) : DecB w b m s := h _ (List.mem_cons_self ..)
theorem Blks.tail {w : World} {l : List (Nat × Int × Int)} {x : Nat × Int × Int} (h : Blks w (x :: l)) : Blks w l := fun y hy => h y (List.mem_cons_of_mem _ hy)

theorem nrm_last : ∀ (k : Nat) (n : Int), (nrm n k).2 = 0 ∨ ¬ (nrm n k).1 % 10 = 0
  | 0, n => .inl rfl
  | k + 1, n => by
    by_cases h : n % 10 = 0
    · rw [nrm_go (k + 1) (by omega) h]; exact nrm_last k (n / 10)
    · rw [nrm_stay _ _ h]; exact .inr h
/-- what comes of a sum is a decimal of that number. -/
theorem dec_of {Z vm vs : Int} (h : decP (nrm Z 6) = .tuple #[.agg #[.int .i64 vm, .int .i64 vs], .bool true]) : GoodD vm vs ∧ sixI vm vs.toNat = Z := by
  unfold decP at h
  split at h
  · rename_i hf
    simp at h
    obtain ⟨h1, h2⟩ := h
    simp [fitsL] at hf
    have hl := nrm_last 6 Z
    have hs := six_nrm 6 Z (by decide)
    rw [h1] at hl hf hs
    have h3 : (nrm Z 6).2 = vs.toNat := by omega
    rw [h3] at hl hf hs
    refine ⟨⟨by omega, by omega, by omega, by omega, by omega⟩, ?_⟩
    rw [hs]; unfold sixI; simp
  · simp at h
theorem dec_self {m s : Int} (h : GoodD m s) : decP (m, s.toNat) = .tuple #[.agg #[.int .i64 m, .int .i64 s], .bool true] := by
  have h0 := h.2.2.1
  have h1 := h.2.2.2.1
  have h2 := h.abs
  unfold decP
  rw [if_pos (by simp [fitsL]; omega)]
  simp; omega
theorem nrm_back {Z m s : Int} (B : Int) (hZ : Z = sixI m s.toNat + B) (h : GoodD m s) : nrm (Z + -B) 6 = (m, s.toNat) := by
  rw [hZ, show sixI m s.toNat + B + -B = sixI m s.toNat by omega]
  have h' : GoodD m (s.toNat : Int) := by rw [show ((s.toNat : Nat) : Int) = s by have := h.2.2.1; omega]; exact h
  exact nrm_six h'

theorem cmp_shift (A B : Int) : cmpI (A + B) A = cmpI B 0 := by
  unfold cmpI
  (repeat' split) <;> first | rfl | omega
theorem six_nil : sixI 0 (0 : Int).toNat = 0 := rfl
theorem good_nil : GoodD 0 0 := ⟨by omega, by omega, by omega, by omega, by omega⟩

end Go.Proofs.YtecomfhbdonkbaaGreatDoor
