/- dec.Div: the walk. -/
import Derived.Test.YtodhklapikfpoaaDoorVe
import Derived.Test.YtodhklapikfpoaaDoorRj
import Derived.Test.YtodhklapikfpoaaDoorEd
import Derived.Test.YtodhklapikfpoaaDoorShelf
namespace Go.Proofs.YtodhklapikfpoaaDoor
open Go.RowKit Go.Shelf Flo
set_option maxRecDepth 100000
set_option linter.unusedVariables false
set_option linter.unusedSimpArgs false

theorem mul64_any (x y : Nat) (hx : x < 18446744073709551616) (hy : y < 18446744073709551616) (w : World) :
    Calls Tryd.prog 26 #[.int .u64 (x : Int), .int .u64 (y : Int)] w fun e w' => e = .returned (.tuple #[.int .u64 ((x * y / 18446744073709551616 : Nat) : Int), .int .u64 ((x * y % 18446744073709551616 : Nat) : Int)]) ∧ w' = w := Any.bits_Mul64 Tryd.lays264 x y hx hy w

theorem run_toUint {x : Nat} {n : Nat} (h : Rep x (n : Int)) (hn : n < 2 ^ 53) (src dst : TypeId) (hs : (Tryd.prog.underlying src).isSome = true) (hd : Tryd.prog.underlying dst = some (.int .u64)) (w : World) :
    Sem.run Tryd.prog (convert src dst (.float .f64 x)) w = .ok (.int .u64 (n : Int)) w := by
  refine run_convert_float_int w src dst .f64 .u64 x n hs hd ?_
  unfold floatToIntVal
  have e : (FloatKind.f64.decode x).toInt .zero = some (n : Int) := toInt_dt h.dt
  rw [e]
  rw [p53] at hn
  have hmin : IntKind.u64.min = 0 := by decide
  have hmax : IntKind.u64.max = 18446744073709551615 := by decide
  have hc : IntKind.u64.min ≤ (n : Int) ∧ (n : Int) ≤ IntKind.u64.max := by rw [hmin, hmax]; omega
  exact if_pos hc

theorem made_any (w : World) (m k : Nat) (hm : m ≤ 999999999999999) (hk : k ≤ 6) : Calls Tryd.prog 30 #[.int .u64 (m : Int), .int .i64 (k : Int)] w fun e w' =>
    ∃ r i, e = .returned (.complex .f64 r i) ∧ Rep r (nrm (m : Int) k).1 ∧ Rep i ((nrm (m : Int) k).2 : Int) ∧ w = w' := by
  obtain ⟨r, hr⟩ : ∃ r, floatOfInt .f64 (m : Int) = r := ⟨_, rfl⟩
  obtain ⟨i, hi⟩ : ∃ i, floatOfInt .f64 (k : Int) = i := ⟨_, rfl⟩
  have HS := Lib.hid (fun w => short_any w r i m k (by rw [← hr]; exact rep_int m (by rw [p53]; omega)) (by rw [← hi]; exact rep_int k (by rw [p53]; omega)) (by rw [p53]; omega) (by omega))
  clear hm hk
  go_enter Tryd.func30, Tryd.ntmps30
  go_wp2_with fail
  (with_reducible refine (HS.out _).mono ?_)
  rintro e w' ⟨r2, i2, rfl, h1, h2, rfl⟩
  go_wp2_with fail
  go_ret
  exact ⟨_, _, rfl, h1, h2, rfl⟩

/-- how much it is, plainly. -/
def divQ (m : Int) (k n : Nat) : Nat := m.natAbs * 10 ^ (6 - k) / n
theorem divQ_parts (A j N : Nat) (h : 0 < N) : A * 10 ^ j / N = A / N * 10 ^ j + A % N * 10 ^ j / N := by
  have e : A * 10 ^ j = N * (A / N * 10 ^ j) + A % N * 10 ^ j := by
    conv => lhs; rw [← Nat.div_add_mod A N]
    rw [Nat.add_mul, Nat.mul_assoc]
  rw [e, Nat.mul_add_div h]
def sgnI (b : Bool) (n : Int) : Int := if b then -n else n
def divP (m s n : Int) : Value := if n < 1 then .tuple #[.agg #[.int .i64 0, .int .i64 0], .bool false] else decP (nrm (sgnI (decide (m < 0)) (divQ m s.toNat n.toNat)) 6)

theorem addT_neg (m : Int) (k : Nat) (m2 : Int) (k2 : Nat) : -(addT m k m2 k2) = addT (-m) k (-m2) k2 := by
  unfold addT; rw [Int.neg_mul, Int.neg_mul, Int.neg_add]
/-- the sum of what it is whole and of what is behind. -/
theorem div_sum (b : Bool) {q F k : Nat} (hq : q ≤ 999999999999999) (hF : F ≤ 999999) (hk : k ≤ 6) :
    decV (if b then -(addT (nrm q k).1 (nrm q k).2 (nrm F 6).1 (nrm F 6).2) else addT (nrm q k).1 (nrm q k).2 (nrm F 6).1 (nrm F 6).2) (max (nrm q k).2 (nrm F 6).2) =
      decP (nrm (sgnI b ((q * 10 ^ (6 - k) + F : Nat) : Int)) 6) := by
  have g1 := nrm_good k (q : Int) (by omega) hk
  have g2 := nrm_good 6 (F : Int) (by omega) (Nat.le_refl _)
  have s1 := six_nrm k (q : Int) hk
  have s2 := six_nrm 6 (F : Int) (Nat.le_refl _)
  have e : sixI (nrm q k).1 (nrm q k).2 + sixI (nrm F 6).1 (nrm F 6).2 = ((q * 10 ^ (6 - k) + F : Nat) : Int) := by
    rw [s1, s2]
    unfold sixI
    push_cast
    simp
  cases b
  · show decV (addT _ _ _ _) _ = decP (nrm _ 6)
    rw [add_same g1 g2, e]
    rfl
  · show decV (-(addT _ _ _ _)) _ = decP (nrm (-_) 6)
    rw [addT_neg, add_same (good_neg g1) (good_neg g2), six_neg, six_neg, ← e, Int.neg_add]

theorem GoodD.le6 {m : Int} {k : Nat} (h : GoodD m (k : Int)) : k ≤ 6 := by have := h.2.2.2.1; omega
theorem CmpS.lo {w v : World} {m s m2 s2 : Int} (h : CmpS w m s m2 s2 v) : Below w.heap.size w v := h.1

set_option maxHeartbeats 4000000 in
theorem ddiv_some (w : World) (m : Int) (k N : Nat) (h : GoodD m k) (hN : 1 ≤ N) (hNb : N ≤ 9223372036854775807) (hP : PowAt w) :
    Calls Tryd.prog 11 #[.agg #[.int .i64 m, .int .i64 (k : Int)], .int .i64 (N : Int)] w fun e w' =>
      e = .returned (decP (nrm (sgnI (decide (m < 0)) (divQ m k N)) 6)) ∧ Below w.heap.size w w' := by
  have hk6 : k ≤ 6 := by have := h.2.2.2.1; omega
  have hAb := h.abs
  have HI := Lib.hid (fun w => is_any w m k h)
  obtain ⟨A, hA⟩ : ∃ A, A = m.natAbs := ⟨_, rfl⟩
  rw [← hA] at hAb
  have hmm : max m (-m) = (A : Int) := by omega
  obtain ⟨q, hq⟩ : ∃ q, q = A / N := ⟨_, rfl⟩
  obtain ⟨r, hr⟩ : ∃ q, q = A % N := ⟨_, rfl⟩
  have hqA : q ≤ A := by rw [hq]; exact Nat.div_le_self _ _
  have hrN : r < N := by rw [hr]; exact Nat.mod_lt _ hN
  have hrA : r ≤ A := by rw [hr]; exact Nat.mod_le _ _
  obtain ⟨p, hp⟩ : ∃ p, p = 10 ^ (6 - k) := ⟨_, rfl⟩
  have hp6 : p ≤ 1000000 := by rw [hp]; exact Nat.le_trans (Nat.pow_le_pow_right (by decide) (show 6 - k ≤ 6 by omega)) (by decide)
  obtain ⟨F, hF⟩ : ∃ F, F = r * p / N := ⟨_, rfl⟩
  have hFb : F ≤ 999999 := by
    have : F < p := by
      rw [hF]
      refine (Nat.div_lt_iff_lt_mul hN).2 ?_
      rw [Nat.mul_comm p]
      exact Nat.mul_lt_mul_of_pos_right hrN (by rw [hp]; exact Nat.pow_pos (by decide))
    omega
  have HQ := Lib.hid (show divQ m k N = q * 10 ^ (6 - k) + F by unfold divQ; rw [← hA, divQ_parts A (6 - k) N hN, ← hq, ← hr, ← hp, ← hF])
  rw [HQ.out, ← div_sum _ (Nat.le_trans hqA hAb) hFb hk6]
  have e1 : (A : Int) / (N : Int) = (q : Int) := by rw [hq]; rfl
  have e2 : (A : Int).tmod (N : Int) = (r : Int) := by rw [hr]; rfl
  have HPW := Lib.hid (fun w hP => pow10_any (6 - k) (by omega) w hP)
  obtain ⟨pw, hpw⟩ : ∃ x, x = powW (6 - k) := ⟨_, rfl⟩
  have hrp : Rep pw (p : Int) := by rw [hpw, hp]; exact powW_rep (by omega)
  rw [← hpw] at HPW
  have hcv := fun src dst a b w => run_toUint hrp (by rw [p53]; omega) src dst a b w
  have h6k : 6 - (k : Int) = ((6 - k : Nat) : Int) := by omega
  obtain ⟨j, hj⟩ : ∃ j, j = 6 - k := ⟨_, rfl⟩
  rw [← hj] at h6k HPW
  have HM := Lib.hid (fun w => mul64_any r p (by omega) (by omega) w)
  obtain ⟨hi, hhi⟩ : ∃ x, x = r * p / 18446744073709551616 := ⟨_, rfl⟩
  obtain ⟨lo, hlo⟩ : ∃ x, x = r * p % 18446744073709551616 := ⟨_, rfl⟩
  rw [← hhi, ← hlo] at HM
  have hpos : 1 ≤ N := hN
  have HD : Hid (∀ w, Calls Tryd.prog 28 #[.int .u64 (hi : Int), .int .u64 (lo : Int), .int .u64 (N : Int)] w fun e w' => (∃ r, e = .returned (.tuple #[.int .u64 (F : Int), .int .u64 r])) ∧ Below w.heap.size w w') := Lib.hid (by
    intro w
    have hloB : lo < 18446744073709551616 := by rw [hlo]; exact Nat.mod_lt _ (by decide)
    have hsum : hi * 18446744073709551616 + lo = r * p := by rw [hhi, hlo]; exact Nat.div_add_mod' _ _
    by_cases h0 : hi = 0
    · rw [h0, Nat.zero_mul, Nat.zero_add] at hsum
      rw [h0, hF, ← hsum]
      exact div64_small lo N w hN hloB hNb
    · rw [hF, ← hsum]
      refine (div64_big hi lo N w (by omega) hloB hNb ?_).mono ?_
      · rw [hsum]
        exact Nat.lt_of_lt_of_le (Nat.mul_lt_mul_of_pos_right hrN (by rw [hp]; exact Nat.pow_pos (by decide))) (by rw [Nat.mul_comm]; exact Nat.mul_le_mul_right N hp6)
      · rintro e w' ⟨h1, rfl⟩
        exact ⟨h1, Below.refl _ _⟩)
  have HA := Lib.hid (fun w => made_any w q k (Nat.le_trans hqA hAb) hk6)
  have HB := Lib.hid (fun w => (show Calls Tryd.prog 30 #[.int .u64 (F : Int), .int .i64 6] w _ from made_any w F 6 (by omega) (by decide)))
  have g1 := nrm_good k (q : Int) (by omega) hk6
  have g2 := nrm_good 6 (F : Int) (by omega) (Nat.le_refl _)
  generalize hX1 : nrm (q : Int) k = X1 at HA g1 ⊢
  generalize hX2 : nrm (F : Int) 6 = X2 at HB g2 ⊢
  obtain ⟨n1, k1⟩ := X1
  obtain ⟨n2, k2⟩ := X2
  simp only [] at HA HB g1 g2 ⊢
  have HG := Lib.hid (And.intro g1 g2)
  have HP := Lib.hid hP
  have HC := Lib.hid (cmp_boxes w m k 0 0 24)
  have hn1 : ¬ (N : Int) < 1 := by omega
  have hNn : ¬ (N : Int) = 0 := by omega
  have hNz : ¬ N = 0 := by omega
  have hjw : IntKind.i64.wrap (j : Int) = (j : Int) := by rw [IntKind.wrap_i64]; omega
  have hqw : IntKind.u64.wrap (q : Int) = (q : Int) := by
    have hx : q ≤ 999999999999999 := Nat.le_trans hqA hAb
    clear hq hr e1 e2
    rw [IntKind.wrap_u64]; omega
  clear hq hr hF hp hpw hhi hlo hX1 hX2 g1 g2 hA h hP hrp HQ hj
  obtain ⟨V, hV⟩ : ∃ V, V = decV (if decide (m < 0) = true then -(addT n1 k1 n2 k2) else addT n1 k1 n2 k2) (max k1 k2) := ⟨_, rfl⟩
  rw [← hV]
  obtain ⟨vm, vs, vb, hv⟩ := decP_cases (shrt (if decide (m < 0) = true then -(addT n1 k1 n2 k2) else addT n1 k1 n2 k2) (max k1 k2))
  rw [← decV_eq, ← hV] at hv
  subst hv
  have HV := Lib.hid hV
  clear hV
  go_enter Tryd.func11, Tryd.ntmps11
  go_wp2_with fail
  (with_reducible refine (HI.out _).mono ?_)
  rintro e w1 ⟨rfl, hb1⟩
  have HC1 := Lib.hid (HC.out.below hb1)
  clear hb1 HC
  obtain ⟨-, ⟨a0, a1, a2, -, -⟩, -⟩ := HC1.out
  go_wp2_with fail
  clear a0 a1 a2
  refine wp_region_any (by kernel_rfl) ?_
  change wpAny _ _ _ _ _ _ _ (World.drew _)
  refine wpAny_of_held (S := fun v => CmpS w m k 0 0 v) _ _ _ _ ?_
  have hS : (fun v => CmpS w m k 0 0 v) _ := HC1.out.drew
  refine wpAnyH_take (i := 0) (oi := ⟨some 31, _, _, _, _, _⟩) (v := ?_) rfl (by kernel_rfl) (by kernel_rfl) (by kernel_rfl) (fun _ _ _ h => h) (Or.inl ⟨by simp only [Region.wanted], ?_⟩) hS ?_
  rotate_left
  · intro wz hSw
    clear hSw
    go_simp
    first | done | with_reducible rfl
  try simp only [Act.put, List.setIfInBounds_toArray, List.set_cons_zero, List.set_cons_succ]
  refine wpAnyH_take (i := 1) (oi := ⟨some 32, _, _, _, _, _⟩) (v := ?_) rfl (by kernel_rfl) (by kernel_rfl) (by kernel_rfl) (fun _ _ _ h => h) (Or.inl ⟨by simp only [Region.wanted], ?_⟩) hS ?_
  rotate_left
  · intro wz hSw
    clear hSw
    go_simp
    first | done | with_reducible rfl
  try simp only [Act.put, List.setIfInBounds_toArray, List.set_cons_zero, List.set_cons_succ]
  refine wpAnyH_take (i := 2) (oi := ⟨some 33, _, _, _, _, _⟩) (v := ?_) rfl (by kernel_rfl) (by kernel_rfl) (by kernel_rfl) (fun _ _ _ h => h) (Or.inl ⟨by simp only [Region.wanted], ?_⟩) hS ?_
  rotate_left
  · intro wz hSw
    clear hSw
    go_simp
    first | done | with_reducible rfl
  try simp only [Act.put, List.setIfInBounds_toArray, List.set_cons_zero, List.set_cons_succ]
  refine wpAnyH_take (i := 3) (oi := ⟨some 34, _, _, _, _, _⟩) (v := ?_) rfl (by kernel_rfl) (by kernel_rfl) (by kernel_rfl) (fun _ _ _ h => h) (Or.inl ⟨by simp only [Region.wanted], ?_⟩) hS ?_
  rotate_left
  · intro wz hSw
    clear hSw
    go_simp
    first | done | with_reducible rfl
  try simp only [Act.put, List.setIfInBounds_toArray, List.set_cons_zero, List.set_cons_succ]
  refine wpAnyH_take (i := 4) (oi := ⟨some 35, _, _, _, _, _⟩) (v := ?_) rfl (by kernel_rfl) (by kernel_rfl) (by kernel_rfl) (fun _ _ _ h => h) (Or.inl ⟨by simp only [Region.wanted], ?_⟩) hS ?_
  rotate_left
  · intro wz hSw; obtain ⟨-, f0, f1, -, -⟩ := hSw.2.1
    clear hSw
    go_simp
    first | done | with_reducible rfl
  try simp only [Act.put, List.setIfInBounds_toArray, List.set_cons_zero, List.set_cons_succ]
  refine wpAnyH_take (i := 5) (oi := ⟨some 36, _, _, _, _, _⟩) (v := ?_) rfl (by kernel_rfl) (by kernel_rfl) (by kernel_rfl) (fun _ _ _ h => h) (Or.inl ⟨by simp only [Region.wanted], ?_⟩) hS ?_
  rotate_left
  · intro wz hSw
    clear hSw
    go_simp
    first | done | with_reducible rfl
  try simp only [Act.put, List.setIfInBounds_toArray, List.set_cons_zero, List.set_cons_succ]
  refine wpAnyH_ready (rs := [6]) (by kernel_rfl) (by simp) ?_
  refine AllReadyH.cons (o := ⟨some 37, _, _, _, _, _⟩) rfl (fun K hK => ?_) AllReadyH.nil
  go_simp
  (with_reducible refine (HPW.out _ (HP.out.below (CmpS.lo hS))).mono ?_)
  rintro e wn ⟨rfl, hbn⟩
  have hS1 := hS.below hbn
  clear hbn
  go_wp2_with fail
  refine hK.out _ _ (hS1) (fun hS => ?_)
  clear hK K
  try simp only [Act.put, List.setIfInBounds_toArray, List.set_cons_zero, List.set_cons_succ]
  refine wpAnyH_take (i := 7) (oi := ⟨some 38, _, _, _, _, _⟩) (v := ?_) rfl (by kernel_rfl) (by kernel_rfl) (by kernel_rfl) (fun _ _ _ h => h) (Or.inl ⟨by simp only [Region.wanted], ?_⟩) hS ?_
  rotate_left
  · intro wz hSw
    clear hSw
    go_simp
    first | done | with_reducible rfl
  try simp only [Act.put, List.setIfInBounds_toArray, List.set_cons_zero, List.set_cons_succ]
  refine wpAnyH_ready (rs := [8]) (by kernel_rfl) (by simp) ?_
  refine AllReadyH.cons (o := ⟨some 39, _, _, _, _, _⟩) rfl (fun K hK => ?_) AllReadyH.nil
  go_simp
  (with_reducible refine (HM.out _).mono ?_)
  rintro e wn2 ⟨rfl, rfl⟩
  go_wp2_with fail
  refine hK.out _ _ (hS) (fun hS => ?_)
  clear hK K
  try simp only [Act.put, List.setIfInBounds_toArray, List.set_cons_zero, List.set_cons_succ]
  refine wpAnyH_take (i := 9) (oi := ⟨some 30, _, _, _, _, _⟩) (v := ?_) rfl (by kernel_rfl) (by kernel_rfl) (by kernel_rfl) (fun _ _ _ h => h) (Or.inl ⟨by simp only [Region.wanted], ?_⟩) hS ?_
  rotate_left
  · intro wz hSw
    clear hSw
    go_simp
    first | done | with_reducible rfl
  try simp only [Act.put, List.setIfInBounds_toArray, List.set_cons_zero, List.set_cons_succ]
  refine wpAnyH_take (i := 10) (oi := ⟨some 40, _, _, _, _, _⟩) (v := ?_) rfl (by kernel_rfl) (by kernel_rfl) (by kernel_rfl) (fun _ _ _ h => h) (Or.inl ⟨by simp only [Region.wanted], ?_⟩) hS ?_
  rotate_left
  · intro wz hSw
    clear hSw
    go_simp
    first | done | with_reducible rfl
  try simp only [Act.put, List.setIfInBounds_toArray, List.set_cons_zero, List.set_cons_succ]
  refine wpAnyH_take (i := 11) (oi := ⟨some 41, _, _, _, _, _⟩) (v := ?_) rfl (by kernel_rfl) (by kernel_rfl) (by kernel_rfl) (fun _ _ _ h => h) (Or.inl ⟨by simp only [Region.wanted], ?_⟩) hS ?_
  rotate_left
  · intro wz hSw
    clear hSw
    go_simp
    first | done | with_reducible rfl
  try simp only [Act.put, List.setIfInBounds_toArray, List.set_cons_zero, List.set_cons_succ]
  refine wpAnyH_take (i := 12) (oi := ⟨some 8, _, _, _, _, _⟩) (v := ?_) rfl (by kernel_rfl) (by kernel_rfl) (by kernel_rfl) (fun _ _ _ h => h) (Or.inl ⟨by simp only [Region.wanted], ?_⟩) hS ?_
  rotate_left
  · intro wz hSw
    clear hSw
    go_simp
    first | done | with_reducible rfl
  try simp only [Act.put, List.setIfInBounds_toArray, List.set_cons_zero, List.set_cons_succ]
  refine wpAnyH_take (i := 13) (oi := ⟨some 9, _, _, _, _, _⟩) (v := ?_) rfl (by kernel_rfl) (by kernel_rfl) (by kernel_rfl) (fun _ _ _ h => h) (Or.inl ⟨by simp only [Region.wanted], ?_⟩) hS ?_
  rotate_left
  · intro wz hSw
    clear hSw
    go_simp
    first | done | with_reducible rfl
  try simp only [Act.put, List.setIfInBounds_toArray, List.set_cons_zero, List.set_cons_succ]
  refine wpAnyH_done (by kernel_rfl) ?_ _
  have HC2 := Lib.hid hS
  clear hS HC1
  go_wp2_with fail
  (with_reducible refine (HD.out _).mono ?_)
  rintro e w3 ⟨⟨rr, rfl⟩, hb3⟩
  have HC3 := Lib.hid (HC2.out.below hb3)
  clear hb3 HC2
  go_wp2_with fail
  refine wp_region_any (by kernel_rfl) ?_
  change wpAny _ _ _ _ _ _ _ (World.drew _)
  refine wpAny_of_held (S := fun v => CmpS w m k 0 0 v) _ _ _ _ ?_
  have hS : (fun v => CmpS w m k 0 0 v) _ := HC3.out.drew
  refine wpAnyH_take (i := 0) (oi := ⟨some 49, _, _, _, _, _⟩) (v := ?_) rfl (by kernel_rfl) (by kernel_rfl) (by kernel_rfl) (fun _ _ _ h => h) (Or.inl ⟨by simp only [Region.wanted], ?_⟩) hS ?_
  rotate_left
  · intro wz hSw
    clear hSw
    go_simp
    first | done | with_reducible rfl
  try simp only [Act.put, List.setIfInBounds_toArray, List.set_cons_zero, List.set_cons_succ]
  refine wpAnyH_take (i := 1) (oi := ⟨some 50, _, _, _, _, _⟩) (v := ?_) rfl (by kernel_rfl) (by kernel_rfl) (by kernel_rfl) (fun _ _ _ h => h) (Or.inl ⟨by simp only [Region.wanted], ?_⟩) hS ?_
  rotate_left
  · intro wz hSw
    clear hSw
    go_simp
    first | done | with_reducible rfl
  try simp only [Act.put, List.setIfInBounds_toArray, List.set_cons_zero, List.set_cons_succ]
  refine wpAnyH_take (i := 2) (oi := ⟨some 51, _, _, _, _, _⟩) (v := ?_) rfl (by kernel_rfl) (by kernel_rfl) (by kernel_rfl) (fun _ _ _ h => h) (Or.inl ⟨by simp only [Region.wanted], ?_⟩) hS ?_
  rotate_left
  · intro wz hSw
    clear hSw
    go_simp
    first | done | with_reducible rfl
  try simp only [Act.put, List.setIfInBounds_toArray, List.set_cons_zero, List.set_cons_succ]
  refine wpAnyH_take (i := 3) (oi := ⟨some 52, _, _, _, _, _⟩) (v := ?_) rfl (by kernel_rfl) (by kernel_rfl) (by kernel_rfl) (fun _ _ _ h => h) (Or.inl ⟨by simp only [Region.wanted], ?_⟩) hS ?_
  rotate_left
  · intro wz hSw
    clear hSw
    go_simp
    first | done | with_reducible rfl
  try simp only [Act.put, List.setIfInBounds_toArray, List.set_cons_zero, List.set_cons_succ]
  refine wpAnyH_take (i := 4) (oi := ⟨some 53, _, _, _, _, _⟩) (v := ?_) rfl (by kernel_rfl) (by kernel_rfl) (by kernel_rfl) (fun _ _ _ h => h) (Or.inl ⟨by simp only [Region.wanted], ?_⟩) hS ?_
  rotate_left
  · intro wz hSw; obtain ⟨-, f0, f1, -, -⟩ := hSw.2.1
    clear hSw
    go_simp
    first | done | with_reducible rfl
  try simp only [Act.put, List.setIfInBounds_toArray, List.set_cons_zero, List.set_cons_succ]
  refine wpAnyH_take (i := 6) (oi := ⟨some 55, _, _, _, _, _⟩) (v := ?_) rfl (by kernel_rfl) (by kernel_rfl) (by kernel_rfl) (fun _ _ _ h => h) (Or.inl ⟨by simp only [Region.wanted], ?_⟩) hS ?_
  rotate_left
  · intro wz hSw
    clear hSw
    go_simp
    first | done | with_reducible rfl
  try simp only [Act.put, List.setIfInBounds_toArray, List.set_cons_zero, List.set_cons_succ]
  refine wpAnyH_ready (rs := [5]) (by kernel_rfl) (by simp) ?_
  refine AllReadyH.cons (o := ⟨some 54, _, _, _, _, _⟩) rfl (fun K hK => ?_) AllReadyH.nil
  go_simp
  (with_reducible refine (HA.out _).mono ?_)
  rintro e wn ⟨ra, ia, rfl, hra, hia, rfl⟩
  have HRA := Lib.hid (And.intro hra hia)
  clear hra hia
  go_wp2_with fail
  refine hK.out _ _ (hS) (fun hS => ?_)
  clear hK K
  try simp only [Act.put, List.setIfInBounds_toArray, List.set_cons_zero, List.set_cons_succ]
  refine wpAnyH_ready (rs := [7]) (by kernel_rfl) (by simp) ?_
  refine AllReadyH.cons (o := ⟨some 56, _, _, _, _, _⟩) rfl (fun K hK => ?_) AllReadyH.nil
  go_simp
  (with_reducible refine (HB.out _).mono ?_)
  rintro e wn ⟨rb, ib, rfl, hrb, hib, rfl⟩
  have HRB := Lib.hid (And.intro hrb hib)
  clear hrb hib
  go_wp2_with fail
  refine hK.out _ _ (hS) (fun hS => ?_)
  clear hK K
  try simp only [Act.put, List.setIfInBounds_toArray, List.set_cons_zero, List.set_cons_succ]
  refine wpAnyH_ready (rs := [8]) (by kernel_rfl) (by simp) ?_
  refine AllReadyH.cons (o := ⟨some 57, _, _, _, _, _⟩) rfl (fun K hK => ?_) AllReadyH.nil
  go_simp
  (with_reducible refine (sum_any _ ra ia rb ib n1 n2 k1 k2 HRA.out.1 HRA.out.2 HRB.out.1 HRB.out.2 HG.out.1.abs HG.out.2.abs HG.out.1.le6 HG.out.2.le6 (HP.out.below (CmpS.lo hS))).mono ?_)
  rintro e wn ⟨rc, ic, rfl, hnc, hbn⟩
  have HNC := Lib.hid hnc
  have hS1 := hS.below hbn
  clear hbn hnc
  go_wp2_with fail
  refine hK.out _ _ (hS1) (fun hS => ?_)
  clear hK K
  try simp only [Act.put, List.setIfInBounds_toArray, List.set_cons_zero, List.set_cons_succ]
  refine wpAnyH_take (i := 9) (oi := ⟨some 12, _, _, _, _, _⟩) (v := ?_) rfl (by kernel_rfl) (by kernel_rfl) (by kernel_rfl) (fun _ _ _ h => h) (Or.inl ⟨by simp only [Region.wanted], ?_⟩) hS ?_
  rotate_left
  · intro wz hSw
    clear hSw
    go_simp
    first | done | with_reducible rfl
  try simp only [Act.put, List.setIfInBounds_toArray, List.set_cons_zero, List.set_cons_succ]
  refine wpAnyH_done (by kernel_rfl) ?_ _
  have HC4 := Lib.hid hS
  clear hS HC3
  obtain ⟨-, ⟨a0, a1, a2, -, -⟩, -⟩ := HC4.out
  go_wp2_with fail
  (with_reducible refine (signed_any _ rc ic _ _ (decide (m < 0)) HNC.out).mono ?_)
  rintro e w5 ⟨rfl, hb5⟩
  have HC5 := Lib.hid (HC4.out.below hb5)
  have HVV := Lib.hid (show decV (if decide (m < 0) = true then -(n1 * ((10 ^ (max k1 k2 - k1) : Nat) : Int) + n2 * ((10 ^ (max k1 k2 - k2) : Nat) : Int)) else n1 * ((10 ^ (max k1 k2 - k1) : Nat) : Int) + n2 * ((10 ^ (max k1 k2 - k2) : Nat) : Int)) (max k1 k2) = .tuple #[.agg #[.int .i64 vm, .int .i64 vs], .bool vb] from HV.out.symm)
  clear hb5 HC4 a0 a1 a2
  rw [HVV.out]
  obtain ⟨-, -, ⟨b0, b1, b2, b3, b4⟩⟩ := HC5.out
  go_wp2_with fail
  exact bodyPost_ret (v := .tuple #[.agg #[.int .i64 vm, .int .i64 vs], .bool vb]) (by simp [results, Tryd.results11, go_sem, b0, b1, b2]) rfl ⟨rfl, ((CmpS.lo HC5.out).setCell (by simp) _).setCell (by simp) _⟩
end Go.Proofs.YtodhklapikfpoaaDoor
