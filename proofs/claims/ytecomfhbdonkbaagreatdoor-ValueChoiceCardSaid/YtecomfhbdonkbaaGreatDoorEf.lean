/- Package dec: Mul. -/
import Derived.Test.YtecomfhbdonkbaaGreatDoorEe
namespace Go.Proofs.YtecomfhbdonkbaaGreatDoor
open Go.RowKit Flo
set_option maxRecDepth 100000
set_option linter.unusedVariables false
set_option linter.unusedSimpArgs false

theorem tmod_zero (a : Int) (m : Nat) : a.tmod m = 0 ↔ a % m = 0 := ⟨fun h => Int.emod_eq_zero_of_dvd (Int.dvd_of_tmod_eq_zero h), fun h => Int.tmod_eq_zero_of_dvd (Int.dvd_of_emod_eq_zero h)⟩

theorem either_any (w : World) (ra ia rb ib y : Nat) (a b : Int) (m : Nat) (ha : Rep ra a) (hb : Rep rb b) (hy : Rep y (m : Int)) (h0 : m ≠ 0) (hm : m < 2 ^ 53) (hna : a.natAbs < 2 ^ 53) (hnb : b.natAbs < 2 ^ 53) :
    Calls Tryz.prog 138 #[.complex .f64 ra ia, .complex .f64 rb ib, .float .f64 y] w fun e w' => e = .returned (.bool (decide (a % m = 0) || decide (b % m = 0))) ∧ w = w' := by
  have HA := Lib.hid (fun w => divides_any w ra ia y a m ha hy h0 hm hna)
  have HB := Lib.hid (fun w => divides_any w rb ib y b m hb hy h0 hm hnb)
  have e1 : decide (a.tmod m = 0) = decide (a % m = 0) := by simp only [tmod_zero]
  have e2 : decide (b.tmod m = 0) = decide (b % m = 0) := by simp only [tmod_zero]
  rw [e1] at HA
  rw [e2] at HB
  clear e1 e2
  generalize decide (a % m = 0) = p at *
  generalize decide (b % m = 0) = q at *
  clear ha hb hy h0 hm hna hnb
  cases p
  · go_enter Tryz.func138, Tryz.ntmps138
    go_wp2_with fail
    refine (HA.out _).mono ?_
    rintro e w' ⟨rfl, rfl⟩
    go_wp2_with fail
    refine (HB.out _).mono ?_
    rintro e w' ⟨rfl, rfl⟩
    go_wp2_with fail
    go_ret
    exact ⟨by simp, rfl⟩
  · go_enter Tryz.func138, Tryz.ntmps138
    go_wp2_with fail
    refine (HA.out _).mono ?_
    rintro e w' ⟨rfl, rfl⟩
    go_wp2_with fail
    go_ret
    exact ⟨by simp, rfl⟩

theorem small_div {a : Int} {m : Nat} (h : a.natAbs < 2 ^ 53) (h0 : m ≠ 0) : (a / m).natAbs < 2 ^ 53 := by
  have := Int.natAbs_ediv_le_natAbs a m
  omega

/-- one of both without the factor. -/
def cut1 (a b : Int) (m : Nat) : Int := if a % m = 0 then a / m else a
def cut2 (a b : Int) (m : Nat) : Int := if a % m = 0 then b else b / m

theorem without_any (w : World) (ra ia rb ib y : Nat) (a b : Int) (m : Nat) (ha : Rep ra a) (hb : Rep rb b) (hy : Rep y (m : Int)) (h0 : m ≠ 0) (hm : m < 2 ^ 53) (hna : a.natAbs < 2 ^ 53) (hnb : b.natAbs < 2 ^ 53) (h : a % m = 0 ∨ b % m = 0) :
    Calls Tryz.prog 139 #[.complex .f64 ra ia, .complex .f64 rb ib, .float .f64 y] w fun e w' => ∃ ra' rb', e = .returned (.tuple #[.complex .f64 ra' ia, .complex .f64 rb' ib]) ∧
      Rep ra' (cut1 a b m) ∧ Rep rb' (cut2 a b m) ∧ w = w' := by
  have HA := Lib.hid (fun w => divides_any w ra ia y a m ha hy h0 hm hna)
  have e1 : decide (a.tmod m = 0) = decide (a % m = 0) := by simp only [tmod_zero]
  rw [e1] at HA
  clear e1
  have HR := Lib.hid (And.intro ha hb)
  by_cases hd : a % m = 0
  · rw [decide_eq_true hd] at HA
    have e : (m : Int) * (a / m) = a := Int.mul_ediv_cancel' (Int.dvd_of_emod_eq_zero hd)
    obtain ⟨q, hq1, hq2⟩ := div_rep (b := (m : Int)) (c := a / m) (by rw [e]; exact ha) hy (by omega) (by rw [e]; exact hna) (by simpa using hm)
    have t1 := fun t w => run_float_arith (P := Tryz.prog) w .quo t .f64 ra y q hq1
    have HQ := Lib.hid (show Rep q (cut1 a b m) ∧ Rep rb (cut2 a b m) by unfold cut1 cut2; rw [if_pos hd, if_pos hd]; exact ⟨hq2, hb⟩)
    clear ha hb hy h0 hm hna hnb h hd e hq1 hq2
    go_enter Tryz.func139, Tryz.ntmps139
    go_wp2_with fail
    refine (HA.out _).mono ?_
    rintro e w' ⟨rfl, rfl⟩
    go_wp2_with fail
    go_ret2
    exact ⟨_, _, rfl, HQ.out.1, HQ.out.2, rfl⟩
  · rw [decide_eq_false hd] at HA
    have hd2 := h.resolve_left hd
    have e : (m : Int) * (b / m) = b := Int.mul_ediv_cancel' (Int.dvd_of_emod_eq_zero hd2)
    obtain ⟨q, hq1, hq2⟩ := div_rep (b := (m : Int)) (c := b / m) (by rw [e]; exact hb) hy (by omega) (by rw [e]; exact hnb) (by simpa using hm)
    have t1 := fun t w => run_float_arith (P := Tryz.prog) w .quo t .f64 rb y q hq1
    have HQ := Lib.hid (show Rep ra (cut1 a b m) ∧ Rep q (cut2 a b m) by unfold cut1 cut2; rw [if_neg hd, if_neg hd]; exact ⟨ha, hq2⟩)
    clear ha hb hy h0 hm hna hnb h hd e hq1 hq2
    go_enter Tryz.func139, Tryz.ntmps139
    go_wp2_with fail
    refine (HA.out _).mono ?_
    rintro e w' ⟨rfl, rfl⟩
    go_wp2_with fail
    go_ret2
    exact ⟨_, _, rfl, HQ.out.1, HQ.out.2, rfl⟩

/-! the product, plainly -/

theorem cut_mul {a b : Int} {m : Nat} (h0 : m ≠ 0) (h : a % m = 0 ∨ b % m = 0) : (m : Int) * (cut1 a b m * cut2 a b m) = a * b := by
  unfold cut1 cut2
  by_cases hd : a % m = 0
  · rw [if_pos hd, if_pos hd, ← Int.mul_assoc, Int.mul_ediv_cancel' (Int.dvd_of_emod_eq_zero hd)]
  · have h2 := h.resolve_left hd
    rw [if_neg hd, if_neg hd, Int.mul_left_comm, Int.mul_ediv_cancel' (Int.dvd_of_emod_eq_zero h2)]
theorem cut_small {a b : Int} {m : Nat} (ha : a.natAbs ≤ 999999999999999) (hb : b.natAbs ≤ 999999999999999) : (cut1 a b m).natAbs ≤ 999999999999999 ∧ (cut2 a b m).natAbs ≤ 999999999999999 := by
  have h1 := Int.natAbs_ediv_le_natAbs a m
  have h2 := Int.natAbs_ediv_le_natAbs b m
  unfold cut1 cut2
  split
  · exact ⟨by omega, hb⟩
  · exact ⟨ha, by omega⟩
theorem prime2 (a b : Int) : (a * b) % 2 = 0 ↔ a % 2 = 0 ∨ b % 2 = 0 := by
  rw [Int.mul_emod]
  have h1 : a % 2 = 0 ∨ a % 2 = 1 := by omega
  have h2 : b % 2 = 0 ∨ b % 2 = 1 := by omega
  rcases h1 with h1 | h1 <;> rcases h2 with h2 | h2 <;> rw [h1, h2] <;> decide
theorem prime5 (a b : Int) : (a * b) % 5 = 0 ↔ a % 5 = 0 ∨ b % 5 = 0 := by
  rw [Int.mul_emod]
  have h1 : a % 5 = 0 ∨ a % 5 = 1 ∨ a % 5 = 2 ∨ a % 5 = 3 ∨ a % 5 = 4 := by omega
  have h2 : b % 5 = 0 ∨ b % 5 = 1 ∨ b % 5 = 2 ∨ b % 5 = 3 ∨ b % 5 = 4 := by omega
  rcases h1 with h1 | h1 | h1 | h1 | h1 <;> rcases h2 with h2 | h2 | h2 | h2 | h2 <;> rw [h1, h2] <;> decide
/-- one round of Mul's loop. -/
def nextA (a b : Int) : Int := cut1 (cut1 a b 2) (cut2 a b 2) 5
def nextB (a b : Int) : Int := cut2 (cut1 a b 2) (cut2 a b 2) 5
theorem next_five {a b : Int} (h2 : a % 2 = 0 ∨ b % 2 = 0) (h5 : a % 5 = 0 ∨ b % 5 = 0) : cut1 a b 2 % 5 = 0 ∨ cut2 a b 2 % 5 = 0 := by
  rw [← prime5]
  have h := cut_mul (m := 2) (by decide) h2
  have h9 := (prime5 a b).2 h5
  generalize cut1 a b 2 * cut2 a b 2 = z at *
  omega
theorem next_mul {a b : Int} (h2 : a % 2 = 0 ∨ b % 2 = 0) (h5 : a % 5 = 0 ∨ b % 5 = 0) : a * b = 10 * (nextA a b * nextB a b) ∧ (a * b) % 10 = 0 := by
  have h := cut_mul (m := 2) (by decide) h2
  have h' := cut_mul (m := 5) (by decide) (next_five h2 h5)
  unfold nextA nextB
  generalize cut1 (cut1 a b 2) (cut2 a b 2) 5 * cut2 (cut1 a b 2) (cut2 a b 2) 5 = z at *
  generalize cut1 a b 2 * cut2 a b 2 = y at *
  generalize a * b = x at *
  constructor <;> omega
theorem no_ten {a b : Int} (h : ¬ ((a % 2 = 0 ∨ b % 2 = 0) ∧ (a % 5 = 0 ∨ b % 5 = 0))) : ¬ (a * b) % 10 = 0 := by
  intro h9
  exact h ⟨(prime2 a b).1 (by omega), (prime5 a b).1 (by omega)⟩

/-- the point of a number on its way. -/
def imOf (v : Value) : Int := match v with
  | .complex _ _ i => ((Ieee.double.read i).toInt .zero).getD 0
  | _ => 0
theorem imOf_rep {r i : Nat} {n : Int} (h : Rep i n) : imOf (.complex .f64 r i) = n := by
  show ((Ieee.double.read i).toInt .zero).getD 0 = n
  rw [toInt_dt h.dt]; rfl

/-- what Mul's loop keeps. -/
def MulSt (P : Int × Nat) (v6 v7 : Value) : Prop := ∃ (ra ia rb ib : Nat) (a b i j : Int) (s : Nat), v6 = .complex .f64 ra ia ∧ v7 = .complex .f64 rb ib ∧ Rep ra a ∧ Rep rb b ∧ Rep ia i ∧ Rep ib j ∧ i + j = s ∧ -20 ≤ i ∧ i ≤ 6 ∧ 0 ≤ j ∧ j ≤ 6 ∧
  a.natAbs ≤ 999999999999999 ∧ b.natAbs ≤ 999999999999999 ∧ P = nrm (a * b) s

theorem small_ex {n : Int} (h : n.natAbs < 2 ^ 53) : n = 0 ∨ Ex n.natAbs := by
  by_cases h0 : n = 0
  · exact .inl h0
  · exact .inr (Ex.small (by omega) h)

/-- the sum of both numbers, as complex ones. -/
theorem csum {ra ia rb ib : Nat} {a b i j : Int} (h1 : Rep ra a) (h2 : Rep rb b) (h3 : Rep ia i) (h4 : Rep ib j) (ha : a.natAbs ≤ 999999999999999) (hb : b.natAbs ≤ 999999999999999) (hi : i.natAbs ≤ 20) (hj : j.natAbs ≤ 20) :
    ∃ x y, cSumBits .add .f64 ra ia rb ib = some (x, y) ∧ Rep y (i + j) := by
  obtain ⟨x, hx1, hx2⟩ := add_rep h1 h2 (small_ex (by rw [p53]; omega))
  obtain ⟨y, hy1, hy2⟩ := add_rep h3 h4 (small_ex (by rw [p53]; omega))
  have e1 : floatBits .add .f64 ra rb = some x := hx1
  have e2 : floatBits .add .f64 ia ib = some y := hy1
  exact ⟨x, y, by simp [cSumBits, e1, e2], hy2⟩

set_option maxHeartbeats 4000000 in
theorem mul_any (w : World) (m s m2 s2 : Int) (h : GoodD m s) (h2 : GoodD m2 s2) :
    Calls Tryz.prog 121 #[.agg #[.int .i64 m, .int .i64 s], .agg #[.int .i64 m2, .int .i64 s2]] w fun e w' =>
      e = .returned (decP (nrm (m * m2) (s.toNat + s2.toNat))) ∧ Below w.heap.size w w' := by
  obtain ⟨k, rfl⟩ : ∃ k : Nat, s = k := ⟨s.toNat, by have := h.2.2.1; omega⟩
  obtain ⟨k2, rfl⟩ : ∃ k : Nat, s2 = k := ⟨s2.toNat, by have := h2.2.2.1; omega⟩
  simp only [Int.toNat_natCast]
  have HA := Lib.hid (fun w => of_any w m k h)
  have HB := Lib.hid (fun w => of_any w m2 k2 h2)
  have HG := Lib.hid (And.intro h.abs (And.intro h2.abs (And.intro (show k ≤ 6 by have := h.2.2.2.1; omega) (show k2 ≤ 6 by have := h2.2.2.2.1; omega))))
  obtain ⟨P, hP⟩ : ∃ P, P = nrm (m * m2) (k + k2) := ⟨_, rfl⟩
  rw [← hP]
  obtain ⟨vm, vs, vb, hv⟩ := decP_cases P
  rw [hv]
  have HV := Lib.hid hv
  have HP := Lib.hid hP
  clear hv h h2 hP
  have HC := Lib.hid (two_boxes w m k m2 k2 44)
  go_enter Tryz.func121, Tryz.ntmps121
  go_wp2_with fail
  generalize World.alloc (World.alloc (World.alloc w _) _) _ = wr at HC ⊢
  refine wp_region_any (by kernel_rfl) ?_
  change wpAny _ _ _ _ _ _ _ (World.drew _)
  refine wpAny_of_held (S := fun v => TwoS w m k m2 k2 v) _ _ _ _ ?_
  have hS : (fun v => TwoS w m k m2 k2 v) _ := HC.out.drew
  refine wpAnyH_take (i := 0) (oi := ⟨some 8, _, _, _, _, _⟩) (v := ?_) rfl (by kernel_rfl) (by kernel_rfl) (by kernel_rfl) (fun _ _ _ h => h) (Or.inl ⟨by simp only [Region.wanted], ?_⟩) hS ?_
  rotate_left
  · intro wz hSw; obtain ⟨-, f0, f1, -, -⟩ := hSw.2.1
    clear hSw
    go_simp
    first | done | with_reducible rfl
  try simp only [Act.put, List.setIfInBounds_toArray, List.set_cons_zero, List.set_cons_succ]
  refine wpAnyH_take (i := 2) (oi := ⟨some 10, _, _, _, _, _⟩) (v := ?_) rfl (by kernel_rfl) (by kernel_rfl) (by kernel_rfl) (fun _ _ _ h => h) (Or.inl ⟨by simp only [Region.wanted], ?_⟩) hS ?_
  rotate_left
  · intro wz hSw; obtain ⟨-, f0, f1, -, -⟩ := hSw.2.2.1
    clear hSw
    go_simp
    first | done | with_reducible rfl
  try simp only [Act.put, List.setIfInBounds_toArray, List.set_cons_zero, List.set_cons_succ]
  refine wpAnyH_ready (rs := [1]) (by kernel_rfl) (by simp) ?_
  refine AllReadyH.cons (o := ⟨some 9, _, _, _, _, _⟩) rfl (fun K hK => ?_) AllReadyH.nil
  go_simp
  refine (HA.out _).mono ?_
  rintro e w1 ⟨ra, ia, rfl, h1, h2, hb1⟩
  have HQ1 := Lib.hid (And.intro h1 h2)
  clear h1 h2
  have hS1 := hS.below hb1
  clear hb1
  go_wp2_with fail
  refine hK.out _ _ (hS1) (fun hS => ?_)
  clear hK K
  try simp only [Act.put, List.setIfInBounds_toArray, List.set_cons_zero, List.set_cons_succ]
  refine wpAnyH_ready (rs := [3]) (by kernel_rfl) (by simp) ?_
  refine AllReadyH.cons (o := ⟨some 11, _, _, _, _, _⟩) rfl (fun K hK => ?_) AllReadyH.nil
  go_simp
  refine (HB.out _).mono ?_
  rintro e w2 ⟨rb, ib, rfl, h1, h2, hb2⟩
  have HQ2 := Lib.hid (And.intro h1 h2)
  clear h1 h2
  have hS2 := hS.below hb2
  clear hb2
  go_wp2_with fail
  refine hK.out _ _ (hS2) (fun hS => ?_)
  clear hK K
  try simp only [Act.put, List.setIfInBounds_toArray, List.set_cons_zero, List.set_cons_succ]
  refine wpAnyH_take (i := 4) (oi := ⟨some 6, _, _, _, _, _⟩) (v := ?_) rfl (by kernel_rfl) (by kernel_rfl) (by kernel_rfl) (fun _ _ _ h => h) (Or.inl ⟨by simp only [Region.wanted], ?_⟩) hS ?_
  rotate_left
  · intro wz hSw
    clear hSw
    go_simp
    first | done | with_reducible rfl
  try simp only [Act.put, List.setIfInBounds_toArray, List.set_cons_zero, List.set_cons_succ]
  refine wpAnyH_take (i := 5) (oi := ⟨some 7, _, _, _, _, _⟩) (v := ?_) rfl (by kernel_rfl) (by kernel_rfl) (by kernel_rfl) (fun _ _ _ h => h) (Or.inl ⟨by simp only [Region.wanted], ?_⟩) hS ?_
  rotate_left
  · intro wz hSw
    clear hSw
    go_simp
    first | done | with_reducible rfl
  try simp only [Act.put, List.setIfInBounds_toArray, List.set_cons_zero, List.set_cons_succ]
  refine wpAnyH_done (by kernel_rfl) ?_ _
  have HSF := Lib.hid hS
  clear hS
  go_wp2_with fail
  go_loop [6, 7] (fun v6 v7 => MulSt P v6 v7) (fun v6 v7 => (imOf v6 + 20).toNat)
  case atStart =>
    exact ⟨ra, ia, rb, ib, m, m2, k, k2, k + k2, rfl, rfl, HQ1.out.1, HQ2.out.1, HQ1.out.2, HQ2.out.2, by omega, by omega, by have := HG.out.2.2.1; omega, by omega, by have := HG.out.2.2.2; omega, HG.out.1, HG.out.2.1, HP.out⟩
  case round =>
    obtain ⟨ra2, ia2, rb2, ib2, a, b, i, j, sc, rfl, rfl, h1, h2, h3, h4, h5, h6, h7, h8, h9, h10, h11, h12⟩ := hrel
    have HH := Lib.hid (And.intro h1 (And.intro h2 (And.intro h3 (And.intro h4 (And.intro h5 (And.intro h6 (And.intro h7 (And.intro h8 (And.intro h9 (And.intro h10 (And.intro h11 h12)))))))))))
    obtain ⟨x, y, hc1, hc2⟩ := csum h1 h2 h3 h4 h10 h11 (by omega) (by omega)
    have t0 := fun t w => run_complex_sum (P := Tryz.prog) w .add (.inl rfl) t .f64 ra2 ia2 rb2 ib2 x y hc1
    rw [h5] at hc2
    have HY := Lib.hid hc2
    have H2 := Lib.hid (fun w => either_any w ra2 ia2 rb2 ib2 4611686018427387904 a b 2 h1 h2 rep2 (by decide) (by decide) (by rw [p53]; omega) (by rw [p53]; omega))
    have H5 := Lib.hid (fun w => either_any w ra2 ia2 rb2 ib2 4617315517961601024 a b 5 h1 h2 rep5 (by decide) (by decide) (by rw [p53]; omega) (by rw [p53]; omega))
    obtain ⟨p2, hp2⟩ : ∃ p, p = (decide (a % (2 : Nat) = 0) || decide (b % (2 : Nat) = 0)) := ⟨_, rfl⟩
    obtain ⟨p5, hp5⟩ : ∃ p, p = (decide (a % (5 : Nat) = 0) || decide (b % (5 : Nat) = 0)) := ⟨_, rfl⟩
    rw [← hp2] at H2
    rw [← hp5] at H5
    have hp2' : p2 = true ↔ (a % 2 = 0 ∨ b % 2 = 0) := by rw [hp2]; simp
    have hp5' : p5 = true ↔ (a % 5 = 0 ∨ b % 5 = 0) := by rw [hp5]; simp
    have HP2 := Lib.hid hp2'
    have HP5 := Lib.hid hp5'
    clear h1 h2 h3 h4 h5 h6 h7 h8 h9 h10 h11 h12 hc1 hc2 hp2 hp5 hp2' hp5'
    obtain ⟨p0, hp0⟩ : ∃ p, p = (FloatKind.f64.format.order y 0 == some .gt) := ⟨_, rfl⟩
    have HP0 := Lib.hid (show p0 = true ↔ 0 < sc by
      rw [hp0, ord HY.out rep0]
      rcases Nat.eq_zero_or_pos sc with h | h
      · subst h; simp
      · rw [cmp_gt (by omega)]; simp [h])
    replace hp0 := hp0.symm
    by_cases hgo : p0 = true ∧ p2 = true ∧ p5 = true
    · obtain ⟨rfl, rfl, rfl⟩ := hgo
      have q2 := HP2.out.1 rfl
      have q5 := HP5.out.1 rfl
      have hs := HP0.out.1 rfl
      obtain ⟨h1, h2, h3, h4, h5, h6, h7, h8, h9, h10, h11, h12⟩ := HH.out
      have W2 := Lib.hid (fun w => without_any w ra2 ia2 rb2 ib2 4611686018427387904 a b 2 h1 h2 rep2 (by decide) (by decide) (by rw [p53]; omega) (by rw [p53]; omega) q2)
      have hcs := cut_small (m := 2) h10 h11
      have hcs2 := cut_small (m := 5) hcs.1 hcs.2
      have hn5 := next_five q2 q5
      have hnm := next_mul q2 q5
      obtain ⟨i3, hi1, hi2⟩ := sub_rep h3 rep1 (small_ex (by rw [p53]; omega))
      have HN := Lib.hid (show nextA a b = cut1 (cut1 a b 2) (cut2 a b 2) 5 ∧ nextB a b = cut2 (cut1 a b 2) (cut2 a b 2) 5 from ⟨rfl, rfl⟩)
      have HR := Lib.hid (And.intro hcs (And.intro hcs2 (And.intro hn5 (And.intro hnm (And.intro hi2 hs)))))
      have HI := Lib.hid hi1
      generalize cut1 a b 2 = a2 at *
      generalize cut2 a b 2 = b2 at *
      clear h1 h2 h3 h4 h5 h6 h7 h8 h9 h10 h11 h12 q2 q5 hs hcs hcs2 hn5 hnm hi1 hi2
      go_wp2_with (go_at_call 138; (first | (with_reducible refine (H2.out _).mono ?_) | (with_reducible refine (H5.out _).mono ?_)); rintro e w' ⟨rfl, rfl⟩)
      (with_reducible refine (W2.out _).mono ?_)
      rintro e w' ⟨ra3, rb3, rfl, h1, h2, rfl⟩
      have W5 := Lib.hid (fun w => without_any w ra3 ia2 rb3 ib2 4617315517961601024 a2 b2 5 h1 h2 rep5 (by decide) (by decide) (by rw [p53]; have := HR.out.1.1; omega) (by rw [p53]; have := HR.out.1.2; omega) HR.out.2.2.1)
      clear h1 h2
      go_wp2_with fail
      (with_reducible refine (W5.out _).mono ?_)
      rintro e w' ⟨ra4, rb4, rfl, h1, h2, rfl⟩
      obtain ⟨r4, hr1, hr2⟩ := sub_rep h1 rep0 (small_ex (by rw [p53]; have := HR.out.2.1.1; omega))
      rw [Int.sub_zero] at hr2
      have t4 := fun t w => run_complex_sum (P := Tryz.prog) w .sub (.inr rfl) t .f64 ra4 ia2 0 4607182418800017408 r4 i3 (by
        have e1 : floatBits .sub .f64 ra4 0 = some r4 := hr1
        have e2 : floatBits .sub .f64 ia2 4607182418800017408 = some i3 := HI.out
        simp [cSumBits, e1, e2])
      have HF := Lib.hid (And.intro hr2 h2)
      clear h1 h2 hr1 hr2
      go_wp2_with fail
      go_round
      case rel =>
        obtain ⟨h1, h2, h3, h4, h5, h6, h7, h8, h9, h10, h11, h12⟩ := HH.out
        obtain ⟨g1, g2, g3, g4, g5, g6⟩ := HR.out
        refine ⟨r4, i3, rb4, ib2, _, _, i - 1, j, sc - 1, rfl, rfl, HF.out.1, HF.out.2, g5, h4, by omega, ?_, by omega, h8, h9, g2.1, g2.2, ?_⟩
        · omega
        · rw [h12, nrm_go sc g6 g4.2, ← HN.out.1, ← HN.out.2]
          congr 1
          have := g4.1
          omega
      case measure =>
        rw [imOf_rep HR.out.2.2.2.2.1, imOf_rep HH.out.2.2.1]
        obtain ⟨-, -, -, -, h5, h6, h7, h8, h9, -⟩ := HH.out
        obtain ⟨-, -, -, -, -, g6⟩ := HR.out
        omega
    · have HN := Lib.hid (show P = (a * b, sc) by
        obtain ⟨h1, h2, h3, h4, h5, h6, h7, h8, h9, h10, h11, h12⟩ := HH.out
        rw [h12]
        rcases Nat.eq_zero_or_pos sc with h | h
        · rw [h]; rfl
        · exact nrm_stay _ _ (no_ten (fun hh => hgo ⟨HP0.out.2 h, HP2.out.2 hh.1, HP5.out.2 hh.2⟩)))
      have HM : ∃ r, Ieee.double.mul ra2 rb2 = some r ∧ (((a * b).natAbs < 2 ^ 53 ∧ Rep r (a * b)) ∨ (2 ^ 53 ≤ (a * b).natAbs ∧ ∃ s, Big (2 ^ 53) s r)) := by
        obtain ⟨h1, h2, -⟩ := HH.out
        by_cases hb : (a * b).natAbs < 2 ^ 53
        · obtain ⟨r, hr1, hr2⟩ := mul_rep h1 h2 (small_ex hb)
          exact ⟨r, hr1, .inl ⟨hb, hr2⟩⟩
        · obtain ⟨r, hr1, hr2⟩ := mul_over (t := 53) (by decide) h1 h2 (by omega)
          exact ⟨r, hr1, .inr ⟨by omega, _, hr2⟩⟩
      obtain ⟨r, hr1, hr2⟩ := HM
      have t5 := fun t w => run_float_arith (P := Tryz.prog) w .mul t .f64 ra2 rb2 r hr1
      have HD := Lib.hid (fun w => decimal_any w r y (a * b) sc ⟨HY.out, by
        obtain ⟨h1, h2, h3, h4, h5, h6, h7, h8, h9, h10, h11, h12⟩ := HH.out
        omega, hr2⟩)
      have hst : shrt (a * b) sc = P := by
        rw [HN.out]
        unfold shrt
        split
        · rcases Nat.eq_zero_or_pos sc with h | h
          · rw [h]; rfl
          · exact nrm_stay _ _ (no_ten (fun hh => hgo ⟨HP0.out.2 h, HP2.out.2 hh.1, HP5.out.2 hh.2⟩))
        · rfl
      rw [decV_eq, hst, HV.out] at HD
      have HGO := Lib.hid hgo
      clear hst hr1 hr2 hgo
      obtain ⟨g0, g1, g2, m3, s3, q0, q1, q2, q3, q4⟩ := HSF.out
      cases p0
      · go_wp2_with fail
        (with_reducible refine (HD.out _).mono ?_)
        rintro e w3 ⟨rfl, hb3⟩
        have HE := Lib.hid (HSF.out.below hb3)
        obtain ⟨-, -, -, m4, s4, n0, n1, n2, n3, n4⟩ := HE.out
        clear hb3 q0 q1 q2 q3 q4 g0 g1 g2
        go_wp2_with fail
        exact bodyPost_ret (v := .tuple #[.agg #[.int .i64 vm, .int .i64 vs], .bool vb]) (by simp [results, Tryz.results121, go_sem, n0, n1, n2]) rfl ⟨rfl, (TwoS.put HE.out).1⟩
      · cases p2
        · go_wp2_with (go_at_call 138; (first | (with_reducible refine (H2.out _).mono ?_) | (with_reducible refine (H5.out _).mono ?_)); rintro e w' ⟨rfl, rfl⟩)
          (with_reducible refine (HD.out _).mono ?_)
          rintro e w3 ⟨rfl, hb3⟩
          have HE := Lib.hid (HSF.out.below hb3)
          obtain ⟨-, -, -, m4, s4, n0, n1, n2, n3, n4⟩ := HE.out
          clear hb3 q0 q1 q2 q3 q4 g0 g1 g2
          go_wp2_with fail
          exact bodyPost_ret (v := .tuple #[.agg #[.int .i64 vm, .int .i64 vs], .bool vb]) (by simp [results, Tryz.results121, go_sem, n0, n1, n2]) rfl ⟨rfl, (TwoS.put HE.out).1⟩
        · cases p5
          · go_wp2_with (go_at_call 138; (first | (with_reducible refine (H2.out _).mono ?_) | (with_reducible refine (H5.out _).mono ?_)); rintro e w' ⟨rfl, rfl⟩)
            (with_reducible refine (HD.out _).mono ?_)
            rintro e w3 ⟨rfl, hb3⟩
            have HE := Lib.hid (HSF.out.below hb3)
            obtain ⟨-, -, -, m4, s4, n0, n1, n2, n3, n4⟩ := HE.out
            clear hb3 q0 q1 q2 q3 q4 g0 g1 g2
            go_wp2_with fail
            exact bodyPost_ret (v := .tuple #[.agg #[.int .i64 vm, .int .i64 vs], .bool vb]) (by simp [results, Tryz.results121, go_sem, n0, n1, n2]) rfl ⟨rfl, (TwoS.put HE.out).1⟩
          · exact absurd ⟨rfl, rfl, rfl⟩ HGO.out
end Go.Proofs.YtecomfhbdonkbaaGreatDoor
