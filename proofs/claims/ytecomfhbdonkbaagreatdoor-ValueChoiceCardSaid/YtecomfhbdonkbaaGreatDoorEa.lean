/- Package math at whole numbers: Abs, Frexp, Ldexp, Mod. -/
import Derived.Test.YtecomfhbdonkbaaGreatDoorProg
import Derived.Test.YtecomfhbdonkbaaGreatDoorFc
import Derived.WalkKit
import Derived.WalkSpells
import Derived.IntWalk
import Derived.WalkLawsBesides
import Derived.Laws.Bits64
import Derived.Laws.BitsLemmas
import Derived.Laws.BitsAllLaws
import Derived.Laws.Externs
import Derived.RegionTactic
import Derived.BigRegion
import Derived.Lib.Hide
import Derived.Deep.QuietTactic
import Derived.BigQuiet
import Derived.Deep.LoopGhost
namespace Go.Proofs.YtecomfhbdonkbaaGreatDoor
open Go.RowKit Flo
set_option maxRecDepth 100000
set_option linter.unusedVariables false
set_option linter.unusedSimpArgs false

theorem u64_unsign (x : Nat) (h : x < 2 ^ 64) : bits .andNot .u64 (x : Int) 9223372036854775808 = ((x % 2 ^ 63 : Nat) : Int) := by
  have h64 : (2 : Nat) ^ 64 = 18446744073709551616 := by decide
  rw [h64] at h
  have := u64_andNot_nat x 9223372036854775808 h (by decide)
  have e : 18446744073709551615 - 9223372036854775808 = 2 ^ 63 - 1 := by decide
  rw [e, Nat.and_two_pow_sub_one_eq_mod] at this
  exact this

theorem run_bits (x : Nat) (w : World) : Sem.run Tryz.prog (callFunc 147 #[.float .f64 x]) w = .ok (.value (.int .u64 x)) w := by
  rw [run_callFunc_extern (f := 147) (P := Tryz.prog) (fn := Tryz.f147) (by kernel_rfl) (by kernel_rfl) (by kernel_rfl) (by kernel_rfl) (e := Extern.MathFloatBits.float64bits) (by kernel_rfl)]
  rfl
theorem run_frombits (x : Nat) (w : World) : Sem.run Tryz.prog (callFunc 115 #[.int .u64 (x : Int)]) w = .ok (.value (.float .f64 x)) w := by
  rw [run_callFunc_extern (f := 115) (P := Tryz.prog) (fn := Tryz.f115) (by kernel_rfl) (by kernel_rfl) (by kernel_rfl) (by kernel_rfl) (e := Extern.MathFloatBits.float64frombits) (by kernel_rfl)]
  rfl

set_option maxHeartbeats 400000 in
theorem abs_any (x : Nat) (w : World) (hx : x < 2 ^ 64) : Calls Tryz.prog 135 #[.float .f64 x] w fun e w' => e = .returned (.float .f64 (x % 2 ^ 63)) ∧ w = w' := by
  have h1 := fun w => run_bits x w
  have h2 := fun w => run_frombits (x % 2 ^ 63) w
  have h3 := u64_unsign x hx
  generalize x % 2 ^ 63 = y at *
  go_enter Tryz.func135, Tryz.ntmps135
  go_wp2
  go_ret
  exact ⟨rfl, rfl⟩

/-- the orders that a walk asks for. -/
theorem ord {x y : Nat} {a b : Int} (hx : Rep x a) (hy : Rep y b) : FloatKind.f64.format.order x y = some (compare a b) := order_rep hx hy
theorem ord_lt {x y : Nat} {a b : Int} (hx : Rep x a) (hy : Rep y b) (h : a < b) : FloatKind.f64.format.order x y = some .lt := by
  rw [ord hx hy]; simp [compare, compareOfLessAndEq, h]
theorem ord_eq {x y : Nat} {a b : Int} (hx : Rep x a) (hy : Rep y b) (h : a = b) : FloatKind.f64.format.order x y = some .eq := by
  rw [ord hx hy]; simp [compare, compareOfLessAndEq, h]
theorem ord_gt {x y : Nat} {a b : Int} (hx : Rep x a) (hy : Rep y b) (h : b < a) : FloatKind.f64.format.order x y = some .gt := by
  rw [ord hx hy]
  have h1 : ¬ a < b := by omega
  have h2 : ¬ a = b := by omega
  simp [compare, compareOfLessAndEq, h1, h2]

theorem rep0 : Rep 0 0 := .inl ⟨rfl, .inl (by decide)⟩
theorem rep_lit (n : Nat) (h0 : n ≠ 0) (h : n < 2 ^ 53) (w : Nat) (hw : w = rungOf n) : Rep w (n : Int) := hw ▸ Rep.of_rung (Ex.small h0 h)
theorem rep1 : Rep 4607182418800017408 1 := rep_lit 1 (by decide) (by decide) _ (by decide)
theorem rep10 : Rep 4621819117588971520 10 := rep_lit 10 (by decide) (by decide) _ (by decide)
theorem rep2 : Rep 4611686018427387904 2 := rep_lit 2 (by decide) (by decide) _ (by decide)
theorem rep5 : Rep 4617315517961601024 5 := rep_lit 5 (by decide) (by decide) _ (by decide)
theorem rep6 : Rep 4618441417868443648 6 := rep_lit 6 (by decide) (by decide) _ (by decide)
theorem rep_most : Rep 4831355200913801208 999999999999999 := rep_lit 999999999999999 (by decide) (by decide) _ (by decide)
theorem rep_whole : Rep 4845873199050653696 9007199254740992 := by
  have h : Ex 9007199254740992 := ⟨by decide, by decide, 1, 53, by decide, by decide⟩
  have := Rep.of_rung h
  have e : rungOf 9007199254740992 = 4845873199050653696 := by decide
  rw [e] at this
  exact this

/-- The greatest float, and the least normal one. -/
theorem not_inf {x : Nat} {n : Int} (h : Rep x n) (K9 : Nat) (hK9 : K9 ≤ 1000) (hb : n.natAbs < 2 ^ K9) (hn : 0 ≤ n) : FloatKind.f64.format.order x 9218868437227405311 = some .lt := by
  obtain ⟨K, hK⟩ : ∃ K : Nat, K = 971 := ⟨_, rfl⟩
  have hr : Rep 9218868437227405311 ((9007199254740991 * 2 ^ K : Nat) : Int) := by
    have hx : Ex (9007199254740991 * 2 ^ K) := by
      refine ⟨?_, ?_, 9007199254740991, K, rfl, by decide⟩
      · exact Nat.mul_ne_zero (by decide) (by have := Nat.two_pow_pos K; omega)
      · rw [log2_mul_pow _ _ (by decide)]
        have : Nat.log2 9007199254740991 = 52 := by decide
        omega
    have := Rep.of_rung hx
    rw [rungOf_pow (by decide)] at this
    have e : rungOf 9007199254740991 + K * 4503599627370496 = 9218868437227405311 := by rw [hK]; decide
    rw [e] at this
    exact this
  refine ord_lt h hr ?_
  have h1 : (2 : Nat) ^ K9 ≤ 9007199254740991 * 2 ^ K := by
    have h9 : (2 : Nat) ^ K9 ≤ 2 ^ (29 + K) := Nat.pow_le_pow_right (by decide) (by omega)
    refine Nat.le_trans h9 ?_
    rw [Nat.pow_add]
    exact Nat.mul_le_mul_right _ (by decide)
  generalize 9007199254740991 * 2 ^ K = B at h1 ⊢
  generalize 2 ^ K9 = C at h1 hb
  omega

theorem inf_any (x : Nat) (n : Int) (w : World) (h : Rep x n) (hb : n.natAbs < 2 ^ 54) : Calls Tryz.prog 176 #[.float .f64 x, .int .i64 0] w fun e w' => e = .returned (.bool false) ∧ w = w' := by
  have h1 := not_inf (abs_rep h) 54 (by decide) (by simpa using hb) (by omega)
  have HA := Lib.hid (fun w => abs_any x w h.lt)
  go_enter Tryz.func176, Tryz.ntmps176
  go_wp2_with fail
  refine (HA.out _).mono ?_
  rintro e w' ⟨rfl, rfl⟩
  go_wp2
  go_ret
  exact ⟨rfl, rfl⟩
theorem nan_any (x : Nat) (n : Int) (w : World) (h : Rep x n) : Calls Tryz.prog 177 #[.float .f64 x] w fun e w' => e = .returned (.bool false) ∧ w = w' := by
  have h1 := ord_eq h h rfl
  go_enter Tryz.func177, Tryz.ntmps177
  go_wp2
  go_ret
  exact ⟨rfl, rfl⟩

theorem not_tiny {x N : Nat} (h : Rep x (N : Int)) (h0 : N ≠ 0) (hb : N < 2 ^ 53) : FloatKind.f64.format.order x 4503599627370496 = some .gt := by
  have hx : Ex N := Ex.small h0 hb
  have hr : FloatKind.f64.format.read x = .number false (kOf N) ((N.log2 : Int) - 52) := by
    rw [h.pos h0]
    have e : rungOf N = Ieee.double.word false (rungOf N) := by unfold Ieee.Format.word; simp
    rw [e]
    exact read_rungOf false h0 hx.2.1
  have hs : FloatKind.f64.format.read 4503599627370496 = .number false 4503599627370496 (-1074) := by decide
  have hk := kOf_bounds h0
  unfold Ieee.Format.order
  rw [hr, hs]
  show some (compare _ _) = _
  have e1 : min ((N.log2 : Int) - 52) (-1074) = -1074 := by omega
  rw [e1]
  have e2 : (-1074 - (-1074 : Int)).toNat = 0 := by decide
  rw [e2, signed_eq, signed_eq]
  obtain ⟨j, hj⟩ : ∃ j : Nat, ((N.log2 : Int) - 52 - -1074).toNat = j + 1 := ⟨(N.log2 + 1021), by omega⟩
  rw [hj]
  have h1 : (1 : Int) ≤ 2 ^ j := two_pos j
  have h2 : (4503599627370496 : Int) * 2 ≤ (kOf N : Int) * 2 ^ (j + 1) := by
    rw [Int.pow_succ, ← Int.mul_assoc]
    refine Int.mul_le_mul_of_nonneg_right ?_ (by decide)
    have : (4503599627370496 : Int) * 1 ≤ (kOf N : Int) * 2 ^ j := Int.mul_le_mul (by omega) h1 (by decide) (by omega)
    omega
  generalize (kOf N : Int) * 2 ^ (j + 1) = Z at h2 ⊢
  simp only [Bool.false_eq_true, if_false, Int.one_mul, Int.pow_zero, Int.mul_one]
  simp only [compare, compareOfLessAndEq]
  rw [if_neg (by omega), if_neg (by omega)]

theorem norm_no (w : World) (x : Nat) (N : Nat) (h : Rep x (N : Int)) (h0 : N ≠ 0) (hb : N < 2 ^ 53) :
    Calls Tryz.prog 185 #[.float .f64 x] w fun e w' => e = .returned (.tuple #[.float .f64 x, .int .i64 0]) ∧ w = w' := by
  have hA := Lib.hid (fun w => abs_any x w h.lt)
  have hr := abs_rep h
  have e1 : FloatKind.f64.format.order (x % 2 ^ 63) 4503599627370496 = some .gt := not_tiny (by simpa using hr) h0 hb
  generalize x % 2 ^ 63 = y at *
  go_enter Tryz.func185, Tryz.ntmps185
  go_wp2_with (go_at_call 135; refine (hA.out _).mono ?_; rintro e w' ⟨rfl, rfl⟩)
  go_ret2
  exact ⟨rfl, rfl⟩

theorem u64_and2047 (x : Nat) (h : x < 2 ^ 64) : bits .and .u64 (x : Int) 2047 = ((x % 2048 : Nat) : Int) := by
  have h64 : (2 : Nat) ^ 64 = 18446744073709551616 := by decide
  rw [h64] at h
  have := u64_and_nat x 2047 h (by decide)
  have e : (2047 : Nat) = 2 ^ 11 - 1 := by decide
  rw [e, Nat.and_two_pow_sub_one_eq_mod] at this
  exact this
theorem u64_unexp (x : Nat) (h : x < 2 ^ 63) : bits .andNot .u64 (x : Int) 9218868437227405312 = ((x % 4503599627370496 : Nat) : Int) := by
  rw [p63] at h
  have := u64_andNot_nat x 9218868437227405312 (by omega) (by decide)
  have e : (18446744073709551615 - 9218868437227405312 : Nat) = 2 ^ 63 ||| (2 ^ 52 - 1) := by decide
  have e2 : x &&& (18446744073709551615 - 9218868437227405312) = x % 2 ^ 52 := by
    rw [e, Nat.and_or_distrib_left, Nat.and_two_pow_sub_one_eq_mod, nat_bit, Nat.div_eq_of_lt (by omega)]
    simp
  rw [e2, p52] at this
  exact this
theorem u64_join (x y : Nat) (hx : x < 4503599627370496) (hy : y < 2048) : bits .or .u64 (x : Int) ((y * 4503599627370496 : Nat) : Int) = ((y * 4503599627370496 + x : Nat) : Int) := by
  have := u64_or_nat x (y * 4503599627370496) (by omega) (by omega)
  rw [Nat.or_comm, nat_join 52 _ _ (by rw [p52]; exact Nat.mul_mod_left _ _) (by rw [p52]; exact hx)] at this
  exact this

theorem rung_bits {N : Nat} (h0 : N ≠ 0) (hb : N < 2 ^ 53) : rungOf N < 2 ^ 63 ∧ rungOf N / 4503599627370496 = 1023 + N.log2 ∧ rungOf N % 4503599627370496 + 4503599627370496 = kOf N ∧ N.log2 ≤ 52 := by
  obtain ⟨h1, h2, h3, h4, h5⟩ := rungOf_lt h0 (Ex.small h0 hb).2.1
  refine ⟨h3, h4, h5, ?_⟩
  have := (Nat.log2_lt h0 (k := 53)).2 hb
  omega

theorem u64_half (x : Nat) (hx : x < 4503599627370496) : bits .or .u64 (x : Int) 4602678819172646912 = ((4602678819172646912 + x : Nat) : Int) := u64_join x 1022 hx (by decide)

/-- all that Frexp reckons. -/
theorem frexp_bits {x N : Nat} (h : Rep x (N : Int)) (h0 : N ≠ 0) (hb : N < 2 ^ 53) : ∃ xm : Nat, (x : Int) / 4503599627370496 = 1023 + (N.log2 : Int) ∧
    bits .and .u64 (1023 + (N.log2 : Int)) 2047 = 1023 + (N.log2 : Int) ∧ bits .andNot .u64 (x : Int) 9218868437227405312 = (xm : Int) ∧ bits .or .u64 (xm : Int) 4602678819172646912 = (fracOf N : Int) ∧ N.log2 ≤ 52 := by
  have hp := h.pos h0
  obtain ⟨r1, r2, r3, r4⟩ := rung_bits h0 hb
  rw [← hp] at r1 r2 r3
  refine ⟨x % 4503599627370496, by omega, ?_, u64_unexp x r1, ?_, r4⟩
  · have := u64_and2047 (1023 + N.log2) (by omega)
    rw [Nat.mod_eq_of_lt (by omega)] at this
    exact this
  · have := u64_half (x % 4503599627370496) (Nat.mod_lt _ (by decide))
    have e : 4602678819172646912 + x % 4503599627370496 = fracOf N := by
      unfold fracOf
      generalize kOf N = K at *
      omega
    rw [e] at this
    exact this

theorem frexp_no (w : World) (x : Nat) (N : Nat) (h : Rep x (N : Int)) (h0 : N ≠ 0) (hb : N < 2 ^ 53) :
    Calls Tryz.prog 182 #[.float .f64 x] w fun e w' => e = .returned (.tuple #[.float .f64 (fracOf N), .int .i64 ((N.log2 : Int) + 1)]) ∧ w = w' := by
  have hI := Lib.hid (fun w => inf_any x _ w h (by simp; exact Nat.lt_trans hb (by decide)))
  have hN := Lib.hid (fun w => nan_any x _ w h)
  have e0 : (FloatKind.f64.format.order x 0) = some .gt := ord_gt h rep0 (by omega)
  have hZ := Lib.hid (fun w => norm_no w x N h h0 hb)
  have hB := fun w => run_bits x w
  obtain ⟨xm, c1, c2, c3, c4, c5⟩ := frexp_bits h h0 hb
  have hF := fun w => run_frombits (fracOf N) w
  generalize fracOf N = fr at *
  generalize N.log2 = L at *
  go_enter Tryz.func182, Tryz.ntmps182
  go_wp2_with (first | (go_at_call 176; refine (hI.out _).mono ?_; rintro e w' ⟨rfl, rfl⟩) | (go_at_call 177; refine (hN.out _).mono ?_; rintro e w' ⟨rfl, rfl⟩) | (go_at_call 185; refine (hZ.out _).mono ?_; rintro e w' ⟨rfl, rfl⟩))
  go_ret2
  have e : (1023 + (L : Int) - 1023 + 1) = (L : Int) + 1 := by omega
  rw [e]
  exact ⟨rfl, rfl⟩

theorem frexp_any (w : World) (x : Nat) (N : Nat) (h : Rep x (N : Int)) (h0 : N ≠ 0) (hb : N < 2 ^ 53) :
    Calls Tryz.prog 179 #[.float .f64 x] w fun e w' => e = .returned (.tuple #[.float .f64 (fracOf N), .int .i64 ((N.log2 : Int) + 1)]) ∧ w = w' := by
  have hZ := Lib.hid (fun w => frexp_no w x N h h0 hb)
  go_enter Tryz.func179, Tryz.ntmps179
  go_wp2_with (go_at_call 182; refine (hZ.out _).mono ?_; rintro e w' ⟨rfl, rfl⟩)
  go_ret2
  exact ⟨rfl, rfl⟩

theorem mul_one_f {x : Nat} {N : Nat} (h : Rep x (N : Int)) (h0 : N ≠ 0) (hx : Ex N) : Ieee.double.mul 4607182418800017408 x = some x := by
  obtain ⟨r, h1, h2⟩ := mul_rep rep1 h (.inr (by simpa using hx))
  rw [Int.one_mul] at h2
  rw [h1, h2.pos h0, h.pos h0]

theorem i64_and2047 (x : Nat) (h : x < 4096) : bits .and .i64 (x : Int) 2047 = ((x % 2048 : Nat) : Int) := by
  have e62 : (2 : Int) ^ 62 = 4611686018427387904 := by decide
  have := bits_mask .i64 62 (by decide) (fun n h1 h2 => by rw [IntKind.wrap_i64]; omega) 11 (by decide) (x : Int) (by omega) (by rw [e62]; omega)
  have e : ((2 : Int) ^ 11 - 1) = 2047 := by decide
  have e3 : ((2 : Int) ^ 11) = 2048 := by decide
  have e2 : ((x % 2048 : Nat) : Int) = (x : Int) % 2048 := by omega
  rw [e2]
  rw [e3] at this
  exact this

/-- all that Ldexp reckons. -/
theorem ldexp_bits {x N k : Nat} (h : Rep x (N : Int)) (h0 : N ≠ 0) (hb : N < 2 ^ 53) (hk : N * 2 ^ k < 2 ^ 53) : ∃ xm : Nat, (x : Int) / 4503599627370496 = 1023 + (N.log2 : Int) ∧
    bits .and .i64 (1023 + (N.log2 : Int)) 2047 = 1023 + (N.log2 : Int) ∧ bits .andNot .u64 (x : Int) 9218868437227405312 = (xm : Int) ∧
    IntKind.u64.wrap (((N.log2 : Int) + k + 1023) * 4503599627370496) = ((N.log2 : Int) + k + 1023) * 4503599627370496 ∧
    bits .or .u64 (xm : Int) (((N.log2 : Int) + k + 1023) * 4503599627370496) = ((rungOf (N * 2 ^ k) : Nat) : Int) ∧ N.log2 ≤ 52 ∧ N.log2 + k ≤ 52 := by
  have hp := h.pos h0
  obtain ⟨r1, r2, r3, r4⟩ := rung_bits h0 hb
  have hn : N * 2 ^ k ≠ 0 := Nat.mul_ne_zero h0 (by have := Nat.two_pow_pos k; omega)
  have hl := log2_mul_pow N k h0
  have hl2 : (N * 2 ^ k).log2 ≤ 52 := by
    have := (Nat.log2_lt hn (k := 53)).2 hk
    omega
  have hR := rungOf_pow (e := k) h0
  have hRq := rungOf_eq N
  rw [← hp] at r1 r2 r3 hR hRq
  refine ⟨x % 4503599627370496, by omega, ?_, u64_unexp x r1, ?_, ?_, r4, by omega⟩
  · have := i64_and2047 (1023 + N.log2) (by omega)
    rw [Nat.mod_eq_of_lt (by omega)] at this
    exact this
  · rw [IntKind.wrap_u64]
    omega
  · have := u64_join (x % 4503599627370496) (N.log2 + k + 1023) (Nat.mod_lt _ (by decide)) (by omega)
    have e : (N.log2 + k + 1023) * 4503599627370496 + x % 4503599627370496 = rungOf (N * 2 ^ k) := by
      rw [hR]
      generalize kOf N = K at *
      generalize N.log2 = L at *
      omega
    rw [e] at this
    have e2 : (((N.log2 + k + 1023) * 4503599627370496 : Nat) : Int) = ((N.log2 : Int) + k + 1023) * 4503599627370496 := by
      rw [Int.natCast_mul]; rfl
    rw [e2] at this
    exact this

theorem ldexp_no (w : World) (x : Nat) (N k : Nat) (h : Rep x (N : Int)) (h0 : N ≠ 0) (hb : N < 2 ^ 53) (hk : N * 2 ^ k < 2 ^ 53) :
    Calls Tryz.prog 184 #[.float .f64 x, .int .i64 (k : Int)] w fun e w' => e = .returned (.float .f64 (rungOf (N * 2 ^ k))) ∧ w = w' := by
  have hI := Lib.hid (fun w => inf_any x _ w h (by simp; exact Nat.lt_trans hb (by decide)))
  have hN := Lib.hid (fun w => nan_any x _ w h)
  have e0 : (FloatKind.f64.format.order x 0) = some .gt := ord_gt h rep0 (by omega)
  have hZ := Lib.hid (fun w => norm_no w x N h h0 hb)
  have hB := fun w => run_bits x w
  obtain ⟨xm, c1, c2, c3, c6, c4, c5, c7⟩ := ldexp_bits h h0 hb hk
  have hn : N * 2 ^ k ≠ 0 := Nat.mul_ne_zero h0 (by have := Nat.two_pow_pos k; omega)
  have hx : Ex (N * 2 ^ k) := Ex.small hn hk
  have hm := mul_one_f (Rep.of_rung hx) hn hx
  generalize rungOf (N * 2 ^ k) = fr at *
  have hM := fun t w => run_float_arith (P := Tryz.prog) w .mul t .f64 4607182418800017408 fr fr hm
  have hF := fun w => run_frombits fr w
  generalize hL : N.log2 = L at *
  have hS : (k : Int) + (1023 + (L : Int) - 1023) = (L : Int) + k := by omega
  obtain ⟨S, hS2⟩ : ∃ S : Nat, (L : Int) + k = (S : Int) := ⟨L + k, by omega⟩
  rw [hS2] at hS c6 c4
  have hS3 : S ≤ 52 := by omega
  clear hS2 hm
  go_enter Tryz.func184, Tryz.ntmps184
  go_wp2_with (first | (go_at_call 176; refine (hI.out _).mono ?_; rintro e w' ⟨rfl, rfl⟩) | (go_at_call 177; refine (hN.out _).mono ?_; rintro e w' ⟨rfl, rfl⟩) | (go_at_call 185; refine (hZ.out _).mono ?_; rintro e w' ⟨rfl, rfl⟩))
  go_ret
  exact ⟨rfl, rfl⟩

theorem ldexp_any (w : World) (x : Nat) (N k : Nat) (h : Rep x (N : Int)) (h0 : N ≠ 0) (hb : N < 2 ^ 53) (hk : N * 2 ^ k < 2 ^ 53) :
    Calls Tryz.prog 180 #[.float .f64 x, .int .i64 (k : Int)] w fun e w' => e = .returned (.float .f64 (rungOf (N * 2 ^ k))) ∧ w = w' := by
  have hZ := Lib.hid (fun w => ldexp_no w x N k h h0 hb hk)
  go_enter Tryz.func180, Tryz.ntmps180
  go_wp2_with (go_at_call 184; refine (hZ.out _).mono ?_; rintro e w' ⟨rfl, rfl⟩)
  go_ret
  exact ⟨rfl, rfl⟩
/-- one round of the remainder: what is left, r, is a whole number; y goes into it. -/
theorem sub_any {x r y k : Nat} (hx : Rep x (r : Int)) (h : y * 2 ^ k ≤ r) (hr : r < 2 ^ 53) (hy : y ≠ 0) : ∃ z, Ieee.double.sub x (rungOf (y * 2 ^ k)) = some z ∧ Rep z ((r - y * 2 ^ k : Nat) : Int) := by
  have hn : y * 2 ^ k ≠ 0 := Nat.mul_ne_zero hy (by have := Nat.two_pow_pos k; omega)
  have hx2 : Ex (y * 2 ^ k) := Ex.small hn (by omega)
  generalize hN : y * 2 ^ k = N at *
  have e : ((r - N : Nat) : Int) = (r : Int) - N := by omega
  rw [e]
  refine sub_rep hx (Rep.of_rung hx2) ?_
  by_cases h9 : (r : Int) - N = 0
  · exact .inl h9
  · exact .inr (Ex.small (by omega) (by omega))

theorem run_neg (x : Nat) (w : World) : Sem.run Tryz.prog (Op.unary .neg (.float .f64 x)) w = .ok (.float .f64 (x ^^^ 2 ^ 63)) w := rfl

/-- a float's whole number. -/
def natOf (v : Value) : Nat := match v with
  | .float _ b => (((Ieee.double.read b).toInt .zero).getD 0).toNat
  | _ => 0
theorem natOf_rep {z k : Nat} (h : Rep z (k : Int)) : natOf (.float .f64 z) = k := by
  show (((Ieee.double.read z).toInt .zero).getD 0).toNat = k
  rw [toInt_dt h.dt]
  simp

/-- what the loop of the remainder keeps. -/
def ModSt (m N : Nat) (v : Value) : Prop := ∃ z k : Nat, v = .float .f64 z ∧ Rep z (k : Int) ∧ k % m = N % m ∧ k ≤ N

set_option maxHeartbeats 1000000 in
theorem mod_no (w : World) (x y : Nat) (n : Int) (m : Nat) (hx : Rep x n) (hy : Rep y (m : Int)) (h0 : m ≠ 0) (hm : m < 2 ^ 53) (hn : n.natAbs < 2 ^ 53) :
    Calls Tryz.prog 171 #[.float .f64 x, .float .f64 y] w fun e w' => ∃ z, e = .returned (.float .f64 z) ∧ Rep z (n.tmod m) ∧ w = w' := by
  have hI := Lib.hid (fun w => inf_any x _ w hx (Nat.lt_trans hn (by decide)))
  have hN := Lib.hid (fun w => nan_any x _ w hx)
  have hN2 := Lib.hid (fun w => nan_any y _ w hy)
  have hA := Lib.hid (fun w => abs_any y w hy.lt)
  have hay : y % 2 ^ 63 = y := by
    rw [hy.pos h0]
    exact Nat.mod_eq_of_lt (rung_bits h0 hm).1
  rw [hay] at hA
  clear hay
  have hF := Lib.hid (fun w => frexp_any w y m hy h0 hm)
  have e0 : FloatKind.f64.format.order y 0 = some .gt := ord_gt hy rep0 (by omega)
  have HX := Lib.hid hx
  have HN := Lib.hid hn
  have HY := Lib.hid hy
  have HM := Lib.hid hm
  have hng := fun w => run_neg x w
  have HG := Lib.hid (neg_rep hx)
  generalize x ^^^ 2 ^ 63 = nx at *
  clear hx hn hy hm
  rcases Int.lt_or_le n 0 with hlt | hge
  · have e1 : FloatKind.f64.format.order x 0 = some .lt := ord_lt HX.out rep0 hlt
    go_enter Tryz.func171, Tryz.ntmps171
    go_wp2_with (first | (go_at_call 176; refine (hI.out _).mono ?_; rintro e w' ⟨rfl, rfl⟩) | (go_at_call 177; (first | refine (hN.out _).mono ?_ | refine (hN2.out _).mono ?_); rintro e w' ⟨rfl, rfl⟩) | (go_at_call 135; refine (hA.out _).mono ?_; rintro e w' ⟨rfl, rfl⟩) | (go_at_call 179; refine (hF.out _).mono ?_; rintro e w' ⟨rfl, rfl⟩))
    go_loop [7] (fun v => ModSt m n.natAbs v) (fun v => natOf v)
    case atStart =>
      have e : ((n.natAbs : Nat) : Int) = -n := by omega
      exact ⟨nx, n.natAbs, rfl, by rw [e]; exact HG.out, rfl, Nat.le_refl _⟩
    case round =>
      obtain ⟨z, k, rfl, hz, hk1, hk2⟩ := hrel
      have HK := Lib.hid hk1
      clear hk1
      by_cases hkm : m ≤ k
      · have e2 : FloatKind.f64.format.order z y = some .gt ∨ FloatKind.f64.format.order z y = some .eq := by
          rcases Nat.lt_or_ge m k with h | h
          · exact .inl (ord_gt hz HY.out (by omega))
          · exact .inr (ord_eq hz HY.out (by omega))
        have hk53 : k < 2 ^ 53 := Nat.lt_of_le_of_lt hk2 HN.out
        have hk0 : k ≠ 0 := by omega
        have hF2 := Lib.hid (fun w => frexp_any w z k hz hk0 hk53)
        obtain ⟨s1, s2, s3⟩ := step_fits (Ex.small hk0 hk53) (Ex.small h0 HM.out) hkm
        have hL := Lib.hid (fun w => ldexp_any w y m (stepOf k m) HY.out h0 HM.out (by omega))
        obtain ⟨zz, hs1, hs2⟩ := sub_any hz s1 hk53 h0
        have hS := fun t w => run_float_arith (P := Tryz.prog) w .sub t .f64 z (rungOf (m * 2 ^ stepOf k m)) zz hs1
        have hord := order_frac hk0 h0
        have hmod : (k - m * 2 ^ stepOf k m) % m = k % m := by
          have e : k = (k - m * 2 ^ stepOf k m) + m * 2 ^ stepOf k m := by omega
          conv => rhs; rw [e, Nat.add_mul_mod_self_left]
        have HQ := Lib.hid (show ModSt m n.natAbs (.float .f64 zz) from ⟨zz, k - m * 2 ^ stepOf k m, rfl, hs2, by rw [hmod]; exact HK.out, by omega⟩)
        have HZ := Lib.hid (natOf_rep hs2)
        have HZ0 := Lib.hid (natOf_rep hz)
        have hpos : 0 < m * 2 ^ stepOf k m := Nat.mul_pos (by omega) (Nat.two_pow_pos _)
        have hkk : k - m * 2 ^ stepOf k m < k := by omega
        generalize rungOf (m * 2 ^ stepOf k m) = rg at *
        generalize k - m * 2 ^ stepOf k m = kk at *
        generalize fracOf k = fk at *
        generalize fracOf m = fm at *
        generalize stepOf k m = S at *
        generalize hlk : k.log2 = Lk at *
        generalize hlm : m.log2 = Lm at *
        have hLk : Lk ≤ 52 := by
          rw [← hlk]
          have := (Nat.log2_lt hk0 (k := 53)).2 hk53
          omega
        have hLm : Lm ≤ 52 := by
          rw [← hlm]
          have := (Nat.log2_lt h0 (k := 53)).2 HM.out
          omega
        clear hlk hlm
        by_cases hfr : kOf k < kOf m
        · have e3 : FloatKind.f64.format.order fk fm = some .lt := by
            rw [show FloatKind.f64.format.order fk fm = _ from hord]
            simp [compare, compareOfLessAndEq]; omega
          obtain ⟨s4, s5⟩ := s2 hfr
          have HE := Lib.hid (show (Lk : Int) - (Lm + 1) = (S : Int) by omega)
          clear s2 s3 hord hs1 hmod s5
          rcases e2 with e2 | e2
          all_goals
            go_wp2_with (first | (go_at_call 179; refine (hF2.out _).mono ?_; rintro e w' ⟨rfl, rfl⟩) | (go_at_call 180; rw [HE.out]; refine (hL.out _).mono ?_; rintro e w' ⟨rfl, rfl⟩))
            go_round
            case rel => exact HQ.out
            case measure => rw [HZ.out, HZ0.out]; omega
        · have e3 : FloatKind.f64.format.order fk fm = some .gt ∨ FloatKind.f64.format.order fk fm = some .eq := by
            rw [show FloatKind.f64.format.order fk fm = _ from hord]
            simp only [compare, compareOfLessAndEq]
            rw [if_neg (by omega)]
            split
            · exact .inr rfl
            · exact .inl rfl
          obtain ⟨s4, s5⟩ := s3 hfr
          have HE := Lib.hid (show (Lk : Int) + 1 - (Lm + 1) = (S : Int) by omega)
          clear s2 s3 hord hs1 hmod s5
          rcases e2 with e2 | e2
          all_goals rcases e3 with e3 | e3
          all_goals
            go_wp2_with (first | (go_at_call 179; refine (hF2.out _).mono ?_; rintro e w' ⟨rfl, rfl⟩) | (go_at_call 180; rw [HE.out]; refine (hL.out _).mono ?_; rintro e w' ⟨rfl, rfl⟩))
            go_round
            case rel => exact HQ.out
            case measure => rw [HZ.out, HZ0.out]; omega
      · have e2 : FloatKind.f64.format.order z y = some .lt := ord_lt hz HY.out (by omega)
        have hng2 := fun w => run_neg z w
        have HG2 := Lib.hid (neg_rep hz)
        generalize z ^^^ 2 ^ 63 = nz at *
        go_wp2
        go_ret
        refine ⟨nz, rfl, ?_, rfl⟩
        have e : -(k : Int) = n.tmod m := by
          have hk3 : k = n.natAbs % m := by rw [← HK.out, Nat.mod_eq_of_lt (by omega)]
          have : n = -((n.natAbs : Nat) : Int) := by omega
          rw [this, Int.neg_tmod, Int.tmod_eq_emod_of_nonneg (by omega), hk3]
          simp
        rw [← e]
        exact HG2.out
  · have e1 : (FloatKind.f64.format.order x 0 == some .lt) = false := by
      rcases Int.lt_or_le 0 n with h | h
      · rw [ord_gt HX.out rep0 h]; rfl
      · rw [ord_eq HX.out rep0 (by omega)]; rfl
    go_enter Tryz.func171, Tryz.ntmps171
    go_wp2_with (first | (go_at_call 176; refine (hI.out _).mono ?_; rintro e w' ⟨rfl, rfl⟩) | (go_at_call 177; (first | refine (hN.out _).mono ?_ | refine (hN2.out _).mono ?_); rintro e w' ⟨rfl, rfl⟩) | (go_at_call 135; refine (hA.out _).mono ?_; rintro e w' ⟨rfl, rfl⟩) | (go_at_call 179; refine (hF.out _).mono ?_; rintro e w' ⟨rfl, rfl⟩))
    go_loop [7] (fun v => ModSt m n.natAbs v) (fun v => natOf v)
    case atStart =>
      have e : ((n.natAbs : Nat) : Int) = n := by omega
      exact ⟨x, n.natAbs, rfl, by rw [e]; exact HX.out, rfl, Nat.le_refl _⟩
    case round =>
      obtain ⟨z, k, rfl, hz, hk1, hk2⟩ := hrel
      have HK := Lib.hid hk1
      clear hk1
      by_cases hkm : m ≤ k
      · have e2 : FloatKind.f64.format.order z y = some .gt ∨ FloatKind.f64.format.order z y = some .eq := by
          rcases Nat.lt_or_ge m k with h | h
          · exact .inl (ord_gt hz HY.out (by omega))
          · exact .inr (ord_eq hz HY.out (by omega))
        have hk53 : k < 2 ^ 53 := Nat.lt_of_le_of_lt hk2 HN.out
        have hk0 : k ≠ 0 := by omega
        have hF2 := Lib.hid (fun w => frexp_any w z k hz hk0 hk53)
        obtain ⟨s1, s2, s3⟩ := step_fits (Ex.small hk0 hk53) (Ex.small h0 HM.out) hkm
        have hL := Lib.hid (fun w => ldexp_any w y m (stepOf k m) HY.out h0 HM.out (by omega))
        obtain ⟨zz, hs1, hs2⟩ := sub_any hz s1 hk53 h0
        have hS := fun t w => run_float_arith (P := Tryz.prog) w .sub t .f64 z (rungOf (m * 2 ^ stepOf k m)) zz hs1
        have hord := order_frac hk0 h0
        have hmod : (k - m * 2 ^ stepOf k m) % m = k % m := by
          have e : k = (k - m * 2 ^ stepOf k m) + m * 2 ^ stepOf k m := by omega
          conv => rhs; rw [e, Nat.add_mul_mod_self_left]
        have HQ := Lib.hid (show ModSt m n.natAbs (.float .f64 zz) from ⟨zz, k - m * 2 ^ stepOf k m, rfl, hs2, by rw [hmod]; exact HK.out, by omega⟩)
        have HZ := Lib.hid (natOf_rep hs2)
        have HZ0 := Lib.hid (natOf_rep hz)
        have hpos : 0 < m * 2 ^ stepOf k m := Nat.mul_pos (by omega) (Nat.two_pow_pos _)
        have hkk : k - m * 2 ^ stepOf k m < k := by omega
        generalize rungOf (m * 2 ^ stepOf k m) = rg at *
        generalize k - m * 2 ^ stepOf k m = kk at *
        generalize fracOf k = fk at *
        generalize fracOf m = fm at *
        generalize stepOf k m = S at *
        generalize hlk : k.log2 = Lk at *
        generalize hlm : m.log2 = Lm at *
        have hLk : Lk ≤ 52 := by
          rw [← hlk]
          have := (Nat.log2_lt hk0 (k := 53)).2 hk53
          omega
        have hLm : Lm ≤ 52 := by
          rw [← hlm]
          have := (Nat.log2_lt h0 (k := 53)).2 HM.out
          omega
        clear hlk hlm
        by_cases hfr : kOf k < kOf m
        · have e3 : FloatKind.f64.format.order fk fm = some .lt := by
            rw [show FloatKind.f64.format.order fk fm = _ from hord]
            simp [compare, compareOfLessAndEq]; omega
          obtain ⟨s4, s5⟩ := s2 hfr
          have HE := Lib.hid (show (Lk : Int) - (Lm + 1) = (S : Int) by omega)
          clear s2 s3 hord hs1 hmod s5
          rcases e2 with e2 | e2
          all_goals
            go_wp2_with (first | (go_at_call 179; refine (hF2.out _).mono ?_; rintro e w' ⟨rfl, rfl⟩) | (go_at_call 180; rw [HE.out]; refine (hL.out _).mono ?_; rintro e w' ⟨rfl, rfl⟩))
            go_round
            case rel => exact HQ.out
            case measure => rw [HZ.out, HZ0.out]; omega
        · have e3 : FloatKind.f64.format.order fk fm = some .gt ∨ FloatKind.f64.format.order fk fm = some .eq := by
            rw [show FloatKind.f64.format.order fk fm = _ from hord]
            simp only [compare, compareOfLessAndEq]
            rw [if_neg (by omega)]
            split
            · exact .inr rfl
            · exact .inl rfl
          obtain ⟨s4, s5⟩ := s3 hfr
          have HE := Lib.hid (show (Lk : Int) + 1 - (Lm + 1) = (S : Int) by omega)
          clear s2 s3 hord hs1 hmod s5
          rcases e2 with e2 | e2
          all_goals rcases e3 with e3 | e3
          all_goals
            go_wp2_with (first | (go_at_call 179; refine (hF2.out _).mono ?_; rintro e w' ⟨rfl, rfl⟩) | (go_at_call 180; rw [HE.out]; refine (hL.out _).mono ?_; rintro e w' ⟨rfl, rfl⟩))
            go_round
            case rel => exact HQ.out
            case measure => rw [HZ.out, HZ0.out]; omega
      · have e2 : FloatKind.f64.format.order z y = some .lt := ord_lt hz HY.out (by omega)
        go_wp2
        go_ret
        refine ⟨z, rfl, ?_, rfl⟩
        have e : (k : Int) = n.tmod m := by
          have hk3 : k = n.natAbs % m := by rw [← HK.out, Nat.mod_eq_of_lt (by omega)]
          have : n = ((n.natAbs : Nat) : Int) := by omega
          rw [this, Int.tmod_eq_emod_of_nonneg (by omega), hk3]
          simp
        rw [← e]
        exact hz

theorem mod_any (w : World) (x y : Nat) (n : Int) (m : Nat) (hx : Rep x n) (hy : Rep y (m : Int)) (h0 : m ≠ 0) (hm : m < 2 ^ 53) (hn : n.natAbs < 2 ^ 53) :
    Calls Tryz.prog 161 #[.float .f64 x, .float .f64 y] w fun e w' => ∃ z, e = .returned (.float .f64 z) ∧ Rep z (n.tmod m) ∧ w = w' := by
  have hZ := Lib.hid (fun w => mod_no w x y n m hx hy h0 hm hn)
  go_enter Tryz.func161, Tryz.ntmps161
  go_wp2_with (go_at_call 171; refine (hZ.out _).mono ?_; rintro e w' ⟨z, rfl, hz, rfl⟩)
  go_ret
  exact ⟨_, rfl, hz, rfl⟩
end Go.Proofs.YtecomfhbdonkbaaGreatDoor
