/- Knuth's second digit, plainly. -/
import Derived.Test.YtecomfhbdonkbaaGreatDoorProg
import Derived.Lib.Strings
import Derived.Lib.Slices
import Derived.Lib.Small
import Derived.Lib.Walk
import Derived.Lib.BitFns
import Derived.Lib.Hide
namespace Go.Proofs.YtecomfhbdonkbaaGreatDoor
set_option maxRecDepth 100000
set_option linter.unusedVariables false
set_option linter.unusedSimpArgs false

/-- whether a guess is too great is told by its lower half. -/
theorem kn_test (b y1 y0 u l q r : Nat) (hu : u = q * y1 + r) : (b * r + l < q * y0) ↔ u * b + l < q * (y1 * b + y0) := by
  subst hu
  have e1 : (q * y1 + r) * b = q * y1 * b + b * r := by rw [Nat.add_mul, Nat.mul_comm r b]
  have e2 : q * (y1 * b + y0) = q * y1 * b + q * y0 := by rw [Nat.mul_add, Nat.mul_assoc]
  rw [e1, e2]
  omega
/-- a guess that is not too little, one taken away from it as it was too great. -/
theorem kn_step {b y1 y0 u l q r : Nat} (hu : u = q * y1 + r) (ht : b * r + l < q * y0) :
    1 ≤ q ∧ u = (q - 1) * y1 + (r + y1) ∧ u * b + l < (q - 1 + 1) * (y1 * b + y0) := by
  have h0 : 1 ≤ q := by
    rcases Nat.eq_zero_or_pos q with h | h
    · subst h; rw [Nat.zero_mul] at ht; omega
    · exact h
  have h1 := (kn_test b y1 y0 u l q r hu).1 ht
  obtain ⟨p, rfl⟩ : ∃ p, q = p + 1 := ⟨q - 1, by omega⟩
  refine ⟨h0, ?_, ?_⟩
  · rw [Nat.add_sub_cancel, hu, Nat.add_mul, Nat.one_mul]; omega
  · rw [Nat.add_sub_cancel]; exact h1
/-- where it is no more too great it is the quotient. -/
theorem kn_end {b y1 y0 u l q r : Nat} (hu : u = q * y1 + r) (hq : u * b + l < (q + 1) * (y1 * b + y0)) (ht : ¬ b * r + l < q * y0) :
    (u * b + l) / (y1 * b + y0) = q := by
  have h1 : ¬ u * b + l < q * (y1 * b + y0) := fun h => ht ((kn_test b y1 y0 u l q r hu).2 h)
  have hy : 0 < y1 * b + y0 := by
    rcases Nat.eq_zero_or_pos (y1 * b + y0) with h | h
    · rw [h, Nat.mul_zero] at hq; omega
    · exact h
  refine (Nat.div_eq_iff hy).2 ?_
  rw [Nat.add_mul, Nat.one_mul] at hq
  omega
/-- the first guess is not too little. -/
theorem kn_start {b y1 y0 u l : Nat} (hl : l < b) (h1 : 0 < y1) : u * b + l < (u / y1 + 1) * (y1 * b + y0) := by
  have h2 : u < (u / y1 + 1) * y1 := by rw [Nat.mul_comm]; exact Nat.lt_mul_div_succ u h1
  have h3 : (u + 1) * b ≤ (u / y1 + 1) * y1 * b := Nat.mul_le_mul_right b h2
  rw [Nat.mul_add, ← Nat.mul_assoc]
  rw [Nat.add_mul, Nat.one_mul] at h3
  omega
/-- both halves of a number moved up. -/
theorem kn_halves (N s : Nat) (hs : s ≤ 64) : N * 2 ^ s / 2 ^ 64 = N / 2 ^ 64 * 2 ^ s + N % 2 ^ 64 / 2 ^ (64 - s) := by
  have e : (2 : Nat) ^ 64 = 2 ^ s * 2 ^ (64 - s) := by rw [← Nat.pow_add]; congr 1; omega
  have h1 : N = 2 ^ 64 * (N / 2 ^ 64) + N % 2 ^ 64 := (Nat.div_add_mod N _).symm
  have h2 : N * 2 ^ s / 2 ^ 64 = N / 2 ^ (64 - s) := by
    rw [e, Nat.mul_comm (2 ^ s), Nat.mul_div_mul_right _ _ (Nat.two_pow_pos s)]
  have h3 : ∀ a b : Nat, (2 ^ 64 * a + b) / 2 ^ (64 - s) = a * 2 ^ s + b / 2 ^ (64 - s) := by
    intro a b
    rw [e, Nat.mul_comm (2 ^ s) (2 ^ (64 - s)), Nat.mul_assoc, Nat.mul_add_div (Nat.two_pow_pos _), Nat.mul_comm (2 ^ s)]
  rw [h2]
  conv => lhs; rw [h1]
  exact h3 _ _
end Go.Proofs.YtecomfhbdonkbaaGreatDoor
/- How many noughts stand ahead of a number; Div64 where the quotient is below a million: the walk. -/
namespace Go.Proofs.YtecomfhbdonkbaaGreatDoor
open Go.RowKit
set_option maxRecDepth 100000
set_option linter.unusedVariables false
set_option linter.unusedSimpArgs false

theorem bl_bounds : ∀ (n x : Nat), x ≤ n → x ≠ 0 → x < 2 ^ 64 → 2 ^ (Lib.bitLen x - 1) ≤ x ∧ x < 2 ^ Lib.bitLen x
  | 0, x, h, h0, _ => absurd (Nat.le_zero.1 h) h0
  | n + 1, x, h, h0, h64 => by
    rw [Lib.bitLen_half x h0 h64]
    by_cases h1 : x / 2 = 0
    · have hx : x = 1 := by omega
      subst hx
      decide
    · have ih := bl_bounds n (x / 2) (by omega) h1 (Nat.lt_of_le_of_lt (Nat.div_le_self _ _) h64)
      obtain ⟨i1, i2⟩ := ih
      have hL : Lib.bitLen (x / 2) ≠ 0 := by
        intro hz
        rw [hz] at i2
        omega
      obtain ⟨L, hL'⟩ : ∃ L, Lib.bitLen (x / 2) = L + 1 := ⟨Lib.bitLen (x / 2) - 1, by omega⟩
      rw [hL'] at i1 i2 ⊢
      rw [show L + 1 - 1 = L from rfl] at i1
      rw [show 1 + (L + 1) - 1 = L + 1 by omega, show 1 + (L + 1) = L + 2 by omega]
      rw [Nat.pow_succ] at i2 ⊢
      rw [show (2 : Nat) ^ (L + 2) = 2 ^ L * 4 by rw [Nat.pow_add]]
      omega

set_option maxHeartbeats 4000000 in
theorem len64_any (x : Int) (w : World) (h0 : 0 ≤ x) (h1 : x ≤ 18446744073709551615) : Calls Tryz.prog 91 #[.int .u64 x] w fun e w' => e = .returned (.int .i64 (Lib.bitLen x.toNat)) ∧ w' = w := by
  go_enter Tryz.func91, Tryz.ntmps91
  go_wp2
  all_goals (go_ret; refine ⟨congrArg (fun n => Ending.returned (.int .i64 n)) ?_, rfl⟩)
  all_goals first
    | (rw [Lib.len8_of (x / 4294967296 / 65536 / 256 % 256) (by omega) (by omega)]
       have e : (x / 4294967296 / 65536 / 256 % 256).toNat = x.toNat / 72057594037927936 := by omega
       have l := Lib.bitLen_le8' (x / 4294967296 / 65536 / 256 % 256) (by omega) (by omega)
       have s := Lib.bitLen_shift56 x.toNat (by omega) (by omega)
       rw [e] at l ⊢
       omega)
    | (rw [Lib.len8_of (x / 4294967296 / 65536 % 256) (by omega) (by omega)]
       have e : (x / 4294967296 / 65536 % 256).toNat = x.toNat / 281474976710656 := by omega
       have l := Lib.bitLen_le8' (x / 4294967296 / 65536 % 256) (by omega) (by omega)
       have s := Lib.bitLen_shift48 x.toNat (by omega) (by omega)
       rw [e] at l ⊢
       omega)
    | (rw [Lib.len8_of (x / 4294967296 / 256 % 256) (by omega) (by omega)]
       have e : (x / 4294967296 / 256 % 256).toNat = x.toNat / 1099511627776 := by omega
       have l := Lib.bitLen_le8' (x / 4294967296 / 256 % 256) (by omega) (by omega)
       have s := Lib.bitLen_shift40 x.toNat (by omega) (by omega)
       rw [e] at l ⊢
       omega)
    | (rw [Lib.len8_of (x / 4294967296 % 256) (by omega) (by omega)]
       have e : (x / 4294967296 % 256).toNat = x.toNat / 4294967296 := by omega
       have l := Lib.bitLen_le8' (x / 4294967296 % 256) (by omega) (by omega)
       have s := Lib.bitLen_shift32 x.toNat (by omega) (by omega)
       rw [e] at l ⊢
       omega)
    | (rw [Lib.len8_of (x / 65536 / 256 % 256) (by omega) (by omega)]
       have e : (x / 65536 / 256 % 256).toNat = x.toNat / 16777216 := by omega
       have l := Lib.bitLen_le8' (x / 65536 / 256 % 256) (by omega) (by omega)
       have s := Lib.bitLen_shift24 x.toNat (by omega) (by omega)
       rw [e] at l ⊢
       omega)
    | (rw [Lib.len8_of (x / 65536 % 256) (by omega) (by omega)]
       have e : (x / 65536 % 256).toNat = x.toNat / 65536 := by omega
       have l := Lib.bitLen_le8' (x / 65536 % 256) (by omega) (by omega)
       have s := Lib.bitLen_shift16 x.toNat (by omega) (by omega)
       rw [e] at l ⊢
       omega)
    | (rw [Lib.len8_of (x / 256 % 256) (by omega) (by omega)]
       have e : (x / 256 % 256).toNat = x.toNat / 256 := by omega
       have l := Lib.bitLen_le8' (x / 256 % 256) (by omega) (by omega)
       have s := Lib.bitLen_shift8 x.toNat (by omega) (by omega)
       rw [e] at l ⊢
       omega)
    | (rw [Lib.len8_of (x % 256) (by omega) (by omega)]
       have e : (x % 256).toNat = x.toNat := by omega
       have l := Lib.bitLen_le8' (x % 256) (by omega) (by omega)
       rw [e] at l ⊢
       omega)
end Go.Proofs.YtecomfhbdonkbaaGreatDoor
