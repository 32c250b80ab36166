/- Knuth's second digit, plainly. -/
import Derived.Test.YtodhklapikfpoaaDoorProg
namespace Go.Proofs.YtodhklapikfpoaaDoor
set_option maxRecDepth 100000
set_option linter.unusedVariables false
set_option linter.unusedSimpArgs false

/-- whether a guess is too great is told by its lower half. -/
theorem kn_test (b y1 y0 u l q r : Nat) (hu : u = q * y1 + r) : (b * r + l < q * y0) ↔ u * b + l < q * (y1 * b + y0) := by
  subst hu
  have e1 : (q * y1 + r) * b = q * y1 * b + b * r := by rw [Nat.add_mul, Nat.mul_comm r b]
  have e2 : q * (y1 * b + y0) = q * y1 * b + q * y0 := by rw [Nat.mul_add, Nat.mul_assoc]
  rw [e1, e2]
  omega
/-- a guess that is not too little, one taken away from it as it was too great. -/
theorem kn_step {b y1 y0 u l q r : Nat} (hu : u = q * y1 + r) (ht : b * r + l < q * y0) :
    1 ≤ q ∧ u = (q - 1) * y1 + (r + y1) ∧ u * b + l < (q - 1 + 1) * (y1 * b + y0) := by
  have h0 : 1 ≤ q := by
    rcases Nat.eq_zero_or_pos q with h | h
    · subst h; rw [Nat.zero_mul] at ht; omega
    · exact h
  have h1 := (kn_test b y1 y0 u l q r hu).1 ht
  obtain ⟨p, rfl⟩ : ∃ p, q = p + 1 := ⟨q - 1, by omega⟩
  refine ⟨h0, ?_, ?_⟩
  · rw [Nat.add_sub_cancel, hu, Nat.add_mul, Nat.one_mul]; omega
  · rw [Nat.add_sub_cancel]; exact h1
/-- where it is no more too great it is the quotient. -/
theorem kn_end {b y1 y0 u l q r : Nat} (hu : u = q * y1 + r) (hq : u * b + l < (q + 1) * (y1 * b + y0)) (ht : ¬ b * r + l < q * y0) :
    (u * b + l) / (y1 * b + y0) = q := by
  have h1 : ¬ u * b + l < q * (y1 * b + y0) := fun h => ht ((kn_test b y1 y0 u l q r hu).2 h)
  have hy : 0 < y1 * b + y0 := by
    rcases Nat.eq_zero_or_pos (y1 * b + y0) with h | h
    · rw [h, Nat.mul_zero] at hq; omega
    · exact h
  refine (Nat.div_eq_iff hy).2 ?_
  rw [Nat.add_mul, Nat.one_mul] at hq
  omega
/-- the first guess is not too little. -/
theorem kn_start {b y1 y0 u l : Nat} (hl : l < b) (h1 : 0 < y1) : u * b + l < (u / y1 + 1) * (y1 * b + y0) := by
  have h2 : u < (u / y1 + 1) * y1 := by rw [Nat.mul_comm]; exact Nat.lt_mul_div_succ u h1
  have h3 : (u + 1) * b ≤ (u / y1 + 1) * y1 * b := Nat.mul_le_mul_right b h2
  rw [Nat.mul_add, ← Nat.mul_assoc]
  rw [Nat.add_mul, Nat.one_mul] at h3
  omega
/-- both halves of a number moved up. -/
theorem kn_halves (N s : Nat) (hs : s ≤ 64) : N * 2 ^ s / 2 ^ 64 = N / 2 ^ 64 * 2 ^ s + N % 2 ^ 64 / 2 ^ (64 - s) := by
  have e : (2 : Nat) ^ 64 = 2 ^ s * 2 ^ (64 - s) := by rw [← Nat.pow_add]; congr 1; omega
  have h1 : N = 2 ^ 64 * (N / 2 ^ 64) + N % 2 ^ 64 := (Nat.div_add_mod N _).symm
  have h2 : N * 2 ^ s / 2 ^ 64 = N / 2 ^ (64 - s) := by
    rw [e, Nat.mul_comm (2 ^ s), Nat.mul_div_mul_right _ _ (Nat.two_pow_pos s)]
  have h3 : ∀ a b : Nat, (2 ^ 64 * a + b) / 2 ^ (64 - s) = a * 2 ^ s + b / 2 ^ (64 - s) := by
    intro a b
    rw [e, Nat.mul_comm (2 ^ s) (2 ^ (64 - s)), Nat.mul_assoc, Nat.mul_add_div (Nat.two_pow_pos _), Nat.mul_comm (2 ^ s)]
  rw [h2]
  conv => lhs; rw [h1]
  exact h3 _ _
end Go.Proofs.YtodhklapikfpoaaDoor
