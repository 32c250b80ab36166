/- Numbers as bytes, there and back: plain. -/
import Derived.Test.YtkgdplbkhkafgaaLess
import Derived.Test.YtkgdplbkhkafgaaLong
namespace Go.Proofs.Ytkgdplbkhkafgaa
open Go.RowKit

theorem num_le (x : Int) : ∀ n : Nat, (num (le x n) : Int) = x % 256 ^ n
  | 0 => by simp [num, le, Int.emod_one]
  | n + 1 => by
    have ih := num_le x n
    have hp : (0 : Int) < 256 ^ n := Int.pow_pos (by decide)
    have e : (2 : Int) ^ (8 * n) = 256 ^ n := by rw [Int.pow_mul]; rfl
    rw [le_succ, num_snoc, le_length]
    rw [Int.natCast_add, Int.natCast_mul, Int.natCast_pow, ih, byteOf_toNat, e, Int.pow_succ]
    rw [show (((256 : Nat) : Int)) = 256 from rfl]
    generalize (256 : Int) ^ n = M at *
    have h1 := Int.mul_ediv_add_emod x M
    have h2 := Int.mul_ediv_add_emod (x / M) 256
    have h3 := Int.emod_nonneg x (show M ≠ 0 by omega)
    have h4 := Int.emod_lt_of_pos x hp
    have h5 := Int.emod_nonneg (x / M) (show (256 : Int) ≠ 0 by decide)
    have h6 := Int.emod_lt_of_pos (x / M) (show (0 : Int) < 256 by decide)
    generalize hq : x / M = q at *
    generalize hr : x % M = r at *
    generalize hs : q % 256 = s at *
    generalize ht : q / 256 = t at *
    have hb : M * s ≤ M * 255 := Int.mul_le_mul_of_nonneg_left (by omega) (by omega)
    have hb0 : 0 ≤ M * s := Int.mul_nonneg (by omega) h5
    have hx : x = (r + s * M) + M * 256 * t := by
      rw [← h1, ← h2, Int.mul_add, Int.mul_comm s M, Int.mul_assoc]
      omega
    rw [hx, Int.add_mul_emod_self_left, Int.emod_eq_of_lt]
    · rw [Int.mul_comm s M]; omega
    · rw [Int.mul_comm s M]; omega

theorem num_back (x : Int) (h : (Lit.int .i64 x).wf = true) : wrap64 (num (le x 8)) = x := by
  have hr : -9223372036854775808 ≤ x ∧ x ≤ 9223372036854775807 := by
    simpa [Lit.wf, IntKind.min, IntKind.max, IntKind.signed, IntKind.bits] using h
  rw [num_le]
  have e : (256 : Int) ^ 8 = 18446744073709551616 := by decide
  rw [e]
  simp only [wrap64]
  omega
theorem num_one (x : Int) : wrap64 (num (le x 1)) = x % 256 := by
  rw [num_le]
  simp only [wrap64]
  omega

/-- Reading what was written at the front. -/
theorem took_front (a t : List UInt8) (n : Nat) (h : a.length = n) : tookOf (a ++ t) 0 n = a ∧ leftOf (a ++ t) 0 n = t ∧ errOf (a ++ t) 0 n = 0 := by
  have hn : n ≤ (a ++ t).length := by simp; omega
  rw [took_ok hn, left_ok hn, err_ok hn]
  subst h
  exact ⟨List.take_left, List.drop_left, rfl⟩

theorem and_255 (x : Int) : bits .and .i64 x 255 = x % 256 := by
  have h1 : (BitVec.ofInt 64 x).toNat = (x % 18446744073709551616).toNat := by rw [BitVec.toNat_ofInt]; rfl
  have h2 : (BitVec.ofInt 64 255).toNat = 2 ^ 8 - 1 := by decide
  show IntKind.i64.wrap ((BitVec.ofInt 64 x &&& BitVec.ofInt 64 255).toNat : Int) = _
  rw [BitVec.toNat_and, h1, h2, Nat.and_two_pow_sub_one_eq_mod, IntKind.wrap_i64]
  omega
end Go.Proofs.Ytkgdplbkhkafgaa
