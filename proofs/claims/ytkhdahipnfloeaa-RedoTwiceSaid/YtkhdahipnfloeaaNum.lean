/- Numbers as bytes, there and back (the plain part of stage 1's XNums). -/
import Derived.Test.YtkhdahipnfloeaaBytes
namespace Go.Proofs.Ytkhdahipnfloeaa
open Go.RowKit
set_option maxRecDepth 100000

theorem byteOf_toNat (x : Int) : ((byteOf x).toNat : Int) = x % 256 := by
  have h := vb_byteOf x
  unfold vb at h
  simpa using h

theorem num_le (x : Int) : ∀ n : Nat, (num (le x n) : Int) = x % 256 ^ n
  | 0 => by simp [num, le, Int.emod_one]
  | n + 1 => by
    have ih := num_le x n
    have hp : (0 : Int) < 256 ^ n := Int.pow_pos (by decide)
    have e : (2 : Int) ^ (8 * n) = 256 ^ n := by rw [Int.pow_mul]; rfl
    rw [le_succ, num_snoc, le_length]
    rw [Int.natCast_add, Int.natCast_mul, Int.natCast_pow, ih, byteOf_toNat, e, Int.pow_succ]
    rw [show (((256 : Nat) : Int)) = 256 from rfl]
    generalize (256 : Int) ^ n = M at *
    have h1 := Int.mul_ediv_add_emod x M
    have h2 := Int.mul_ediv_add_emod (x / M) 256
    have h3 := Int.emod_nonneg x (show M ≠ 0 by omega)
    have h4 := Int.emod_lt_of_pos x hp
    have h5 := Int.emod_nonneg (x / M) (show (256 : Int) ≠ 0 by decide)
    have h6 := Int.emod_lt_of_pos (x / M) (show (0 : Int) < 256 by decide)
    generalize hq : x / M = q at *
    generalize hr : x % M = r at *
    generalize hs : q % 256 = s at *
    generalize ht : q / 256 = t at *
    have hb : M * s ≤ M * 255 := Int.mul_le_mul_of_nonneg_left (by omega) (by omega)
    have hb0 : 0 ≤ M * s := Int.mul_nonneg (by omega) h5
    have hx : x = (r + s * M) + M * 256 * t := by
      rw [← h1, ← h2, Int.mul_add, Int.mul_comm s M, Int.mul_assoc]
      omega
    rw [hx, Int.add_mul_emod_self_left, Int.emod_eq_of_lt]
    · rw [Int.mul_comm s M]; omega
    · rw [Int.mul_comm s M]; omega

theorem num_back (x : Int) (h : (Lit.int .i64 x).wf = true) : wrap64 (num (le x 8)) = x := by
  have hr : -9223372036854775808 ≤ x ∧ x ≤ 9223372036854775807 := by
    simpa [Lit.wf, IntKind.min, IntKind.max, IntKind.signed, IntKind.bits] using h
  rw [num_le]
  have e : (256 : Int) ^ 8 = 18446744073709551616 := by decide
  rw [e]
  simp only [wrap64]
  omega
end Go.Proofs.Ytkhdahipnfloeaa
