/- triadref13: power, times, sized, above, whole. -/
import Derived.Test.YtodhklapikfpoaaDoorRd
namespace Go.Proofs.YtodhklapikfpoaaDoor
open Go.RowKit Go.Shelf Flo
set_option maxRecDepth 100000
set_option linter.unusedVariables false
set_option linter.unusedSimpArgs false

theorem pow_small {k : Nat} (h : k ≤ 12) : 10 ^ k ≤ 1000000000000 := Nat.pow_le_pow_right (by decide) h

/-- a wide number as a value. -/
def wid (N : Nat) : Value := .agg #[.int .i64 ((N / 1000000000 : Nat) : Int), .int .i64 ((N % 1000000000 : Nat) : Int)]

/-- a decimal's digits, led to six behind the point. -/
def sizeN (m : Int) (k : Nat) : Nat := m.natAbs * 10 ^ (6 - k)
theorem sizeN_le {m : Int} {k : Nat} (h : m.natAbs ≤ 999999999999999) : sizeN m k ≤ 999999999999999 * 1000000 :=
  Nat.mul_le_mul h (Nat.le_trans (Nat.pow_le_pow_right (show 0 < 10 by decide) (show 6 - k ≤ 6 by omega)) (by decide))

theorem boxes2 (w : World) (m s m2 s2 : Int) (t t2 : TypeId) : DecB ((w.alloc (.cells #[.int .i64 m, .int .i64 s] t)).alloc (.cells #[.int .i64 m2, .int .i64 s2] t2)) w.heap.size m s ∧
    DecB ((w.alloc (.cells #[.int .i64 m, .int .i64 s] t)).alloc (.cells #[.int .i64 m2, .int .i64 s2] t2)) (w.heap.size + 1) m2 s2 ∧ Below w.heap.size w ((w.alloc (.cells #[.int .i64 m, .int .i64 s] t)).alloc (.cells #[.int .i64 m2, .int .i64 s2] t2)) := by
  have b1 := (Below.refl w.heap.size w).alloc (Nat.le_refl _) (.cells #[.int .i64 m, .int .i64 s] t)
  have d1 := DecB.new w m s t
  have z1 : (w.alloc (.cells #[.int .i64 m, .int .i64 s] t)).heap.size = w.heap.size + 1 := by simp
  generalize w.alloc (.cells #[.int .i64 m, .int .i64 s] t) = w1 at *
  have b2 := (Below.refl w1.heap.size w1).alloc (Nat.le_refl _) (.cells #[.int .i64 m2, .int .i64 s2] t2)
  have d2 := DecB.new w1 m2 s2 t2
  generalize w1.alloc (.cells #[.int .i64 m2, .int .i64 s2] t2) = w2 at *
  rw [z1] at d2
  exact ⟨d1.below b2, d2, b1.trans (b2.mono (by omega))⟩

/-- a block of two whole numbers. -/
theorem DecB.wid (w : World) (N : Nat) (t : TypeId) : DecB (w.alloc (.cells #[.int .i64 ((N / 1000000000 : Nat) : Int), .int .i64 ((N % 1000000000 : Nat) : Int)] t)) w.heap.size ((N / 1000000000 : Nat) : Int) ((N % 1000000000 : Nat) : Int) := DecB.new w _ _ t

end Go.Proofs.YtodhklapikfpoaaDoor
