/- triadref13: Add, Cmp. -/
import Derived.Test.YtodhklapikfpoaaDoorRg
namespace Go.Proofs.YtodhklapikfpoaaDoor
open Go.RowKit Go.Shelf Flo
set_option maxRecDepth 100000
set_option linter.unusedVariables false
set_option linter.unusedSimpArgs false

/-- a decimal's number, led to six digits behind the point. -/
def sixI (m : Int) (k : Nat) : Int := m * (10 ^ (6 - k) : Nat)
theorem six_size (m : Int) (k : Nat) : sixI m k = if m < 0 then -(sizeN m k : Int) else (sizeN m k : Int) := by
  unfold sixI sizeN
  rw [Int.natCast_mul]
  by_cases h : m < 0
  · rw [if_pos h, show (m.natAbs : Int) = -m by omega, Int.neg_mul, Int.neg_neg]
  · rw [if_neg h, show (m.natAbs : Int) = m by omega]

theorem cmp_negs (a b : Int) : cmpI (-a) (-b) = cmpI b a := by
  unfold cmpI
  rcases Int.lt_trichotomy a b with h | h | h
  · rw [if_neg (by omega), if_pos (by omega), if_neg (by omega), if_pos (by omega)]
  · rw [if_neg (by omega), if_neg (by omega), if_neg (by omega), if_neg (by omega)]
  · rw [if_pos (by omega), if_pos (by omega)]
def Under20 (N : Nat) : Prop := N ≤ 1000000000000000000000
theorem wid_eq (N : Nat) (a b : Int) (h : a = ((N / 1000000000 : Nat) : Int)) (h2 : b = ((N % 1000000000 : Nat) : Int)) : (Value.agg #[.int .i64 a, .int .i64 b]) = wid N := by rw [h, h2]; rfl

theorem TwoS.off {w v : World} {m s m2 s2 x y : Int} {b : Nat} (h : TwoS w m s m2 s2 v) (hb : w.heap.size + 1 + 1 < b) : TwoS w m s m2 s2 ((v.setCell ⟨b, 0, none⟩ (.int .i64 x)).setCell ⟨b, 1, none⟩ (.int .i64 y)) := by
  obtain ⟨h1, h2, h3, m3, s3, h4⟩ := h
  exact ⟨(h1.setCell (by simp only []; omega) _).setCell (by simp only []; omega) _, h2.put (by omega), h3.put (by omega), m3, s3, h4.put (by omega)⟩

end Go.Proofs.YtodhklapikfpoaaDoor
