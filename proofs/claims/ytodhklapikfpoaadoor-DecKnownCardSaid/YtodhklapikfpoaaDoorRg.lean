/- triadref13: above, whole, Neg. -/
import Derived.Test.YtodhklapikfpoaaDoorRf
namespace Go.Proofs.YtodhklapikfpoaaDoor
open Go.RowKit Go.Shelf Flo
set_option maxRecDepth 100000
set_option linter.unusedVariables false
set_option linter.unusedSimpArgs false

theorem nrm_idem : ∀ (k : Nat) (n : Int), nrm (nrm n k).1 (nrm n k).2 = nrm n k
  | 0, n => rfl
  | k + 1, n => by
    by_cases h : n % 10 = 0
    · rw [nrm_go (k + 1) (by omega) h]
      exact nrm_idem k (n / 10)
    · rw [nrm_stay _ _ h]
      exact nrm_stay _ _ h
theorem nrm_neg : ∀ (k : Nat) (n : Int), nrm (-n) k = (-(nrm n k).1, (nrm n k).2)
  | 0, n => rfl
  | k + 1, n => by
    by_cases h : n % 10 = 0
    · rw [nrm_go (k + 1) (by omega) h, nrm_go (k + 1) (by omega) (show -n % 10 = 0 by omega)]
      rw [show -n / 10 = -(n / 10) by omega]
      exact nrm_neg k (n / 10)
    · rw [nrm_stay _ _ h, nrm_stay _ _ (show ¬ -n % 10 = 0 by omega)]

/-- not too great for a wide number. -/
def Under21 (N : Nat) : Prop := N ≤ 3000000000000000000000

end Go.Proofs.YtodhklapikfpoaaDoor
