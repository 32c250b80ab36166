/- Sums and orders: both ways the same, plainly. -/
import Derived.Test.YtdlfoinpjbcodaaDoorRh
namespace Go.Proofs.YtdlfoinpjbcodaaDoor
open Go.RowKit Go.Shelf Flo
set_option maxRecDepth 100000
set_option linter.unusedVariables false
set_option linter.unusedSimpArgs false

theorem nrm_ten (n : Int) : ∀ (j k : Nat), nrm (n * (10 ^ j : Nat)) (k + j) = nrm n k
  | 0, k => by simp
  | j + 1, k => by
    have e : n * ((10 ^ (j + 1) : Nat) : Int) = 10 * (n * ((10 ^ j : Nat) : Int)) := by
      rw [Nat.pow_succ, Int.natCast_mul, ← Int.mul_assoc, Int.mul_comm (n * _)]; rfl
    rw [e, nrm_go (k + (j + 1)) (by omega) (by omega)]
    rw [show 10 * (n * ((10 ^ j : Nat) : Int)) / 10 = n * ((10 ^ j : Nat) : Int) by omega]
    exact nrm_ten n j k

/-- the sum at the place of the one that has more digits behind the point. -/
def addT (m : Int) (k : Nat) (m2 : Int) (k2 : Nat) : Int := m * (10 ^ (max k k2 - k) : Nat) + m2 * (10 ^ (max k k2 - k2) : Nat)

theorem addT_six (m m2 : Int) (k k2 : Nat) (hk : k ≤ 6) (hk2 : k2 ≤ 6) : sixI m k + sixI m2 k2 = addT m k m2 k2 * (10 ^ (6 - max k k2) : Nat) := by
  unfold sixI addT
  rw [Int.add_mul, Int.mul_assoc, Int.mul_assoc, ← Int.natCast_mul, ← Int.natCast_mul, ← Nat.pow_add, ← Nat.pow_add]
  rw [show max k k2 - k + (6 - max k k2) = 6 - k by omega, show max k k2 - k2 + (6 - max k k2) = 6 - k2 by omega]

theorem addT_last {m m2 : Int} {k k2 : Nat} (h : GoodD m (k : Int)) (h2 : GoodD m2 (k2 : Int)) : (addT m k m2 k2).natAbs < 2 ^ 53 ∨ max k k2 = 0 ∨ ¬ addT m k m2 k2 % 10 = 0 := by
  have ha := h.abs
  have hb := h2.abs
  rcases Nat.lt_trichotomy k k2 with hlt | rfl | hlt
  · right; right
    unfold addT
    rw [show max k k2 = k2 by omega, Nat.sub_self, Nat.pow_zero]
    obtain ⟨j, hj⟩ : ∃ j, k2 - k = j + 1 := ⟨k2 - k - 1, by omega⟩
    rw [hj, Nat.pow_succ, Int.natCast_mul]
    have : ¬ m2 % 10 = 0 := by
      rcases h2.2.2.2.2 with h | h
      · omega
      · exact h
    rw [← Int.mul_assoc]
    generalize m * ((10 ^ j : Nat) : Int) = z
    omega
  · left
    unfold addT
    rw [Nat.max_self, Nat.sub_self, Nat.pow_zero, p53]
    omega
  · right; right
    unfold addT
    rw [show max k k2 = k by omega, Nat.sub_self, Nat.pow_zero]
    obtain ⟨j, hj⟩ : ∃ j, k - k2 = j + 1 := ⟨k - k2 - 1, by omega⟩
    rw [hj, Nat.pow_succ, Int.natCast_mul]
    have : ¬ m % 10 = 0 := by
      rcases h.2.2.2.2 with h | h
      · omega
      · exact h
    rw [← Int.mul_assoc]
    generalize m2 * ((10 ^ j : Nat) : Int) = z
    omega

theorem shrt_of {T : Int} {S : Nat} (h : T.natAbs < 2 ^ 53 ∨ S = 0 ∨ ¬ T % 10 = 0) : shrt T S = nrm T S := by
  unfold shrt
  split
  · rfl
  · rename_i hb
    rcases h with h | h | h
    · exact absurd h hb
    · rw [h]; rfl
    · exact (nrm_stay _ _ h).symm

/-- Add and triadref13's Add answer the same. -/
theorem add_same {m m2 : Int} {k k2 : Nat} (h : GoodD m (k : Int)) (h2 : GoodD m2 (k2 : Int)) : decV (addT m k m2 k2) (max k k2) = decP (nrm (sixI m k + sixI m2 k2) 6) := by
  have hk : k ≤ 6 := by have := h.2.2.2.1; omega
  have hk2 : k2 ≤ 6 := by have := h2.2.2.2.1; omega
  rw [decV_eq, shrt_of (addT_last h h2), addT_six m m2 k k2 hk hk2]
  have := nrm_ten (addT m k m2 k2) (6 - max k k2) (max k k2)
  rw [show max k k2 + (6 - max k k2) = 6 by omega] at this
  rw [this]

theorem cmpI_mul (a b : Int) {c : Int} (h : 0 < c) : cmpI (a * c) (b * c) = cmpI a b := by
  unfold cmpI
  have h1 : a * c < b * c ↔ a < b := ⟨fun x => Int.lt_of_mul_lt_mul_right x (Int.le_of_lt h), fun x => Int.mul_lt_mul_of_pos_right x h⟩
  have h2 : b * c < a * c ↔ b < a := ⟨fun x => Int.lt_of_mul_lt_mul_right x (Int.le_of_lt h), fun x => Int.mul_lt_mul_of_pos_right x h⟩
  simp only [h1, h2]

/-- Cmp and triadref13's Cmp answer the same. -/
theorem cmp_same (m m2 : Int) (k k2 : Nat) (hk : k ≤ 6) (hk2 : k2 ≤ 6) : cmpI (m * (10 ^ (max k k2 - k) : Nat)) (m2 * (10 ^ (max k k2 - k2) : Nat)) = cmpI (sixI m k) (sixI m2 k2) := by
  have hp : (0 : Int) < ((10 ^ (6 - max k k2) : Nat) : Int) := by
    have := Nat.pow_pos (n := 6 - max k k2) (show 0 < 10 by decide)
    omega
  rw [← cmpI_mul _ _ hp]
  unfold sixI
  rw [Int.mul_assoc, Int.mul_assoc, ← Int.natCast_mul, ← Int.natCast_mul, ← Nat.pow_add, ← Nat.pow_add]
  rw [show max k k2 - k + (6 - max k k2) = 6 - k by omega, show max k k2 - k2 + (6 - max k k2) = 6 - k2 by omega]

/-- one number is one decimal. -/
theorem six_inj {m m2 : Int} {k k2 : Nat} (h : GoodD m (k : Int)) (h2 : GoodD m2 (k2 : Int)) (e : sixI m k = sixI m2 k2) : m = m2 ∧ k = k2 := by
  have hk : k ≤ 6 := by have := h.2.2.2.1; omega
  have hk2 : k2 ≤ 6 := by have := h2.2.2.2.1; omega
  have n1 := nrm_ten m (6 - k) k
  have n2 := nrm_ten m2 (6 - k2) k2
  rw [show k + (6 - k) = 6 by omega] at n1
  rw [show k2 + (6 - k2) = 6 by omega] at n2
  have s1 : nrm m k = (m, k) := by
    rcases h.2.2.2.2 with h | h
    · have : k = 0 := by omega
      rw [this]; rfl
    · exact nrm_stay _ _ h
  have s2 : nrm m2 k2 = (m2, k2) := by
    rcases h2.2.2.2.2 with h | h
    · have : k2 = 0 := by omega
      rw [this]; rfl
    · exact nrm_stay _ _ h
  have : nrm (sixI m k) 6 = nrm (sixI m2 k2) 6 := by rw [e]
  unfold sixI at this
  rw [n1, n2, s1, s2] at this
  exact ⟨congrArg Prod.fst this, congrArg Prod.snd this⟩
theorem nrm_self {m : Int} {k : Nat} (h : GoodD m (k : Int)) : nrm m k = (m, k) := by
  rcases h.2.2.2.2 with h | h
  · have : k = 0 := by omega
    rw [this]; rfl
  · exact nrm_stay _ _ h
theorem nrm_six {m : Int} {k : Nat} (h : GoodD m (k : Int)) : nrm (sixI m k) 6 = (m, k) := by
  have hk : k ≤ 6 := by have := h.2.2.2.1; omega
  have n1 := nrm_ten m (6 - k) k
  rw [show k + (6 - k) = 6 by omega] at n1
  unfold sixI
  rw [n1, nrm_self h]
/-- what nrm leaves, led to six digits, is what it was. -/
theorem six_nrm : ∀ (k : Nat) (n : Int), k ≤ 6 → sixI (nrm n k).1 (nrm n k).2 = sixI n k
  | 0, n, h => rfl
  | k + 1, n, h => by
    by_cases hd : n % 10 = 0
    · rw [nrm_go (k + 1) (by omega) hd]
      rw [show k + 1 - 1 = k from rfl, six_nrm k (n / 10) (by omega)]
      unfold sixI
      rw [show 6 - k = (6 - (k + 1)) + 1 by omega, Nat.pow_succ, Int.natCast_mul]
      have : n = 10 * (n / 10) := by omega
      conv => rhs; rw [this]
      rw [Int.mul_comm ((10 ^ (6 - (k + 1)) : Nat) : Int), ← Int.mul_assoc, Int.mul_comm (n / 10)]
      rfl
    · rw [nrm_stay _ _ hd]
theorem good_neg {m s : Int} (h : GoodD m s) : GoodD (-m) s := by
  obtain ⟨h1, h2, h3, h4, h5⟩ := h
  exact ⟨by omega, by omega, h3, h4, by omega⟩
theorem six_neg (m : Int) (k : Nat) : sixI (-m) k = -sixI m k := by unfold sixI; rw [Int.neg_mul]
end Go.Proofs.YtdlfoinpjbcodaaDoor
