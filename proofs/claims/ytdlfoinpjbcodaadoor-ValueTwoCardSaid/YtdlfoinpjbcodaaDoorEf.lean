/- Package dec: Mul. -/
import Derived.Test.YtdlfoinpjbcodaaDoorEe
namespace Go.Proofs.YtdlfoinpjbcodaaDoor
open Go.RowKit Flo
set_option maxRecDepth 100000
set_option linter.unusedVariables false
set_option linter.unusedSimpArgs false

theorem tmod_zero (a : Int) (m : Nat) : a.tmod m = 0 ↔ a % m = 0 := ⟨fun h => Int.emod_eq_zero_of_dvd (Int.dvd_of_tmod_eq_zero h), fun h => Int.tmod_eq_zero_of_dvd (Int.dvd_of_emod_eq_zero h)⟩

theorem small_div {a : Int} {m : Nat} (h : a.natAbs < 2 ^ 53) (h0 : m ≠ 0) : (a / m).natAbs < 2 ^ 53 := by
  have := Int.natAbs_ediv_le_natAbs a m
  omega

/-- one of both without the factor. -/
def cut1 (a b : Int) (m : Nat) : Int := if a % m = 0 then a / m else a
def cut2 (a b : Int) (m : Nat) : Int := if a % m = 0 then b else b / m

/-! the product, plainly -/

theorem cut_mul {a b : Int} {m : Nat} (h0 : m ≠ 0) (h : a % m = 0 ∨ b % m = 0) : (m : Int) * (cut1 a b m * cut2 a b m) = a * b := by
  unfold cut1 cut2
  by_cases hd : a % m = 0
  · rw [if_pos hd, if_pos hd, ← Int.mul_assoc, Int.mul_ediv_cancel' (Int.dvd_of_emod_eq_zero hd)]
  · have h2 := h.resolve_left hd
    rw [if_neg hd, if_neg hd, Int.mul_left_comm, Int.mul_ediv_cancel' (Int.dvd_of_emod_eq_zero h2)]
theorem cut_small {a b : Int} {m : Nat} (ha : a.natAbs ≤ 999999999999999) (hb : b.natAbs ≤ 999999999999999) : (cut1 a b m).natAbs ≤ 999999999999999 ∧ (cut2 a b m).natAbs ≤ 999999999999999 := by
  have h1 := Int.natAbs_ediv_le_natAbs a m
  have h2 := Int.natAbs_ediv_le_natAbs b m
  unfold cut1 cut2
  split
  · exact ⟨by omega, hb⟩
  · exact ⟨ha, by omega⟩
theorem prime2 (a b : Int) : (a * b) % 2 = 0 ↔ a % 2 = 0 ∨ b % 2 = 0 := by
  rw [Int.mul_emod]
  have h1 : a % 2 = 0 ∨ a % 2 = 1 := by omega
  have h2 : b % 2 = 0 ∨ b % 2 = 1 := by omega
  rcases h1 with h1 | h1 <;> rcases h2 with h2 | h2 <;> rw [h1, h2] <;> decide
theorem prime5 (a b : Int) : (a * b) % 5 = 0 ↔ a % 5 = 0 ∨ b % 5 = 0 := by
  rw [Int.mul_emod]
  have h1 : a % 5 = 0 ∨ a % 5 = 1 ∨ a % 5 = 2 ∨ a % 5 = 3 ∨ a % 5 = 4 := by omega
  have h2 : b % 5 = 0 ∨ b % 5 = 1 ∨ b % 5 = 2 ∨ b % 5 = 3 ∨ b % 5 = 4 := by omega
  rcases h1 with h1 | h1 | h1 | h1 | h1 <;> rcases h2 with h2 | h2 | h2 | h2 | h2 <;> rw [h1, h2] <;> decide
/-- one round of Mul's loop. -/
def nextA (a b : Int) : Int := cut1 (cut1 a b 2) (cut2 a b 2) 5
def nextB (a b : Int) : Int := cut2 (cut1 a b 2) (cut2 a b 2) 5
theorem next_five {a b : Int} (h2 : a % 2 = 0 ∨ b % 2 = 0) (h5 : a % 5 = 0 ∨ b % 5 = 0) : cut1 a b 2 % 5 = 0 ∨ cut2 a b 2 % 5 = 0 := by
  rw [← prime5]
  have h := cut_mul (m := 2) (by decide) h2
  have h9 := (prime5 a b).2 h5
  generalize cut1 a b 2 * cut2 a b 2 = z at *
  omega
theorem next_mul {a b : Int} (h2 : a % 2 = 0 ∨ b % 2 = 0) (h5 : a % 5 = 0 ∨ b % 5 = 0) : a * b = 10 * (nextA a b * nextB a b) ∧ (a * b) % 10 = 0 := by
  have h := cut_mul (m := 2) (by decide) h2
  have h' := cut_mul (m := 5) (by decide) (next_five h2 h5)
  unfold nextA nextB
  generalize cut1 (cut1 a b 2) (cut2 a b 2) 5 * cut2 (cut1 a b 2) (cut2 a b 2) 5 = z at *
  generalize cut1 a b 2 * cut2 a b 2 = y at *
  generalize a * b = x at *
  constructor <;> omega
theorem no_ten {a b : Int} (h : ¬ ((a % 2 = 0 ∨ b % 2 = 0) ∧ (a % 5 = 0 ∨ b % 5 = 0))) : ¬ (a * b) % 10 = 0 := by
  intro h9
  exact h ⟨(prime2 a b).1 (by omega), (prime5 a b).1 (by omega)⟩

/-- the point of a number on its way. -/
def imOf (v : Value) : Int := match v with
  | .complex _ _ i => ((Ieee.double.read i).toInt .zero).getD 0
  | _ => 0
theorem imOf_rep {r i : Nat} {n : Int} (h : Rep i n) : imOf (.complex .f64 r i) = n := by
  show ((Ieee.double.read i).toInt .zero).getD 0 = n
  rw [toInt_dt h.dt]; rfl

/-- what Mul's loop keeps. -/
def MulSt (P : Int × Nat) (v6 v7 : Value) : Prop := ∃ (ra ia rb ib : Nat) (a b i j : Int) (s : Nat), v6 = .complex .f64 ra ia ∧ v7 = .complex .f64 rb ib ∧ Rep ra a ∧ Rep rb b ∧ Rep ia i ∧ Rep ib j ∧ i + j = s ∧ -20 ≤ i ∧ i ≤ 6 ∧ 0 ≤ j ∧ j ≤ 6 ∧
  a.natAbs ≤ 999999999999999 ∧ b.natAbs ≤ 999999999999999 ∧ P = nrm (a * b) s

theorem small_ex {n : Int} (h : n.natAbs < 2 ^ 53) : n = 0 ∨ Ex n.natAbs := by
  by_cases h0 : n = 0
  · exact .inl h0
  · exact .inr (Ex.small (by omega) h)

/-- the sum of both numbers, as complex ones. -/
theorem csum {ra ia rb ib : Nat} {a b i j : Int} (h1 : Rep ra a) (h2 : Rep rb b) (h3 : Rep ia i) (h4 : Rep ib j) (ha : a.natAbs ≤ 999999999999999) (hb : b.natAbs ≤ 999999999999999) (hi : i.natAbs ≤ 20) (hj : j.natAbs ≤ 20) :
    ∃ x y, cSumBits .add .f64 ra ia rb ib = some (x, y) ∧ Rep y (i + j) := by
  obtain ⟨x, hx1, hx2⟩ := add_rep h1 h2 (small_ex (by rw [p53]; omega))
  obtain ⟨y, hy1, hy2⟩ := add_rep h3 h4 (small_ex (by rw [p53]; omega))
  have e1 : floatBits .add .f64 ra rb = some x := hx1
  have e2 : floatBits .add .f64 ia ib = some y := hy1
  exact ⟨x, y, by simp [cSumBits, e1, e2], hy2⟩

end Go.Proofs.YtdlfoinpjbcodaaDoor
