/- Products digit by digit: plain. -/
import Derived.Test.YtodhklapikfpoaaDoorRi
namespace Go.Proofs.YtodhklapikfpoaaDoor
set_option linter.unusedVariables false
set_option linter.unusedSimpArgs false

def upd (f : Nat → Nat) (t v : Nat) : Nat → Nat := fun j => if j = t then v else f j
theorem upd_same (f : Nat → Nat) (t v : Nat) : upd f t v t = v := if_pos rfl
theorem upd_other (f : Nat → Nat) {t v j : Nat} (h : j ≠ t) : upd f t v j = f j := if_neg h
def sumT (f : Nat → Nat) : Nat → Nat
  | 0 => 0
  | n + 1 => sumT f n + f n * 10 ^ n
theorem sumT_ext (f g : Nat → Nat) : ∀ n, (∀ j, j < n → f j = g j) → sumT f n = sumT g n
  | 0, _ => rfl
  | n + 1, h => by
    show sumT f n + f n * 10 ^ n = sumT g n + g n * 10 ^ n
    rw [sumT_ext f g n (fun j hj => h j (by omega)), h n (by omega)]
theorem sumT_upd (f : Nat → Nat) (t v : Nat) : ∀ n, t < n → sumT (upd f t v) n + f t * 10 ^ t = sumT f n + v * 10 ^ t
  | 0, h => by omega
  | n + 1, h => by
    show sumT (upd f t v) n + upd f t v n * 10 ^ n + _ = sumT f n + f n * 10 ^ n + _
    by_cases e : t = n
    · subst e
      rw [upd_same, sumT_ext (upd f t v) f t (fun j hj => upd_other f (by omega))]
      omega
    · rw [upd_other f (show n ≠ t by omega)]
      have := sumT_upd f t v n (by omega)
      omega
theorem sumT_zero : ∀ n, sumT (fun _ => 0) n = 0
  | 0 => rfl
  | n + 1 => by show sumT _ n + 0 * 10 ^ n = 0; rw [sumT_zero n]; omega
theorem sumT_lt (f : Nat → Nat) : ∀ n, (∀ j, j < n → f j ≤ 9) → sumT f n < 10 ^ n
  | 0, _ => Nat.zero_lt_one
  | n + 1, h => by
    show sumT f n + f n * 10 ^ n < _
    have h1 := sumT_lt f n (fun j hj => h j (by omega))
    have h2 := Nat.mul_le_mul_right (10 ^ n) (h n (by omega))
    rw [Nat.pow_succ]; omega
theorem sumT_split (f : Nat → Nat) (j : Nat) : ∀ n, j < n → ∃ q, sumT f n = sumT f j + f j * 10 ^ j + q * 10 ^ (j + 1)
  | 0, h => by omega
  | n + 1, h => by
    by_cases e : j = n
    · subst e; exact ⟨0, by show sumT f j + _ = _; omega⟩
    · obtain ⟨q, hq⟩ := sumT_split f j n (by omega)
      obtain ⟨d, hd⟩ : ∃ d, n = j + 1 + d := ⟨n - (j + 1), by omega⟩
      refine ⟨q + f n * 10 ^ d, ?_⟩
      show sumT f n + f n * 10 ^ n = _
      have e1 : f n * 10 ^ n = f n * 10 ^ d * 10 ^ (j + 1) := by
        rw [Nat.mul_assoc, ← Nat.pow_add, Nat.add_comm d, ← hd]
      rw [hq, e1, Nat.add_mul]
      omega
/-- the digits of a number. -/
theorem digit_of (f : Nat → Nat) (n j : Nat) (hj : j < n) (h : ∀ i, i < n → f i ≤ 9) : sumT f n / 10 ^ j % 10 = f j := by
  obtain ⟨q, hq⟩ := sumT_split f j n hj
  have hl := sumT_lt f j (fun i hi => h i (by omega))
  have h9 := h j hj
  have e : sumT f n = sumT f j + (f j + q * 10) * 10 ^ j := by rw [hq, Nat.add_mul, Nat.pow_succ, ← Nat.mul_assoc, Nat.mul_right_comm q (10 ^ j) 10]; omega
  rw [e, Nat.add_mul_div_right _ _ (Nat.pow_pos (by decide)), Nat.div_eq_of_lt hl]
  omega
/-- a digit more of one that is multiplied. -/
theorem mod_more (B k : Nat) : B % 10 ^ (k + 1) = B % 10 ^ k + B / 10 ^ k % 10 * 10 ^ k := by
  rw [Nat.pow_succ, Nat.mod_mul]
  rw [Nat.mul_comm (10 ^ k)]
/-- one place of one digit's product. -/
theorem inner_step {f : Nat → Nat} {A B i k P0 : Nat} (ht : i + k < 40) (h : sumT f 40 = P0 + A % 10 * 10 ^ i * (B % 10 ^ k)) :
    sumT (upd f (i + k) (f (i + k) + A % 10 * (B / 10 ^ k % 10))) 40 = P0 + A % 10 * 10 ^ i * (B % 10 ^ (k + 1)) := by
  have h1 := sumT_upd f (i + k) (f (i + k) + A % 10 * (B / 10 ^ k % 10)) 40 ht
  rw [Nat.add_mul] at h1
  rw [mod_more, Nat.mul_add]
  have e : A % 10 * (B / 10 ^ k % 10) * 10 ^ (i + k) = A % 10 * 10 ^ i * (B / 10 ^ k % 10 * 10 ^ k) := by
    rw [Nat.pow_add]
    generalize A % 10 = a; generalize B / 10 ^ k % 10 = b; generalize 10 ^ i = p; generalize 10 ^ k = q
    rw [Nat.mul_assoc, Nat.mul_assoc, ← Nat.mul_assoc b p q, Nat.mul_comm b p, Nat.mul_assoc p b q]
  rw [← e]
  omega
theorem outer_step {A B i : Nat} : A % 10 ^ i * B + A / 10 ^ i % 10 * 10 ^ i * B = A % 10 ^ (i + 1) * B := by
  rw [mod_more, Nat.add_mul]
theorem carry_step {f : Nat → Nat} {i : Nat} (hi : i + 1 < 40) :
    sumT (upd (upd f (i + 1) (f (i + 1) + f i / 10)) i (f i % 10)) 40 = sumT f 40 := by
  have h1 := sumT_upd f (i + 1) (f (i + 1) + f i / 10) 40 hi
  have h2 := sumT_upd (upd f (i + 1) (f (i + 1) + f i / 10)) i (f i % 10) 40 (by omega)
  rw [upd_other f (show i ≠ i + 1 by omega)] at h2
  rw [Nat.add_mul] at h1
  have e : f i / 10 * 10 ^ (i + 1) = f i / 10 * 10 * 10 ^ i := by rw [Nat.pow_succ, Nat.mul_assoc, Nat.mul_comm (10 ^ i) 10]
  have e2 : f i * 10 ^ i = f i / 10 * 10 * 10 ^ i + f i % 10 * 10 ^ i := by rw [← Nat.add_mul]; congr 1; omega
  omega
/-- the digits of a number that is not too great. -/
theorem digits_last {g : Nat → Nat} {A B : Nat} (hA : A ≤ 999999999999999) (hB : B ≤ 999999999999999) (h : sumT g 40 = A * B) (h9 : ∀ j, j < 39 → g j ≤ 9) : ∀ j, j < 40 → g j = A * B / 10 ^ j % 10 := by
  have hp : A * B < 10 ^ 39 := by
    have h1 := Nat.mul_le_mul hA hB
    have h2 : 999999999999999 * 999999999999999 < 10 ^ 39 := by decide +kernel
    omega
  have h39 : g 39 = 0 := by
    rcases Nat.eq_zero_or_pos (g 39) with h0 | h0
    · exact h0
    · exfalso
      have e : sumT g 40 = sumT g 39 + g 39 * 10 ^ 39 := rfl
      have := Nat.mul_le_mul_right (10 ^ 39) h0
      rw [Nat.one_mul] at this
      generalize 10 ^ 39 = X at *
      omega
  have h99 : ∀ i, i < 40 → g i ≤ 9 := by
    intro i hi
    by_cases e : i = 39
    · subst e; omega
    · exact h9 i (by omega)
  intro j hj
  rw [← h]
  exact (digit_of g 40 j hj h99).symm
/-- noughts fall away. -/
theorem nrm_down {P l c : Nat} (hc : 0 < c) (h : P / 10 ^ l % 10 = 0) : nrm ((P / 10 ^ l : Nat) : Int) c = nrm ((P / 10 ^ (l + 1) : Nat) : Int) (c - 1) := by
  rw [nrm_go c hc (by omega), Nat.pow_succ, ← Nat.div_div_eq_div_mul]
  congr 1
theorem nrm_end {P l c : Nat} (h : c = 0 ∨ ¬ P / 10 ^ l % 10 = 0) : nrm ((P / 10 ^ l : Nat) : Int) c = (((P / 10 ^ l : Nat) : Int), c) := by
  rcases h with h | h
  · subst h; rfl
  · exact nrm_stay _ _ (by omega)
/-- what stands ahead of the last l digits. -/
def qt (P l : Nat) : Nat := P / 10 ^ l
theorem qt_zero (P : Nat) : qt P 0 = P := by unfold qt; rw [Nat.pow_zero, Nat.div_one]
theorem qt_down {P l c : Nat} (hc : 0 < c) (h : qt P l % 10 = 0) : nrm (qt P l : Int) c = nrm (qt P (l + 1) : Int) (c - 1) := nrm_down hc h
theorem qt_end {P l c : Nat} (h : c = 0 ∨ ¬ qt P l % 10 = 0) : nrm (qt P l : Int) c = ((qt P l : Int), c) := nrm_end h
theorem qt_le (P l : Nat) : qt P l ≤ P := Nat.div_le_self _ _
theorem qt_more (P j : Nat) : qt P j = 10 * qt P (j + 1) + P / 10 ^ j % 10 := by
  unfold qt
  rw [Nat.pow_succ, ← Nat.div_div_eq_div_mul]
  omega
theorem tops_zero {P : Nat} (hP : P < 10 ^ 40) : ∀ (d a : Nat), a + d = 40 → ((∀ j, j < 40 → a ≤ j → P / 10 ^ j % 10 = 0) ↔ qt P a = 0)
  | 0, a, h => by
    have : a = 40 := by omega
    subst this
    exact ⟨fun _ => Nat.div_eq_of_lt hP, fun _ j h1 h2 => by omega⟩
  | d + 1, a, h => by
    have ih := tops_zero hP d (a + 1) (by omega)
    have hm := qt_more P a
    constructor
    · intro hh
      have h1 := ih.1 (fun j h1 h2 => hh j h1 (by omega))
      have h2 := hh a (by omega) (Nat.le_refl _)
      omega
    · intro hh
      have h0 : qt P (a + 1) = 0 ∧ P / 10 ^ a % 10 = 0 := by omega
      intro j h1 h2
      by_cases e : j = a
      · subst e; exact h0.2
      · exact ih.2 h0.1 j h1 (by omega)
theorem qt_add (P l r : Nat) : qt P (l + r) = qt P l / 10 ^ r := by
  unfold qt
  rw [Nat.pow_add, Nat.div_div_eq_div_mul]
theorem prod_sign {m m2 : Int} {A B : Nat} {neg : Bool} (hA : A = m.natAbs) (hB : B = m2.natAbs) (h : (!decide (m < 0) == decide (m2 < 0)) = neg) : m * m2 = if neg then -((A * B : Nat) : Int) else ((A * B : Nat) : Int) := by
  rw [Int.natCast_mul]
  rcases Int.lt_or_le m 0 with h1 | h1 <;> rcases Int.lt_or_le m2 0 with h2 | h2
  · have e1 : m = -(A : Int) := by omega
    have e2 : m2 = -(B : Int) := by omega
    have : neg = false := by rw [← h]; simp [h1, h2]
    rw [this, e1, e2]; simp [Int.neg_mul, Int.mul_neg]
  · have e1 : m = -(A : Int) := by omega
    have e2 : m2 = (B : Int) := by omega
    have h2' : ¬ m2 < 0 := by omega
    have : neg = true := by rw [← h]; simp [h1, h2']
    rw [this, e1, e2]; simp [Int.neg_mul, Int.mul_neg]
  · have e1 : m = (A : Int) := by omega
    have e2 : m2 = -(B : Int) := by omega
    have h1' : ¬ m < 0 := by omega
    have : neg = true := by rw [← h]; simp [h1', h2]
    rw [this, e1, e2]; simp [Int.neg_mul, Int.mul_neg]
  · have e1 : m = (A : Int) := by omega
    have e2 : m2 = (B : Int) := by omega
    have h1' : ¬ m < 0 := by omega
    have h2' : ¬ m2 < 0 := by omega
    have : neg = false := by rw [← h]; simp [h1', h2']
    rw [this, e1, e2]; simp [Int.neg_mul, Int.mul_neg]
end Go.Proofs.YtodhklapikfpoaaDoor
