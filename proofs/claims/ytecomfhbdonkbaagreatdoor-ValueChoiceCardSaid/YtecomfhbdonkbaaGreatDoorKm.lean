/- Products digit by digit: plain. -/
import Derived.Test.YtecomfhbdonkbaaGreatDoorKs
import Derived.Deep.MidRow
import Derived.Deep.DeepCutAuto
import Derived.Test.YtecomfhbdonkbaaGreatDoorWR
namespace Go.Proofs.YtecomfhbdonkbaaGreatDoor
set_option linter.unusedVariables false
set_option linter.unusedSimpArgs false

def upd (f : Nat → Nat) (t v : Nat) : Nat → Nat := fun j => if j = t then v else f j
theorem upd_same (f : Nat → Nat) (t v : Nat) : upd f t v t = v := if_pos rfl
theorem upd_other (f : Nat → Nat) {t v j : Nat} (h : j ≠ t) : upd f t v j = f j := if_neg h
def sumT (f : Nat → Nat) : Nat → Nat
  | 0 => 0
  | n + 1 => sumT f n + f n * 10 ^ n
theorem sumT_ext (f g : Nat → Nat) : ∀ n, (∀ j, j < n → f j = g j) → sumT f n = sumT g n
  | 0, _ => rfl
  | n + 1, h => by
    show sumT f n + f n * 10 ^ n = sumT g n + g n * 10 ^ n
    rw [sumT_ext f g n (fun j hj => h j (by omega)), h n (by omega)]
theorem sumT_upd (f : Nat → Nat) (t v : Nat) : ∀ n, t < n → sumT (upd f t v) n + f t * 10 ^ t = sumT f n + v * 10 ^ t
  | 0, h => by omega
  | n + 1, h => by
    show sumT (upd f t v) n + upd f t v n * 10 ^ n + _ = sumT f n + f n * 10 ^ n + _
    by_cases e : t = n
    · subst e
      rw [upd_same, sumT_ext (upd f t v) f t (fun j hj => upd_other f (by omega))]
      omega
    · rw [upd_other f (show n ≠ t by omega)]
      have := sumT_upd f t v n (by omega)
      omega
theorem sumT_zero : ∀ n, sumT (fun _ => 0) n = 0
  | 0 => rfl
  | n + 1 => by show sumT _ n + 0 * 10 ^ n = 0; rw [sumT_zero n]; omega
theorem sumT_lt (f : Nat → Nat) : ∀ n, (∀ j, j < n → f j ≤ 9) → sumT f n < 10 ^ n
  | 0, _ => Nat.zero_lt_one
  | n + 1, h => by
    show sumT f n + f n * 10 ^ n < _
    have h1 := sumT_lt f n (fun j hj => h j (by omega))
    have h2 := Nat.mul_le_mul_right (10 ^ n) (h n (by omega))
    rw [Nat.pow_succ]; omega
theorem sumT_split (f : Nat → Nat) (j : Nat) : ∀ n, j < n → ∃ q, sumT f n = sumT f j + f j * 10 ^ j + q * 10 ^ (j + 1)
  | 0, h => by omega
  | n + 1, h => by
    by_cases e : j = n
    · subst e; exact ⟨0, by show sumT f j + _ = _; omega⟩
    · obtain ⟨q, hq⟩ := sumT_split f j n (by omega)
      obtain ⟨d, hd⟩ : ∃ d, n = j + 1 + d := ⟨n - (j + 1), by omega⟩
      refine ⟨q + f n * 10 ^ d, ?_⟩
      show sumT f n + f n * 10 ^ n = _
      have e1 : f n * 10 ^ n = f n * 10 ^ d * 10 ^ (j + 1) := by
        rw [Nat.mul_assoc, ← Nat.pow_add, Nat.add_comm d, ← hd]
      rw [hq, e1, Nat.add_mul]
      omega
/-- the digits of a number. -/
theorem digit_of (f : Nat → Nat) (n j : Nat) (hj : j < n) (h : ∀ i, i < n → f i ≤ 9) : sumT f n / 10 ^ j % 10 = f j := by
  obtain ⟨q, hq⟩ := sumT_split f j n hj
  have hl := sumT_lt f j (fun i hi => h i (by omega))
  have h9 := h j hj
  have e : sumT f n = sumT f j + (f j + q * 10) * 10 ^ j := by rw [hq, Nat.add_mul, Nat.pow_succ, ← Nat.mul_assoc, Nat.mul_right_comm q (10 ^ j) 10]; omega
  rw [e, Nat.add_mul_div_right _ _ (Nat.pow_pos (by decide)), Nat.div_eq_of_lt hl]
  omega
/-- a digit more of one that is multiplied. -/
theorem mod_more (B k : Nat) : B % 10 ^ (k + 1) = B % 10 ^ k + B / 10 ^ k % 10 * 10 ^ k := by
  rw [Nat.pow_succ, Nat.mod_mul]
  rw [Nat.mul_comm (10 ^ k)]
/-- one place of one digit's product. -/
theorem inner_step {f : Nat → Nat} {A B i k P0 : Nat} (ht : i + k < 40) (h : sumT f 40 = P0 + A % 10 * 10 ^ i * (B % 10 ^ k)) :
    sumT (upd f (i + k) (f (i + k) + A % 10 * (B / 10 ^ k % 10))) 40 = P0 + A % 10 * 10 ^ i * (B % 10 ^ (k + 1)) := by
  have h1 := sumT_upd f (i + k) (f (i + k) + A % 10 * (B / 10 ^ k % 10)) 40 ht
  rw [Nat.add_mul] at h1
  rw [mod_more, Nat.mul_add]
  have e : A % 10 * (B / 10 ^ k % 10) * 10 ^ (i + k) = A % 10 * 10 ^ i * (B / 10 ^ k % 10 * 10 ^ k) := by
    rw [Nat.pow_add]
    generalize A % 10 = a; generalize B / 10 ^ k % 10 = b; generalize 10 ^ i = p; generalize 10 ^ k = q
    rw [Nat.mul_assoc, Nat.mul_assoc, ← Nat.mul_assoc b p q, Nat.mul_comm b p, Nat.mul_assoc p b q]
  rw [← e]
  omega
theorem outer_step {A B i : Nat} : A % 10 ^ i * B + A / 10 ^ i % 10 * 10 ^ i * B = A % 10 ^ (i + 1) * B := by
  rw [mod_more, Nat.add_mul]
theorem carry_step {f : Nat → Nat} {i : Nat} (hi : i + 1 < 40) :
    sumT (upd (upd f (i + 1) (f (i + 1) + f i / 10)) i (f i % 10)) 40 = sumT f 40 := by
  have h1 := sumT_upd f (i + 1) (f (i + 1) + f i / 10) 40 hi
  have h2 := sumT_upd (upd f (i + 1) (f (i + 1) + f i / 10)) i (f i % 10) 40 (by omega)
  rw [upd_other f (show i ≠ i + 1 by omega)] at h2
  rw [Nat.add_mul] at h1
  have e : f i / 10 * 10 ^ (i + 1) = f i / 10 * 10 * 10 ^ i := by rw [Nat.pow_succ, Nat.mul_assoc, Nat.mul_comm (10 ^ i) 10]
  have e2 : f i * 10 ^ i = f i / 10 * 10 * 10 ^ i + f i % 10 * 10 ^ i := by rw [← Nat.add_mul]; congr 1; omega
  omega
/-- the digits of a number that is not too great. -/
theorem digits_last {g : Nat → Nat} {A B : Nat} (hA : A ≤ 999999999999999) (hB : B ≤ 999999999999999) (h : sumT g 40 = A * B) (h9 : ∀ j, j < 39 → g j ≤ 9) : ∀ j, j < 40 → g j = A * B / 10 ^ j % 10 := by
  have hp : A * B < 10 ^ 39 := by
    have h1 := Nat.mul_le_mul hA hB
    have h2 : 999999999999999 * 999999999999999 < 10 ^ 39 := by decide +kernel
    omega
  have h39 : g 39 = 0 := by
    rcases Nat.eq_zero_or_pos (g 39) with h0 | h0
    · exact h0
    · exfalso
      have e : sumT g 40 = sumT g 39 + g 39 * 10 ^ 39 := rfl
      have := Nat.mul_le_mul_right (10 ^ 39) h0
      rw [Nat.one_mul] at this
      generalize 10 ^ 39 = X at *
      omega
  have h99 : ∀ i, i < 40 → g i ≤ 9 := by
    intro i hi
    by_cases e : i = 39
    · subst e; omega
    · exact h9 i (by omega)
  intro j hj
  rw [← h]
  exact (digit_of g 40 j hj h99).symm
/-- noughts fall away. -/
theorem nrm_down {P l c : Nat} (hc : 0 < c) (h : P / 10 ^ l % 10 = 0) : nrm ((P / 10 ^ l : Nat) : Int) c = nrm ((P / 10 ^ (l + 1) : Nat) : Int) (c - 1) := by
  rw [nrm_go c hc (by omega), Nat.pow_succ, ← Nat.div_div_eq_div_mul]
  congr 1
theorem nrm_end {P l c : Nat} (h : c = 0 ∨ ¬ P / 10 ^ l % 10 = 0) : nrm ((P / 10 ^ l : Nat) : Int) c = (((P / 10 ^ l : Nat) : Int), c) := by
  rcases h with h | h
  · subst h; rfl
  · exact nrm_stay _ _ (by omega)
/-- what stands ahead of the last l digits. -/
def qt (P l : Nat) : Nat := P / 10 ^ l
theorem qt_zero (P : Nat) : qt P 0 = P := by unfold qt; rw [Nat.pow_zero, Nat.div_one]
theorem qt_down {P l c : Nat} (hc : 0 < c) (h : qt P l % 10 = 0) : nrm (qt P l : Int) c = nrm (qt P (l + 1) : Int) (c - 1) := nrm_down hc h
theorem qt_end {P l c : Nat} (h : c = 0 ∨ ¬ qt P l % 10 = 0) : nrm (qt P l : Int) c = ((qt P l : Int), c) := nrm_end h
theorem qt_le (P l : Nat) : qt P l ≤ P := Nat.div_le_self _ _
theorem qt_more (P j : Nat) : qt P j = 10 * qt P (j + 1) + P / 10 ^ j % 10 := by
  unfold qt
  rw [Nat.pow_succ, ← Nat.div_div_eq_div_mul]
  omega
theorem tops_zero {P : Nat} (hP : P < 10 ^ 40) : ∀ (d a : Nat), a + d = 40 → ((∀ j, j < 40 → a ≤ j → P / 10 ^ j % 10 = 0) ↔ qt P a = 0)
  | 0, a, h => by
    have : a = 40 := by omega
    subst this
    exact ⟨fun _ => Nat.div_eq_of_lt hP, fun _ j h1 h2 => by omega⟩
  | d + 1, a, h => by
    have ih := tops_zero hP d (a + 1) (by omega)
    have hm := qt_more P a
    constructor
    · intro hh
      have h1 := ih.1 (fun j h1 h2 => hh j h1 (by omega))
      have h2 := hh a (by omega) (Nat.le_refl _)
      omega
    · intro hh
      have h0 : qt P (a + 1) = 0 ∧ P / 10 ^ a % 10 = 0 := by omega
      intro j h1 h2
      by_cases e : j = a
      · subst e; exact h0.2
      · exact ih.2 h0.1 j h1 (by omega)
theorem qt_add (P l r : Nat) : qt P (l + r) = qt P l / 10 ^ r := by
  unfold qt
  rw [Nat.pow_add, Nat.div_div_eq_div_mul]
theorem prod_sign {m m2 : Int} {A B : Nat} {neg : Bool} (hA : A = m.natAbs) (hB : B = m2.natAbs) (h : (!decide (m < 0) == decide (m2 < 0)) = neg) : m * m2 = if neg then -((A * B : Nat) : Int) else ((A * B : Nat) : Int) := by
  rw [Int.natCast_mul]
  rcases Int.lt_or_le m 0 with h1 | h1 <;> rcases Int.lt_or_le m2 0 with h2 | h2
  · have e1 : m = -(A : Int) := by omega
    have e2 : m2 = -(B : Int) := by omega
    have : neg = false := by rw [← h]; simp [h1, h2]
    rw [this, e1, e2]; simp [Int.neg_mul, Int.mul_neg]
  · have e1 : m = -(A : Int) := by omega
    have e2 : m2 = (B : Int) := by omega
    have h2' : ¬ m2 < 0 := by omega
    have : neg = true := by rw [← h]; simp [h1, h2']
    rw [this, e1, e2]; simp [Int.neg_mul, Int.mul_neg]
  · have e1 : m = (A : Int) := by omega
    have e2 : m2 = -(B : Int) := by omega
    have h1' : ¬ m < 0 := by omega
    have : neg = true := by rw [← h]; simp [h1', h2]
    rw [this, e1, e2]; simp [Int.neg_mul, Int.mul_neg]
  · have e1 : m = (A : Int) := by omega
    have e2 : m2 = (B : Int) := by omega
    have h1' : ¬ m < 0 := by omega
    have h2' : ¬ m2 < 0 := by omega
    have : neg = false := by rw [← h]; simp [h1', h2']
    rw [this, e1, e2]; simp [Int.neg_mul, Int.mul_neg]
end Go.Proofs.YtecomfhbdonkbaaGreatDoor
/- zero of the reference. -/
namespace Go.Proofs.YtecomfhbdonkbaaGreatDoor
open Go.RowKit Go.Shelf Flo
set_option maxRecDepth 100000
set_option linter.unusedVariables false
set_option linter.unusedSimpArgs false

/-- forty digits in their block. -/
def Dig (w : World) (b : Nat) (f : Nat → Nat) : Prop := b < w.heap.size ∧ ∀ j, j < 40 → w.cell? ⟨b, j, none⟩ = some (.int .i64 (f j : Int)) ∧ w.frozen? ⟨b, j, none⟩ = false
theorem Dig.below {w w' : World} {b : Nat} {f : Nat → Nat} (h : Dig w b f) (hb : Below w.heap.size w w') : Dig w' b f :=
  ⟨Nat.lt_of_lt_of_le h.1 hb.size, fun j hj => ⟨cellB hb h.1 (h.2 j hj).1, frozB hb h.1 (h.2 j hj).2⟩⟩
theorem Dig.box (w : World) (g : Nat → Nat) (t : TypeId) : Dig (w.alloc (.cells #[.int .i64 (g 0 : Int), .int .i64 (g 1 : Int), .int .i64 (g 2 : Int), .int .i64 (g 3 : Int), .int .i64 (g 4 : Int), .int .i64 (g 5 : Int), .int .i64 (g 6 : Int), .int .i64 (g 7 : Int), .int .i64 (g 8 : Int), .int .i64 (g 9 : Int), .int .i64 (g 10 : Int), .int .i64 (g 11 : Int), .int .i64 (g 12 : Int), .int .i64 (g 13 : Int), .int .i64 (g 14 : Int), .int .i64 (g 15 : Int), .int .i64 (g 16 : Int), .int .i64 (g 17 : Int), .int .i64 (g 18 : Int), .int .i64 (g 19 : Int), .int .i64 (g 20 : Int), .int .i64 (g 21 : Int), .int .i64 (g 22 : Int), .int .i64 (g 23 : Int), .int .i64 (g 24 : Int), .int .i64 (g 25 : Int), .int .i64 (g 26 : Int), .int .i64 (g 27 : Int), .int .i64 (g 28 : Int), .int .i64 (g 29 : Int), .int .i64 (g 30 : Int), .int .i64 (g 31 : Int), .int .i64 (g 32 : Int), .int .i64 (g 33 : Int), .int .i64 (g 34 : Int), .int .i64 (g 35 : Int), .int .i64 (g 36 : Int), .int .i64 (g 37 : Int), .int .i64 (g 38 : Int), .int .i64 (g 39 : Int)] t)) w.heap.size g := by
  have e : (#[.int .i64 (g 0 : Int), .int .i64 (g 1 : Int), .int .i64 (g 2 : Int), .int .i64 (g 3 : Int), .int .i64 (g 4 : Int), .int .i64 (g 5 : Int), .int .i64 (g 6 : Int), .int .i64 (g 7 : Int), .int .i64 (g 8 : Int), .int .i64 (g 9 : Int), .int .i64 (g 10 : Int), .int .i64 (g 11 : Int), .int .i64 (g 12 : Int), .int .i64 (g 13 : Int), .int .i64 (g 14 : Int), .int .i64 (g 15 : Int), .int .i64 (g 16 : Int), .int .i64 (g 17 : Int), .int .i64 (g 18 : Int), .int .i64 (g 19 : Int), .int .i64 (g 20 : Int), .int .i64 (g 21 : Int), .int .i64 (g 22 : Int), .int .i64 (g 23 : Int), .int .i64 (g 24 : Int), .int .i64 (g 25 : Int), .int .i64 (g 26 : Int), .int .i64 (g 27 : Int), .int .i64 (g 28 : Int), .int .i64 (g 29 : Int), .int .i64 (g 30 : Int), .int .i64 (g 31 : Int), .int .i64 (g 32 : Int), .int .i64 (g 33 : Int), .int .i64 (g 34 : Int), .int .i64 (g 35 : Int), .int .i64 (g 36 : Int), .int .i64 (g 37 : Int), .int .i64 (g 38 : Int), .int .i64 (g 39 : Int)] : Array Value) = ((List.range 40).map fun j => Value.int .i64 (g j : Int)).toArray := rfl
  rw [e]
  refine ⟨by simp, fun j hj => ⟨?_, by simp⟩⟩
  rw [World.cell?_alloc_new, List.getElem?_toArray, List.getElem?_map, List.getElem?_range hj]
  rfl
/-- the forty digits, loaded. -/
theorem load40 {w : World} {b : Nat} {g : Nat → Nat} (h : Dig w b g) : (loadCellsFrom ⟨b, 0, none⟩ 0 40 #[]).run Tryz.prog w = .ok #[.int .i64 (g 0 : Int), .int .i64 (g 1 : Int), .int .i64 (g 2 : Int), .int .i64 (g 3 : Int), .int .i64 (g 4 : Int), .int .i64 (g 5 : Int), .int .i64 (g 6 : Int), .int .i64 (g 7 : Int), .int .i64 (g 8 : Int), .int .i64 (g 9 : Int), .int .i64 (g 10 : Int), .int .i64 (g 11 : Int), .int .i64 (g 12 : Int), .int .i64 (g 13 : Int), .int .i64 (g 14 : Int), .int .i64 (g 15 : Int), .int .i64 (g 16 : Int), .int .i64 (g 17 : Int), .int .i64 (g 18 : Int), .int .i64 (g 19 : Int), .int .i64 (g 20 : Int), .int .i64 (g 21 : Int), .int .i64 (g 22 : Int), .int .i64 (g 23 : Int), .int .i64 (g 24 : Int), .int .i64 (g 25 : Int), .int .i64 (g 26 : Int), .int .i64 (g 27 : Int), .int .i64 (g 28 : Int), .int .i64 (g 29 : Int), .int .i64 (g 30 : Int), .int .i64 (g 31 : Int), .int .i64 (g 32 : Int), .int .i64 (g 33 : Int), .int .i64 (g 34 : Int), .int .i64 (g 35 : Int), .int .i64 (g 36 : Int), .int .i64 (g 37 : Int), .int .i64 (g 38 : Int), .int .i64 (g 39 : Int)] w :=
  run_loadCells_list (P := Tryz.prog) w ⟨b, 0, none⟩ ((List.range 40).map fun j => Value.int .i64 (g j : Int)) (fun j v hv => by
    have hadd : (⟨b, 0, none⟩ : Addr).add j = ⟨b, j, none⟩ := by unfold Addr.add; split <;> simp_all
    rw [hadd]
    rw [List.getElem?_map] at hv
    obtain ⟨x, hx, rfl⟩ := Option.map_eq_some_iff.1 hv
    obtain ⟨h1, h2⟩ := List.getElem?_eq_some_iff.1 hx
    rw [List.getElem_range] at h2
    subst h2
    exact (h.2 j (by simpa using h1)).1)
theorem Dig.range {w : World} {b : Nat} {g : Nat → Nat} (h : Dig w b g) : w.rangeAt b 0 [.int .i64 (g 0 : Int), .int .i64 (g 1 : Int), .int .i64 (g 2 : Int), .int .i64 (g 3 : Int), .int .i64 (g 4 : Int), .int .i64 (g 5 : Int), .int .i64 (g 6 : Int), .int .i64 (g 7 : Int), .int .i64 (g 8 : Int), .int .i64 (g 9 : Int), .int .i64 (g 10 : Int), .int .i64 (g 11 : Int), .int .i64 (g 12 : Int), .int .i64 (g 13 : Int), .int .i64 (g 14 : Int), .int .i64 (g 15 : Int), .int .i64 (g 16 : Int), .int .i64 (g 17 : Int), .int .i64 (g 18 : Int), .int .i64 (g 19 : Int), .int .i64 (g 20 : Int), .int .i64 (g 21 : Int), .int .i64 (g 22 : Int), .int .i64 (g 23 : Int), .int .i64 (g 24 : Int), .int .i64 (g 25 : Int), .int .i64 (g 26 : Int), .int .i64 (g 27 : Int), .int .i64 (g 28 : Int), .int .i64 (g 29 : Int), .int .i64 (g 30 : Int), .int .i64 (g 31 : Int), .int .i64 (g 32 : Int), .int .i64 (g 33 : Int), .int .i64 (g 34 : Int), .int .i64 (g 35 : Int), .int .i64 (g 36 : Int), .int .i64 (g 37 : Int), .int .i64 (g 38 : Int), .int .i64 (g 39 : Int)] := fun j v hv => by
  have e : ([.int .i64 (g 0 : Int), .int .i64 (g 1 : Int), .int .i64 (g 2 : Int), .int .i64 (g 3 : Int), .int .i64 (g 4 : Int), .int .i64 (g 5 : Int), .int .i64 (g 6 : Int), .int .i64 (g 7 : Int), .int .i64 (g 8 : Int), .int .i64 (g 9 : Int), .int .i64 (g 10 : Int), .int .i64 (g 11 : Int), .int .i64 (g 12 : Int), .int .i64 (g 13 : Int), .int .i64 (g 14 : Int), .int .i64 (g 15 : Int), .int .i64 (g 16 : Int), .int .i64 (g 17 : Int), .int .i64 (g 18 : Int), .int .i64 (g 19 : Int), .int .i64 (g 20 : Int), .int .i64 (g 21 : Int), .int .i64 (g 22 : Int), .int .i64 (g 23 : Int), .int .i64 (g 24 : Int), .int .i64 (g 25 : Int), .int .i64 (g 26 : Int), .int .i64 (g 27 : Int), .int .i64 (g 28 : Int), .int .i64 (g 29 : Int), .int .i64 (g 30 : Int), .int .i64 (g 31 : Int), .int .i64 (g 32 : Int), .int .i64 (g 33 : Int), .int .i64 (g 34 : Int), .int .i64 (g 35 : Int), .int .i64 (g 36 : Int), .int .i64 (g 37 : Int), .int .i64 (g 38 : Int), .int .i64 (g 39 : Int)] : List Value) = (List.range 40).map fun j => Value.int .i64 (g j : Int) := rfl
  rw [e, List.getElem?_map] at hv
  obtain ⟨x, hx, rfl⟩ := Option.map_eq_some_iff.1 hv
  obtain ⟨h1, h2⟩ := List.getElem?_eq_some_iff.1 hx
  rw [List.getElem_range] at h2
  subst h2
  rw [Nat.zero_add]
  exact (h.2 j (by simpa using h1)).1
/-- all noughts from there on. -/
def allZ (g : Nat → Nat) (a : Nat) : Bool := (List.range 40).all fun j => decide (j < a) || g j == 0
theorem allZ_iff (g : Nat → Nat) (a : Nat) : allZ g a = true ↔ ∀ j, j < 40 → a ≤ j → g j = 0 := by
  unfold allZ
  rw [List.all_eq_true]
  constructor
  · intro h j hj ha
    have := h j (List.mem_range.2 hj)
    simp at this
    omega
  · intro h j hj
    have := h j (List.mem_range.1 hj)
    simp
    omega
theorem allZ_top {g : Nat → Nat} {P : Nat} (hP : P < 10 ^ 40) (hg : ∀ j, j < 40 → g j = P / 10 ^ j % 10) (a : Nat) (ha : a ≤ 40) : allZ g a = decide (qt P a = 0) := by
  rw [Bool.eq_iff_iff, allZ_iff, decide_eq_true_iff, ← tops_zero hP (40 - a) a (by omega)]
  exact ⟨fun h j h1 h2 => by rw [← hg j h1]; exact h j h1 h2, fun h j h1 h2 => by rw [hg j h1]; exact h j h1 h2⟩
theorem zero_any (g : Nat → Nat) (a : Nat) (ha : a ≤ 40) (w : World) : Calls Tryz.prog 35 #[.agg #[.int .i64 (g 0 : Int), .int .i64 (g 1 : Int), .int .i64 (g 2 : Int), .int .i64 (g 3 : Int), .int .i64 (g 4 : Int), .int .i64 (g 5 : Int), .int .i64 (g 6 : Int), .int .i64 (g 7 : Int), .int .i64 (g 8 : Int), .int .i64 (g 9 : Int), .int .i64 (g 10 : Int), .int .i64 (g 11 : Int), .int .i64 (g 12 : Int), .int .i64 (g 13 : Int), .int .i64 (g 14 : Int), .int .i64 (g 15 : Int), .int .i64 (g 16 : Int), .int .i64 (g 17 : Int), .int .i64 (g 18 : Int), .int .i64 (g 19 : Int), .int .i64 (g 20 : Int), .int .i64 (g 21 : Int), .int .i64 (g 22 : Int), .int .i64 (g 23 : Int), .int .i64 (g 24 : Int), .int .i64 (g 25 : Int), .int .i64 (g 26 : Int), .int .i64 (g 27 : Int), .int .i64 (g 28 : Int), .int .i64 (g 29 : Int), .int .i64 (g 30 : Int), .int .i64 (g 31 : Int), .int .i64 (g 32 : Int), .int .i64 (g 33 : Int), .int .i64 (g 34 : Int), .int .i64 (g 35 : Int), .int .i64 (g 36 : Int), .int .i64 (g 37 : Int), .int .i64 (g 38 : Int), .int .i64 (g 39 : Int)], .int .i64 (a : Int)] w fun e w' => e = .returned (.bool (allZ g a)) ∧ Below w.heap.size w w' := by
  have HD := Lib.hid (Dig.box w g 80)
  have HB := Lib.hid ((Below.refl w.heap.size w).alloc (Nat.le_refl _) (.cells #[.int .i64 (g 0 : Int), .int .i64 (g 1 : Int), .int .i64 (g 2 : Int), .int .i64 (g 3 : Int), .int .i64 (g 4 : Int), .int .i64 (g 5 : Int), .int .i64 (g 6 : Int), .int .i64 (g 7 : Int), .int .i64 (g 8 : Int), .int .i64 (g 9 : Int), .int .i64 (g 10 : Int), .int .i64 (g 11 : Int), .int .i64 (g 12 : Int), .int .i64 (g 13 : Int), .int .i64 (g 14 : Int), .int .i64 (g 15 : Int), .int .i64 (g 16 : Int), .int .i64 (g 17 : Int), .int .i64 (g 18 : Int), .int .i64 (g 19 : Int), .int .i64 (g 20 : Int), .int .i64 (g 21 : Int), .int .i64 (g 22 : Int), .int .i64 (g 23 : Int), .int .i64 (g 24 : Int), .int .i64 (g 25 : Int), .int .i64 (g 26 : Int), .int .i64 (g 27 : Int), .int .i64 (g 28 : Int), .int .i64 (g 29 : Int), .int .i64 (g 30 : Int), .int .i64 (g 31 : Int), .int .i64 (g 32 : Int), .int .i64 (g 33 : Int), .int .i64 (g 34 : Int), .int .i64 (g 35 : Int), .int .i64 (g 36 : Int), .int .i64 (g 37 : Int), .int .i64 (g 38 : Int), .int .i64 (g 39 : Int)] 80))
  go_enter Tryz.func35, Tryz.ntmps35
  go_wp2_with fail
  generalize World.alloc w _ = w1 at HD HB ⊢
  go_loop [5] (fun i => ∃ j : Nat, i = .int .i64 (j : Int) ∧ a ≤ j ∧ j ≤ 40 ∧ ∀ x, x < j → a ≤ x → g x = 0) (fun i => 40 - (intOf i).toNat)
  case atStart => exact ⟨a, rfl, Nat.le_refl _, ha, fun x h1 h2 => by omega⟩
  case round =>
    obtain ⟨j, rfl, haj, hj, hz⟩ := hrel
    have HZ := Lib.hid hz
    clear hz
    by_cases hlt : j < 40
    · obtain ⟨f0, -⟩ := HD.out.2 j hlt
      have hlti : (j : Int) < 40 := by omega
      obtain ⟨d, hd⟩ : ∃ d, d = g j := ⟨_, rfl⟩
      rw [← hd] at f0
      have HDD := Lib.hid hd
      clear hd
      by_cases h0 : d = 0
      · subst h0
        have HN := Lib.hid (show ∀ x, x < j + 1 → a ≤ x → g x = 0 by
          intro x h1 h2
          by_cases e : x = j
          · rw [e]; exact HDD.out.symm
          · exact HZ.out x (by omega) h2)
        go_wp2_with fail
        go_round
        case rel => exact ⟨j + 1, by go_num, by omega, by omega, HN.out⟩
        case measure => simp [intOf]; omega
      · have hdi : ¬ (d : Int) = 0 := by omega
        have HF := Lib.hid (show allZ g a = false by
          rw [← Bool.not_eq_true, allZ_iff]
          intro hh
          exact h0 (HDD.out.trans (hh j hlt haj)))
        go_wp2_with fail
        go_ret
        exact ⟨by rw [HF.out]; rfl, HB.out⟩
    · have HF := Lib.hid (show allZ g a = true by
        rw [allZ_iff]
        intro x h1 h2
        exact HZ.out x (by omega) h2)
      have hni : ¬ (j : Int) < 40 := by omega
      go_wp2_with fail
      go_ret
      exact ⟨by rw [HF.out]; rfl, HB.out⟩
end Go.Proofs.YtecomfhbdonkbaaGreatDoor
/- Mul of the reference: the walk. -/
namespace Go.Proofs.YtecomfhbdonkbaaGreatDoor
open Go.RowKit Go.Shelf Flo
set_option maxRecDepth 100000
set_option linter.unusedVariables false
set_option linter.unusedSimpArgs false

theorem Dig.set {w : World} {b : Nat} {f : Nat → Nat} (h : Dig w b f) {t : Nat} (ht : t < 40) (v : Nat) : Dig (w.setCell ⟨b, t, none⟩ (.int .i64 (v : Int))) b (upd f t v) := by
  refine ⟨by simpa using h.1, fun j hj => ⟨?_, by rw [World.frozen?_setCell]; exact (h.2 j hj).2⟩⟩
  by_cases e : j = t
  · subst e
    rw [upd_same]
    exact World.cell?_setCell_same' _ _ _ (by rw [(h.2 j hj).1]; rfl)
  · rw [upd_other f e, World.cell?_setCell_other _ _ _ _ (by simp [e])]
    exact (h.2 j hj).1

theorem DecB.far {w : World} {b c t : Nat} {m s : Int} {x : Value} (h : DecB w b m s) (hne : b ≠ c) : DecB (w.setCell ⟨c, t, none⟩ x) b m s := by
  obtain ⟨h0, h1, h2, h3, h4⟩ := h
  have hne' : ¬ c = b := Ne.symm hne
  refine ⟨by simpa using h0, by rw [World.cell?_setCell_other _ _ _ _ (by simp [hne'])]; exact h1, by rw [World.cell?_setCell_other _ _ _ _ (by simp [hne'])]; exact h2, by rw [World.frozen?_setCell]; exact h3, by rw [World.frozen?_setCell]; exact h4⟩
theorem TwoS.far {w v : World} {m s m2 s2 : Int} (h : TwoS w m s m2 s2 v) {b t : Nat} {x : Value} (hb : w.heap.size + 1 + 1 < b) : TwoS w m s m2 s2 (v.setCell ⟨b, t, none⟩ x) := by
  obtain ⟨h1, h2, h3, m3, s3, h4⟩ := h
  exact ⟨h1.setCell (by simp only []; omega) _, h2.far (by omega), h3.far (by omega), m3, s3, h4.far (by omega)⟩
theorem TwoS.third {w v : World} {m s m2 s2 : Int} (h : TwoS w m s m2 s2 v) : w.heap.size + 1 + 1 < v.heap.size := by
  obtain ⟨h1, h2, h3, m3, s3, h4⟩ := h
  exact h4.1
theorem Dig.new (w : World) (t : TypeId) : Dig (w.alloc (.cells #[.int .i64 0, .int .i64 0, .int .i64 0, .int .i64 0, .int .i64 0, .int .i64 0, .int .i64 0, .int .i64 0, .int .i64 0, .int .i64 0, .int .i64 0, .int .i64 0, .int .i64 0, .int .i64 0, .int .i64 0, .int .i64 0, .int .i64 0, .int .i64 0, .int .i64 0, .int .i64 0, .int .i64 0, .int .i64 0, .int .i64 0, .int .i64 0, .int .i64 0, .int .i64 0, .int .i64 0, .int .i64 0, .int .i64 0, .int .i64 0, .int .i64 0, .int .i64 0, .int .i64 0, .int .i64 0, .int .i64 0, .int .i64 0, .int .i64 0, .int .i64 0, .int .i64 0, .int .i64 0] t)) w.heap.size (fun _ => 0) := by
  have e : (#[.int .i64 0, .int .i64 0, .int .i64 0, .int .i64 0, .int .i64 0, .int .i64 0, .int .i64 0, .int .i64 0, .int .i64 0, .int .i64 0, .int .i64 0, .int .i64 0, .int .i64 0, .int .i64 0, .int .i64 0, .int .i64 0, .int .i64 0, .int .i64 0, .int .i64 0, .int .i64 0, .int .i64 0, .int .i64 0, .int .i64 0, .int .i64 0, .int .i64 0, .int .i64 0, .int .i64 0, .int .i64 0, .int .i64 0, .int .i64 0, .int .i64 0, .int .i64 0, .int .i64 0, .int .i64 0, .int .i64 0, .int .i64 0, .int .i64 0, .int .i64 0, .int .i64 0, .int .i64 0] : Array Value) = (List.replicate 40 (Value.int .i64 0)).toArray := rfl
  rw [e]
  refine ⟨by simp, fun j hj => ⟨?_, by simp⟩⟩
  rw [World.cell?_alloc_new, List.getElem?_toArray, List.getElem?_replicate, if_pos hj]
  rfl

theorem nrm_prod {X : Int} {neg : Bool} {P l c K : Nat} (hX : X = if neg then -(P : Int) else P) (hN : nrm (P : Int) K = ((qt P l : Int), c)) : nrm X K = (if neg then -(qt P l : Int) else (qt P l : Int), c) := by
  cases neg
  · rw [hX]; exact hN
  · rw [hX]; show nrm (-(P : Int)) K = _; rw [nrm_neg, hN]; rfl
theorem nrm_selfS {neg : Bool} {p c : Nat} (hN : nrm (p : Int) c = ((p : Int), c)) : nrm (if neg then -(p : Int) else (p : Int)) c = (if neg then -(p : Int) else (p : Int), c) := by
  cases neg
  · exact hN
  · show nrm (-(p : Int)) c = _; rw [nrm_neg, hN]; rfl
theorem decP_over {M : Int} {c : Nat} (h : 6 < c ∨ 999999999999999 < M.natAbs) : decP (M, c) = .tuple #[.agg #[.int .i64 0, .int .i64 0], .bool false] := by
  unfold decP
  rw [if_neg (by simp [fitsL]; omega)]
theorem sgn_abs (neg : Bool) (p : Nat) : (if neg then -(p : Int) else (p : Int)).natAbs = p := by
  cases neg
  · show ((p : Int)).natAbs = p; omega
  · show (-(p : Int)).natAbs = p; omega

attribute [-go_sem] loadCellsFrom
set_option maxHeartbeats 4000000 in
theorem rmul_any (w : World) (m s m2 s2 : Int) (h : GoodD m s) (h2 : GoodD m2 s2) :
    Calls Tryz.prog 20 #[.agg #[.int .i64 m, .int .i64 s], .agg #[.int .i64 m2, .int .i64 s2]] w fun e w' =>
      e = .returned (decP (nrm (m * m2) (s.toNat + s2.toNat))) ∧ Below w.heap.size w w' := by
  have HG := Lib.hid (And.intro h h2)
  have hm1 : -999999999999999 ≤ m := h.1
  have hm2 : m ≤ 999999999999999 := h.2.1
  have hn1 : -999999999999999 ≤ m2 := h2.1
  have hn2 : m2 ≤ 999999999999999 := h2.2.1
  obtain ⟨k, rfl⟩ : ∃ k : Nat, s = k := ⟨s.toNat, by have := h.2.2.1; omega⟩
  obtain ⟨k2, rfl⟩ : ∃ k : Nat, s2 = k := ⟨s2.toNat, by have := h2.2.2.1; omega⟩
  have hk1 : k ≤ 6 := by have := h.2.2.2.1; omega
  have hk2 : k2 ≤ 6 := by have := h2.2.2.2.1; omega
  clear h h2
  simp only [Int.toNat_natCast]
  go_enter Tryz.func20, Tryz.ntmps20
  go_wp2_with fail
  have HT0 := Lib.hid (two_boxes w m k m2 k2 44)
  generalize World.alloc (World.alloc (World.alloc w _) _) _ = w1 at HT0 ⊢
  obtain ⟨-, ⟨a0, a1, a2, -, -⟩, ⟨b0, b1, b2, -, -⟩, -⟩ := HT0.out
  go_quiet (fail)
  have HT1 := Lib.hid (HT0.out.below (drewN_below w1 nq))
  generalize w1.drewN nq = w2 at HT1 ⊢
  clear a0 a1 a2 b0 b1 b2 HT0
  obtain ⟨A, hA⟩ : ∃ A : Nat, A = m.natAbs := ⟨_, rfl⟩
  obtain ⟨B, hB⟩ : ∃ B : Nat, B = m2.natAbs := ⟨_, rfl⟩
  have HA := Lib.hid hA
  have HB := Lib.hid hB
  clear hA hB
  go_upto_if 28 with fail
  go_cut [6] from 29 to 30 (fun s6 wx => s6 = .int .i64 (A : Int) ∧ wx = w2)
  case first =>
    by_cases h0 : m < 0
    · have e : -m = (A : Int) := by have := HA.out; omega
      go_wp2_with fail
      go_meet
      exact ⟨rfl, rfl⟩
    · have HE := Lib.hid (show m = (A : Int) by have := HA.out; omega)
      go_wp2_with fail
      go_meet
      exact ⟨by rw [← HE.out], rfl⟩
  case rest =>
    obtain ⟨rfl, rfl⟩ := hcut
    go_upto_if 32 with fail
    go_cut [7] from 33 to 34 (fun s7 wx => s7 = .int .i64 (B : Int) ∧ wx = wc)
    case first =>
      by_cases h0 : m2 < 0
      · have e : -m2 = (B : Int) := by have := HB.out; omega
        go_wp2_with fail
        go_meet
        exact ⟨rfl, rfl⟩
      · have HE := Lib.hid (show m2 = (B : Int) by have := HB.out; omega)
        go_wp2_with fail
        go_meet
        exact ⟨by rw [← HE.out], rfl⟩
    case rest =>
      obtain ⟨rfl, rfl⟩ := hcut
      generalize hneg : (!decide (m < 0) == decide (m2 < 0)) = neg
      have HN := Lib.hid hneg
      clear hneg
      have hD := Dig.new wc 80
      have hbd := HT1.out.third
      have hT := HT1.out.below ((Below.refl wc.heap.size wc).alloc (Nat.le_refl _) (.cells #[.int .i64 0, .int .i64 0, .int .i64 0, .int .i64 0, .int .i64 0, .int .i64 0, .int .i64 0, .int .i64 0, .int .i64 0, .int .i64 0, .int .i64 0, .int .i64 0, .int .i64 0, .int .i64 0, .int .i64 0, .int .i64 0, .int .i64 0, .int .i64 0, .int .i64 0, .int .i64 0, .int .i64 0, .int .i64 0, .int .i64 0, .int .i64 0, .int .i64 0, .int .i64 0, .int .i64 0, .int .i64 0, .int .i64 0, .int .i64 0, .int .i64 0, .int .i64 0, .int .i64 0, .int .i64 0, .int .i64 0, .int .i64 0, .int .i64 0, .int .i64 0, .int .i64 0, .int .i64 0] 80))
      have HD := Lib.hid hD
      have HT := Lib.hid hT
      clear hD hT
      go_wp2_with fail
      generalize World.alloc wc _ = wd at HD HT ⊢
      generalize wc.heap.size = bd at hbd HD ⊢
      clear HT1
      go_loopw [6, 10] (fun x i wx => ∃ (q t : Nat) (f : Nat → Nat), x = .int .i64 (q : Int) ∧ i = .int .i64 (t : Int) ∧ q = A / 10 ^ t ∧ t ≤ 15 ∧ TwoS w m k m2 k2 wx ∧ Dig wx bd f ∧ sumT f 40 = A % 10 ^ t * B ∧ ∀ j, f j ≤ 81 * t) (fun x _ _ => (intOf x).toNat)
      case atStart => exact ⟨A, 0, fun _ => 0, rfl, rfl, by simp, Nat.zero_le _, HT.out, HD.out, by rw [sumT_zero, Nat.pow_zero, Nat.mod_one, Nat.zero_mul], fun _ => Nat.zero_le _⟩
      case round =>
        obtain ⟨q, t, f, rfl, rfl, hq, ht, hT, hD, hS, hF⟩ := hrel
        have HT := Lib.hid hT
        have HD := Lib.hid hD
        have HS := Lib.hid hS
        have HF := Lib.hid hF
        have HQ := Lib.hid hq
        have hqle : q ≤ 999999999999999 := by rw [hq]; exact Nat.le_trans (Nat.div_le_self _ _) (by have := HA.out; omega)
        clear hT hD hS hF hq
        by_cases hq0 : (0 : Int) < q
        · go_wp2_with fail
          go_loopw [11, 12] (fun z kk wx => ∃ (p u : Nat) (g : Nat → Nat), z = .int .i64 (p : Int) ∧ kk = .int .i64 (u : Int) ∧ p = B / 10 ^ u ∧ u ≤ 15 ∧ TwoS w m k m2 k2 wx ∧ Dig wx bd g ∧ sumT g 40 = A % 10 ^ t * B + q % 10 * 10 ^ t * (B % 10 ^ u) ∧ (∀ j, g j ≤ 81 * (t + 1)) ∧ ∀ j, t + u ≤ j → g j ≤ 81 * t) (fun z _ _ => (intOf z).toNat)
          case atStart => exact ⟨B, 0, f, rfl, rfl, by simp, Nat.zero_le _, HT.out, HD.out, by rw [HS.out, Nat.pow_zero, Nat.mod_one, Nat.mul_zero, Nat.add_zero], fun j => by have := HF.out j; omega, fun j _ => HF.out j⟩
          case round =>
            obtain ⟨p, u, g, rfl, rfl, hp, hu, hT, hD, hS, hG, hG2⟩ := hrel
            have HP := Lib.hid hp
            have HTi := Lib.hid hT
            have HDi := Lib.hid hD
            have HSi := Lib.hid hS
            have HGi := Lib.hid (And.intro hG hG2)
            clear hT hD hS hG hG2
            by_cases hp0 : (0 : Int) < p
            · have hu15 : u < 15 := by
                rcases Nat.lt_or_ge u 15 with h | h
                · exact h
                · exfalso
                  have e15 : u = 15 := by omega
                  rw [e15] at hp
                  have := HB.out
                  have e : (10 : Nat) ^ 15 = 1000000000000000 := by decide
                  rw [Nat.div_eq_of_lt (by rw [e]; omega)] at hp
                  omega
              have hple : p ≤ 999999999999999 := by rw [hp]; exact Nat.le_trans (Nat.div_le_self _ _) (by have := HB.out; omega)
              clear hp
              obtain ⟨e, he⟩ : ∃ e, e = t + u := ⟨_, rfl⟩
              have HEE := Lib.hid he
              have hei : (t : Int) + (u : Int) = (e : Int) := by omega
              have he40 : e < 40 := by omega
              have he40' : (e : Int) < 40 := by omega
              clear he
              obtain ⟨dq, hdq⟩ : ∃ d, d = q % 10 := ⟨_, rfl⟩
              obtain ⟨dp, hdp⟩ : ∃ d, d = p % 10 := ⟨_, rfl⟩
              have hmq : (q : Int).tmod 10 = (dq : Int) := by rw [Int.tmod_eq_emod_of_nonneg (by omega)]; omega
              have hmp : (p : Int).tmod 10 = (dp : Int) := by rw [Int.tmod_eq_emod_of_nonneg (by omega)]; omega
              have hdv : (p : Int).tdiv 10 = ((p / 10 : Nat) : Int) := by rw [Int.tdiv_eq_ediv_of_nonneg (by omega)]; omega
              obtain ⟨pr, hpr⟩ : ∃ pr, pr = dq * dp := ⟨_, rfl⟩
              have hpi : (dq : Int) * (dp : Int) = (pr : Int) := by rw [hpr, Int.natCast_mul]
              have hpb : pr ≤ 81 := by
                rw [hpr]
                exact Nat.le_trans (Nat.mul_le_mul (show dq ≤ 9 by omega) (show dp ≤ 9 by omega)) (by decide)
              obtain ⟨ge, hge⟩ : ∃ ge, ge = g e := ⟨_, rfl⟩
              have hgb : ge ≤ 81 * t := by rw [hge, HEE.out]; exact HGi.out.2 _ (Nat.le_refl _)
              obtain ⟨v, hv⟩ : ∃ v, v = ge + pr := ⟨_, rfl⟩
              have hvi : (ge : Int) + (pr : Int) = (v : Int) := by omega
              have hcell := (HDi.out.2 e he40).1
              have hfr := (HDi.out.2 e he40).2
              rw [← hge] at hcell
              have hS' := inner_step (f := g) (A := q) (B := B) (i := t) (k := u) (P0 := A % 10 ^ t * B) (by omega) HSi.out
              rw [← HP.out, ← hdq, ← hdp, ← hpr, ← HEE.out, ← hge, ← hv, hdq] at hS'
              have HSS := Lib.hid hS'
              have HV := Lib.hid (show v ≤ 81 * (t + 1) by omega)
              clear hS' hpr hdq hdp hge hv
              go_wp2_with fail
              go_roundw
              case rel => exact ⟨p / 10, u + 1, upd g e v, by go_num, by go_num, by rw [HP.out, Nat.div_div_eq_div_mul, Nat.pow_succ], by omega, HTi.out.far (by omega), HDi.out.set he40 v, HSS.out, fun j => by
                unfold upd; split
                · exact HV.out
                · exact HGi.out.1 j, fun j hj => by
                rw [upd_other g (by have := HEE.out; omega)]
                exact HGi.out.2 j (by omega)⟩
              case measure => simp [intOf]; omega
            · have HB10 := Lib.hid (show B % 10 ^ u = B by
                have h0 : p = 0 := by omega
                rw [h0] at hp
                exact Nat.mod_eq_of_lt ((Nat.div_eq_zero_iff_lt (Nat.pow_pos (by decide))).1 hp.symm))
              have HSO := Lib.hid (show sumT g 40 = A % 10 ^ (t + 1) * B by
                rw [← outer_step, HSi.out, HB10.out, ← HQ.out])
              have hdv : (q : Int).tdiv 10 = ((q / 10 : Nat) : Int) := by rw [Int.tdiv_eq_ediv_of_nonneg (by omega)]; omega
              have ht15 : t < 15 := by
                rcases Nat.lt_or_ge t 15 with h | h
                · exact h
                · exfalso
                  have e15 : t = 15 := by omega
                  have hq := HQ.out
                  rw [e15] at hq
                  have := HA.out
                  have e : (10 : Nat) ^ 15 = 1000000000000000 := by decide
                  rw [Nat.div_eq_of_lt (by rw [e]; omega)] at hq
                  omega
              clear hp
              go_wp2_with fail
              go_roundw
              case rel => exact ⟨q / 10, t + 1, g, by go_num, by go_num, by rw [HQ.out, Nat.div_div_eq_div_mul, Nat.pow_succ], by omega, HTi.out, HDi.out, HSO.out, HGi.out.1⟩
              case measure => simp [intOf]; omega
        · have HS2 := Lib.hid (show sumT f 40 = A * B by
            have h0 : q = 0 := by omega
            have hq := HQ.out
            rw [h0] at hq
            rw [HS.out, Nat.mod_eq_of_lt ((Nat.div_eq_zero_iff_lt (Nat.pow_pos (by decide))).1 hq.symm)])
          have HF2 := Lib.hid (show ∀ j, f j ≤ 1215 from fun j => by have := HF.out j; omega)
          clear hqle ht HQ HS HF
          go_wp2_with fail
          go_loopw [13] (fun i wx => ∃ (r : Nat) (g : Nat → Nat), i = .int .i64 (r : Int) ∧ r ≤ 39 ∧ TwoS w m k m2 k2 wx ∧ Dig wx bd g ∧ sumT g 40 = A * B ∧ (∀ j, j < r → g j ≤ 9) ∧ (∀ j, g j ≤ 1400) ∧ ∀ j, r < j → g j ≤ 1215) (fun i _ => 40 - (intOf i).toNat)
          case atStart => exact ⟨0, f, rfl, Nat.zero_le _, HT.out, HD.out, HS2.out, fun j h => absurd h (Nat.not_lt_zero j), fun j => by have := HF2.out j; omega, fun j _ => HF2.out j⟩
          case round =>
            obtain ⟨r, g, rfl, hr, hT, hD, hS, hG1, hG2, hG3⟩ := hrel
            have HTc := Lib.hid hT
            have HDc := Lib.hid hD
            have HSc := Lib.hid hS
            have HGc := Lib.hid (And.intro hG1 (And.intro hG2 hG3))
            clear hT hD hS hG1 hG2 hG3
            by_cases hlt : r < 39
            · obtain ⟨r1, hr1⟩ : ∃ r1, r1 = r + 1 := ⟨_, rfl⟩
              have hri : (r : Int) + 1 = (r1 : Int) := by omega
              have hr40 : r < 40 := by omega
              have hr140 : r1 < 40 := by omega
              have hri40 : (r : Int) < 40 := by omega
              have hri140 : (r1 : Int) < 40 := by omega
              obtain ⟨c0, hc0⟩ : ∃ c, c = g r := ⟨_, rfl⟩
              obtain ⟨c1, hc1⟩ : ∃ c, c = g r1 := ⟨_, rfl⟩
              have hb0 : c0 ≤ 1400 := by rw [hc0]; exact HGc.out.2.1 r
              have hb1 : c1 ≤ 1215 := by rw [hc1]; exact HGc.out.2.2 r1 (by omega)
              have hdv : (c0 : Int).tdiv 10 = ((c0 / 10 : Nat) : Int) := by rw [Int.tdiv_eq_ediv_of_nonneg (by omega)]; omega
              have hmd : (c0 : Int).tmod 10 = ((c0 % 10 : Nat) : Int) := by rw [Int.tmod_eq_emod_of_nonneg (by omega)]; omega
              obtain ⟨dv, hdve⟩ : ∃ d, d = c0 / 10 := ⟨_, rfl⟩
              obtain ⟨md, hmde⟩ : ∃ d, d = c0 % 10 := ⟨_, rfl⟩
              rw [← hdve] at hdv
              rw [← hmde] at hmd
              obtain ⟨v, hv⟩ : ∃ v, v = c1 + dv := ⟨_, rfl⟩
              have hvi : (c1 : Int) + (dv : Int) = (v : Int) := by omega
              have hvb : v ≤ 1400 := by omega
              have hmb : md ≤ 9 := by omega
              have hwr1 : IntKind.i64.wrap (r1 : Int) = (r1 : Int) := Go.wrap_small _ (by omega) (by omega)
              have hwdv : IntKind.i64.wrap (dv : Int) = (dv : Int) := Go.wrap_small _ (by omega) (by omega)
              have hwv : IntKind.i64.wrap (v : Int) = (v : Int) := Go.wrap_small _ (by omega) (by omega)
              have HE0 := Lib.hid hc0.symm
              have HE1 := Lib.hid hc1.symm
              have HSN := Lib.hid (show sumT (upd (upd g r1 v) r md) 40 = A * B by
                have := carry_step (f := g) (i := r) (by omega)
                rw [← hr1, ← hc1, ← hc0, ← hdve, ← hmde, ← hv] at this
                rw [this, HSc.out])
              have HGN := Lib.hid (show (∀ j, j < r1 → upd (upd g r1 v) r md j ≤ 9) ∧ (∀ j, upd (upd g r1 v) r md j ≤ 1400) ∧ ∀ j, r1 < j → upd (upd g r1 v) r md j ≤ 1215 from by
                refine ⟨fun j hj => ?_, fun j => ?_, fun j hj => ?_⟩
                · unfold upd
                  split
                  · exact hmb
                  · rw [if_neg (by omega)]; exact HGc.out.1 j (by omega)
                · unfold upd
                  split
                  · omega
                  · split
                    · exact hvb
                    · exact HGc.out.2.1 j
                · unfold upd
                  rw [if_neg (by omega), if_neg (by omega)]; exact HGc.out.2.2 j (by omega))
              have HR1 := Lib.hid hr1
              clear hv hdve hmde hc0 hc1 hr1
              go_upto_region 21 with fail
              refine wp_region_any (by kernel_rfl) ?_
              change wpAny _ _ _ _ _ _ _ (World.drew _)
              refine wpAny_of_T (C := fun v => Dig v bd g ∧ TwoS w m k m2 k2 v) (T := [12]) _ _ _ _ ?_
              have hS : (fun v => Dig v bd g ∧ TwoS w m k m2 k2 v) _ := ⟨HDc.out.below (Below.refl _ _).drew, HTc.out.drew⟩
              generalize World.drew wr = wq at hS ⊢
              refine wpAnyT_take (i := 0) (oi := ⟨some 68, _, _, _, _, _⟩) (v := ?_) rfl (by kernel_rfl) (by kernel_rfl) (by kernel_rfl) (by kernel_rfl) (fun _ _ _ h => h) (Or.inl ⟨by simp only [Region.wanted], ?_⟩) hS ?_
              rotate_left
              · intro wz hSw
                clear hSw
                go_simp
                first | done | with_reducible rfl
              try simp only [Act.put, List.setIfInBounds_toArray, List.set_cons_zero, List.set_cons_succ]
              refine wpAnyT_take (i := 1) (oi := ⟨some 69, _, _, _, _, _⟩) (v := ?_) rfl (by kernel_rfl) (by kernel_rfl) (by kernel_rfl) (by kernel_rfl) (fun _ _ _ h => h) (Or.inl ⟨by simp only [Region.wanted], ?_⟩) hS ?_
              rotate_left
              · intro wz hSw
                clear hSw
                go_simp
                first | done | with_reducible rfl
              try simp only [Act.put, List.setIfInBounds_toArray, List.set_cons_zero, List.set_cons_succ]
              refine wpAnyT_take (i := 2) (oi := ⟨some 70, _, _, _, _, _⟩) (v := ?_) rfl (by kernel_rfl) (by kernel_rfl) (by kernel_rfl) (by kernel_rfl) (fun _ _ _ h => h) (Or.inl ⟨by simp only [Region.wanted], ?_⟩) hS ?_
              rotate_left
              · intro wz hSw
                clear hSw
                go_simp
                first | done | with_reducible rfl
              try simp only [Act.put, List.setIfInBounds_toArray, List.set_cons_zero, List.set_cons_succ]
              refine wpAnyT_take (i := 3) (oi := ⟨some 71, _, _, _, _, _⟩) (v := ?_) rfl (by kernel_rfl) (by kernel_rfl) (by kernel_rfl) (by kernel_rfl) (fun _ _ _ h => h) (Or.inl ⟨by simp only [Region.wanted], ?_⟩) hS ?_
              rotate_left
              · intro wz hSw
                clear hSw
                go_simp
                first | done | with_reducible rfl
              try simp only [Act.put, List.setIfInBounds_toArray, List.set_cons_zero, List.set_cons_succ]
              refine wpAnyT_take (i := 4) (oi := ⟨some 72, _, _, _, _, _⟩) (v := ?_) rfl (by kernel_rfl) (by kernel_rfl) (by kernel_rfl) (by kernel_rfl) (fun _ _ _ h => h) (Or.inl ⟨by simp only [Region.wanted], ?_⟩) hS ?_
              rotate_left
              · intro wz hSw
                clear hSw
                go_simp
                first | done | with_reducible rfl
              try simp only [Act.put, List.setIfInBounds_toArray, List.set_cons_zero, List.set_cons_succ]
              refine wpAnyT_take (i := 5) (oi := ⟨some 73, _, _, _, _, _⟩) (v := ?_) rfl (by kernel_rfl) (by kernel_rfl) (by kernel_rfl) (by kernel_rfl) (fun _ _ _ h => h) (Or.inl ⟨by simp only [Region.wanted], ?_⟩) hS ?_
              rotate_left
              · intro wz hSw; obtain ⟨f0, f1⟩ := hSw.1.2 r1 hr140; rw [HE1.out] at f0
                clear hSw
                go_simp
                first | done | with_reducible rfl
              try simp only [Act.put, List.setIfInBounds_toArray, List.set_cons_zero, List.set_cons_succ]
              refine wpAnyT_take (i := 6) (oi := ⟨some 74, _, _, _, _, _⟩) (v := ?_) rfl (by kernel_rfl) (by kernel_rfl) (by kernel_rfl) (by kernel_rfl) (fun _ _ _ h => h) (Or.inl ⟨by simp only [Region.wanted], ?_⟩) hS ?_
              rotate_left
              · intro wz hSw
                clear hSw
                go_simp
                first | done | with_reducible rfl
              try simp only [Act.put, List.setIfInBounds_toArray, List.set_cons_zero, List.set_cons_succ]
              refine wpAnyT_take (i := 7) (oi := ⟨some 75, _, _, _, _, _⟩) (v := ?_) rfl (by kernel_rfl) (by kernel_rfl) (by kernel_rfl) (by kernel_rfl) (fun _ _ _ h => h) (Or.inl ⟨by simp only [Region.wanted], ?_⟩) hS ?_
              rotate_left
              · intro wz hSw
                clear hSw
                go_simp
                first | done | with_reducible rfl
              try simp only [Act.put, List.setIfInBounds_toArray, List.set_cons_zero, List.set_cons_succ]
              refine wpAnyT_take (i := 8) (oi := ⟨some 76, _, _, _, _, _⟩) (v := ?_) rfl (by kernel_rfl) (by kernel_rfl) (by kernel_rfl) (by kernel_rfl) (fun _ _ _ h => h) (Or.inl ⟨by simp only [Region.wanted], ?_⟩) hS ?_
              rotate_left
              · intro wz hSw; obtain ⟨f0, f1⟩ := hSw.1.2 r hr40; rw [HE0.out] at f0
                clear hSw
                go_simp
                first | done | with_reducible rfl
              try simp only [Act.put, List.setIfInBounds_toArray, List.set_cons_zero, List.set_cons_succ]
              refine wpAnyT_take (i := 9) (oi := ⟨some 77, _, _, _, _, _⟩) (v := ?_) rfl (by kernel_rfl) (by kernel_rfl) (by kernel_rfl) (by kernel_rfl) (fun _ _ _ h => h) (Or.inl ⟨by simp only [Region.wanted], ?_⟩) hS ?_
              rotate_left
              · intro wz hSw
                clear hSw
                go_simp
                first | done | with_reducible rfl
              try simp only [Act.put, List.setIfInBounds_toArray, List.set_cons_zero, List.set_cons_succ]
              refine wpAnyT_take (i := 10) (oi := ⟨some 78, _, _, _, _, _⟩) (v := ?_) rfl (by kernel_rfl) (by kernel_rfl) (by kernel_rfl) (by kernel_rfl) (fun _ _ _ h => h) (Or.inl ⟨by simp only [Region.wanted], ?_⟩) hS ?_
              rotate_left
              · intro wz hSw
                clear hSw
                go_simp
                first | done | with_reducible rfl
              try simp only [Act.put, List.setIfInBounds_toArray, List.set_cons_zero, List.set_cons_succ]
              refine wpAnyT_take (i := 11) (oi := ⟨some 79, _, _, _, _, _⟩) (v := ?_) rfl (by kernel_rfl) (by kernel_rfl) (by kernel_rfl) (by kernel_rfl) (fun _ _ _ h => h) (Or.inl ⟨by simp only [Region.wanted], ?_⟩) hS ?_
              rotate_left
              · intro wz hSw
                clear hSw
                go_simp
                first | done | with_reducible rfl
              try simp only [Act.put, List.setIfInBounds_toArray, List.set_cons_zero, List.set_cons_succ]
              obtain ⟨hcl1, hfr1⟩ := hS.1.2 r1 hr140
              rw [HE1.out] at hcl1
              refine wpAnyT_ready (rs := [12]) (by kernel_rfl) (by simp) ?_
              refine AllReadyT.last (o := ⟨none, _, _, _, _, _⟩) rfl (by kernel_rfl) (fun KK hK => ?_) (AllReadyT.nil)
              · go_simp
                refine hK.out _ _ ?_
                clear hK KK
                try simp only [Act.put, List.setIfInBounds_toArray, List.set_cons_zero, List.set_cons_succ]
                refine wpAnyT_done (by kernel_rfl) ?_ _
                have HD2 := Lib.hid (hS.1.set hr140 v)
                have HT2 := Lib.hid (hS.2.far (x := .int .i64 (v : Int)) (b := bd) (t := r1) hbd)
                clear hS hcl1 hfr1
                generalize World.setCell wq _ _ = w5 at HD2 HT2 ⊢
                obtain ⟨e0, e1⟩ := HD2.out.2 r hr40
                rw [upd_other g (by have := HR1.out; omega), HE0.out] at e0
                go_wp2_with fail
                go_roundw
                case rel =>
                  have hr1g := HR1.out
                  exact ⟨r1, upd (upd g r1 v) r md, by go_num, by omega, HT2.out.far hbd, HD2.out.set hr40 md, HSN.out, HGN.out⟩
                case measure =>
                  have hr1g := HR1.out
                  simp [intOf]; omega
            · have HDG := Lib.hid (digits_last (by have := HA.out; omega) (by have := HB.out; omega) HSc.out (fun j hj => HGc.out.1 j (by omega)))
              obtain ⟨P, hP⟩ : ∃ P, P = A * B := ⟨_, rfl⟩
              rw [← hP] at HDG
              have HP := Lib.hid hP
              obtain ⟨-, ⟨a0, a1, a2, -, -⟩, ⟨b0, b1, b2, -, -⟩, -⟩ := HTc.out
              have hr39 : r = 39 := by omega
              subst hr39
              have HX := Lib.hid (prod_sign HA.out HB.out HN.out)
              rw [← hP] at HX
              have HPB := Lib.hid (show P < 10 ^ 40 by
                have h1 := Nat.mul_le_mul (show A ≤ 999999999999999 by have := HA.out; omega) (show B ≤ 999999999999999 by have := HB.out; omega)
                have h2 : 999999999999999 * 999999999999999 < 10 ^ 40 := by decide +kernel
                omega)
              clear hP hlt hr HT HD HS2 HF2 HSc HGc
              go_wp2_with fail
              go_loop [14, 15] (fun sc lo => ∃ c l : Nat, sc = .int .i64 (c : Int) ∧ lo = .int .i64 (l : Int) ∧ c + l = k + k2 ∧ nrm (P : Int) (k + k2) = nrm (qt P l : Int) c) (fun sc _ => (intOf sc).toNat)
              case atStart => exact ⟨k + k2, 0, by go_num, rfl, by omega, by rw [qt_zero]⟩
              case round =>
                obtain ⟨c, l, rfl, rfl, hcl, hN⟩ := hrel
                have HNN := Lib.hid hN
                clear hN
                have hl40 : l < 40 := by omega
                have hl40i : (l : Int) < 40 := by omega
                obtain ⟨f0, f1⟩ := HDc.out.2 l hl40
                rw [show g l = qt P l % 10 from HDG.out l hl40] at f0
                by_cases hc0 : (0 : Int) < c
                · by_cases hz : qt P l % 10 = 0
                  · have HD := Lib.hid (HNN.out.trans (qt_down (by omega) hz))
                    rw [hz] at f0
                    clear hz
                    obtain ⟨c1, hc1⟩ : ∃ c1, c1 = c - 1 := ⟨_, rfl⟩
                    obtain ⟨l1, hl1⟩ : ∃ l1, l1 = l + 1 := ⟨_, rfl⟩
                    rw [← hc1, ← hl1] at HD
                    have hc1i : (c : Int) - 1 = (c1 : Int) := by omega
                    have hl1i : (l : Int) + 1 = (l1 : Int) := by omega
                    have hc12 : c ≤ 12 := by omega
                    have hl12 : l1 ≤ 13 := by omega
                    have HR := Lib.hid (show c1 + l1 = k + k2 ∧ c1 < c by omega)
                    clear hc1 hl1 hcl
                    go_wp2_with fail
                    go_round
                    case rel => exact ⟨c1, rfl, l1, rfl, HR.out.1, HD.out⟩
                    case measure =>
                      have := HR.out.2
                      simp [intOf]
                      omega
                  · have HEQ := Lib.hid (qt_end (P := P) (l := l) (c := c) (.inr hz))
                    have hz' : ¬ ((qt P l % 10 : Nat) : Int) = 0 := by omega
                    generalize qt P l % 10 = dg at f0 hz'
                    clear hz
                    have HNP := Lib.hid (nrm_prod HX.out (HNN.out.trans HEQ.out))
                    have HNS := Lib.hid (nrm_selfS (neg := neg) HEQ.out)
                    obtain ⟨zb, hzb⟩ : ∃ zb, zb = allZ g 0 := ⟨_, rfl⟩
                    have HZB := Lib.hid (hzb.trans (allZ_top HPB.out HDG.out 0 (by decide)))

                    have HZ0 := Lib.hid (fun w => (show Calls Tryz.prog 35 #[.agg #[.int .i64 (g 0 : Int), .int .i64 (g 1 : Int), .int .i64 (g 2 : Int), .int .i64 (g 3 : Int), .int .i64 (g 4 : Int), .int .i64 (g 5 : Int), .int .i64 (g 6 : Int), .int .i64 (g 7 : Int), .int .i64 (g 8 : Int), .int .i64 (g 9 : Int), .int .i64 (g 10 : Int), .int .i64 (g 11 : Int), .int .i64 (g 12 : Int), .int .i64 (g 13 : Int), .int .i64 (g 14 : Int), .int .i64 (g 15 : Int), .int .i64 (g 16 : Int), .int .i64 (g 17 : Int), .int .i64 (g 18 : Int), .int .i64 (g 19 : Int), .int .i64 (g 20 : Int), .int .i64 (g 21 : Int), .int .i64 (g 22 : Int), .int .i64 (g 23 : Int), .int .i64 (g 24 : Int), .int .i64 (g 25 : Int), .int .i64 (g 26 : Int), .int .i64 (g 27 : Int), .int .i64 (g 28 : Int), .int .i64 (g 29 : Int), .int .i64 (g 30 : Int), .int .i64 (g 31 : Int), .int .i64 (g 32 : Int), .int .i64 (g 33 : Int), .int .i64 (g 34 : Int), .int .i64 (g 35 : Int), .int .i64 (g 36 : Int), .int .i64 (g 37 : Int), .int .i64 (g 38 : Int), .int .i64 (g 39 : Int)], .int .i64 0] w _ from zero_any g 0 (by decide) w))
                    rw [← hzb] at HZ0
                    clear hzb
                    go_upto_region 28 with fail
                    refine wp_region_list ?_
                    refine wpList_load_mid rfl 80 _ rfl bd 0 rfl _ _ HDc.out.range Tryz.underlying80 rfl (by kernel_rfl) ?_
                    go_wp2_with fail
                    (with_reducible refine (HZ0.out _).mono ?_)
                    rintro e wz ⟨rfl, hbz⟩
                    have HTz := Lib.hid (HTc.out.below hbz)
                    have HDz := Lib.hid (HDc.out.below hbz)
                    clear hbz
                    generalize (Value.agg #[.int .i64 (g 0 : Int), .int .i64 (g 1 : Int), .int .i64 (g 2 : Int), .int .i64 (g 3 : Int), .int .i64 (g 4 : Int), .int .i64 (g 5 : Int), .int .i64 (g 6 : Int), .int .i64 (g 7 : Int), .int .i64 (g 8 : Int), .int .i64 (g 9 : Int), .int .i64 (g 10 : Int), .int .i64 (g 11 : Int), .int .i64 (g 12 : Int), .int .i64 (g 13 : Int), .int .i64 (g 14 : Int), .int .i64 (g 15 : Int), .int .i64 (g 16 : Int), .int .i64 (g 17 : Int), .int .i64 (g 18 : Int), .int .i64 (g 19 : Int), .int .i64 (g 20 : Int), .int .i64 (g 21 : Int), .int .i64 (g 22 : Int), .int .i64 (g 23 : Int), .int .i64 (g 24 : Int), .int .i64 (g 25 : Int), .int .i64 (g 26 : Int), .int .i64 (g 27 : Int), .int .i64 (g 28 : Int), .int .i64 (g 29 : Int), .int .i64 (g 30 : Int), .int .i64 (g 31 : Int), .int .i64 (g 32 : Int), .int .i64 (g 33 : Int), .int .i64 (g 34 : Int), .int .i64 (g 35 : Int), .int .i64 (g 36 : Int), .int .i64 (g 37 : Int), .int .i64 (g 38 : Int), .int .i64 (g 39 : Int)]) = v40
                    by_cases hP0 : P = 0
                    · obtain rfl : zb = true := by rw [HZB.out, qt_zero]; simp [hP0]
                      have HFI := Lib.hid (show decP (nrm (m * m2) (k + k2)) = .tuple #[.agg #[.int .i64 0, .int .i64 0], .bool true] by
                        have hx := HX.out
                        rw [hP0] at hx
                        have : m * m2 = 0 := by rw [hx]; cases neg <;> rfl
                        rw [this]
                        have hz : ∀ K, nrm 0 K = (0, 0) := by
                          intro K
                          induction K with
                          | zero => rfl
                          | succ K ih => rw [nrm_go (K + 1) (by omega) (by decide)]; exact ih
                        rw [hz]; rfl)
                      obtain ⟨m3, s3, q0, q1, q2, q3, q4⟩ := HTz.out.2.2.2
                      have HTW := Lib.hid HTz.out.1
                      go_wp2_with fail
                      exact bodyPost_ret (v := .tuple #[.agg #[.int .i64 0, .int .i64 0], .bool true]) (by simp [results, Tryz.results20, go_sem, loadCellsFrom, q0, q1, q2, q3, q4]) rfl ⟨by rw [HFI.out], (HTW.out.setCell (by simp only []; omega) _).setCell (by simp only []; omega) _⟩
                    · obtain rfl : zb = false := by rw [HZB.out, qt_zero]; simp [hP0]
                      obtain ⟨X, hXX⟩ : ∃ X : Nat, X = qt P l := ⟨_, rfl⟩
                      rw [← hXX] at HNP HNS
                      have HXX := Lib.hid hXX
                      clear hXX hP0
                      by_cases hc6 : (6 : Int) < c
                      · have HFI := Lib.hid (show decP (nrm (m * m2) (k + k2)) = .tuple #[.agg #[.int .i64 0, .int .i64 0], .bool false] by
                          rw [HNP.out]; exact decP_over (.inl (by omega)))
                        obtain ⟨m3, s3, q0, q1, q2, q3, q4⟩ := HTz.out.2.2.2
                        have HTW := Lib.hid HTz.out.1
                        go_wp2_with fail
                        exact bodyPost_ret (v := .tuple #[.agg #[.int .i64 0, .int .i64 0], .bool false]) (by simp [results, Tryz.results20, go_sem, loadCellsFrom, q0, q1, q2, q3, q4]) rfl ⟨by rw [HFI.out], (HTW.out.setCell (by simp only []; omega) _).setCell (by simp only []; omega) _⟩
                      · obtain ⟨a15, ha15⟩ : ∃ a, a = l + 15 := ⟨_, rfl⟩
                        have hai : (l : Int) + 15 = (a15 : Int) := by omega
                        have ha40 : a15 ≤ 40 := by omega
                        obtain ⟨zb, hzb⟩ : ∃ zb, zb = allZ g a15 := ⟨_, rfl⟩
                        have HZB := Lib.hid (show zb = decide (X < 10 ^ 15) by
                          rw [hzb, allZ_top HPB.out HDG.out a15 ha40, ha15, qt_add, ← HXX.out, Bool.eq_iff_iff, decide_eq_true_iff, decide_eq_true_iff]
                          exact Nat.div_eq_zero_iff_lt (Nat.pow_pos (by decide)))
                        have HZ2 := Lib.hid (zero_any g a15 ha40)
                        rw [← hzb] at HZ2
                        have HA15 := Lib.hid ha15
                        clear hzb ha15
                        have hld := load40 HDz.out
                        go_wp2_with fail
                        (with_reducible refine (HZ2.out _).mono ?_)
                        rintro e wy ⟨rfl, hby⟩
                        have HTy := Lib.hid (HTz.out.below hby)
                        have HDy := Lib.hid (HDz.out.below hby)
                        clear hby
                        clear hld
                        generalize (Value.agg #[.int .i64 (g 0 : Int), .int .i64 (g 1 : Int), .int .i64 (g 2 : Int), .int .i64 (g 3 : Int), .int .i64 (g 4 : Int), .int .i64 (g 5 : Int), .int .i64 (g 6 : Int), .int .i64 (g 7 : Int), .int .i64 (g 8 : Int), .int .i64 (g 9 : Int), .int .i64 (g 10 : Int), .int .i64 (g 11 : Int), .int .i64 (g 12 : Int), .int .i64 (g 13 : Int), .int .i64 (g 14 : Int), .int .i64 (g 15 : Int), .int .i64 (g 16 : Int), .int .i64 (g 17 : Int), .int .i64 (g 18 : Int), .int .i64 (g 19 : Int), .int .i64 (g 20 : Int), .int .i64 (g 21 : Int), .int .i64 (g 22 : Int), .int .i64 (g 23 : Int), .int .i64 (g 24 : Int), .int .i64 (g 25 : Int), .int .i64 (g 26 : Int), .int .i64 (g 27 : Int), .int .i64 (g 28 : Int), .int .i64 (g 29 : Int), .int .i64 (g 30 : Int), .int .i64 (g 31 : Int), .int .i64 (g 32 : Int), .int .i64 (g 33 : Int), .int .i64 (g 34 : Int), .int .i64 (g 35 : Int), .int .i64 (g 36 : Int), .int .i64 (g 37 : Int), .int .i64 (g 38 : Int), .int .i64 (g 39 : Int)]) = v41
                        by_cases hX15 : X < 10 ^ 15
                        · obtain rfl : zb = true := by rw [HZB.out]; simp [hX15]
                          have hXle : X ≤ 999999999999999 := by
                            have e : (10 : Nat) ^ 15 = 1000000000000000 := by decide
                            omega
                          clear hX15
                          have hai14 : (a15 : Int) - 1 = (a15 : Int) - 1 := rfl
                          go_wp2_with fail
                          go_loop [16, 17] (fun mm i => ∃ y x : Nat, mm = .int .i64 (x : Int) ∧ i = .int .i64 ((y : Int) - 1) ∧ l ≤ y ∧ y ≤ l + 15 ∧ x = qt P y) (fun _ i => (intOf i + 1).toNat)
                          case atStart => exact ⟨a15, 0, rfl, by go_num, by have := HA15.out; omega, by have := HA15.out; omega, by
                            have e : a15 = l + 15 := HA15.out
                            rw [e, qt_add, ← HXX.out]
                            exact (Nat.div_eq_of_lt (by have e : (10 : Nat) ^ 15 = 1000000000000000 := by decide
                                                        omega)).symm⟩
                          case round =>
                            obtain ⟨y, x, rfl, rfl, hly, hy15, hx⟩ := hrel
                            have hxX : x ≤ X := by
                              obtain ⟨d, hd⟩ : ∃ d, y = l + d := ⟨y - l, by omega⟩
                              rw [hx, hd, qt_add, ← HXX.out]
                              exact Nat.div_le_self _ _
                            have HXX2 := Lib.hid hx
                            clear hx
                            by_cases hlt : l < y
                            · obtain ⟨j, hj⟩ : ∃ j, j = y - 1 := ⟨_, rfl⟩
                              have hji : (y : Int) - 1 = (j : Int) := by omega
                              have hj40 : j < 40 := by omega
                              have hj40i : (j : Int) < 40 := by omega
                              obtain ⟨f0, -⟩ := HDy.out.2 j hj40
                              obtain ⟨d, hd⟩ : ∃ d, d = g j := ⟨_, rfl⟩
                              have hd9 : d ≤ 9 := by rw [hd, HDG.out j hj40]; omega
                              have HN2 := Lib.hid (show 10 * x + d = qt P j by
                                rw [qt_more P j, hd, HDG.out j hj40, HXX2.out, show j + 1 = y by omega])
                              rw [← hd] at f0
                              have HJ := Lib.hid (show l ≤ j ∧ j ≤ l + 15 ∧ j + 1 = y by omega)
                              have hjl : (l : Int) ≤ (j : Int) := by omega
                              have hl13 : l ≤ 13 := by omega
                              clear hd hj hlt
                              go_wp2_with fail
                              go_round
                              case rel => exact ⟨j, 10 * x + d, by go_num, by go_num, HJ.out.1, HJ.out.2.1, HN2.out⟩
                              case measure =>
                                have := HJ.out.2.2
                                simp [intOf]
                                omega
                            · obtain rfl : y = l := by omega
                              have hyl : ¬ (y : Int) ≤ (y : Int) - 1 := by omega
                              obtain rfl : x = X := by rw [HXX2.out, HXX.out]
                              obtain ⟨vm, vs, vb, hv⟩ := decP_cases (nrm (if neg then -(x : Int) else (x : Int)) c)
                              have HFI := Lib.hid (show decP (nrm (m * m2) (k + k2)) = .tuple #[.agg #[.int .i64 vm, .int .i64 vs], .bool vb] by
                                rw [HNP.out, ← HNS.out]; exact hv)
                              have HNO := Lib.hid (fun w => norm_any w (if neg then -(x : Int) else (x : Int)) c (by rw [sgn_abs]; omega) (by omega))
                              rw [hv] at HNO
                              clear hv HNP HNS HX HN
                              obtain ⟨M, hM⟩ : ∃ M : Int, M = if neg then -(x : Int) else (x : Int) := ⟨_, rfl⟩
                              rw [← hM] at HNO
                              cases neg
                              · have hM2 : M = (x : Int) := hM
                                clear hM
                                subst hM2
                                go_wp2_with fail
                                (with_reducible refine (HNO.out _).mono ?_)
                                rintro e wx ⟨rfl, hbx⟩
                                have HTx := Lib.hid (HTy.out.below hbx)
                                clear hbx
                                obtain ⟨m3, s3, q0, q1, q2, q3, q4⟩ := HTx.out.2.2.2
                                have HTW := Lib.hid HTx.out.1
                                go_wp2_with fail
                                exact bodyPost_ret (v := .tuple #[.agg #[.int .i64 vm, .int .i64 vs], .bool vb]) (by simp [results, Tryz.results20, go_sem, loadCellsFrom, q0, q1, q2, q3, q4]) rfl ⟨by rw [HFI.out], (HTW.out.setCell (by simp only []; omega) _).setCell (by simp only []; omega) _⟩
                              · have hM2 : M = -(x : Int) := hM
                                clear hM
                                subst hM2
                                go_wp2_with fail
                                (with_reducible refine (HNO.out _).mono ?_)
                                rintro e wx ⟨rfl, hbx⟩
                                have HTx := Lib.hid (HTy.out.below hbx)
                                clear hbx
                                obtain ⟨m3, s3, q0, q1, q2, q3, q4⟩ := HTx.out.2.2.2
                                have HTW := Lib.hid HTx.out.1
                                go_wp2_with fail
                                exact bodyPost_ret (v := .tuple #[.agg #[.int .i64 vm, .int .i64 vs], .bool vb]) (by simp [results, Tryz.results20, go_sem, loadCellsFrom, q0, q1, q2, q3, q4]) rfl ⟨by rw [HFI.out], (HTW.out.setCell (by simp only []; omega) _).setCell (by simp only []; omega) _⟩
                        · obtain rfl : zb = false := by rw [HZB.out]; simp [hX15]
                          have HFI := Lib.hid (show decP (nrm (m * m2) (k + k2)) = .tuple #[.agg #[.int .i64 0, .int .i64 0], .bool false] by
                            rw [HNP.out]; exact decP_over (.inr (by rw [sgn_abs]; have e : (10 : Nat) ^ 15 = 1000000000000000 := by decide
                                                                    omega)))
                          obtain ⟨m3, s3, q0, q1, q2, q3, q4⟩ := HTy.out.2.2.2
                          have HTW := Lib.hid HTy.out.1
                          go_wp2_with fail
                          exact bodyPost_ret (v := .tuple #[.agg #[.int .i64 0, .int .i64 0], .bool false]) (by simp [results, Tryz.results20, go_sem, loadCellsFrom, q0, q1, q2, q3, q4]) rfl ⟨by rw [HFI.out], (HTW.out.setCell (by simp only []; omega) _).setCell (by simp only []; omega) _⟩
                · have HEQ := Lib.hid (qt_end (P := P) (l := l) (c := c) (.inl (by omega)))
                  have HNP := Lib.hid (nrm_prod HX.out (HNN.out.trans HEQ.out))
                  have HNS := Lib.hid (nrm_selfS (neg := neg) HEQ.out)
                  obtain ⟨zb, hzb⟩ : ∃ zb, zb = allZ g 0 := ⟨_, rfl⟩
                  have HZB := Lib.hid (hzb.trans (allZ_top HPB.out HDG.out 0 (by decide)))

                  have HZ0 := Lib.hid (fun w => (show Calls Tryz.prog 35 #[.agg #[.int .i64 (g 0 : Int), .int .i64 (g 1 : Int), .int .i64 (g 2 : Int), .int .i64 (g 3 : Int), .int .i64 (g 4 : Int), .int .i64 (g 5 : Int), .int .i64 (g 6 : Int), .int .i64 (g 7 : Int), .int .i64 (g 8 : Int), .int .i64 (g 9 : Int), .int .i64 (g 10 : Int), .int .i64 (g 11 : Int), .int .i64 (g 12 : Int), .int .i64 (g 13 : Int), .int .i64 (g 14 : Int), .int .i64 (g 15 : Int), .int .i64 (g 16 : Int), .int .i64 (g 17 : Int), .int .i64 (g 18 : Int), .int .i64 (g 19 : Int), .int .i64 (g 20 : Int), .int .i64 (g 21 : Int), .int .i64 (g 22 : Int), .int .i64 (g 23 : Int), .int .i64 (g 24 : Int), .int .i64 (g 25 : Int), .int .i64 (g 26 : Int), .int .i64 (g 27 : Int), .int .i64 (g 28 : Int), .int .i64 (g 29 : Int), .int .i64 (g 30 : Int), .int .i64 (g 31 : Int), .int .i64 (g 32 : Int), .int .i64 (g 33 : Int), .int .i64 (g 34 : Int), .int .i64 (g 35 : Int), .int .i64 (g 36 : Int), .int .i64 (g 37 : Int), .int .i64 (g 38 : Int), .int .i64 (g 39 : Int)], .int .i64 0] w _ from zero_any g 0 (by decide) w))
                  rw [← hzb] at HZ0
                  clear hzb
                  go_upto_region 28 with fail
                  refine wp_region_list ?_
                  refine wpList_load_mid rfl 80 _ rfl bd 0 rfl _ _ HDc.out.range Tryz.underlying80 rfl (by kernel_rfl) ?_
                  go_wp2_with fail
                  (with_reducible refine (HZ0.out _).mono ?_)
                  rintro e wz ⟨rfl, hbz⟩
                  have HTz := Lib.hid (HTc.out.below hbz)
                  have HDz := Lib.hid (HDc.out.below hbz)
                  clear hbz
                  generalize (Value.agg #[.int .i64 (g 0 : Int), .int .i64 (g 1 : Int), .int .i64 (g 2 : Int), .int .i64 (g 3 : Int), .int .i64 (g 4 : Int), .int .i64 (g 5 : Int), .int .i64 (g 6 : Int), .int .i64 (g 7 : Int), .int .i64 (g 8 : Int), .int .i64 (g 9 : Int), .int .i64 (g 10 : Int), .int .i64 (g 11 : Int), .int .i64 (g 12 : Int), .int .i64 (g 13 : Int), .int .i64 (g 14 : Int), .int .i64 (g 15 : Int), .int .i64 (g 16 : Int), .int .i64 (g 17 : Int), .int .i64 (g 18 : Int), .int .i64 (g 19 : Int), .int .i64 (g 20 : Int), .int .i64 (g 21 : Int), .int .i64 (g 22 : Int), .int .i64 (g 23 : Int), .int .i64 (g 24 : Int), .int .i64 (g 25 : Int), .int .i64 (g 26 : Int), .int .i64 (g 27 : Int), .int .i64 (g 28 : Int), .int .i64 (g 29 : Int), .int .i64 (g 30 : Int), .int .i64 (g 31 : Int), .int .i64 (g 32 : Int), .int .i64 (g 33 : Int), .int .i64 (g 34 : Int), .int .i64 (g 35 : Int), .int .i64 (g 36 : Int), .int .i64 (g 37 : Int), .int .i64 (g 38 : Int), .int .i64 (g 39 : Int)]) = v40
                  by_cases hP0 : P = 0
                  · obtain rfl : zb = true := by rw [HZB.out, qt_zero]; simp [hP0]
                    have HFI := Lib.hid (show decP (nrm (m * m2) (k + k2)) = .tuple #[.agg #[.int .i64 0, .int .i64 0], .bool true] by
                      have hx := HX.out
                      rw [hP0] at hx
                      have : m * m2 = 0 := by rw [hx]; cases neg <;> rfl
                      rw [this]
                      have hz : ∀ K, nrm 0 K = (0, 0) := by
                        intro K
                        induction K with
                        | zero => rfl
                        | succ K ih => rw [nrm_go (K + 1) (by omega) (by decide)]; exact ih
                      rw [hz]; rfl)
                    obtain ⟨m3, s3, q0, q1, q2, q3, q4⟩ := HTz.out.2.2.2
                    have HTW := Lib.hid HTz.out.1
                    go_wp2_with fail
                    exact bodyPost_ret (v := .tuple #[.agg #[.int .i64 0, .int .i64 0], .bool true]) (by simp [results, Tryz.results20, go_sem, loadCellsFrom, q0, q1, q2, q3, q4]) rfl ⟨by rw [HFI.out], (HTW.out.setCell (by simp only []; omega) _).setCell (by simp only []; omega) _⟩
                  · obtain rfl : zb = false := by rw [HZB.out, qt_zero]; simp [hP0]
                    obtain ⟨X, hXX⟩ : ∃ X : Nat, X = qt P l := ⟨_, rfl⟩
                    rw [← hXX] at HNP HNS
                    have HXX := Lib.hid hXX
                    clear hXX hP0
                    by_cases hc6 : (6 : Int) < c
                    · exact absurd hc6 (by omega)
                    · obtain ⟨a15, ha15⟩ : ∃ a, a = l + 15 := ⟨_, rfl⟩
                      have hai : (l : Int) + 15 = (a15 : Int) := by omega
                      have ha40 : a15 ≤ 40 := by omega
                      obtain ⟨zb, hzb⟩ : ∃ zb, zb = allZ g a15 := ⟨_, rfl⟩
                      have HZB := Lib.hid (show zb = decide (X < 10 ^ 15) by
                        rw [hzb, allZ_top HPB.out HDG.out a15 ha40, ha15, qt_add, ← HXX.out, Bool.eq_iff_iff, decide_eq_true_iff, decide_eq_true_iff]
                        exact Nat.div_eq_zero_iff_lt (Nat.pow_pos (by decide)))
                      have HZ2 := Lib.hid (zero_any g a15 ha40)
                      rw [← hzb] at HZ2
                      have HA15 := Lib.hid ha15
                      clear hzb ha15
                      have hld := load40 HDz.out
                      go_wp2_with fail
                      (with_reducible refine (HZ2.out _).mono ?_)
                      rintro e wy ⟨rfl, hby⟩
                      have HTy := Lib.hid (HTz.out.below hby)
                      have HDy := Lib.hid (HDz.out.below hby)
                      clear hby
                      clear hld
                      generalize (Value.agg #[.int .i64 (g 0 : Int), .int .i64 (g 1 : Int), .int .i64 (g 2 : Int), .int .i64 (g 3 : Int), .int .i64 (g 4 : Int), .int .i64 (g 5 : Int), .int .i64 (g 6 : Int), .int .i64 (g 7 : Int), .int .i64 (g 8 : Int), .int .i64 (g 9 : Int), .int .i64 (g 10 : Int), .int .i64 (g 11 : Int), .int .i64 (g 12 : Int), .int .i64 (g 13 : Int), .int .i64 (g 14 : Int), .int .i64 (g 15 : Int), .int .i64 (g 16 : Int), .int .i64 (g 17 : Int), .int .i64 (g 18 : Int), .int .i64 (g 19 : Int), .int .i64 (g 20 : Int), .int .i64 (g 21 : Int), .int .i64 (g 22 : Int), .int .i64 (g 23 : Int), .int .i64 (g 24 : Int), .int .i64 (g 25 : Int), .int .i64 (g 26 : Int), .int .i64 (g 27 : Int), .int .i64 (g 28 : Int), .int .i64 (g 29 : Int), .int .i64 (g 30 : Int), .int .i64 (g 31 : Int), .int .i64 (g 32 : Int), .int .i64 (g 33 : Int), .int .i64 (g 34 : Int), .int .i64 (g 35 : Int), .int .i64 (g 36 : Int), .int .i64 (g 37 : Int), .int .i64 (g 38 : Int), .int .i64 (g 39 : Int)]) = v41
                      by_cases hX15 : X < 10 ^ 15
                      · obtain rfl : zb = true := by rw [HZB.out]; simp [hX15]
                        have hXle : X ≤ 999999999999999 := by
                          have e : (10 : Nat) ^ 15 = 1000000000000000 := by decide
                          omega
                        clear hX15
                        have hai14 : (a15 : Int) - 1 = (a15 : Int) - 1 := rfl
                        go_wp2_with fail
                        go_loop [16, 17] (fun mm i => ∃ y x : Nat, mm = .int .i64 (x : Int) ∧ i = .int .i64 ((y : Int) - 1) ∧ l ≤ y ∧ y ≤ l + 15 ∧ x = qt P y) (fun _ i => (intOf i + 1).toNat)
                        case atStart => exact ⟨a15, 0, rfl, by go_num, by have := HA15.out; omega, by have := HA15.out; omega, by
                          have e : a15 = l + 15 := HA15.out
                          rw [e, qt_add, ← HXX.out]
                          exact (Nat.div_eq_of_lt (by have e : (10 : Nat) ^ 15 = 1000000000000000 := by decide
                                                      omega)).symm⟩
                        case round =>
                          obtain ⟨y, x, rfl, rfl, hly, hy15, hx⟩ := hrel
                          have hxX : x ≤ X := by
                            obtain ⟨d, hd⟩ : ∃ d, y = l + d := ⟨y - l, by omega⟩
                            rw [hx, hd, qt_add, ← HXX.out]
                            exact Nat.div_le_self _ _
                          have HXX2 := Lib.hid hx
                          clear hx
                          by_cases hlt : l < y
                          · obtain ⟨j, hj⟩ : ∃ j, j = y - 1 := ⟨_, rfl⟩
                            have hji : (y : Int) - 1 = (j : Int) := by omega
                            have hj40 : j < 40 := by omega
                            have hj40i : (j : Int) < 40 := by omega
                            obtain ⟨f0, -⟩ := HDy.out.2 j hj40
                            obtain ⟨d, hd⟩ : ∃ d, d = g j := ⟨_, rfl⟩
                            have hd9 : d ≤ 9 := by rw [hd, HDG.out j hj40]; omega
                            have HN2 := Lib.hid (show 10 * x + d = qt P j by
                              rw [qt_more P j, hd, HDG.out j hj40, HXX2.out, show j + 1 = y by omega])
                            rw [← hd] at f0
                            have HJ := Lib.hid (show l ≤ j ∧ j ≤ l + 15 ∧ j + 1 = y by omega)
                            have hjl : (l : Int) ≤ (j : Int) := by omega
                            have hl13 : l ≤ 13 := by omega
                            clear hd hj hlt
                            go_wp2_with fail
                            go_round
                            case rel => exact ⟨j, 10 * x + d, by go_num, by go_num, HJ.out.1, HJ.out.2.1, HN2.out⟩
                            case measure =>
                              have := HJ.out.2.2
                              simp [intOf]
                              omega
                          · obtain rfl : y = l := by omega
                            have hyl : ¬ (y : Int) ≤ (y : Int) - 1 := by omega
                            obtain rfl : x = X := by rw [HXX2.out, HXX.out]
                            obtain ⟨vm, vs, vb, hv⟩ := decP_cases (nrm (if neg then -(x : Int) else (x : Int)) c)
                            have HFI := Lib.hid (show decP (nrm (m * m2) (k + k2)) = .tuple #[.agg #[.int .i64 vm, .int .i64 vs], .bool vb] by
                              rw [HNP.out, ← HNS.out]; exact hv)
                            have HNO := Lib.hid (fun w => norm_any w (if neg then -(x : Int) else (x : Int)) c (by rw [sgn_abs]; omega) (by omega))
                            rw [hv] at HNO
                            clear hv HNP HNS HX HN
                            obtain ⟨M, hM⟩ : ∃ M : Int, M = if neg then -(x : Int) else (x : Int) := ⟨_, rfl⟩
                            rw [← hM] at HNO
                            cases neg
                            · have hM2 : M = (x : Int) := hM
                              clear hM
                              subst hM2
                              go_wp2_with fail
                              (with_reducible refine (HNO.out _).mono ?_)
                              rintro e wx ⟨rfl, hbx⟩
                              have HTx := Lib.hid (HTy.out.below hbx)
                              clear hbx
                              obtain ⟨m3, s3, q0, q1, q2, q3, q4⟩ := HTx.out.2.2.2
                              have HTW := Lib.hid HTx.out.1
                              go_wp2_with fail
                              exact bodyPost_ret (v := .tuple #[.agg #[.int .i64 vm, .int .i64 vs], .bool vb]) (by simp [results, Tryz.results20, go_sem, loadCellsFrom, q0, q1, q2, q3, q4]) rfl ⟨by rw [HFI.out], (HTW.out.setCell (by simp only []; omega) _).setCell (by simp only []; omega) _⟩
                            · have hM2 : M = -(x : Int) := hM
                              clear hM
                              subst hM2
                              go_wp2_with fail
                              (with_reducible refine (HNO.out _).mono ?_)
                              rintro e wx ⟨rfl, hbx⟩
                              have HTx := Lib.hid (HTy.out.below hbx)
                              clear hbx
                              obtain ⟨m3, s3, q0, q1, q2, q3, q4⟩ := HTx.out.2.2.2
                              have HTW := Lib.hid HTx.out.1
                              go_wp2_with fail
                              exact bodyPost_ret (v := .tuple #[.agg #[.int .i64 vm, .int .i64 vs], .bool vb]) (by simp [results, Tryz.results20, go_sem, loadCellsFrom, q0, q1, q2, q3, q4]) rfl ⟨by rw [HFI.out], (HTW.out.setCell (by simp only []; omega) _).setCell (by simp only []; omega) _⟩
                      · obtain rfl : zb = false := by rw [HZB.out]; simp [hX15]
                        have HFI := Lib.hid (show decP (nrm (m * m2) (k + k2)) = .tuple #[.agg #[.int .i64 0, .int .i64 0], .bool false] by
                          rw [HNP.out]; exact decP_over (.inr (by rw [sgn_abs]; have e : (10 : Nat) ^ 15 = 1000000000000000 := by decide
                                                                  omega)))
                        obtain ⟨m3, s3, q0, q1, q2, q3, q4⟩ := HTy.out.2.2.2
                        have HTW := Lib.hid HTy.out.1
                        go_wp2_with fail
                        exact bodyPost_ret (v := .tuple #[.agg #[.int .i64 0, .int .i64 0], .bool false]) (by simp [results, Tryz.results20, go_sem, loadCellsFrom, q0, q1, q2, q3, q4]) rfl ⟨by rw [HFI.out], (HTW.out.setCell (by simp only []; omega) _).setCell (by simp only []; omega) _⟩
end Go.Proofs.YtecomfhbdonkbaaGreatDoor
