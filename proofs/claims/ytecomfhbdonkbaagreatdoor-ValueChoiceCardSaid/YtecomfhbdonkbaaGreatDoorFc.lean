/- Frexp's and Ldexp's words, plainly; a step of the remainder. -/
import Derived.Test.YtecomfhbdonkbaaGreatDoorFb
namespace Go.Proofs.YtecomfhbdonkbaaGreatDoor.Flo
open Ieee
set_option linter.unusedSimpArgs false
set_option linter.unusedVariables false

/-- the digits of the whole number N, led to fifty-three. -/
def kOf (N : Nat) : Nat := N * 2 ^ 52 / 2 ^ N.log2
/-- Frexp's fraction. -/
def fracOf (N : Nat) : Nat := 1021 * 4503599627370496 + kOf N

theorem rungOf_eq (N : Nat) : rungOf N = (1022 + N.log2) * 4503599627370496 + kOf N := by
  rw [← p52]; rfl

theorem kOf_bounds {N : Nat} (h : N ≠ 0) : 4503599627370496 ≤ kOf N ∧ kOf N < 9007199254740992 := by
  have := q_bounds h
  rw [p52, p53] at this
  unfold kOf
  rw [p52]
  exact this

theorem rungOf_pow {N e : Nat} (h : N ≠ 0) : rungOf (N * 2 ^ e) = rungOf N + e * 4503599627370496 := by
  rw [rungOf_eq, rungOf_eq]
  have hk : kOf (N * 2 ^ e) = kOf N := by
    unfold kOf
    rw [log2_mul_pow _ _ h, Nat.pow_add, Nat.mul_assoc, Nat.mul_comm (2 ^ e), ← Nat.mul_assoc]
    rw [Nat.mul_div_mul_right _ _ (Nat.two_pow_pos e)]
  rw [hk, log2_mul_pow _ _ h, ← Nat.add_assoc, Nat.add_mul (1022 + N.log2)]
  omega

theorem Rep.pos {w : Nat} {N : Nat} (h : Rep w (N : Int)) (h0 : N ≠ 0) : w = rungOf N := by
  rcases h with ⟨h, -⟩ | ⟨-, rfl⟩
  · omega
  · have : decide ((N : Int) < 0) = false := by simp
    rw [this]
    unfold Format.word
    simp

theorem Rep.of_rung {N : Nat} (h : Ex N) : Rep (rungOf N) (N : Int) := by
  refine .inr ⟨by simpa using h, ?_⟩
  have : decide ((N : Int) < 0) = false := by simp
  rw [this]
  unfold Format.word
  simp

theorem order_frac {a b : Nat} (ha : a ≠ 0) (hb : b ≠ 0) : double.order (fracOf a) (fracOf b) = some (compare (kOf a : Int) (kOf b)) := by
  have hr : ∀ N : Nat, N ≠ 0 → double.read (fracOf N) = .number false (kOf N) (-53) := by
    intro N h
    have hk := kOf_bounds h
    have e : fracOf N = double.word false (fracOf N) := by unfold Format.word; simp
    have hu : fracOf N = 1021 * 4503599627370496 + kOf N := rfl
    generalize fracOf N = r at *
    generalize kOf N = K at *
    rw [e, read_rung _ _ (by rw [p63]; omega), binade_d, infRung_d, leastPlace_d, if_neg (by omega), if_pos (by omega)]
    have e1 : 4503599627370496 + r % 4503599627370496 = K := by omega
    have e2 : (-1074 + ((r / 4503599627370496 - 1 : Nat) : Int)) = -53 := by omega
    rw [e1, e2]
  unfold Format.order
  rw [hr a ha, hr b hb]
  show some (compare _ _) = _
  simp [signed]

theorem kOf_mul {N : Nat} (h : Ex N) : kOf N * 2 ^ N.log2 = N * 2 ^ 52 := q_exact h

theorem log2_mono {a b : Nat} (ha : a ≠ 0) (h : a ≤ b) : a.log2 ≤ b.log2 := by
  have := (Nat.log2_eq_iff (k := a.log2) ha).1 rfl
  exact (Nat.le_log2 (by omega)).2 (by omega)

/-- how often, in powers of two, y is taken from r. -/
def stepOf (r y : Nat) : Nat := if kOf r < kOf y then r.log2 - 1 - y.log2 else r.log2 - y.log2

theorem step_fits {r y : Nat} (hr : Ex r) (hy : Ex y) (h : y ≤ r) : y * 2 ^ stepOf r y ≤ r ∧
    (kOf r < kOf y → y.log2 + 1 ≤ r.log2 ∧ (stepOf r y : Int) = (r.log2 : Int) - 1 - y.log2) ∧ (¬ kOf r < kOf y → y.log2 ≤ r.log2 ∧ (stepOf r y : Int) = (r.log2 : Int) - y.log2) := by
  have h1 := kOf_mul hr
  have h2 := kOf_mul hy
  have hl := log2_mono hy.1 h
  have hb1 := kOf_bounds hr.1
  have hb2 := kOf_bounds hy.1
  unfold stepOf
  generalize kOf r = Kr at *
  generalize kOf y = Ky at *
  generalize r.log2 = er at *
  generalize y.log2 = ey at *
  by_cases hk : Kr < Ky
  · have hlt : ey + 1 ≤ er := by
      rcases Nat.lt_or_ge ey er with h9 | h9
      · exact h9
      · exfalso
        have e : er = ey := by omega
        subst e
        have : Kr * 2 ^ er < Ky * 2 ^ er := Nat.mul_lt_mul_of_pos_right hk (Nat.two_pow_pos _)
        rw [h1, h2] at this
        have := Nat.lt_of_mul_lt_mul_right this
        omega
    refine ⟨?_, fun _ => ⟨hlt, by rw [if_pos hk]; omega⟩, fun h => absurd hk h⟩
    rw [if_pos hk]
    apply Nat.le_of_mul_le_mul_right _ (Nat.two_pow_pos 52)
    rw [← h1]
    have e1 : y * 2 ^ (er - 1 - ey) * 2 ^ 52 = Ky * 2 ^ (er - 1) := by
      have x : ey + (er - 1 - ey) = er - 1 := by omega
      calc y * 2 ^ (er - 1 - ey) * 2 ^ 52 = y * 2 ^ 52 * 2 ^ (er - 1 - ey) := by simp only [Nat.mul_assoc, Nat.mul_comm, Nat.mul_left_comm]
        _ = _ := by rw [← h2, Nat.mul_assoc, ← Nat.pow_add, x]
    have e2 : 2 ^ er = 2 * 2 ^ (er - 1) := by
      have x : er = 1 + (er - 1) := by omega
      conv => lhs; rw [x, Nat.pow_add]
    rw [e1, e2, ← Nat.mul_assoc]
    exact Nat.mul_le_mul_right _ (by omega)
  · refine ⟨?_, fun h => absurd h hk, fun _ => ⟨hl, by rw [if_neg hk]; omega⟩⟩
    rw [if_neg hk]
    apply Nat.le_of_mul_le_mul_right _ (Nat.two_pow_pos 52)
    rw [← h1]
    have e1 : y * 2 ^ (er - ey) * 2 ^ 52 = Ky * 2 ^ er := by
      have x : ey + (er - ey) = er := by omega
      calc y * 2 ^ (er - ey) * 2 ^ 52 = y * 2 ^ 52 * 2 ^ (er - ey) := by simp only [Nat.mul_assoc, Nat.mul_comm, Nat.mul_left_comm]
        _ = _ := by rw [← h2, Nat.mul_assoc, ← Nat.pow_add, x]
    rw [e1]
    exact Nat.mul_le_mul_right _ (by omega)

theorem Ex.mul_pow {N e : Nat} (h : Ex N) (hb : (N * 2 ^ e) < 2 ^ 1000) : Ex (N * 2 ^ e) := by
  obtain ⟨h0, -, q, t, rfl, hq⟩ := h
  have hp := Nat.two_pow_pos e
  have hn : q * 2 ^ t * 2 ^ e ≠ 0 := Nat.mul_ne_zero h0 (by omega)
  refine ⟨hn, ?_, q, t + e, by rw [Nat.pow_add, Nat.mul_assoc], hq⟩
  have := (Nat.log2_lt hn (k := 1000)).2 hb
  omega

theorem neg_word (s : Bool) (r : Nat) (h : r < 2 ^ 63) : double.word s r ^^^ 2 ^ 63 = double.word (!s) r := by
  unfold Format.word
  rw [signWeight_d]
  have h0 : r &&& 2 ^ 63 = 0 := by
    apply Nat.eq_of_testBit_eq
    intro i
    rw [Nat.testBit_and, Nat.testBit_two_pow]
    by_cases e : 63 = i
    · subst e; simp [Nat.testBit_lt_two_pow h]
    · simp [e]
  have hx : r ^^^ 2 ^ 63 = 2 ^ 63 + r := by
    have := Nat.two_pow_add_eq_or_of_lt h 1
    simp only [Nat.mul_one] at this
    rw [this]
    apply Nat.eq_of_testBit_eq
    intro i
    rw [Nat.testBit_xor, Nat.testBit_or, Nat.testBit_two_pow]
    by_cases e : 63 = i
    · subst e; simp [Nat.testBit_lt_two_pow h]
    · simp [e]
  cases s
  · simp only [Bool.false_eq_true, ↓reduceIte, Bool.not_false]
    exact hx
  · simp only [↓reduceIte, Bool.not_true, Bool.false_eq_true]
    rw [← hx, Nat.xor_assoc, Nat.xor_self, Nat.xor_zero]

theorem neg_rep {x : Nat} {n : Int} (h : Rep x n) : Rep (x ^^^ 2 ^ 63) (-n) := by
  rcases h with ⟨rfl, rfl | rfl⟩ | ⟨hx, rfl⟩
  · exact .inl ⟨rfl, .inr (neg_word _ _ (by decide))⟩
  · exact .inl ⟨rfl, .inl (neg_word _ _ (by decide))⟩
  · refine .inr ⟨by simpa using hx, ?_⟩
    rw [neg_word _ _ (rungOf_lt hx.1 hx.2.1).2.2.1]
    have h0 := hx.1
    have e : decide (-n < 0) = !decide (n < 0) := by
      by_cases hn : n < 0
      · have : ¬ -n < 0 := by omega
        simp [hn, this]; omega
      · have : -n < 0 := by omega
        simp [hn, this]; omega
    rw [e]
    simp

theorem neg_big {x B : Nat} {s : Bool} (h : Big B s x) : Big B (!s) (x ^^^ 2 ^ 63) := by
  obtain ⟨h, hl⟩ := h
  obtain ⟨s', r, hr, rfl⟩ := lt64 hl
  rw [neg_word _ _ hr]
  refine ⟨?_, ?_⟩
  · have hF := read_neg_of s' r hr
    have hG := read_neg_of (!s') r hr
    rcases hF with ⟨m, p, e1, e2⟩ | ⟨e1, e2⟩ | ⟨f, e1⟩
    · rcases hG with ⟨m', p', g1, g2⟩ | ⟨g1, g2⟩ | ⟨f, g1⟩
      · rw [e2] at g2
        cases g2
        rw [e1] at h
        rw [g1]
        rcases h with ⟨m'', p'', e, hh⟩ | e
        · cases e; exact .inl ⟨_, _, rfl, hh⟩
        · cases e
      · rw [e2] at g2; cases g2
      · exfalso
        rw [read_rung _ _ hr] at g1 e1
        split at g1
        · cases g1
        · rename_i h1
          split at g1
          · cases g1
          · rename_i h2
            split at g1
            · cases g1
            · rename_i h3
              rw [if_neg h1, if_neg h2, if_neg h3] at e1
              cases e1
    · rcases hG with ⟨m', p', g1, g2⟩ | ⟨g1, g2⟩ | ⟨f, g1⟩
      · rw [e2] at g2; cases g2
      · rw [e1] at h
        rw [g1]
        rcases h with ⟨m'', p'', e, hh⟩ | e
        · cases e
        · cases e; exact .inr rfl
      · exfalso
        rw [read_rung _ _ hr] at g1 e1
        split at g1
        · cases g1
        · rename_i h1
          split at g1
          · cases g1
          · rename_i h2
            split at g1
            · cases g1
            · rename_i h3
              rw [if_neg h1, if_neg h2, if_neg h3] at e1
              cases e1
    · rw [e1] at h
      rcases h with ⟨m', p', e, -⟩ | e <;> cases e
  · unfold Format.word
    have h64 : (2 : Nat) ^ 64 = 18446744073709551616 := by decide
    rw [signWeight_d, h64]
    rw [p63] at *
    split <;> omega

end Go.Proofs.YtecomfhbdonkbaaGreatDoor.Flo
