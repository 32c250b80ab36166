/- Floats that are whole numbers, plainly: what add, mul, order answer at them. -/
import Derived.Laws.FloatBits
namespace Go.Proofs.YtecomfhbdonkbaaGreatDoor.Flo
open Ieee
set_option linter.unusedSimpArgs false
set_option linter.unusedVariables false

theorem signed_eq (s : Bool) (m u : Nat) : signed s m u = (if s then -1 else 1) * ((m : Int) * 2 ^ u) := by
  unfold signed
  rw [Nat.shiftLeft_eq]
  cases s <;> simp [Int.neg_mul]

theorem signed_add (s : Bool) (m u v : Nat) : signed s m (u + v) = signed s m u * 2 ^ v := by
  rw [signed_eq, signed_eq, Int.pow_add, Int.mul_assoc, Int.mul_assoc]

theorem two_pos (k : Nat) : (0 : Int) < 2 ^ k := Int.pow_pos (by decide)

/-- the number's value is the integer n. -/
def IntOf (s : Bool) (m : Nat) (p n : Int) : Prop := ∃ k : Nat, 0 ≤ p + k ∧ signed s m (p + k).toNat = n * 2 ^ k

theorem IntOf.up {s : Bool} {m : Nat} {p n : Int} {k : Nat} (hk : 0 ≤ p + k) (h : signed s m (p + k).toNat = n * 2 ^ k) (j : Nat) :
    signed s m (p + (k + j : Nat)).toNat = n * 2 ^ (k + j) := by
  have e : (p + (k + j : Nat)).toNat = (p + k).toNat + j := by omega
  rw [e, signed_add, h, Int.pow_add, Int.mul_assoc]

theorem IntOf.at {s : Bool} {m : Nat} {p n : Int} (h : IntOf s m p n) (k : Nat) (hk : 0 ≤ p + k) : signed s m (p + k).toNat = n * 2 ^ k := by
  obtain ⟨j, hj, e⟩ := h
  have h1 := IntOf.up hj e k
  have e2 : (p + (j + k : Nat)).toNat = (p + k).toNat + j := by omega
  rw [e2, signed_add, Nat.add_comm, Int.pow_add, ← Int.mul_assoc] at h1
  exact Int.eq_of_mul_eq_mul_right (Int.ne_of_gt (two_pos j)) h1

/-- the datum is the integer n. -/
def Dt (n : Int) (d : Datum) : Prop := ∃ s m p, d = .number s m p ∧ IntOf s m p n

theorem base_at {s : Bool} {m : Nat} {p n b : Int} (h : IntOf s m p n) (hb : b ≤ p) (k : Nat) (hk : 0 ≤ b + k) :
    signed s m (p - b).toNat * 2 ^ (b + k).toNat = n * 2 ^ k := by
  have e : (p + k).toNat = (p - b).toNat + (b + k).toNat := by omega
  rw [← signed_add, ← e]; exact h.at k (by omega)

theorem signed_abs (t : Int) (u : Nat) : ∀ s : Bool, (t = 0 ∨ s = decide (t < 0)) → signed s t.natAbs u = t * 2 ^ u := by
  intro s hs
  rw [signed_eq]
  by_cases h0 : t = 0
  · subst h0; simp
  · rcases hs with hs | hs
    · exact absurd hs h0
    · subst hs
      by_cases h : t < 0
      · have : (t.natAbs : Int) = -t := by omega
        simp [h, this, Int.neg_mul]
      · have : (t.natAbs : Int) = t := by omega
        simp [h, this]

theorem sum_dt {x y : Datum} {a b : Int} (hx : Dt a x) (hy : Dt b y) : ∃ d, x.sum y = some d ∧ Dt (a + b) d := by
  obtain ⟨s, m, i, rfl, hx⟩ := hx
  obtain ⟨t, n, j, rfl, hy⟩ := hy
  refine ⟨_, rfl, _, _, _, rfl, ?_⟩
  have h1 : ∀ k : Nat, 0 ≤ min i j + k → (signed s m (i - min i j).toNat + signed t n (j - min i j).toNat) * 2 ^ (min i j + k).toNat = (a + b) * 2 ^ k := by
    intro k hk
    rw [Int.add_mul, Int.add_mul, base_at hx (by omega) k hk, base_at hy (by omega) k hk]
  generalize hT : signed s m (i - min i j).toNat + signed t n (j - min i j).toNat = T at h1 ⊢
  refine ⟨(- min i j).toNat, by omega, ?_⟩
  have hk : 0 ≤ min i j + ((- min i j).toNat : Nat) := by omega
  rw [← h1 _ hk]
  apply signed_abs
  by_cases h0 : T = 0
  · exact .inl h0
  · right; simp [h0]

theorem product_dt {x y : Datum} {a b : Int} (hx : Dt a x) (hy : Dt b y) : ∃ d, x.product y = some d ∧ Dt (a * b) d := by
  obtain ⟨s, m, i, rfl, k, hk, hx⟩ := hx
  obtain ⟨t, n, j, rfl, l, hl, hy⟩ := hy
  refine ⟨_, rfl, _, _, _, rfl, k + l, by omega, ?_⟩
  have e : (i + j + (k + l : Nat)).toNat = (i + k).toNat + (j + l).toNat := by omega
  rw [signed_eq] at hx hy ⊢
  rw [e, Int.pow_add 2 k l]
  have e2 : a * b * (2 ^ k * 2 ^ l) = a * 2 ^ k * (b * 2 ^ l) := by
    simp only [Int.mul_assoc, Int.mul_left_comm]
  rw [e2, ← hx, ← hy, Int.pow_add]
  cases s <;> cases t <;> simp [Int.mul_assoc, Int.mul_left_comm, Int.mul_comm, Int.natCast_mul, Int.mul_neg, Int.neg_mul]

theorem opposite_dt {x : Datum} {a : Int} (hx : Dt a x) : Dt (-a) x.opposite := by
  obtain ⟨s, m, i, rfl, k, hk, h⟩ := hx
  refine ⟨_, _, _, rfl, k, hk, ?_⟩
  rw [signed_eq] at h ⊢
  rw [Int.neg_mul, ← h]
  cases s <;> simp

theorem compare_mul (a b c : Int) (hc : 0 < c) : compare (a * c) (b * c) = compare a b := by
  simp only [compare, compareOfLessAndEq]
  by_cases h : a < b
  · rw [if_pos h, if_pos (Int.mul_lt_mul_of_pos_right h hc)]
  · rw [if_neg h, if_neg (fun h' => h (Int.lt_of_mul_lt_mul_right h' (Int.le_of_lt hc)))]
    by_cases e : a = b
    · subst e; simp
    · rw [if_neg e, if_neg (fun h' => e (Int.eq_of_mul_eq_mul_right (Int.ne_of_gt hc) h'))]

theorem order_dt {x y : Datum} {a b : Int} (hx : Dt a x) (hy : Dt b y) : x.order y = some (compare a b) := by
  obtain ⟨s, m, i, rfl, hx⟩ := hx
  obtain ⟨t, n, j, rfl, hy⟩ := hy
  have hk : 0 ≤ min i j + ((- min i j).toNat : Nat) := by omega
  show some (compare _ _) = _
  congr 1
  rw [← compare_mul _ _ _ (two_pos (min i j + ((- min i j).toNat : Nat)).toNat), base_at hx (by omega) _ hk, base_at hy (by omega) _ hk, compare_mul _ _ _ (two_pos _)]

theorem natAbs_of {s : Bool} {m : Nat} {p n : Int} (h : IntOf s m p n) (k : Nat) (hk : 0 ≤ p + k) : m * 2 ^ (p + k).toNat = n.natAbs * 2 ^ k := by
  have h1 := congrArg Int.natAbs (h.at k hk)
  rw [signed_eq, Int.natAbs_mul, Int.natAbs_mul, Int.natAbs_mul, Int.natAbs_pow, Int.natAbs_pow] at h1
  cases s <;> simpa using h1

theorem sign_of {s : Bool} {m : Nat} {p n : Int} (h : IntOf s m p n) (h0 : n ≠ 0) : s = decide (n < 0) := by
  obtain ⟨k, hk, h⟩ := h
  rw [signed_eq] at h
  have hp := two_pos k
  have hq : (0 : Int) ≤ (m : Int) * 2 ^ (p + k).toNat := Int.mul_nonneg (by omega) (Int.le_of_lt (two_pos _))
  cases s
  · symm; simp only [decide_eq_false_iff_not, Int.not_lt]
    simp at h
    rw [h] at hq
    exact Int.le_of_mul_le_mul_right (by simpa using hq) hp
  · symm; simp only [decide_eq_true_eq]
    simp at h
    have h2 : n * 2 ^ k ≤ 0 := by omega
    rcases Int.lt_or_le n 0 with h3 | h3
    · exact h3
    · have : 0 < n := by omega
      have := Int.mul_pos this hp
      omega

theorem toInt_dt {x : Datum} {a : Int} (hx : Dt a x) : x.toInt .zero = some a := by
  obtain ⟨s, m, p, rfl, h⟩ := hx
  show some (signed s (Toward.zero.cut s (m <<< p.toNat) (-p).toNat) 0) = some a
  congr 1
  unfold Toward.cut
  simp only [Bool.toNat_false, Nat.add_zero]
  rcases Int.lt_or_le p 0 with hp | hp
  · have e1 : p.toNat = 0 := by omega
    have hk : 0 ≤ p + ((-p).toNat : Nat) := by omega
    have h1 := natAbs_of h (-p).toNat hk
    have e2 : (p + ((-p).toNat : Nat)).toNat = 0 := by omega
    rw [e2] at h1
    simp only [Nat.pow_zero, Nat.mul_one] at h1
    have h2 := h.at (-p).toNat hk
    rw [e2] at h2
    rw [e1, Nat.shiftLeft_zero, Nat.shiftLeft_eq, Nat.one_mul]
    by_cases h0 : a = 0
    · subst h0
      have : m = 0 := by simpa using h1
      subst this
      simp [signed]
    · have hm : m ≠ 0 := by
        intro hm
        rw [hm] at h1
        have : 0 < a.natAbs * 2 ^ (-p).toNat := Nat.mul_pos (by omega) (Nat.two_pow_pos _)
        omega
      have hd : (-p).toNat ≤ m.log2 := by
        rw [Nat.le_log2 hm, h1]
        exact Nat.le_mul_of_pos_left _ (by omega)
      rw [Nat.min_eq_left (by omega), h1, Nat.mul_div_cancel _ (Nat.two_pow_pos _)]
      rw [sign_of h h0, signed_abs _ _ _ (.inr rfl)]
      simp
  · have e : (-p).toNat = 0 := by omega
    rw [e, Nat.zero_min, Nat.shiftLeft_zero, Nat.div_one]
    have h2 := h.at 0 (by omega)
    simp only [Int.pow_zero, Int.mul_one] at h2
    rw [← h2, signed_eq, signed_eq, Nat.shiftLeft_eq]
    have e2 : (p + ((0 : Nat) : Int)).toNat = p.toNat := by omega
    rw [e2]
    simp

/-! the words -/

theorem log2_mul_pow (m k : Nat) (h : m ≠ 0) : (m * 2 ^ k).log2 = m.log2 + k := by
  have hp := Nat.two_pow_pos k
  have hm : m * 2 ^ k ≠ 0 := Nat.mul_ne_zero h (by omega)
  rw [Nat.log2_eq_iff hm]
  have h1 := (Nat.log2_eq_iff (k := m.log2) h).1 rfl
  constructor
  · rw [Nat.pow_add]; exact Nat.mul_le_mul_right _ h1.1
  · have e : m.log2 + k + 1 = (m.log2 + 1) + k := by omega
    rw [e, Nat.pow_add]
    exact Nat.mul_lt_mul_of_pos_right h1.2 hp

/-- the rung of the whole number N, which is not 0. -/
def rungOf (N : Nat) : Nat := (1022 + N.log2) * 2 ^ 52 + N * 2 ^ 52 / 2 ^ N.log2

theorem cut_exact (s : Bool) (q drop : Nat) (h : q ≠ 0) : Toward.even.cut s (q * 2 ^ drop) drop = q := by
  unfold Toward.cut
  have hl := log2_mul_pow q drop h
  have hp := Nat.two_pow_pos drop
  have hg : 1 <<< min drop ((q * 2 ^ drop).log2 + 2) = 2 ^ drop := by
    rw [Nat.min_eq_left (by omega), Nat.shiftLeft_eq, Nat.one_mul]
  simp only [hg, Nat.mul_div_cancel _ hp, Nat.mul_mod_left]
  simp

theorem binade_d : double.binade = 4503599627370496 := by decide
theorem infRung_d : double.infRung = 2047 * 4503599627370496 := by decide
theorem signWeight_d : double.signWeight = 2 ^ 63 := by decide
theorem leastPlace_d : double.leastPlace = -1074 := by decide
theorem fractionBits_d : double.fractionBits = 52 := rfl
theorem p52 : (2 : Nat) ^ 52 = 4503599627370496 := by decide

theorem pow_cancel {m q a b c d x y z : Nat} (h : m * 2 ^ a = q * 2 ^ b) (x1 : c + x = a + y) (x2 : b + y = d + z + x) : m * 2 ^ c = q * 2 ^ d * 2 ^ z := by
  apply Nat.eq_of_mul_eq_mul_right (Nat.two_pow_pos x)
  rw [Nat.mul_assoc, ← Nat.pow_add, x1, Nat.pow_add, ← Nat.mul_assoc, h, Nat.mul_assoc, ← Nat.pow_add, x2, Nat.pow_add, Nat.pow_add, Nat.mul_assoc, Nat.mul_assoc, Nat.mul_assoc]

theorem nearest_exact (s : Bool) (m N : Nat) (p : Int) (k : Nat) (hk : 0 ≤ p + k) (hN : N ≠ 0) (hv : m * 2 ^ (p + k).toNat = N * 2 ^ k)
    (hb : N.log2 ≤ 1023) (hq : ∃ q t, N = q * 2 ^ t ∧ q < 2 ^ 53) :
    double.nearest s m p = double.word s (rungOf N) := by
  have hm : m ≠ 0 := by
    intro h
    rw [h] at hv
    have := Nat.mul_pos (Nat.pos_of_ne_zero hN) (Nat.two_pow_pos k)
    omega
  have hlog : p + m.log2 = N.log2 := by
    have h := congrArg Nat.log2 hv
    rw [log2_mul_pow _ _ hm, log2_mul_pow _ _ hN] at h
    omega
  unfold Format.nearest
  rw [if_neg hm]
  have hl : max (p + m.log2 - double.fractionBits) double.leastPlace = N.log2 - 52 := by
    rw [fractionBits_d, leastPlace_d, hlog]; omega
  simp only [hl]
  obtain ⟨q, t, hN', hq⟩ := hq
  have hq0 : q ≠ 0 := by intro h; rw [h] at hN'; omega
  have hlq : q.log2 ≤ 52 := by
    have := (Nat.log2_lt hq0 (k := 53)).2 hq
    omega
  have hlN : N.log2 = q.log2 + t := by rw [hN', log2_mul_pow _ _ hq0]
  -- kept
  have hkept : Toward.even.cut s (m <<< (p - (↑N.log2 - 52)).toNat) (↑N.log2 - 52 - p).toNat = N * 2 ^ 52 / 2 ^ N.log2 := by
    have hR : N * 2 ^ 52 / 2 ^ N.log2 = q * 2 ^ (52 - q.log2) := by
      have e : N * 2 ^ 52 = q * 2 ^ (52 - q.log2) * 2 ^ N.log2 := by
        have x : t + 52 = (52 - q.log2) + N.log2 := by omega
        calc N * 2 ^ 52 = q * 2 ^ (t + 52) := by rw [Nat.pow_add, ← Nat.mul_assoc, ← hN']
          _ = _ := by rw [x, Nat.pow_add, Nat.mul_assoc]
      rw [e, Nat.mul_div_cancel _ (Nat.two_pow_pos _)]
    rw [hR, Nat.shiftLeft_eq]
    have e : m * 2 ^ (p - (↑N.log2 - 52)).toNat = q * 2 ^ (52 - q.log2) * 2 ^ (↑N.log2 - 52 - p).toNat := by
      have h1 : m * 2 ^ (p + k).toNat = q * 2 ^ (t + k) := by rw [hv, hN', Nat.pow_add, Nat.mul_assoc]
      have x1 : (p - (↑N.log2 - 52)).toNat + ((p + k).toNat + N.log2 + 52) = (p + k).toNat + ((p - (↑N.log2 - 52)).toNat + N.log2 + 52) := by omega
      have x2 : (t + k) + ((p - (↑N.log2 - 52)).toNat + N.log2 + 52) = (52 - q.log2) + (↑N.log2 - 52 - p).toNat + ((p + k).toNat + N.log2 + 52) := by omega
      exact pow_cancel h1 x1 x2
    rw [e]
    exact cut_exact _ _ _ (Nat.mul_ne_zero hq0 (by have := Nat.two_pow_pos (52 - q.log2); omega))
  rw [hkept]
  have hlast : ((N.log2 : Int) - 52 - double.leastPlace).toNat = 1022 + N.log2 := by
    rw [leastPlace_d]; omega
  have hlt : N * 2 ^ 52 / 2 ^ N.log2 < 2 ^ 53 := by
    rw [Nat.div_lt_iff_lt_mul (Nat.two_pow_pos _)]
    have := (Nat.log2_eq_iff (k := N.log2) hN).1 rfl
    have e : (2 : Nat) ^ 53 * 2 ^ N.log2 = 2 ^ (N.log2 + 1) * 2 ^ 52 := by
      have x : 53 + N.log2 = (N.log2 + 1) + 52 := by omega
      rw [← Nat.pow_add, ← Nat.pow_add, x]
    rw [e]
    exact Nat.mul_lt_mul_of_pos_right this.2 (Nat.two_pow_pos _)
  rw [hlast, binade_d, infRung_d]
  unfold rungOf
  rw [p52] at *
  generalize N * 4503599627370496 / 2 ^ N.log2 = K at *
  have h53 : (2 : Nat) ^ 53 = 9007199254740992 := by decide
  rw [h53] at hlt
  rw [Nat.min_eq_left (by omega)]

/-- a word holds the whole number N (not 0) as it is. -/
def Ex (N : Nat) : Prop := N ≠ 0 ∧ N.log2 ≤ 1023 ∧ ∃ q t, N = q * 2 ^ t ∧ q < 2 ^ 53

theorem Ex.small {N : Nat} (h0 : N ≠ 0) (h : N < 2 ^ 53) : Ex N := by
  refine ⟨h0, ?_, N, 0, by simp, h⟩
  have := (Nat.log2_lt h0 (k := 53)).2 h
  omega

/-- the word is the integer n. -/
def Rep (w : Nat) (n : Int) : Prop := (n = 0 ∧ (w = double.word false 0 ∨ w = double.word true 0)) ∨ (Ex n.natAbs ∧ w = double.word (decide (n < 0)) (rungOf n.natAbs))

theorem read_word (s : Bool) (r : Nat) (h : r < 2 ^ 63) : double.word s r / double.signWeight % 2 = s.toNat ∧ double.word s r % double.signWeight = r := by
  unfold Format.word
  rw [signWeight_d]
  cases s
  · simp only [Bool.false_eq_true, ↓reduceIte, Bool.toNat_false]
    rw [Nat.div_eq_of_lt h, Nat.mod_eq_of_lt h]; exact ⟨rfl, rfl⟩
  · simp only [↓reduceIte, Bool.toNat_true]
    rw [Nat.add_div_left _ (Nat.two_pow_pos _), Nat.div_eq_of_lt h, Nat.add_mod_left, Nat.mod_eq_of_lt h]; exact ⟨rfl, rfl⟩

theorem read_rung (s : Bool) (r : Nat) (h : r < 2 ^ 63) : double.read (double.word s r) =
    if r < double.binade then .number s r double.leastPlace
    else if r < double.infRung then .number s (double.binade + r % double.binade) (double.leastPlace + (r / double.binade - 1 : Nat))
    else if r = double.infRung then .infinity s else .nan s (r - double.infRung) := by
  obtain ⟨h1, h2⟩ := read_word s r h
  unfold Format.read
  simp only [h1, h2]
  cases s <;> simp

theorem q_bounds {N : Nat} (h0 : N ≠ 0) : 2 ^ 52 ≤ N * 2 ^ 52 / 2 ^ N.log2 ∧ N * 2 ^ 52 / 2 ^ N.log2 < 2 ^ 53 := by
  have hl := (Nat.log2_eq_iff (k := N.log2) h0).1 rfl
  constructor
  · rw [Nat.le_div_iff_mul_le (Nat.two_pow_pos _), Nat.mul_comm]
    exact Nat.mul_le_mul_right _ hl.1
  · rw [Nat.div_lt_iff_lt_mul (Nat.two_pow_pos _)]
    have e : (2 : Nat) ^ 53 * 2 ^ N.log2 = 2 ^ (N.log2 + 1) * 2 ^ 52 := by
      have x : 53 + N.log2 = (N.log2 + 1) + 52 := by omega
      rw [← Nat.pow_add, ← Nat.pow_add, x]
    rw [e]
    exact Nat.mul_lt_mul_of_pos_right hl.2 (Nat.two_pow_pos _)

theorem q_exact {N : Nat} (h : Ex N) : N * 2 ^ 52 / 2 ^ N.log2 * 2 ^ N.log2 = N * 2 ^ 52 := by
  obtain ⟨h0, -, q, t, rfl, hq⟩ := h
  have hq0 : q ≠ 0 := by intro e; rw [e] at h0; omega
  have hlq : q.log2 ≤ 52 := by
    have := (Nat.log2_lt hq0 (k := 53)).2 hq
    omega
  rw [log2_mul_pow _ _ hq0]
  have x : t + 52 = (52 - q.log2) + (q.log2 + t) := by omega
  have e : q * 2 ^ t * 2 ^ 52 = q * 2 ^ (52 - q.log2) * 2 ^ (q.log2 + t) := by
    rw [Nat.mul_assoc, ← Nat.pow_add, x, Nat.pow_add, Nat.mul_assoc]
  rw [e, Nat.mul_div_cancel _ (Nat.two_pow_pos _)]

theorem arith_lg (t L K : Nat) (h1 : 1022 + t ≤ L) (h2 : 4503599627370496 ≤ K) : (1023 + t) * 4503599627370496 ≤ L * 4503599627370496 + K := by omega
theorem arith_rung (L K r : Nat) (hr : r = (1022 + L) * 4503599627370496 + K) (h1 : 4503599627370496 ≤ K) (h2 : K < 9007199254740992) (hL : L ≤ 1023) :
   4503599627370496 ≤ r ∧ r < 2047 * 4503599627370496 ∧ r < 9223372036854775808 ∧ r / 4503599627370496 = 1023 + L ∧ r % 4503599627370496 + 4503599627370496 = K := by omega

theorem p53 : (2 : Nat) ^ 53 = 9007199254740992 := by decide
theorem p63 : (2 : Nat) ^ 63 = 9223372036854775808 := by decide

theorem rungOf_lt {N : Nat} (h0 : N ≠ 0) (hb : N.log2 ≤ 1023) : 4503599627370496 ≤ rungOf N ∧ rungOf N < 2047 * 4503599627370496 ∧ rungOf N < 2 ^ 63 ∧
    rungOf N / 4503599627370496 = 1023 + N.log2 ∧ rungOf N % 4503599627370496 + 4503599627370496 = N * 2 ^ 52 / 2 ^ N.log2 := by
  have hq := q_bounds h0
  rw [p63]
  have e : rungOf N = (1022 + N.log2) * 2 ^ 52 + N * 2 ^ 52 / 2 ^ N.log2 := rfl
  generalize rungOf N = r at e ⊢
  generalize N * 2 ^ 52 / 2 ^ N.log2 = K at e hq ⊢
  rw [p52] at e hq
  rw [p53] at hq
  exact arith_rung _ K r e hq.1 hq.2 hb

theorem read_rungOf (s : Bool) {N : Nat} (h0 : N ≠ 0) (hb : N.log2 ≤ 1023) : double.read (double.word s (rungOf N)) = .number s (N * 2 ^ 52 / 2 ^ N.log2) ((N.log2 : Int) - 52) := by
  obtain ⟨h1, h2, h3, h4, h5⟩ := rungOf_lt h0 hb
  generalize rungOf N = r at *
  generalize N * 2 ^ 52 / 2 ^ N.log2 = K at *
  rw [read_rung s r h3, binade_d, infRung_d, leastPlace_d]
  rw [if_neg (Nat.not_lt.2 h1), if_pos h2, h4]
  have e1 : 4503599627370496 + r % 4503599627370496 = K := by omega
  have e2 : (-1074 + ((1023 + N.log2 - 1 : Nat) : Int)) = (N.log2 : Int) - 52 := by omega
  rw [e1, e2]

theorem Rep.dt {w : Nat} {n : Int} (h : Rep w n) : Dt n (double.read w) := by
  rcases h with ⟨rfl, h⟩ | ⟨hx, rfl⟩
  · rcases h with rfl | rfl
    · refine ⟨false, 0, -1074, by decide, Int.toNat 1074, by decide, ?_⟩
      generalize Int.toNat 1074 = K
      simp [signed_eq]
    · refine ⟨true, 0, -1074, by decide, Int.toNat 1074, by decide, ?_⟩
      generalize Int.toNat 1074 = K
      simp [signed_eq]
  · refine ⟨_, _, _, read_rungOf _ hx.1 hx.2.1, 52, by omega, ?_⟩
    have e : ((n.natAbs.log2 : Int) - 52 + ((52 : Nat) : Int)).toNat = n.natAbs.log2 := by omega
    rw [e, signed_eq]
    have h := q_exact hx
    have h' : ((n.natAbs * 2 ^ 52 / 2 ^ n.natAbs.log2 : Nat) : Int) * 2 ^ n.natAbs.log2 = (n.natAbs : Int) * 2 ^ 52 := by
      exact_mod_cast h
    rw [h']
    by_cases hn : n < 0
    · have : (n.natAbs : Int) = -n := by omega
      simp [hn, this, Int.neg_mul]
    · have : (n.natAbs : Int) = n := by omega
      simp [hn, this]

theorem write_rep {d : Datum} {n : Int} (h : Dt n d) (hx : n = 0 ∨ Ex n.natAbs) : Rep (double.write d) n := by
  obtain ⟨s, m, p, rfl, h⟩ := h
  by_cases h0 : n = 0
  · subst h0
    obtain ⟨k, hk, h1⟩ := h
    rw [signed_eq] at h1
    have hm : m = 0 := by
      have := two_pos (p + k).toNat
      by_cases hm : m = 0
      · exact hm
      · exfalso
        have h2 := Int.mul_pos (show (0 : Int) < m by omega) this
        cases s <;> simp at h1 <;> omega
    subst hm
    refine .inl ⟨rfl, ?_⟩
    have e : double.write (.number s 0 p) = double.word s 0 := by
      show double.nearest s 0 p = _
      unfold Format.nearest
      simp
    rw [e]
    cases s
    · exact .inl rfl
    · exact .inr rfl
  · have hx : Ex n.natAbs := hx.resolve_left h0
    refine .inr ⟨hx, ?_⟩
    have hk : 0 ≤ p + ((-p).toNat : Nat) := by omega
    show double.nearest s m p = _
    rw [nearest_exact s m n.natAbs p _ hk hx.1 (natAbs_of h _ hk) hx.2.1 hx.2.2, sign_of h h0]

theorem add_rep {x y : Nat} {a b : Int} (hx : Rep x a) (hy : Rep y b) (h : a + b = 0 ∨ Ex (a + b).natAbs) : ∃ r, double.add x y = some r ∧ Rep r (a + b) := by
  obtain ⟨d, h1, h2⟩ := sum_dt hx.dt hy.dt
  exact ⟨_, by simp [Format.add, h1], write_rep h2 h⟩

theorem sub_rep {x y : Nat} {a b : Int} (hx : Rep x a) (hy : Rep y b) (h : a - b = 0 ∨ Ex (a - b).natAbs) : ∃ r, double.sub x y = some r ∧ Rep r (a - b) := by
  obtain ⟨d, h1, h2⟩ := sum_dt hx.dt (opposite_dt hy.dt)
  exact ⟨_, by simp [Format.sub, h1], write_rep h2 h⟩

theorem mul_rep {x y : Nat} {a b : Int} (hx : Rep x a) (hy : Rep y b) (h : a * b = 0 ∨ Ex (a * b).natAbs) : ∃ r, double.mul x y = some r ∧ Rep r (a * b) := by
  obtain ⟨d, h1, h2⟩ := product_dt hx.dt hy.dt
  exact ⟨_, by simp [Format.mul, h1], write_rep h2 h⟩

theorem order_rep {x y : Nat} {a b : Int} (hx : Rep x a) (hy : Rep y b) : double.order x y = some (compare a b) := order_dt hx.dt hy.dt

theorem nearest_rep (n : Int) (h : n = 0 ∨ Ex n.natAbs) : Rep (double.write (.number (n < 0) n.natAbs 0)) n := by
  refine write_rep ⟨_, _, _, rfl, 0, by omega, ?_⟩ h
  rw [signed_abs n _ _ (.inr rfl)]
  simp

theorem Rep.lt {w : Nat} {n : Int} (h : Rep w n) : w < 2 ^ 64 := by
  have h64 : (2 : Nat) ^ 64 = 18446744073709551616 := by decide
  have h63 : (2 : Nat) ^ 63 = 9223372036854775808 := by decide
  rcases h with ⟨-, h | h⟩ | ⟨hx, h⟩
  · rw [h]; decide
  · rw [h]; decide
  · rw [h]
    have := (rungOf_lt hx.1 hx.2.1).2.2.1
    unfold Format.word
    rw [signWeight_d]
    split <;> omega

/-! what is too great to be told whole -/

/-- at least B, with that sign; or infinite. -/
def Lg (B : Nat) (s : Bool) (d : Datum) : Prop := (∃ m p, d = .number s m p ∧ ∃ k : Nat, 0 ≤ p + k ∧ B * 2 ^ k ≤ m * 2 ^ (p + k).toNat) ∨ d = .infinity s

theorem Lg.at_ {B m : Nat} {p : Int} {k : Nat} (hk : 0 ≤ p + k) (h : B * 2 ^ k ≤ m * 2 ^ (p + k).toNat) (j : Nat) (hj : 0 ≤ p + j) : B * 2 ^ j ≤ m * 2 ^ (p + j).toNat := by
  have e : (p + j).toNat + k = (p + k).toNat + j := by omega
  have h1 := Nat.mul_le_mul_right (2 ^ j) h
  rw [Nat.mul_assoc, Nat.mul_assoc, ← Nat.pow_add, ← Nat.pow_add, ← e] at h1
  have h2 : B * 2 ^ j * 2 ^ k ≤ m * 2 ^ (p + j).toNat * 2 ^ k := by
    rw [Nat.mul_assoc, Nat.mul_assoc, ← Nat.pow_add, ← Nat.pow_add, Nat.add_comm j k]; exact h1
  exact Nat.le_of_mul_le_mul_right h2 (Nat.two_pow_pos k)

theorem Lg.mono {B C : Nat} {s : Bool} {d : Datum} (h : Lg B s d) (hc : C ≤ B) : Lg C s d := by
  rcases h with ⟨m, p, e, k, hk, h⟩ | h
  · exact .inl ⟨m, p, e, k, hk, Nat.le_trans (Nat.mul_le_mul_right _ hc) h⟩
  · exact .inr h

theorem dt_lg {n : Int} {d : Datum} {B : Nat} (h : Dt n d) (h0 : n ≠ 0) (hB : B ≤ n.natAbs) : Lg B (decide (n < 0)) d := by
  obtain ⟨s, m, p, rfl, h⟩ := h
  have hk : 0 ≤ p + ((-p).toNat : Nat) := by omega
  rw [← sign_of h h0]
  exact .inl ⟨m, p, rfl, _, hk, by rw [natAbs_of h _ hk]; exact Nat.mul_le_mul_right _ hB⟩

theorem read_lg (s : Bool) (t r : Nat) (ht : t ≤ 1023) (h : (1023 + t) * 4503599627370496 ≤ r) (h2 : r ≤ 2047 * 4503599627370496) : Lg (2 ^ t) s (double.read (double.word s r)) := by
  have h63 : (2 : Nat) ^ 63 = 9223372036854775808 := by decide
  rw [read_rung s r (by omega), binade_d, infRung_d, if_neg (by omega)]
  by_cases h3 : r < 2047 * 4503599627370496
  · rw [if_pos h3, leastPlace_d]
    obtain ⟨K, hK⟩ : ∃ K : Nat, K = 1074 := ⟨_, rfl⟩
    refine .inl ⟨_, _, rfl, K, by omega, ?_⟩
    have hd : 1022 + t ≤ r / 4503599627370496 - 1 := by omega
    have e : (-1074 + ((r / 4503599627370496 - 1 : Nat) : Int) + (K : Int)).toNat = r / 4503599627370496 - 1 := by omega
    rw [e]
    have e2 : t + K = 52 + (1022 + t) := by omega
    have h5 : 2 ^ 52 ≤ 4503599627370496 + r % 4503599627370496 := by rw [p52]; omega
    rw [← Nat.pow_add, e2, Nat.pow_add]
    exact Nat.mul_le_mul h5 (Nat.pow_le_pow_right (by decide) hd)
  · rw [if_neg h3, if_pos (by omega)]
    exact .inr rfl

theorem arith_t (t : Nat) (h : t ≤ 1023) : (1023 + t) * 4503599627370496 ≤ 2047 * 4503599627370496 := by omega

theorem write_lg {t : Nat} {s : Bool} {d : Datum} (ht : t ≤ 1023) (h : Lg (2 ^ t) s d) : Lg (2 ^ t) s (double.read (double.write d)) := by
  rcases h with ⟨m, p, rfl, k, hk, h⟩ | rfl
  · show Lg _ s (double.read (double.nearest s m p))
    have hm : m ≠ 0 := by
      intro e
      rw [e] at h
      have := Nat.mul_pos (Nat.two_pow_pos t) (Nat.two_pow_pos k)
      omega
    have hlog : (t : Int) ≤ p + m.log2 := by
      have h1 : 2 ^ (t + k) ≤ m * 2 ^ (p + k).toNat := by rw [Nat.pow_add]; exact h
      have h2 := (Nat.le_log2 (Nat.mul_ne_zero hm (by have := Nat.two_pow_pos (p + k).toNat; omega))).2 h1
      rw [log2_mul_pow _ _ hm] at h2
      omega
    unfold Format.nearest
    rw [if_neg hm]
    have hl : max (p + m.log2 - double.fractionBits) double.leastPlace = p + m.log2 - 52 := by
      rw [fractionBits_d, leastPlace_d]; omega
    simp only [hl]
    have hmm := (Nat.log2_eq_iff (k := m.log2) hm).1 rfl
    have hkept : 2 ^ 52 ≤ Toward.even.cut s (m <<< (p - (p + m.log2 - 52)).toNat) (p + m.log2 - 52 - p).toNat := by
      have e1 : (p - (p + m.log2 - 52)).toNat = 52 - m.log2 := by omega
      have e2 : (p + m.log2 - 52 - p).toNat = m.log2 - 52 := by omega
      rw [e1, e2]
      unfold Toward.cut
      simp only [Nat.shiftLeft_eq, log2_mul_pow _ _ hm]
      rw [Nat.min_eq_left (by omega), Nat.one_mul]
      refine Nat.le_trans ?_ (Nat.le_add_right _ _)
      rw [Nat.le_div_iff_mul_le (Nat.two_pow_pos _), ← Nat.pow_add]
      have e3 : 52 + (m.log2 - 52) = m.log2 + (52 - m.log2) := by omega
      rw [e3, Nat.pow_add]
      exact Nat.mul_le_mul_right _ hmm.1
    generalize Toward.even.cut s (m <<< (p - (p + m.log2 - 52)).toNat) (p + m.log2 - 52 - p).toNat = K at hkept ⊢
    rw [p52] at hkept
    rw [binade_d, infRung_d, leastPlace_d]
    have hL : 1022 + t ≤ (p + m.log2 - 52 - (-1074)).toNat := by omega
    generalize (p + m.log2 - 52 - (-1074)).toNat = L at hL ⊢
    have h9 := arith_lg t L K hL hkept
    exact read_lg s t _ ht (Nat.le_min.2 ⟨h9, arith_t t ht⟩) (Nat.min_le_right _ _)
  · show Lg _ s (double.read (double.word s double.infRung))
    rw [infRung_d]
    exact read_lg s t _ ht (arith_t t ht) (Nat.le_refl _)

end Go.Proofs.YtecomfhbdonkbaaGreatDoor.Flo
