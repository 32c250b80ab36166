/- Floats that are too great to be told whole; quotients; words. -/
import Derived.Test.YtecomfhbdonkbaaGreatDoorFa
namespace Go.Proofs.YtecomfhbdonkbaaGreatDoor.Flo
open Ieee
set_option linter.unusedSimpArgs false
set_option linter.unusedVariables false

theorem product_lg {x y : Datum} {B : Nat} {s : Bool} {b : Int} (hx : Lg B s x) (hy : Dt b y) (h0 : b ≠ 0) : ∃ d, x.product y = some d ∧ Lg B (s ^^ decide (b < 0)) d := by
  obtain ⟨t, n, j, rfl, hy⟩ := hy
  have hs := sign_of hy h0
  rw [← hs]
  rcases hx with ⟨m, p, rfl, k, hk, h⟩ | rfl
  · refine ⟨_, rfl, .inl ⟨_, _, rfl, k + (-j).toNat, by omega, ?_⟩⟩
    have hj : 0 ≤ j + ((-j).toNat : Nat) := by omega
    have h1 := natAbs_of hy _ hj
    have h2 : 1 * 2 ^ (-j).toNat ≤ n * 2 ^ (j + ((-j).toNat : Nat)).toNat := by
      rw [h1]; exact Nat.mul_le_mul_right _ (by omega)
    have e : (p + j + ((k + (-j).toNat : Nat) : Int)).toNat = (p + k).toNat + (j + ((-j).toNat : Nat)).toNat := by omega
    rw [e, Nat.pow_add, Nat.pow_add]
    have h3 := Nat.mul_le_mul h h2
    calc B * (2 ^ k * 2 ^ (-j).toNat) = B * 2 ^ k * (1 * 2 ^ (-j).toNat) := by rw [Nat.one_mul, Nat.mul_assoc]
      _ ≤ _ := h3
      _ = _ := by simp only [Nat.mul_assoc, Nat.mul_left_comm]
  · have hn : n ≠ 0 := by
      intro e
      subst e
      obtain ⟨k, hk, h⟩ := hy
      rw [signed_eq] at h
      have : b * 2 ^ k = 0 := by rw [← h]; simp
      rcases Int.mul_eq_zero.1 this with h | h
      · exact h0 h
      · have := two_pos k; omega
    refine ⟨.infinity (s ^^ t), ?_, .inr rfl⟩
    show (if n = 0 then none else some _) = _
    rw [if_neg hn]

theorem sum_lg {x y : Datum} {B C : Nat} {s : Bool} {b : Int} (hx : Lg B s x) (hy : Dt b y) (hC : if s then b ≤ C else -b ≤ C) (hB : C < B) : ∃ d, x.sum y = some d ∧ Lg (B - C) s d := by
  obtain ⟨t, n, j, rfl, hy⟩ := hy
  rcases hx with ⟨m, i, rfl, k0, hk0, h0⟩ | rfl
  · refine ⟨_, rfl, ?_⟩
    obtain ⟨K, hK⟩ : ∃ K : Nat, 0 ≤ min i j + (K : Int) := ⟨(- min i j).toNat, by omega⟩
    have hm := Lg.at_ hk0 h0 K (by omega)
    have hn := base_at hy (b := min i j) (by omega) K hK
    generalize hT : signed s m (i - min i j).toNat + signed t n (j - min i j).toNat = T
    have hT2 : T * 2 ^ (min i j + K).toNat = (if s then -1 else 1) * ((m * 2 ^ (i + K).toNat : Nat) : Int) + b * 2 ^ K := by
      rw [← hT, Int.add_mul, hn, signed_eq, Int.mul_assoc, Int.mul_assoc, ← Int.pow_add]
      have e : (i - min i j).toNat + (min i j + (K : Int)).toNat = (i + K).toNat := by omega
      rw [e]
      simp [Int.natCast_mul, Int.natCast_pow]
    have hm' : (B : Int) * 2 ^ K ≤ ((m * 2 ^ (i + K).toNat : Nat) : Int) := by exact_mod_cast hm
    have hp := two_pos K
    have hq := two_pos (min i j + (K : Int)).toNat
    have hBC : ((B - C : Nat) : Int) = (B : Int) - C := by omega
    have hpos : 0 < ((B - C : Nat) : Int) * 2 ^ K := Int.mul_pos (by omega) hp
    have key : (if s then -T else T) * 2 ^ (min i j + K).toNat ≥ ((B - C : Nat) : Int) * 2 ^ K := by
      rw [hBC, Int.sub_mul]
      cases s
      · simp only [Bool.false_eq_true, if_false] at hC hT2 ⊢
        rw [hT2]
        have : -b * 2 ^ K ≤ (C : Int) * 2 ^ K := Int.mul_le_mul_of_nonneg_right hC (Int.le_of_lt hp)
        rw [Int.neg_mul] at this
        omega
      · simp only [if_true] at hC hT2 ⊢
        rw [Int.neg_mul, hT2]
        have : b * 2 ^ K ≤ (C : Int) * 2 ^ K := Int.mul_le_mul_of_nonneg_right hC (Int.le_of_lt hp)
        omega
    have hsT : 0 < (if s then -T else T) := by
      rcases Int.lt_or_le 0 (if s then -T else T) with h | h
      · exact h
      · have := Int.mul_le_mul_of_nonneg_right h (Int.le_of_lt hq)
        omega
    have habs : (T.natAbs : Int) = if s then -T else T := by
      cases s
      · simp only [Bool.false_eq_true, if_false] at hsT ⊢; omega
      · simp only [if_true] at hsT ⊢; omega
    have hT0 : T ≠ 0 := by
      cases s
      · simp only [Bool.false_eq_true, if_false] at hsT; omega
      · simp only [if_true] at hsT; omega
    refine .inl ⟨T.natAbs, min i j, ?_, K, hK, ?_⟩
    · congr 1
      rw [if_neg hT0]
      cases s
      · simp only [Bool.false_eq_true, if_false] at hsT; simp; omega
      · simp only [if_true] at hsT; simp; omega
    · rw [← habs] at key
      exact_mod_cast key
  · exact ⟨.infinity s, rfl, .inr rfl⟩

theorem order_lg {x y : Datum} {B : Nat} {c : Int} (hx : Lg B false x) (hy : Dt c y) (h : c < B) : x.order y = some .gt := by
  obtain ⟨t, n, j, rfl, hy⟩ := hy
  rcases hx with ⟨m, i, rfl, k0, hk0, h0⟩ | rfl
  · show some (compare _ _) = _
    congr 1
    obtain ⟨K, hK⟩ : ∃ K : Nat, 0 ≤ min i j + (K : Int) := ⟨(- min i j).toNat, by omega⟩
    have hm := Lg.at_ hk0 h0 K (by omega)
    have hn := base_at hy (b := min i j) (by omega) K hK
    have hq := two_pos (min i j + (K : Int)).toNat
    rw [← compare_mul _ _ _ hq, hn, signed_eq]
    simp only [Bool.false_eq_true, if_false, Int.one_mul]
    rw [Int.mul_assoc, ← Int.pow_add]
    have e : (i - min i j).toNat + (min i j + (K : Int)).toNat = (i + K).toNat := by omega
    rw [e]
    have hm' : (B : Int) * 2 ^ K ≤ (m : Int) * 2 ^ (i + K).toNat := by exact_mod_cast hm
    have h2 : c * 2 ^ K < (B : Int) * 2 ^ K := Int.mul_lt_mul_of_pos_right h (two_pos K)
    have h3 : c * 2 ^ K < (m : Int) * 2 ^ (i + K).toNat := by omega
    simp only [compare, compareOfLessAndEq]
    rw [if_neg (by omega), if_neg (by omega)]
  · rfl

theorem order_lg_neg {x y : Datum} {B : Nat} {c : Int} (hx : Lg B true x) (hy : Dt c y) (h : -(B : Int) < c) : x.order y = some .lt := by
  obtain ⟨t, n, j, rfl, hy⟩ := hy
  rcases hx with ⟨m, i, rfl, k0, hk0, h0⟩ | rfl
  · show some (compare _ _) = _
    congr 1
    obtain ⟨K, hK⟩ : ∃ K : Nat, 0 ≤ min i j + (K : Int) := ⟨(- min i j).toNat, by omega⟩
    have hm := Lg.at_ hk0 h0 K (by omega)
    have hn := base_at hy (b := min i j) (by omega) K hK
    have hq := two_pos (min i j + (K : Int)).toNat
    rw [← compare_mul _ _ _ hq, hn, signed_eq]
    simp only [if_true]
    rw [Int.mul_assoc, Int.mul_assoc, ← Int.pow_add]
    have e : (i - min i j).toNat + (min i j + (K : Int)).toNat = (i + K).toNat := by omega
    rw [e]
    have hm' : (B : Int) * 2 ^ K ≤ (m : Int) * 2 ^ (i + K).toNat := by exact_mod_cast hm
    have h2 : -(B : Int) * 2 ^ K < c * 2 ^ K := Int.mul_lt_mul_of_pos_right h (two_pos K)
    rw [Int.neg_mul] at h2
    have h3 : -1 * ((m : Int) * 2 ^ (i + K).toNat) < c * 2 ^ K := by omega
    simp only [compare, compareOfLessAndEq]
    rw [if_pos h3]
  · rfl

theorem order_lg_le {x y : Datum} {B : Nat} {c : Int} (hx : Lg B false x) (hy : Dt c y) (h : c ≤ B) : x.order y = some .gt ∨ x.order y = some .eq := by
  obtain ⟨t, n, j, rfl, hy⟩ := hy
  rcases hx with ⟨m, i, rfl, k0, hk0, h0⟩ | rfl
  · show some (compare _ _) = _ ∨ some (compare _ _) = _
    obtain ⟨K, hK⟩ : ∃ K : Nat, 0 ≤ min i j + (K : Int) := ⟨(- min i j).toNat, by omega⟩
    have hm := Lg.at_ hk0 h0 K (by omega)
    have hn := base_at hy (b := min i j) (by omega) K hK
    have hq := two_pos (min i j + (K : Int)).toNat
    rw [← compare_mul _ _ _ hq, hn, signed_eq]
    simp only [Bool.false_eq_true, if_false, Int.one_mul]
    rw [Int.mul_assoc, ← Int.pow_add]
    have e : (i - min i j).toNat + (min i j + (K : Int)).toNat = (i + K).toNat := by omega
    rw [e]
    have hm' : (B : Int) * 2 ^ K ≤ (m : Int) * 2 ^ (i + K).toNat := by exact_mod_cast hm
    have h2 : c * 2 ^ K ≤ (B : Int) * 2 ^ K := Int.mul_le_mul_of_nonneg_right h (Int.le_of_lt (two_pos K))
    have h3 : c * 2 ^ K ≤ (m : Int) * 2 ^ (i + K).toNat := by omega
    simp only [compare, compareOfLessAndEq]
    rw [if_neg (by omega)]
    by_cases e9 : (m : Int) * 2 ^ (i + K).toNat = c * 2 ^ K
    · right; rw [if_pos e9]
    · left; rw [if_neg e9]
  · exact .inl rfl

/-! words -/

/-- the word is too great: at least B, with that sign, or infinite. -/
def Big (B : Nat) (s : Bool) (w : Nat) : Prop := Lg B s (double.read w) ∧ w < 2 ^ 64

theorem Big.mono {B C : Nat} {s : Bool} {w : Nat} (h : Big B s w) (hc : C ≤ B) : Big C s w := ⟨h.1.mono hc, h.2⟩

theorem write_big {t : Nat} {s : Bool} {d : Datum} (ht : t ≤ 1023) (h : Lg (2 ^ t) s d) : Big (2 ^ t) s (double.write d) :=
  ⟨write_lg ht h, by have := double.write_lt d; exact this⟩

theorem mul_big {x y t : Nat} {s : Bool} {b : Int} (ht : t ≤ 1023) (hx : Big (2 ^ t) s x) (hy : Rep y b) (h0 : b ≠ 0) :
    ∃ r, double.mul x y = some r ∧ Big (2 ^ t) (s ^^ decide (b < 0)) r := by
  obtain ⟨d, h1, h2⟩ := product_lg hx.1 hy.dt h0
  exact ⟨_, by simp [Format.mul, h1], write_big ht h2⟩

theorem mul_over {x y t : Nat} {a b : Int} (ht : t ≤ 1023) (hx : Rep x a) (hy : Rep y b) (h : 2 ^ t ≤ (a * b).natAbs) :
    ∃ r, double.mul x y = some r ∧ Big (2 ^ t) (decide (a * b < 0)) r := by
  obtain ⟨d, h1, h2⟩ := product_dt hx.dt hy.dt
  have h0 : a * b ≠ 0 := by
    intro e
    rw [e] at h
    have := Nat.two_pow_pos t
    simp at h
  exact ⟨_, by simp [Format.mul, h1], write_big ht (dt_lg h2 h0 h)⟩

theorem add_over {x y t : Nat} {a b : Int} (ht : t ≤ 1023) (hx : Rep x a) (hy : Rep y b) (h : 2 ^ t ≤ (a + b).natAbs) :
    ∃ r, double.add x y = some r ∧ Big (2 ^ t) (decide (a + b < 0)) r := by
  obtain ⟨d, h1, h2⟩ := sum_dt hx.dt hy.dt
  have h0 : a + b ≠ 0 := by
    intro e
    rw [e] at h
    have := Nat.two_pow_pos t
    simp at h
  exact ⟨_, by simp [Format.add, h1], write_big ht (dt_lg h2 h0 h)⟩

theorem add_big {x y t B C : Nat} {s : Bool} {b : Int} (ht : t ≤ 1023) (hx : Big B s x) (hy : Rep y b) (hC : if s then b ≤ C else -b ≤ C) (hB : C < B) (hr : 2 ^ t ≤ B - C) :
    ∃ r, double.add x y = some r ∧ Big (2 ^ t) s r := by
  obtain ⟨d, h1, h2⟩ := sum_lg hx.1 hy.dt hC hB
  exact ⟨_, by simp [Format.add, h1], write_big ht (h2.mono hr)⟩

theorem sum_comm (x y : Datum) : x.sum y = y.sum x := by
  cases x <;> cases y <;> simp only [Datum.sum]
  · rename_i s m i t n j
    rw [Int.min_comm, Int.add_comm, Bool.and_comm]
  · rename_i s t
    by_cases h : s = t
    · subst h; simp
    · rw [if_neg h, if_neg (Ne.symm h)]

theorem add_comm_f (x y : Nat) : double.add x y = double.add y x := by
  unfold Format.add
  rw [sum_comm]

theorem order_big {x y B : Nat} {c : Int} (hx : Big B false x) (hy : Rep y c) (h : c < B) : double.order x y = some .gt := order_lg hx.1 hy.dt h
theorem order_big_neg {x y B : Nat} {c : Int} (hx : Big B true x) (hy : Rep y c) (h : -(B : Int) < c) : double.order x y = some .lt := order_lg_neg hx.1 hy.dt h
theorem order_big_le {x y B : Nat} {c : Int} (hx : Big B false x) (hy : Rep y c) (h : c ≤ B) : double.order x y = some .gt ∨ double.order x y = some .eq := order_lg_le hx.1 hy.dt h

/-- a / b, where it is whole. -/
theorem div_rep {x y : Nat} {b c : Int} (hx : Rep x (b * c)) (hy : Rep y b) (hb : 0 < b) (h : (b * c).natAbs < 2 ^ 53) (hb2 : b.natAbs < 2 ^ 53) : ∃ r, double.div x y = some r ∧ Rep r c := by
  have hbx : Ex b.natAbs := Ex.small (by omega) hb2
  have hyr : double.read y = .number false (b.natAbs * 2 ^ 52 / 2 ^ b.natAbs.log2) ((b.natAbs.log2 : Int) - 52) := by
    rcases hy with ⟨h0, -⟩ | ⟨hx, rfl⟩
    · omega
    · rw [read_rungOf _ hx.1 hx.2.1]
      congr 1
      simp; omega
  obtain ⟨hb1, hb3⟩ := q_bounds hbx.1
  have hbe := q_exact hbx
  generalize hlb : b.natAbs.log2 = lb at *
  generalize b.natAbs * 2 ^ 52 / 2 ^ lb = Kb at *
  have hKb0 : Kb ≠ 0 := by rw [p52] at hb1; omega
  have hKbl : Kb.log2 = 52 := (Nat.log2_eq_iff hKb0).2 ⟨hb1, hb3⟩
  have hcabs : c = 0 ∨ c.natAbs < 2 ^ 53 := by
    by_cases hc : c = 0
    · exact .inl hc
    · right
      rw [Int.natAbs_mul] at h
      have : c.natAbs ≤ b.natAbs * c.natAbs := Nat.le_mul_of_pos_left _ (by omega)
      omega
  have hcx : c = 0 ∨ Ex c.natAbs := by
    rcases hcabs with h | h
    · exact .inl h
    · by_cases hc : c = 0
      · exact .inl hc
      · exact .inr (Ex.small (by omega) h)
  by_cases hc : c = 0
  · subst hc
    have hz : ∃ s, double.read x = .number s 0 double.leastPlace := by
      rcases hx with ⟨-, rfl | rfl⟩ | ⟨hx, -⟩
      · exact ⟨false, by rw [read_rung _ _ (by decide), if_pos (by decide)]⟩
      · exact ⟨true, by rw [read_rung _ _ (by decide), if_pos (by decide)]⟩
      · exact absurd (by simp) hx.1
    obtain ⟨s, hs⟩ := hz
    refine ⟨double.write (.number (s ^^ false) (2 * ((0 <<< (54 + Kb.log2 - Nat.log2 0)) / Kb) + (0 <<< (54 + Kb.log2 - Nat.log2 0) % Kb != 0).toNat) (double.leastPlace - ((lb : Int) - 52) - (54 + Kb.log2 - Nat.log2 0 : Nat) - 1)), ?_, ?_⟩
    · unfold Format.div
      rw [hs, hyr]
      unfold Datum.quotient
      simp only [if_neg hKb0, fractionBits_d, Option.map_some]
    · apply write_rep _ (.inl rfl)
      refine ⟨_, _, _, rfl, ?_⟩
      simp only [Nat.zero_shiftLeft, Nat.zero_div, Nat.zero_mod, Nat.mul_zero]
      refine ⟨(-(double.leastPlace - ((lb : Int) - 52) - ((54 + Kb.log2 - Nat.log2 0 : Nat) : Int) - 1)).toNat, by omega, ?_⟩
      rw [signed_eq]
      simp
  · have h0 : b * c ≠ 0 := Int.mul_ne_zero (by omega) hc
    have hax : Ex (b * c).natAbs := Ex.small (by omega) h
    have hxr : double.read x = .number (decide (b * c < 0)) ((b * c).natAbs * 2 ^ 52 / 2 ^ (b * c).natAbs.log2) (((b * c).natAbs.log2 : Int) - 52) := by
      rcases hx with ⟨h0', -⟩ | ⟨hx, rfl⟩
      · exact absurd h0' h0
      · exact read_rungOf _ hx.1 hx.2.1
    obtain ⟨ha1, ha3⟩ := q_bounds hax.1
    have hae := q_exact hax
    have hla : (b * c).natAbs.log2 ≤ 52 := by
      have := (Nat.log2_lt hax.1 (k := 53)).2 h
      omega
    have hab : (b * c).natAbs = b.natAbs * c.natAbs := Int.natAbs_mul _ _
    generalize hLa : (b * c).natAbs.log2 = la at *
    generalize (b * c).natAbs * 2 ^ 52 / 2 ^ la = Ka at *
    have hKa0 : Ka ≠ 0 := by rw [p52] at ha1; omega
    have hKal : Ka.log2 = 52 := (Nat.log2_eq_iff hKa0).2 ⟨ha1, ha3⟩
    -- Ka * 2^54 = Kb * (|c| * 2^(54 + lb - la))
    have key : Ka * 2 ^ 54 = Kb * (c.natAbs * 2 ^ (54 + lb - la)) := by
      apply Nat.eq_of_mul_eq_mul_right (Nat.two_pow_pos la)
      have e1 : Ka * 2 ^ 54 * 2 ^ la = Ka * 2 ^ la * 2 ^ 54 := by simp only [Nat.mul_assoc, Nat.mul_comm, Nat.mul_left_comm]
      have e2 : Kb * (c.natAbs * 2 ^ (54 + lb - la)) * 2 ^ la = Kb * 2 ^ lb * (c.natAbs * 2 ^ 54) := by
        have x : 54 + lb - la + la = lb + 54 := by omega
        calc Kb * (c.natAbs * 2 ^ (54 + lb - la)) * 2 ^ la = Kb * (c.natAbs * 2 ^ (54 + lb - la + la)) := by rw [Nat.pow_add]; simp only [Nat.mul_assoc]
          _ = _ := by rw [x, Nat.pow_add]; simp only [Nat.mul_left_comm, Nat.mul_assoc]
      rw [e1, e2, hae, hbe, hab]
      simp only [Nat.mul_assoc, Nat.mul_comm, Nat.mul_left_comm]
    refine ⟨double.write (.number (decide (b * c < 0) ^^ false) (2 * (c.natAbs * 2 ^ (54 + lb - la)) + 0) ((la : Int) - 52 - ((lb : Int) - 52) - (54 : Nat) - 1)), ?_, ?_⟩
    · unfold Format.div
      rw [hxr, hyr]
      unfold Datum.quotient
      have em : double.fractionBits + 2 + Kb.log2 - Ka.log2 = 54 := by rw [hKal, hKbl, fractionBits_d]
      simp only [if_neg hKb0, em, Nat.shiftLeft_eq, key, Nat.mul_div_cancel_left _ (Nat.pos_of_ne_zero hKb0), Nat.mul_mod_right, Option.map_some]
      rfl
    · apply write_rep _ hcx
      refine ⟨_, _, _, rfl, 55 + lb, by omega, ?_⟩
      have e : ((la : Int) - 52 - ((lb : Int) - 52) - ((54 : Nat) : Int) - 1 + ((55 + lb : Nat) : Int)).toNat = la := by omega
      rw [e]
      have hs : decide (b * c < 0) = decide (c < 0) := by
        by_cases hc0 : c < 0
        · have := Int.mul_neg_of_pos_of_neg hb hc0
          simp [hc0, this]
        · have := Int.mul_nonneg (Int.le_of_lt hb) (show 0 ≤ c by omega)
          simp [hc0]; omega
      rw [hs, Bool.xor_false, signed_eq]
      have e3 : ((2 * (c.natAbs * 2 ^ (54 + lb - la)) + 0 : Nat) : Int) * 2 ^ la = (c.natAbs : Int) * 2 ^ (55 + lb) := by
        have x : 1 + (54 + lb - la) + la = 55 + lb := by omega
        rw [← x, Int.pow_add, Int.pow_add]
        simp [Int.natCast_mul, Int.mul_assoc, Int.mul_left_comm]
      rw [e3]
      by_cases hc0 : c < 0
      · have : (c.natAbs : Int) = -c := by omega
        simp [hc0, this, Int.neg_mul]
      · have : (c.natAbs : Int) = c := by omega
        simp [hc0, this]

/-! bits -/

theorem word_abs (s : Bool) (r : Nat) (h : r < 2 ^ 63) : double.word s r % 2 ^ 63 = double.word false r := by
  unfold Format.word
  rw [signWeight_d]
  cases s
  · simp [Nat.mod_eq_of_lt h]
  · simp [Nat.mod_eq_of_lt h]

theorem abs_rep {x : Nat} {n : Int} (h : Rep x n) : Rep (x % 2 ^ 63) (n.natAbs : Int) := by
  rcases h with ⟨rfl, rfl | rfl⟩ | ⟨hx, rfl⟩
  · exact .inl ⟨rfl, .inl (by decide)⟩
  · exact .inl ⟨rfl, .inl (by decide)⟩
  · refine .inr ⟨by simpa using hx, ?_⟩
    rw [word_abs _ _ (rungOf_lt hx.1 hx.2.1).2.2.1]
    have : decide ((n.natAbs : Int) < 0) = false := by simp
    rw [this]
    simp

theorem lt64 {w : Nat} (h : w < 2 ^ 64) : ∃ s r, r < 2 ^ 63 ∧ w = double.word s r := by
  unfold Format.word
  rw [signWeight_d]
  have h64 : (2 : Nat) ^ 64 = 18446744073709551616 := by decide
  rw [p63]
  rw [h64] at h
  by_cases h2 : w < 9223372036854775808
  · exact ⟨false, w, h2, by simp⟩
  · exact ⟨true, w - 9223372036854775808, by omega, by simp; omega⟩

theorem read_neg_of (s : Bool) (r : Nat) (h : r < 2 ^ 63) : (∃ m p, double.read (double.word s r) = .number s m p ∧ double.read (double.word false r) = .number false m p) ∨ (double.read (double.word s r) = .infinity s ∧ double.read (double.word false r) = .infinity false) ∨ (∃ f, double.read (double.word s r) = .nan s f) := by
  rw [read_rung s r h, read_rung false r h]
  by_cases h1 : r < double.binade
  · rw [if_pos h1, if_pos h1]; exact .inl ⟨_, _, rfl, rfl⟩
  · rw [if_neg h1, if_neg h1]
    by_cases h2 : r < double.infRung
    · rw [if_pos h2, if_pos h2]; exact .inl ⟨_, _, rfl, rfl⟩
    · rw [if_neg h2, if_neg h2]
      by_cases h3 : r = double.infRung
      · rw [if_pos h3, if_pos h3]; exact .inr (.inl ⟨rfl, rfl⟩)
      · rw [if_neg h3]; exact .inr (.inr ⟨_, rfl⟩)

theorem abs_big {x B : Nat} {s : Bool} (h : Big B s x) : Big B false (x % 2 ^ 63) := by
  obtain ⟨h, hl⟩ := h
  obtain ⟨s', r, hr, rfl⟩ := lt64 hl
  rw [word_abs _ _ hr]
  refine ⟨?_, ?_⟩
  · rcases read_neg_of s' r hr with ⟨m, p, e1, e2⟩ | ⟨e1, e2⟩ | ⟨f, e1⟩
    · rw [e1] at h
      rw [e2]
      rcases h with ⟨m', p', e, hh⟩ | e
      · cases e; exact .inl ⟨_, _, rfl, hh⟩
      · cases e
    · rw [e2]; exact .inr rfl
    · rw [e1] at h
      rcases h with ⟨m', p', e, -⟩ | e <;> cases e
  · unfold Format.word
    have h64 : (2 : Nat) ^ 64 = 18446744073709551616 := by decide
    rw [p63] at hr
    simp
    omega

end Go.Proofs.YtecomfhbdonkbaaGreatDoor.Flo
