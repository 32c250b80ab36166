/- What is printed, and that it is read as it was: plain. -/
import Derived.Test.YtecomfhbdonkbaaGreatDoorEh
import Derived.Lib.ItoaNum
namespace Go.Proofs.YtecomfhbdonkbaaGreatDoor
set_option linter.unusedVariables false
set_option linter.unusedSimpArgs false

def chD (n : Nat) : UInt8 := UInt8.ofNat (48 + n % 10)
theorem chD_dig (n : Nat) : digC (chD n) = true := by
  unfold chD
  have key : ∀ k : Fin 10, digC (UInt8.ofNat (48 + k.val)) = true := by decide +kernel
  exact key ⟨n % 10, Nat.mod_lt _ (by decide)⟩
theorem chD_val (n : Nat) : (chD n).toNat - 48 = n % 10 := by
  unfold chD
  have key : ∀ k : Fin 10, (UInt8.ofNat (48 + k.val)).toNat - 48 = k.val := by decide +kernel
  exact key ⟨n % 10, Nat.mod_lt _ (by decide)⟩
theorem chD_ne (n : Nat) (h : ¬ n % 10 = 0) : chD n ≠ 48 := by
  unfold chD
  have key : ∀ k : Fin 10, ¬ k.val = 0 → UInt8.ofNat (48 + k.val) ≠ 48 := by decide +kernel
  exact key ⟨n % 10, Nat.mod_lt _ (by decide)⟩ h

/-- the last L digits of n. -/
def fixL : Nat → Nat → List UInt8
  | 0, _ => []
  | L + 1, n => fixL L (n / 10) ++ [chD n]
theorem fixL_length : ∀ (L n : Nat), (fixL L n).length = L
  | 0, _ => rfl
  | L + 1, n => by unfold fixL; rw [List.length_append, fixL_length L]; rfl
theorem fixL_dig : ∀ (L n : Nat), ∀ c ∈ fixL L n, digC c = true
  | 0, _, c, h => by cases h
  | L + 1, n, c, h => by
    unfold fixL at h
    rcases List.mem_append.1 h with h | h
    · exact fixL_dig L _ c h
    · rw [List.mem_singleton.1 h]; exact chD_dig n
theorem dval_append (a : Nat) (l l2 : List UInt8) : dval a (l ++ l2) = dval (dval a l) l2 := by unfold dval; rw [List.foldl_append]
theorem fixL_val : ∀ (L n : Nat), n < 10 ^ L → dval 0 (fixL L n) = n
  | 0, n, h => by
    have : n = 0 := by simpa using h
    subst this; rfl
  | L + 1, n, h => by
    unfold fixL
    rw [dval_append, fixL_val L (n / 10) (by rw [Nat.pow_succ] at h; omega)]
    show 10 * (n / 10) + ((chD n).toNat - 48) = n
    rw [chD_val]; omega
theorem fixL_zero : ∀ (L : Nat), fixL L 0 = List.replicate L 48
  | 0 => rfl
  | L + 1 => by
    unfold fixL
    rw [show 0 / 10 = 0 from rfl, fixL_zero L, show chD 0 = 48 from rfl, ← List.replicate_succ']
theorem fixL_dec : ∀ (k n : Nat), Lib.nDigits n ≤ k → List.replicate (k - Lib.nDigits n) 48 ++ Lib.decDigits n = fixL k n
  | 0, n, h => by have := Lib.nDigits_pos n; omega
  | k + 1, n, h => by
    unfold fixL
    by_cases h10 : n < 10
    · rw [Lib.nDigits_small h10, Lib.decDigits, dif_pos h10, show n / 10 = 0 by omega, fixL_zero, show chD n = UInt8.ofNat (48 + n) by unfold chD; rw [Nat.mod_eq_of_lt h10]]
      rfl
    · rw [Lib.nDigits_big h10] at h ⊢
      rw [Lib.decDigits, dif_neg h10, ← fixL_dec k (n / 10) (by omega), List.append_assoc, show k + 1 - (Lib.nDigits (n / 10) + 1) = k - Lib.nDigits (n / 10) by omega]
      rfl
/-- how many digits are printed. -/
def lenD (n s : Nat) : Nat := max (s + 1) (Lib.nDigits n)
/-- the digits, at least s + 1. -/
def padL (n s : Nat) : List UInt8 := fixL (lenD n s) n
theorem padL_length (n s : Nat) : (padL n s).length = lenD n s := fixL_length _ _
theorem padL_val (n s : Nat) : dval 0 (padL n s) = n := fixL_val _ _ (Nat.lt_of_lt_of_le (Lib.lt_pow_nDigits n) (Nat.pow_le_pow_right (by decide) (Nat.le_max_right _ _)))
theorem lenD_le (n s : Nat) (hn : n ≤ 999999999999999) (hs : s ≤ 6) : lenD n s ≤ 15 := by
  unfold lenD
  have h : Lib.nDigits n ≤ 15 := by
    rcases Nat.lt_or_ge 15 (Lib.nDigits n) with h | h
    · exfalso
      obtain ⟨j, hj⟩ : ∃ j, Lib.nDigits n = j + 1 := ⟨Lib.nDigits n - 1, by omega⟩
      have key : ∀ (k u : Nat), k + 1 ≤ Lib.nDigits u → 10 ^ k ≤ u ∨ k = 0 := by
        intro k
        induction k with
        | zero => intro u _; exact .inr rfl
        | succ k ih =>
          intro u hu
          by_cases h10 : u < 10
          · rw [Lib.nDigits_small h10] at hu; omega
          · rw [Lib.nDigits_big h10] at hu
            rcases ih (u / 10) (by omega) with h | h
            · left; rw [Nat.pow_succ]; omega
            · left; subst h; simp; omega
      rcases key 15 n h with h | h
      · have : (10 : Nat) ^ 15 = 1000000000000000 := by decide
        omega
      · cases h
    · exact h
  omega

/-- printed. -/
def absP (n s : Nat) : List UInt8 := (padL n s).take (lenD n s - s) ++ (if s = 0 then [] else 46 :: (padL n s).drop (lenD n s - s))
def printL (m : Int) (s : Nat) : List UInt8 := if m < 0 then 45 :: absP m.natAbs s else absP m.natAbs s

theorem takeWhile_all {p : UInt8 → Bool} : ∀ (l r : List UInt8), (∀ c ∈ l, p c = true) → (∀ c, r.head? = some c → p c = false) → (l ++ r).takeWhile p = l ∧ (l ++ r).dropWhile p = r
  | [], r, _, hr => by
    cases r with
    | nil => exact ⟨rfl, rfl⟩
    | cons c r => have := hr c rfl; simp [this]
  | c :: l, r, h, hr => by
    have h1 := h c (by simp)
    have := takeWhile_all l r (fun x hx => h x (by simp [hx])) hr
    simp [h1, this]

theorem abs_body (n s : Nat) (hg : s = 0 ∨ ¬ n % 10 = 0) : bodyD (absP n s) = some (n, s) := by
  have hl := padL_length n s
  have hv := padL_val n s
  have hlen : s + 1 ≤ lenD n s := Nat.le_max_left _ _
  have hdig : ∀ c ∈ padL n s, digC c = true := fixL_dig _ _
  have hAB := List.take_append_drop (lenD n s - s) (padL n s)
  have hAlen : ((padL n s).take (lenD n s - s)).length = lenD n s - s := by rw [List.length_take, hl]; omega
  have hBlen : ((padL n s).drop (lenD n s - s)).length = s := by rw [List.length_drop, hl]; omega
  have hlast : s ≠ 0 → ∃ B0, (padL n s).drop (lenD n s - s) = B0 ++ [chD n] := by
    intro hs
    obtain ⟨L, hL⟩ : ∃ L, lenD n s = L + 1 := ⟨lenD n s - 1, by omega⟩
    refine ⟨(fixL L (n / 10)).drop (lenD n s - s), ?_⟩
    show (fixL (lenD n s) n).drop _ = _
    rw [hL]
    show (fixL L (n / 10) ++ [chD n]).drop _ = _
    rw [List.drop_append_of_le_length (by rw [fixL_length]; omega)]
  unfold absP
  generalize hA : (padL n s).take (lenD n s - s) = A at *
  generalize hB : (padL n s).drop (lenD n s - s) = B at *
  have hdA : ∀ c ∈ A, digC c = true := fun c hc => hdig c (by rw [← hAB]; exact List.mem_append_left _ hc)
  have hdB : ∀ c ∈ B, digC c = true := fun c hc => hdig c (by rw [← hAB]; exact List.mem_append_right _ hc)
  have hAne : A ≠ [] := by rintro rfl; simp at hAlen; omega
  rw [← hAB, dval_append] at hv
  by_cases h0 : s = 0
  · subst h0
    have hBn : B = [] := List.eq_nil_of_length_eq_zero hBlen
    subst hBn
    rw [if_pos rfl]
    have := takeWhile_all A [] hdA (fun c h => by cases h)
    unfold bodyD
    rw [this.1, this.2, if_neg hAne]
    show some (dval 0 A, 0) = _
    have : dval 0 A = n := hv
    rw [this]
  · rw [if_neg h0]
    have h1 := takeWhile_all A (46 :: B) hdA (fun c h => by simp at h; subst h; decide)
    have h2 := takeWhile_all B [] hdB (fun c h => by cases h)
    rw [List.append_nil] at h2
    have hBne : B ≠ [] := by rintro rfl; simp at hBlen; omega
    obtain ⟨B0, hB0⟩ := hlast h0
    have htr : Lib.trimRightB B 48 = B := by
      have hc := chD_ne n (hg.resolve_left h0)
      rw [hB0]
      unfold Lib.trimRightB
      rw [List.reverse_append]
      simp [List.dropWhile_cons, hc]
    unfold bodyD
    rw [h1.1, h1.2, if_neg hAne]
    show (if (46 : UInt8) = 46 ∧ _ then _ else _) = _
    rw [h2.1, h2.2, if_pos ⟨rfl, hBne, rfl⟩, htr, hv, hBlen]

theorem abs_head (n s : Nat) : ∃ c r, absP n s = c :: r ∧ digC c = true := by
  have hl := padL_length n s
  have hlen : s + 1 ≤ lenD n s := Nat.le_max_left _ _
  have hdig : ∀ c ∈ padL n s, digC c = true := fixL_dig _ _
  unfold absP
  cases hp : padL n s with
  | nil => rw [hp] at hl; simp at hl; omega
  | cons c r =>
    obtain ⟨k, hk⟩ : ∃ k, lenD n s - s = k + 1 := ⟨lenD n s - s - 1, by omega⟩
    rw [hk]
    exact ⟨c, _, rfl, hdig c (by rw [hp]; simp)⟩

/-- what was printed is read as it was. -/
theorem print_back (m s : Int) (h : GoodD m s) : ansD (signD (printL m s.toNat)).1 (bodyD (signD (printL m s.toNat)).2) = .tuple #[.agg #[.int .i64 m, .int .i64 s], .bool true] := by
  obtain ⟨h1, h2, h3, h4, h5⟩ := h
  obtain ⟨k, rfl⟩ : ∃ k : Nat, s = k := ⟨s.toNat, by omega⟩
  simp only [Int.toNat_natCast]
  have hg : k = 0 ∨ ¬ m.natAbs % 10 = 0 := by
    rcases h5 with h | h
    · exact .inl (by omega)
    · exact .inr (by omega)
  have hb := abs_body m.natAbs k hg
  obtain ⟨c, r, hc, hd⟩ := abs_head m.natAbs k
  have hd2 : 48 ≤ c.toNat := ((digC_iff c).1 hd).1
  have hne45 : ¬ (45 = c) := by rintro rfl; revert hd2; decide
  have hne43 : ¬ (43 = c) := by rintro rfl; revert hd2; decide
  have hs : signD (printL m k) = (decide (m < 0), absP m.natAbs k) := by
    unfold printL
    by_cases hm : m < 0
    · rw [if_pos hm]
      unfold signD
      simp [Lib.hasPrefix, Lib.trimPrefix, hm]
    · rw [if_neg hm, hc]
      unfold signD
      simp [Lib.hasPrefix, Lib.trimPrefix, hm, hne45, hne43]
  rw [hs]
  show ansD (decide (m < 0)) (bodyD (absP m.natAbs k)) = _
  rw [hb]
  unfold ansD
  show decV (if decide (m < 0) = true then -(m.natAbs : Int) else (m.natAbs : Int)) k = _
  have e : (if decide (m < 0) = true then -(m.natAbs : Int) else (m.natAbs : Int)) = m := by
    by_cases hm : m < 0
    · rw [if_pos (by simpa using hm)]; omega
    · rw [if_neg (by simpa using hm)]; omega
  rw [e]
  unfold decV
  have hsh : shrt m k = (m, k) := by
    unfold shrt
    rw [if_pos (by have : (2 : Nat) ^ 53 = 9007199254740992 := by decide
                   omega)]
    rcases h5 with h | h
    · have : k = 0 := by omega
      subst this; rfl
    · exact nrm_stay _ _ (by omega)
  rw [hsh, if_pos (by simp [fitsL]; omega)]
end Go.Proofs.YtecomfhbdonkbaaGreatDoor
