/- text and Print of the reference. -/
import Derived.Test.YtodhklapikfpoaaDoorPp
import Derived.Test.YtodhklapikfpoaaDoorRd
import Derived.Deep.RegionLaw
namespace Go.Proofs.YtodhklapikfpoaaDoor
open Go.RowKit Go.Shelf
set_option maxRecDepth 100000
set_option linter.unusedVariables false
set_option linter.unusedSimpArgs false

theorem fixL_front : ∀ (j n : Nat), fixL (j + 1) n = chD (n / 10 ^ j) :: fixL j n
  | 0, n => by
    show [] ++ [chD n] = _
    simp [fixL]
  | j + 1, n => by
    show fixL (j + 1) (n / 10) ++ [chD n] = _
    rw [fixL_front j (n / 10), Nat.div_div_eq_div_mul, show 10 * 10 ^ j = 10 ^ (j + 1) by rw [Nat.pow_succ]; omega]
    rfl
theorem more_digits (n s j : Nat) : (0 < n / 10 ^ j ∨ j < s + 1) ↔ j < lenD n s := by
  unfold lenD
  have key : 0 < n / 10 ^ j → j < Lib.nDigits n := by
    intro h
    rcases Nat.lt_or_ge j (Lib.nDigits n) with h1 | h1
    · exact h1
    · exfalso
      have := Lib.lt_pow_nDigits n
      have h2 : 10 ^ Lib.nDigits n ≤ 10 ^ j := Nat.pow_le_pow_right (by decide) h1
      rw [Nat.div_eq_of_lt (by omega)] at h
      omega
  have key2 : ∀ (k u : Nat), k + 1 ≤ Lib.nDigits u → 10 ^ k ≤ u ∨ k = 0 := by
    intro k
    induction k with
    | zero => intro u _; exact .inr rfl
    | succ k ih =>
      intro u hu
      by_cases h10 : u < 10
      · rw [Lib.nDigits_small h10] at hu; omega
      · rw [Lib.nDigits_big h10] at hu
        rcases ih (u / 10) (by omega) with h | h
        · left; rw [Nat.pow_succ]; omega
        · left; subst h; simp; omega
  constructor
  · rintro (h | h)
    · have := key h; omega
    · omega
  · intro h
    by_cases hs : j < s + 1
    · exact .inr hs
    · left
      rcases key2 j n (by omega) with h1 | h1
      · exact Nat.div_pos h1 (Nat.pow_pos (by decide))
      · omega

theorem chr_str (d : Nat) (hd : d ≤ 9) (w : World) : (convert 90 9 (Value.slice (some ⟨w.heap.size, 0, none⟩) 1 1)).run Tryd.prog (w.alloc (.cells #[.int .u8 (48 + (d : Int))] 5)) = .ok (.string ⟨#[chD d]⟩) (w.alloc (.cells #[.int .u8 (48 + (d : Int))] 5)) := by
  obtain ⟨y, hy⟩ : ∃ y, y = chD d := ⟨_, rfl⟩
  have hyn : (y.toNat : Int) = 48 + (d : Int) := by
    rw [hy]
    unfold chD
    rw [UInt8.toNat_ofNat']
    omega
  have hcb := run_convert_bytes_back (P := Tryd.prog) (w.alloc (.cells #[.int .u8 (48 + (d : Int))] 5)) 90 9 5 ⟨w.heap.size, 0, none⟩ 1 [y] Tryd.underlying90 Tryd.underlying5 Tryd.underlying9 (by
    intro q hq
    have : q = 0 := by simp at hq; omega
    subst this
    simp [Addr.add]
    omega)
  simp only [List.length_cons, List.length_nil, Nat.zero_add] at hcb
  rw [← hy]
  exact hcb
theorem chD_mod (n : Nat) : chD (n % 10) = chD n := by unfold chD; rw [Nat.mod_mod]

end Go.Proofs.YtodhklapikfpoaaDoor
