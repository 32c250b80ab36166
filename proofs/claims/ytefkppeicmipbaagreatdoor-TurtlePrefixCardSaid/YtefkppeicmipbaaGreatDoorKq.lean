/- References: marks in any text. -/
import Derived.Test.YtefkppeicmipbaaGreatDoorKh
import Derived.Laws.Runes
import Derived.Laws.RangeAny
import Derived.Laws.RangeString
import Derived.Lib.OthersKept
import Derived.Deep.LoopGhost
import Derived.WalkMore
namespace Go.Proofs.YtefkppeicmipbaaGreatDoor
open Go.RowKit Go.Shelf
set_option maxRecDepth 100000
set_option linter.unusedVariables false
theorem get_bangK (s : ByteArray) (i : Nat) (h : i < s.size) : s.get! i = s[i]'h := by
  have := get_at s i h
  rw [Nat.add_zero] at this
  exact this
/-- A rune that begins with a high byte is of high bytes alone. -/
theorem decode_skipK (s : ByteArray) (pos : Nat) (h : pos < s.size) (ha : 128 ≤ (s[pos]'h).toNat) : ∀ (j : Nat) (hj : j < s.size), pos ≤ j → j < pos + (Utf8.decode s pos).2 → 128 ≤ (s[j]'hj).toNat := by
  intro j hj h1 h2
  have hn : ¬ (s.get! (pos + 0)).toNat < 0x80 := by rw [get_at s pos h]; omega
  have key : ∀ k, k < (Utf8.decode s pos).2 → k = 0 ∨ (pos + k < s.size ∧ (s.get! (pos + k)).toNat / 64 = 2) := by
    unfold Utf8.decode
    simp only [hn, if_false]
    repeat' split
    all_goals intro k hk
    all_goals simp only [Bool.and_eq_true, decide_eq_true_eq, beq_iff_eq] at *
    all_goals (rcases k with _ | _ | _ | _ | k <;> first | (left; rfl) | (right; simp_all; done) | omega)
  obtain ⟨k, rfl⟩ : ∃ k, j = pos + k := ⟨j - pos, by omega⟩
  rcases key k (by omega) with rfl | ⟨hk, hq⟩
  · exact ha
  · rw [get_bangK s (pos + k) hk] at hq
    omega
theorem decode_validK (s : ByteArray) (pos : Nat) (h : pos < s.size) (ha : 128 ≤ (s[pos]'h).toNat) : Utf8.valid ((Utf8.decode s pos).1 : Int) = true := by
  have hn : ¬ (s.get! (pos + 0)).toNat < 0x80 := by rw [get_at s pos h]; omega
  unfold Utf8.decode
  simp only [hn, if_false]
  repeat' split
  all_goals first | (simp [Utf8.valid, Utf8.runeError]; done) | (simp only [Bool.and_eq_true, decide_eq_true_eq] at *; simp_all; done) | (simp [Utf8.valid]; omega)
theorem decode_inK (s : ByteArray) (pos : Nat) (h : pos < s.size) (ha : 128 ≤ (s[pos]'h).toNat) : pos + (Utf8.decode s pos).2 ≤ s.size := by
  have hn : ¬ (s.get! (pos + 0)).toNat < 0x80 := by rw [get_at s pos h]; omega
  unfold Utf8.decode
  simp only [hn, if_false]
  repeat' split
  all_goals simp only [Bool.and_eq_true, decide_eq_true_eq, beq_iff_eq] at *
  all_goals omega
theorem indexByte_noneK : ∀ (l : List UInt8) (c : UInt8), (∀ b ∈ l, b ≠ c) → Lib.indexByte l c = -1
  | [], _, _ => rfl
  | b :: l, c, h => by
    have ih := indexByte_noneK l c (fun x hx => h x (List.mem_cons_of_mem _ hx))
    unfold Lib.indexByte
    rw [beq_eq_false_iff_ne.2 (h b (List.mem_cons_self ..)), ih]
    rfl
theorem sbyte_anyK (s : ByteArray) (c : UInt8) (w : World) : Calls Tryz.prog 83 #[.string s, .int .u8 ((c.toNat : Nat) : Int)] w fun e w' => e = .returned (.int .i64 (Lib.indexByte s.data.toList c)) ∧ w' = w := by
  have h := Any.strings_IndexByte (P := Tryz.prog) (ρ := Tryz.lays153_ren) { Tryz.lays153 with } s ((c.toNat : Nat) : Int) w
  rw [show (((c.toNat : Nat) : Int)).toNat.toUInt8 = c by simp] at h
  exact h
theorem vrune_anyK (r : Int) (hv : Utf8.valid r = true) (w : World) : Calls Tryz.prog 84 #[.int .i32 r] w fun e w' => e = .returned (.bool true) ∧ w' = w := by
  rw [validRune_eq] at hv
  unfold validRune at hv
  have h := of_decide_eq_true hv
  clear hv
  by_cases h1 : r < 55296
  · have h0 : 0 ≤ r := by omega
    go_enter Tryz.func84, Tryz.ntmps84
    go_wp2_with fail
    go_ret
    exact ⟨rfl, rfl⟩
  · have h2 : 57343 < r := by omega
    have h3 : r ≤ 1114111 := by omega
    have h0 : 0 ≤ r := by omega
    clear h
    go_enter Tryz.func84, Tryz.ntmps84
    go_wp2_with fail
    go_ret
    exact ⟨rfl, rfl⟩
end Go.Proofs.YtefkppeicmipbaaGreatDoor
