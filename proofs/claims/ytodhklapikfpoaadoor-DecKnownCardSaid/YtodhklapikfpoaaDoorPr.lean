/- Print of the reference. -/
import Derived.Test.YtodhklapikfpoaaDoorPq
namespace Go.Proofs.YtodhklapikfpoaaDoor
open Go.RowKit Go.Shelf
set_option maxRecDepth 100000
set_option linter.unusedVariables false
set_option linter.unusedSimpArgs false

/-- the text of the digits, by its parts. -/
theorem pad_parts (n k : Nat) (hn : n ≤ 999999999999999) (hk : k ≤ 6) : ∃ (T : ByteArray) (a : Nat), T = ⟨(padL n k).toArray⟩ ∧ T.size = a + k ∧ 1 ≤ a ∧ a + k ≤ 15 ∧
    (k = 0 → ∀ m : Int, m.natAbs = n → T = (if m < 0 then T else ⟨(printL m k).toArray⟩) ∧ (if m < 0 then (⟨#[45]⟩ : ByteArray) ++ T = ⟨(printL m k).toArray⟩ else T = ⟨(printL m k).toArray⟩)) ∧
    (k ≠ 0 → ∀ m : Int, m.natAbs = n → (if m < 0 then (⟨#[45]⟩ : ByteArray) ++ T.extract 0 a ++ ⟨#[46]⟩ ++ T.extract a (a + k) = ⟨(printL m k).toArray⟩ ∧ (⟨#[45]⟩ : ByteArray) ++ (T.extract 0 a ++ ⟨#[46]⟩ ++ T.extract a (a + k)) = ⟨(printL m k).toArray⟩ else T.extract 0 a ++ ⟨#[46]⟩ ++ T.extract a (a + k) = ⟨(printL m k).toArray⟩)) := by
  have hL := lenD_le n k hn hk
  have hl := padL_length n k
  have hlen : k + 1 ≤ lenD n k := Nat.le_max_left _ _
  have hts : (⟨(padL n k).toArray⟩ : ByteArray).size = lenD n k := by show (padL n k).toArray.size = _; simp [hl]
  refine ⟨⟨(padL n k).toArray⟩, lenD n k - k, rfl, by rw [hts]; omega, by omega, by omega, ?_, ?_⟩
  · intro h0 m hm
    subst h0
    have ha : absP n 0 = padL n 0 := by
      unfold absP
      rw [if_pos rfl, List.append_nil, List.take_of_length_le (by rw [hl]; omega)]
    unfold printL
    rw [hm, ha]
    by_cases h : m < 0
    · rw [if_pos h, if_pos h, if_pos h]
      refine ⟨rfl, ?_⟩
      apply ba_ext
      simp
    · rw [if_neg h, if_neg h, if_neg h]
      exact ⟨rfl, rfl⟩
  · intro h0 m hm
    have ha : absP n k = (padL n k).take (lenD n k - k) ++ 46 :: (padL n k).drop (lenD n k - k) := by
      unfold absP
      rw [if_neg h0]
    have e2 : ((padL n k).toArray.extract (lenD n k - k) (lenD n k - k + k)).toList = (padL n k).drop (lenD n k - k) := by
      simp
      rw [List.take_of_length_le (by simp; omega)]
    unfold printL
    rw [hm, ha]
    by_cases h : m < 0
    · rw [if_pos h, if_pos h]
      refine ⟨?_, ?_⟩
      · apply ba_ext
        simp [ByteArray.data_extract]
        rw [List.take_of_length_le (by simp; omega)]
      · apply ba_ext
        simp [ByteArray.data_extract]
        rw [List.take_of_length_le (by simp; omega)]
    · rw [if_neg h, if_neg h]
      apply ba_ext
      simp [ByteArray.data_extract]
      rw [List.take_of_length_le (by simp; omega)]

theorem ext_self (T : ByteArray) (a : Nat) (h : T.size ≤ a) : T.extract 0 a = T := by
  have e : (T.extract 0 a).data.toList = T.data.toList := by
    simp [ByteArray.data_extract]
    rw [List.take_of_length_le (by simpa using h)]
  have := ba_ext e
  rw [this]
theorem nil_app (T : ByteArray) : (⟨#[]⟩ : ByteArray) ++ T = T := by
  have e : ((⟨#[]⟩ : ByteArray) ++ T).data.toList = T.data.toList := by simp
  have := ba_ext e
  rw [this]
end Go.Proofs.YtodhklapikfpoaaDoor
