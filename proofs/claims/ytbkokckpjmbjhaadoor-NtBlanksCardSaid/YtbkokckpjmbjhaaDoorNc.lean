/- Cut at a byte, SplitAfter at a line's end. -/
import Derived.Test.YtbkokckpjmbjhaaDoorNb
import Derived.Deep.QuietTactic
import Derived.BigQuiet
namespace Go.Proofs.YtbkokckpjmbjhaaDoor
open Go.RowKit Go.Shelf
set_option maxRecDepth 100000
set_option linter.unusedVariables false
theorem indexByte_lt : ∀ (l : List UInt8) (c : UInt8), Lib.indexByte l c < l.length ∧ -1 ≤ Lib.indexByte l c
  | [], _ => by unfold Lib.indexByte; simp
  | b :: l, c => by
    have ih := indexByte_lt l c
    unfold Lib.indexByte
    split
    · simp
    · split
      · simp; omega
      · rw [List.length_cons]; omega
theorem draws_t (w : World) (n : Nat) : Below w.heap.size w (w.drewN n) := ⟨rfl, rfl, rfl, Nat.le_refl _, fun _ _ => rfl⟩
/-- What Cut answers. -/
def CutTo9 (c : UInt8) (l : List UInt8) (w0 : World) (e : Ending) (w' : World) : Prop :=
  ∃ a b, e = .returned (.tuple #[.string a, .string b, .bool (cutL c l).isSome]) ∧ Below w0.heap.size w0 w' ∧ ∀ q, cutL c l = some q → a = ⟨q.1.toArray⟩ ∧ b = ⟨q.2.toArray⟩
set_option maxHeartbeats 2000000 in
theorem lcut_any (s : ByteArray) (c : UInt8) (hs : s.size ≤ 9223372036854775807) (w : World) :
    Calls Tryd.prog 58 #[.string s, .string ⟨#[c]⟩] w (CutTo9 c s.data.toList w) := by
  have HI := Lib.hid (fun w => sindex_any s c w)
  have hlt := indexByte_lt s.data.toList c
  rw [← Lib.size_eq] at hlt
  obtain ⟨i, hi⟩ : ∃ i, i = Lib.indexByte s.data.toList c := ⟨_, rfl⟩
  rw [← hi] at HI hlt
  have HII := Lib.hid hi
  clear hi
  go_enter Tryd.func58, Tryd.ntmps58
  go_wp2_with fail
  refine (HI.out _).mono ?_
  rintro e w1 ⟨rfl, hw⟩
  obtain rfl := hw.symm
  by_cases h0 : 0 ≤ i
  · obtain ⟨j, rfl⟩ : ∃ j : Nat, i = j := ⟨i.toNat, by omega⟩
    have hj : (j : Int) < s.size := hlt.1
    have hj1 : (j : Int) + 1 ≤ s.size := by omega
    have hjn : j ≤ s.size := by omega
    have hjn1 : j + 1 ≤ s.size := by omega
    have hs' : (s.size : Int) ≤ 9223372036854775807 := by omega
    clear hlt
    go_wp2_with fail
    go_quiet (fail)
    go_wp2_with fail
    go_ret3
    unfold CutTo9 cutL
    rw [← HII.out, if_pos (by omega)]
    refine ⟨_, _, rfl, draws_t w _, fun q hq => ?_⟩
    simp only [Option.some.injEq] at hq
    subst hq
    refine ⟨ba_ext ?_, ba_ext ?_⟩
    · rw [← Lib.toList_data, Lib.extract_toList]; simp
    · rw [← Lib.toList_data, Lib.extract_toList, List.take_of_length_le (by rw [List.length_drop, ← Lib.size_eq]; omega)]; simp
  · have h1 : i < 0 := by omega
    go_wp2_with fail
    go_ret3
    unfold CutTo9 cutL
    rw [← HII.out, if_neg (by omega)]
    exact ⟨_, _, rfl, Below.refl _ _, fun q hq => by cases hq⟩
theorem scut_any (s : ByteArray) (c : UInt8) (hs : s.size ≤ 9223372036854775807) (w : World) :
    Calls Tryd.prog 44 #[.string s, .string ⟨#[c]⟩] w (CutTo9 c s.data.toList w) := by
  have HI := Lib.hid (fun w => lcut_any s c hs w)
  go_enter Tryd.func44, Tryd.ntmps44
  go_wp2_with fail
  refine (HI.out _).mono ?_
  intro e w1 h
  unfold CutTo9 at h
  obtain ⟨a, b, rfl, hb, hq⟩ := h
  have HQ := Lib.hid (And.intro hb hq)
  clear hb hq
  go_wp2_with fail
  go_ret3
  unfold CutTo9
  exact ⟨a, b, rfl, HQ.out.1, HQ.out.2⟩
end Go.Proofs.YtbkokckpjmbjhaaDoor
