/- Signs: Cut, rows of what may be. -/
import Derived.Test.YtefkppeicmipbaaGreatDoorLb
namespace Go.Proofs.YtefkppeicmipbaaGreatDoor
open Go.RowKit Go.Shelf
set_option maxRecDepth 100000
set_option linter.unusedVariables false
set_option linter.unusedSimpArgs false
/-- What is ahead of the first such byte, and behind it. -/
def cutL (c : UInt8) (l : List UInt8) : Option (List UInt8 × List UInt8) := if 0 ≤ Lib.indexByte l c then some (l.take (Lib.indexByte l c).toNat, l.drop ((Lib.indexByte l c).toNat + 1)) else none
theorem indexByte_lt : ∀ (l : List UInt8) (c : UInt8), Lib.indexByte l c < l.length ∧ -1 ≤ Lib.indexByte l c
  | [], _ => by unfold Lib.indexByte; simp
  | b :: l, c => by
    have ih := indexByte_lt l c
    unfold Lib.indexByte
    split
    · simp
    · split
      · simp; omega
      · rw [List.length_cons]; omega
/-- What Cut answers. -/
def CutTo9 (c : UInt8) (l : List UInt8) (w0 : World) (e : Ending) (w' : World) : Prop :=
  ∃ a b, e = .returned (.tuple #[.string a, .string b, .bool (cutL c l).isSome]) ∧ Below w0.heap.size w0 w' ∧ (∀ q, cutL c l = some q → a = ⟨q.1.toArray⟩ ∧ b = ⟨q.2.toArray⟩) ∧ (cutL c l = none → b = ⟨#[]⟩)
set_option maxHeartbeats 2000000 in
theorem lcut_any (s : ByteArray) (c : UInt8) (hs : s.size ≤ 9223372036854775807) (w : World) :
    Calls Tryz.prog 59 #[.string s, .string ⟨#[c]⟩] w (CutTo9 c s.data.toList w) := by
  have HI := Lib.hid (fun w => sindex_any s c w)
  have hlt := indexByte_lt s.data.toList c
  rw [← Lib.size_eq] at hlt
  obtain ⟨i, hi⟩ : ∃ i, i = Lib.indexByte s.data.toList c := ⟨_, rfl⟩
  rw [← hi] at HI hlt
  have HII := Lib.hid hi
  clear hi
  go_enter Tryz.func59, Tryz.ntmps59
  go_wp2_with fail
  refine (HI.out _).mono ?_
  rintro e w1 ⟨rfl, hw⟩
  obtain rfl := hw.symm
  by_cases h0 : 0 ≤ i
  · obtain ⟨j, rfl⟩ : ∃ j : Nat, i = j := ⟨i.toNat, by omega⟩
    have hj : (j : Int) < s.size := hlt.1
    have hj1 : (j : Int) + 1 ≤ s.size := by omega
    have hjn : j ≤ s.size := by omega
    have hjn1 : j + 1 ≤ s.size := by omega
    have hs' : (s.size : Int) ≤ 9223372036854775807 := by omega
    clear hlt
    go_wp2_with fail
    go_quiet (fail)
    go_wp2_with fail
    go_ret3
    unfold CutTo9 cutL
    rw [← HII.out, if_pos (by omega)]
    refine ⟨_, _, rfl, draws_t w _, fun q hq => ?_, fun h => by cases h⟩
    simp only [Option.some.injEq] at hq
    subst hq
    refine ⟨ba_extL ?_, ba_extL ?_⟩
    · rw [← Lib.toList_data, Lib.extract_toList]; simp
    · rw [← Lib.toList_data, Lib.extract_toList, List.take_of_length_le (by rw [List.length_drop, ← Lib.size_eq]; omega)]; simp
  · have h1 : i < 0 := by omega
    go_wp2_with fail
    go_ret3
    unfold CutTo9 cutL
    rw [← HII.out, if_neg (by omega)]
    exact ⟨_, _, rfl, Below.refl _ _, (fun q hq => by cases hq), fun _ => rfl⟩
theorem scut_any (s : ByteArray) (c : UInt8) (hs : s.size ≤ 9223372036854775807) (w : World) :
    Calls Tryz.prog 30 #[.string s, .string ⟨#[c]⟩] w (CutTo9 c s.data.toList w) := by
  have HI := Lib.hid (fun w => lcut_any s c hs w)
  go_enter Tryz.func30, Tryz.ntmps30
  go_wp2_with fail
  refine (HI.out _).mono ?_
  intro e w1 h
  unfold CutTo9 at h
  obtain ⟨a, b, rfl, hb, hq⟩ := h
  have HQ := Lib.hid (And.intro hb hq)
  clear hb hq
  go_wp2_with fail
  go_ret3
  unfold CutTo9
  exact ⟨a, b, rfl, HQ.out.1, HQ.out.2⟩

theorem while_skip (pb : UInt8 → Bool) : ∀ (k : Nat) (l : List UInt8), k ≤ l.length → (∀ j (hj : j < l.length), j < k → pb l[j] = true) → l.dropWhile pb = (l.drop k).dropWhile pb ∧ (l.takeWhile pb).length = k + ((l.drop k).takeWhile pb).length
  | 0, l, _, _ => by simp
  | k + 1, [], hk, _ => by simp at hk
  | k + 1, c :: l, hk, h => by
    have h0 : pb c = true := h 0 (by simp) (by omega)
    have ih := while_skip pb k l (by simpa using hk) (fun j hj hjk => h (j + 1) (by simpa using hj) (by omega))
    rw [List.dropWhile_cons, List.takeWhile_cons, h0, List.drop_succ_cons]
    simp only [if_true, List.length_cons]
    exact ⟨ih.1, by rw [ih.2]; omega⟩
/-- What is left behind a row of bytes that may be, by runes: hi says whether high ones may be. -/
theorem idx_from (hi : Bool) (pb : UInt8 → Bool) (p : Nat → Bool) (hp : ∀ c : UInt8, c.toNat < 128 → p c.toNat = pb c) (hb : ∀ c : UInt8, 128 ≤ c.toNat → pb c = hi) (hn : ∀ n, 128 ≤ n → p n = hi) (s : ByteArray) :
    ∀ (f pos : Nat), pos ≤ s.size → s.size ≤ f + pos → Lib.idxFuncFrom p false s f pos = if (s.data.toList.drop pos).dropWhile pb = [] then -1 else ((pos + ((s.data.toList.drop pos).takeWhile pb).length : Nat) : Int)
  | 0, pos, h1, h2 => by
    have : s.data.toList.drop pos = [] := List.drop_eq_nil_of_le (by rw [← Lib.size_eq]; omega)
    rw [this]; rfl
  | f + 1, pos, h1, h2 => by
    unfold Lib.idxFuncFrom
    by_cases h : pos < s.size
    · rw [if_pos h]
      have hl : pos < s.data.toList.length := by rw [← Lib.size_eq]; exact h
      have hd : s.data.toList.drop pos = s[pos] :: s.data.toList.drop (pos + 1) := by
        rw [List.drop_eq_getElem_cons hl]; rfl
      by_cases ha : (s[pos]).toNat < 128
      · rw [hd, decode_ascii s pos h ha]
        dsimp only
        rw [hp _ ha]
        cases hq : pb s[pos] with
        | false =>
          rw [List.takeWhile_cons, List.dropWhile_cons, hq]
          simp
        | true =>
          rw [if_neg (by simp), idx_from hi pb p hp hb hn s f (pos + 1) (by omega) (by omega), List.takeWhile_cons, List.dropWhile_cons, hq]
          simp only [if_true, List.length_cons]
          split
          · rfl
          · congr 1; omega
      · have hh := decode_high s pos h (by omega)
        have hin := decode_in s pos h (by omega)
        have hsk := decode_skip s pos h (by omega)
        generalize Utf8.decode s pos = q at hh hin hsk ⊢
        rw [hn _ hh.1]
        cases hi with
        | false =>
          rw [hd, if_pos rfl, List.takeWhile_cons, List.dropWhile_cons, hb _ (by omega)]
          simp
        | true =>
          rw [if_neg (by simp), idx_from true pb p hp hb hn s f (pos + q.2) (by omega) (by omega)]
          have hw := while_skip pb q.2 (s.data.toList.drop pos) (by rw [List.length_drop, ← Lib.size_eq]; omega) (fun j hj hjk => by
            rw [List.getElem_drop]
            have hps : pos + j < s.size := by omega
            exact hb _ (hsk (pos + j) hps (by omega) (by omega)))
          rw [List.drop_drop] at hw
          rw [hw.1, hw.2]
          split
          · rfl
          · congr 1; omega
    · rw [if_neg h]
      have : s.data.toList.drop pos = [] := List.drop_eq_nil_of_le (by rw [← Lib.size_eq]; omega)
      rw [this]; rfl
theorem trim_func (hi : Bool) (pb : UInt8 → Bool) (p : Nat → Bool) (hp : ∀ c : UInt8, c.toNat < 128 → p c.toNat = pb c) (hb : ∀ c : UInt8, 128 ≤ c.toNat → pb c = hi) (hn : ∀ n, 128 ≤ n → p n = hi) (s : ByteArray) : Lib.trimLeftF p s = ⟨(s.data.toList.dropWhile pb).toArray⟩ := by
  have h := idx_from hi pb p hp hb hn s s.size 0 (Nat.zero_le _) (by omega)
  rw [List.drop_zero] at h
  unfold Lib.trimLeftF Lib.idxFunc
  rw [h]
  by_cases he : s.data.toList.dropWhile pb = []
  · rw [if_pos he, if_pos rfl, he]
  · rw [if_neg he, if_neg (by omega)]
    have e : s.data.toList.dropWhile pb = s.data.toList.drop (s.data.toList.takeWhile pb).length := by
      conv => rhs; rw [← List.takeWhile_append_dropWhile (p := pb) (l := s.data.toList)]
      rw [List.takeWhile_append_dropWhile]
      exact (List.drop_left (l₁ := s.data.toList.takeWhile pb) (l₂ := s.data.toList.dropWhile pb)).symm.trans (by rw [List.takeWhile_append_dropWhile])
    rw [e]
    apply ba_extL
    rw [Nat.zero_add, Int.toNat_natCast, ← Lib.toList_data, Lib.extract_toList]
    rw [List.take_of_length_le]
    rw [List.length_drop, ← Lib.size_eq]; omega
end Go.Proofs.YtefkppeicmipbaaGreatDoor
