/- The reference of value: plain, boolean, Number, Truth. -/
import Derived.Test.YtdlfoinpjbcodaaDoorAf
import Derived.Test.YtdlfoinpjbcodaaDoorRc
namespace Go.Proofs.YtdlfoinpjbcodaaDoor
open Go.RowKit Go.Shelf Flo
set_option maxRecDepth 100000
set_option linter.unusedVariables false
set_option linter.unusedSimpArgs false

/-- It has no language and a type. -/
def Tm.Pu (t : Tm) : Prop := t.ll = [] ∨ t.tl = []
def plainB (t : Tm) : Bool := match wt t with
  | .plain _ => true
  | _ => false
def boolO (t : Tm) : Option Bool := match wt t with
  | .tr b => some b
  | _ => none
theorem wtNum_cases (o : Option (Int × Nat)) : (∃ m s, wtNum o = .num m s) ∨ wtNum o = .strange := by
  cases o with
  | none => exact .inr rfl
  | some p => exact .inl ⟨_, _, rfl⟩
theorem plainB_eq (t : Tm) : plainB t = (decide (t.k = 3) && (decide (t.ll = []) && decide (t.tl = []))) := by
  unfold plainB wt
  by_cases h3 : t.k = 3
  · rw [if_pos h3, decide_eq_true h3, Bool.true_and]
    by_cases h4 : t.tl = xIntL
    · rw [if_pos h4, decide_eq_false (p := t.tl = []) (by rw [h4]; decide), Bool.and_false]
      split
      · rename_i n h; split at h
        · cases h
        · rcases wtNum_cases (decO t.sl) with ⟨m, s, e⟩ | e <;> rw [e] at h <;> cases h
      · rfl
    · rw [if_neg h4]
      by_cases h5 : t.tl = xDecL
      · rw [if_pos h5, decide_eq_false (p := t.tl = []) (by rw [h5]; decide), Bool.and_false]
        rcases wtNum_cases (decO t.sl) with ⟨m, s, e⟩ | e <;> rw [e]
      · rw [if_neg h5]
        by_cases h6 : t.tl = xBoolL
        · rw [if_pos h6, decide_eq_false (p := t.tl = []) (by rw [h6]; decide), Bool.and_false]
          split
          · rename_i n h; split at h
            · cases h
            · split at h <;> cases h
          · rfl
        · rw [if_neg h6]
          by_cases h7 : t.tl = []
          · rw [if_pos h7, decide_eq_true h7, Bool.and_true]
            by_cases h8 : t.ll = []
            · rw [if_pos h8, decide_eq_true h8]
            · rw [if_neg h8, decide_eq_false h8]
          · rw [if_neg h7, decide_eq_false h7, Bool.and_false]
  · rw [if_neg h3, decide_eq_false h3]; rfl
theorem rplain_any (t : Tm) (w : World) : Calls Tryd.prog 21 #[t.val] w fun e w' => e = .returned (.bool (plainB t)) ∧ Below w.heap.size w w' := by
  rw [plainB_eq]
  obtain ⟨k, s, l, y, rfl⟩ := tm_cases t
  obtain ⟨V, hV⟩ : ∃ V, V = (decide (k = 3) && (decide (l.data.toList = []) && decide (y.data.toList = []))) := ⟨_, rfl⟩
  change Calls _ _ _ _ fun e w' => e = .returned (.bool (decide (k = 3) && (decide (l.data.toList = []) && decide (y.data.toList = [])))) ∧ _
  rw [← hV]
  unfold Tm.val
  simp only []
  by_cases h3 : k = 3
  · subst h3
    by_cases h4 : l.data.toList = []
    · by_cases h5 : y.data.toList = []
      · rw [decide_eq_true h4, decide_eq_true h5] at hV
        have h42 : l.toList = [] := by rw [Lib.toList_data]; exact h4
        clear h4
        have h52 : y.toList = [] := by rw [Lib.toList_data]; exact h5
        clear h5
        have HV := Lib.hid (show V = true from hV)
        clear hV
        go_enter Tryd.func21, Tryd.ntmps21
        go_wp2
        go_ret
        exact ⟨by rw [HV.out]; rfl, (Below.refl _ _).alloc (Nat.le_refl _) _⟩
      · rw [decide_eq_true h4, decide_eq_false h5] at hV
        have h42 : l.toList = [] := by rw [Lib.toList_data]; exact h4
        clear h4
        have h52 : ¬ y.toList = [] := by rw [Lib.toList_data]; exact h5
        have h53 : (y.toList == []) = false := by simpa using h52
        have h54 : y.toList.isEmpty = false := by simpa using h52
        clear h5
        have HV := Lib.hid (show V = false from hV)
        clear hV
        go_enter Tryd.func21, Tryd.ntmps21
        go_wp2
        go_ret
        exact ⟨by rw [HV.out]; rfl, (Below.refl _ _).alloc (Nat.le_refl _) _⟩
    · rw [decide_eq_false h4] at hV
      have h42 : ¬ l.toList = [] := by rw [Lib.toList_data]; exact h4
      have h43 : (l.toList == []) = false := by simpa using h42
      have h44 : l.toList.isEmpty = false := by simpa using h42
      clear h4
      have HV := Lib.hid (show V = false from hV)
      clear hV
      go_enter Tryd.func21, Tryd.ntmps21
      go_wp2
      go_ret
      exact ⟨by rw [HV.out]; rfl, (Below.refl _ _).alloc (Nat.le_refl _) _⟩
  · rw [decide_eq_false h3] at hV
    have HV := Lib.hid (show V = false from hV)
    clear hV
    go_enter Tryd.func21, Tryd.ntmps21
    go_wp2
    go_ret
    exact ⟨by rw [HV.out]; rfl, (Below.refl _ _).alloc (Nat.le_refl _) _⟩
theorem boolO_eq (t : Tm) : boolO t = if t.k = 3 then (if t.tl = xBoolL then (if t.sl = trueL then some true else if t.sl = falseL then some false else none) else none) else none := by
  unfold boolO wt
  by_cases h3 : t.k = 3
  · rw [if_pos h3, if_pos h3]
    by_cases h4 : t.tl = xIntL
    · rw [if_pos h4, if_neg (show ¬ t.tl = xBoolL by rw [h4]; decide)]
      by_cases h : t.sl.contains 46 = true
      · rw [if_pos h]
      · rw [if_neg h]
        rcases wtNum_cases (decO t.sl) with ⟨m, s, e⟩ | e <;> rw [e]
    · rw [if_neg h4]
      by_cases h5 : t.tl = xDecL
      · rw [if_pos h5, if_neg (show ¬ t.tl = xBoolL by rw [h5]; decide)]
        rcases wtNum_cases (decO t.sl) with ⟨m, s, e⟩ | e <;> rw [e]
      · rw [if_neg h5]
        by_cases h6 : t.tl = xBoolL
        · rw [if_pos h6, if_pos h6]
          by_cases h7 : t.sl = trueL
          · rw [if_pos h7, if_pos h7]
          · rw [if_neg h7, if_neg h7]
            by_cases h8 : t.sl = falseL
            · rw [if_pos h8, if_pos h8]
            · rw [if_neg h8, if_neg h8]
        · rw [if_neg h6, if_neg h6]
          by_cases h7 : t.tl = []
          · rw [if_pos h7]
            by_cases h8 : t.ll = []
            · rw [if_pos h8]
            · rw [if_neg h8]
          · rw [if_neg h7]
  · rw [if_neg h3, if_neg h3]
theorem rboolean_any (t : Tm) (w : World) : Calls Tryd.prog 19 #[t.val] w fun e w' => e = .returned (twoB (boolO t)) ∧ Below w.heap.size w w' := by
  obtain ⟨V, hV⟩ : ∃ V, V = boolO t := ⟨_, rfl⟩
  rw [← hV]
  rw [boolO_eq] at hV
  obtain ⟨k, s, l, y, rfl⟩ := tm_cases t
  replace hV : V = if k = 3 then (if y.data.toList = xBoolL then (if s.data.toList = trueL then some true else if s.data.toList = falseL then some false else none) else none) else none := hV
  unfold Tm.val
  simp only []
  by_cases h3 : k = 3
  · rw [if_pos h3] at hV
    subst h3
    by_cases h4 : y.data.toList = xBoolL
    · rw [if_pos h4] at hV
      have h42 : y.toList = [104, 116, 116, 112, 58, 47, 47, 119, 119, 119, 46, 119, 51, 46, 111, 114, 103, 47, 50, 48, 48, 49, 47, 88, 77, 76, 83, 99, 104, 101, 109, 97, 35, 98, 111, 111, 108, 101, 97, 110] := by rw [Lib.toList_data]; exact h4
      clear h4
      by_cases h5 : s.data.toList = trueL
      · rw [if_pos h5] at hV
        have h52 : s.toList = [116, 114, 117, 101] := by rw [Lib.toList_data]; exact h5
        clear h5
        have HV := Lib.hid (show V = some true from hV)
        clear hV
        go_enter Tryd.func19, Tryd.ntmps19
        go_wp2
        go_ret2
        exact ⟨by rw [HV.out]; rfl, (Below.refl _ _).alloc (Nat.le_refl _) _⟩
      · rw [if_neg h5] at hV
        have h52 : ¬ s.toList = [116, 114, 117, 101] := by rw [Lib.toList_data]; exact h5
        have h53 : (s.toList == [116, 114, 117, 101]) = false := by simpa using h52
        clear h5
        by_cases h6 : s.data.toList = falseL
        · rw [if_pos h6] at hV
          have h62 : s.toList = [102, 97, 108, 115, 101] := by rw [Lib.toList_data]; exact h6
          clear h6
          have HV := Lib.hid (show V = some false from hV)
          clear hV
          go_enter Tryd.func19, Tryd.ntmps19
          go_wp2
          go_ret2
          exact ⟨by rw [HV.out]; rfl, (Below.refl _ _).alloc (Nat.le_refl _) _⟩
        · rw [if_neg h6] at hV
          have h62 : ¬ s.toList = [102, 97, 108, 115, 101] := by rw [Lib.toList_data]; exact h6
          have h63 : (s.toList == [102, 97, 108, 115, 101]) = false := by simpa using h62
          clear h6
          have HV := Lib.hid (show V = none from hV)
          clear hV
          go_enter Tryd.func19, Tryd.ntmps19
          go_wp2
          go_ret2
          exact ⟨by rw [HV.out]; rfl, (Below.refl _ _).alloc (Nat.le_refl _) _⟩
    · rw [if_neg h4] at hV
      have h42 : ¬ y.toList = [104, 116, 116, 112, 58, 47, 47, 119, 119, 119, 46, 119, 51, 46, 111, 114, 103, 47, 50, 48, 48, 49, 47, 88, 77, 76, 83, 99, 104, 101, 109, 97, 35, 98, 111, 111, 108, 101, 97, 110] := by rw [Lib.toList_data]; exact h4
      have h43 : (y.toList == [104, 116, 116, 112, 58, 47, 47, 119, 119, 119, 46, 119, 51, 46, 111, 114, 103, 47, 50, 48, 48, 49, 47, 88, 77, 76, 83, 99, 104, 101, 109, 97, 35, 98, 111, 111, 108, 101, 97, 110]) = false := by simpa using h42
      clear h4
      have HV := Lib.hid (show V = none from hV)
      clear hV
      go_enter Tryd.func19, Tryd.ntmps19
      go_wp2
      go_ret2
      exact ⟨by rw [HV.out]; rfl, (Below.refl _ _).alloc (Nat.le_refl _) _⟩
  · rw [if_neg h3] at hV
    have HV := Lib.hid (show V = none from hV)
    clear hV
    go_enter Tryd.func19, Tryd.ntmps19
    go_wp2
    go_ret2
    exact ⟨by rw [HV.out]; rfl, (Below.refl _ _).alloc (Nat.le_refl _) _⟩
end Go.Proofs.YtdlfoinpjbcodaaDoor
