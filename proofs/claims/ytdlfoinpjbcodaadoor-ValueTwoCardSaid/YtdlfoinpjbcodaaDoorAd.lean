/- Package value: what a term weighs. -/
import Derived.Test.YtdlfoinpjbcodaaDoorAb
import Derived.Test.YtdlfoinpjbcodaaDoorShelfB
import Derived.Shelf.Strings.Search3
import Derived.Lib.IndexLaws
import Derived.Lib.Bytealg
namespace Go.Proofs.YtdlfoinpjbcodaaDoor
open Go.RowKit Go.Shelf Flo
set_option maxRecDepth 100000
set_option linter.unusedVariables false
set_option linter.unusedSimpArgs false

/-- what its truth hangs on. -/
def Wt.re : Wt → Int
  | .num m _ => m
  | .tr b => if b then 1 else 0
  | .plain n => n
  | _ => 0
/-- the words are that weight. -/
def Wr (re im : Nat) (x : Wt) : Prop := Rep re x.re ∧ Rep im x.im
theorem rep_minus (n : Nat) (h0 : n ≠ 0) (h : n < 2 ^ 53) (w v : Nat) (hv : v = rungOf n) (hw : w = v ^^^ 2 ^ 63) : Rep w (-(n : Int)) := by
  rw [hw]
  exact neg_rep (rep_lit n h0 h v hv)
theorem repm1 : Rep 13830554455654793216 (-1) := rep_minus 1 (by decide) (by decide) _ 4607182418800017408 (by decide) (by decide)
theorem repm2 : Rep 13835058055282163712 (-2) := rep_minus 2 (by decide) (by decide) _ 4611686018427387904 (by decide) (by decide)
theorem repm3 : Rep 13837309855095848960 (-3) := rep_minus 3 (by decide) (by decide) _ 4613937818241073152 (by decide) (by decide)
theorem repm4 : Rep 13839561654909534208 (-4) := rep_minus 4 (by decide) (by decide) _ 4616189618054758400 (by decide) (by decide)
theorem repm5 : Rep 13840687554816376832 (-5) := rep_minus 5 (by decide) (by decide) _ 4617315517961601024 (by decide) (by decide)

theorem contains_dot (s : ByteArray) (w : World) : Calls Tryd.prog 27 #[.string s, .string ⟨#[46]⟩] w fun e w' => e = .returned (.bool (s.data.toList.contains 46)) ∧ w' = w := by
  refine (Any.strings_Contains_one Tryd.lays144 s 46 w).mono ?_
  rintro e w' ⟨rfl, rfl⟩
  refine ⟨?_, rfl⟩
  have : decide (0 ≤ Lib.indexByte s.data.toList 46) = s.data.toList.contains 46 := by
    rw [Bool.eq_iff_iff, decide_eq_true_eq, List.contains_iff_mem]
    have hge := Lib.indexByte_ge s.data.toList 46
    constructor
    · intro h
      obtain ⟨o, ho⟩ : ∃ o : Nat, Lib.indexByte s.data.toList 46 = o := ⟨(Lib.indexByte s.data.toList 46).toNat, by omega⟩
      exact List.mem_of_getElem? (Lib.indexByte_some ho).1
    · intro h
      rcases Int.lt_or_le (Lib.indexByte s.data.toList 46) 0 with hn | hn
      · obtain ⟨k, hk⟩ := List.getElem?_of_mem h
        exact absurd hk (Lib.indexByte_none (by omega) k)
      · exact hn
  rw [this]

theorem tm_cases (t : Tm) : ∃ k s l y, t = ⟨k, s, l, y⟩ := ⟨t.k, t.s, t.l, t.t, rfl⟩
theorem run_min {ia ib : Nat} {i j : Int} (hi : Rep ia i) (hj : Rep ib j) : ∃ r, Rep r (min i j) ∧ ∀ (ats : Array TypeId) (t : TypeId) (w : World), Sem.run Tryd.prog (Builtin.min_ ats t #[.float .f64 ia, .float .f64 ib]) w = .ok (.float .f64 r) w := by
  rcases Int.lt_trichotomy i j with h | h | h
  · have ho := ord_lt hi hj h
    refine ⟨ia, by rw [show min i j = i by omega]; exact hi, fun ats t w => ?_⟩
    unfold Builtin.min_ Builtin.min2
    simp [List.foldlM, ho]
  · have ho := ord_eq hi hj h
    subst h
    refine ⟨if (FloatKind.f64.decode ia).neg then ia else ib, by rw [show min i i = i by omega]; split <;> assumption, fun ats t w => ?_⟩
    unfold Builtin.min_ Builtin.min2
    simp [List.foldlM, ho]
  · have ho := ord_gt hi hj h
    refine ⟨ib, by rw [show min i j = j by omega]; exact hj, fun ats t w => ?_⟩
    unfold Builtin.min_ Builtin.min2
    simp [List.foldlM, ho]
theorem rep_ge {r : Nat} {n : Int} (h : Rep r n) : (FloatKind.f64.format.order r 0 == some .gt || FloatKind.f64.format.order r 0 == some .eq) = decide (0 ≤ n) := by
  rcases Int.lt_trichotomy n 0 with h1 | h1 | h1
  · rw [ord_lt h rep0 h1, decide_eq_false (by omega)]; rfl
  · rw [ord_eq h rep0 h1, decide_eq_true (by omega)]; rfl
  · rw [ord_gt h rep0 h1, decide_eq_true (by omega)]; rfl
set_option maxHeartbeats 1000000 in
theorem numbers_any (ra ia rb ib : Nat) (i j : Int) (hi : Rep ia i) (hj : Rep ib j) (w : World) : Calls Tryd.prog 22 #[.complex .f64 ra ia, .complex .f64 rb ib] w fun e w' => e = .returned (.bool (decide (0 ≤ min i j))) ∧ w = w' := by
  obtain ⟨r, hr, hm⟩ := run_min hi hj
  have e0 := rep_ge hr
  generalize decide (0 ≤ min i j) = c at e0 ⊢
  clear hi hj hr
  go_enter Tryd.func22, Tryd.ntmps22
  go_wp2
  go_ret
  exact ⟨rfl, rfl⟩
theorem Below.num {w w1 : World} {o p : Obj} (hb : Below (w.alloc o).heap.size (w.alloc o) w1) : Below w.heap.size w (w1.alloc p) := by
  have h1 : Below w.heap.size w w1 := ((Below.refl w.heap.size w).alloc (Nat.le_refl _) o).trans (hb.mono (by simp))
  exact h1.alloc h1.size p
set_option maxHeartbeats 4000000 in
theorem weigh_any (t : Tm) (ht : t.Sm) (w : World) : Calls Tryd.prog 18 #[t.val] w fun e w' => ∃ re im, e = .returned (.complex .f64 re im) ∧ Wr re im (wt t) ∧ Below w.heap.size w w' := by
  have hs200 := ht.s
  obtain ⟨k, s, l, y, rfl⟩ := tm_cases t
  replace hs200 : s.size ≤ 200 := hs200
  obtain ⟨W, hW⟩ : ∃ W, W = wt ⟨k, s, l, y⟩ := ⟨_, rfl⟩
  rw [← hW]
  unfold wt at hW
  change W = if k = 3 then (if y.data.toList = xIntL then (if s.data.toList.contains 46 then .strange else wtNum (decO s.data.toList)) else if y.data.toList = xDecL then wtNum (decO s.data.toList)
    else if y.data.toList = xBoolL then (if s.data.toList = trueL then .tr true else if s.data.toList = falseL then .tr false else .strange) else if y.data.toList = [] then (if l.data.toList = [] then .plain s.size else .spoken) else .strange) else .node at hW
  unfold Tm.val
  simp only []
  have HC := Lib.hid (fun w => contains_dot s w)
  have HP := Lib.hid (fun w => parse_any s w (by omega))
  rw [ansD_eq] at HP
  have HZ := Lib.hid (rep_int (s.size : Int) (by rw [p53]; omega))
  clear ht
  go_enter Tryd.func18, Tryd.ntmps18
  go_wp2_with fail
  refine wp_scope_jumps 0 (fun a' w' => (fun a' w' => ∃ u : Nat → Value, a' = { tmps := #[u 0, u 1, u 2, u 3, u 4, u 5, u 6, u 7, u 8, u 9, u 10, u 11, u 12, u 13, u 14, u 15, u 16, u 17, u 18, u 19, u 20, u 21, u 22, u 23, u 24, u 25, u 26, u 27, u 28, u 29, u 30, u 31, u 32, u 33, u 34, u 35, u 36, u 37, u 38, u 39, u 40, u 41, u 42, u 43, u 44, u 45, u 46, u 47, u 48, u 49], defers := [] } ∧ Below w.heap.size w w' ∧ W = .strange) a' w') (fun _ _ => 0) rfl ?_ ?_
  · by_cases hk : k = 3
    · rw [if_pos hk] at hW
      by_cases h1 : y.data.toList = xIntL
      · rw [if_pos h1] at hW
        have h12 : y.toList = [104, 116, 116, 112, 58, 47, 47, 119, 119, 119, 46, 119, 51, 46, 111, 114, 103, 47, 50, 48, 48, 49, 47, 88, 77, 76, 83, 99, 104, 101, 109, 97, 35, 105, 110, 116, 101, 103, 101, 114] := by rw [Lib.toList_data]; exact h1
        clear h1
        obtain ⟨c, hc⟩ : ∃ c, c = s.data.toList.contains 46 := ⟨_, rfl⟩
        rw [← hc] at hW HC
        clear hc
        cases c with
        | true =>
          replace hW : W = .strange := hW
          have HW := Lib.hid hW
          clear hW
          go_wp2_with (first | (go_at_call 27; refine (HC.out _).mono ?_; rintro e w' ⟨rfl, rfl⟩) | (go_at_call 28; refine (HP.out _).mono ?_; rintro e w1 ⟨rfl, hb1⟩))
          refine wp_goto ?_
          exact ⟨rfl, ex_u24 _ _ (by kernel_rfl) _ ⟨((Below.refl _ _).alloc (Nat.le_refl _) _), HW.out⟩⟩
        | false =>
          replace hW : W = wtNum (decO s.data.toList) := hW
          cases hd : decO s.data.toList with
          | none =>
            rw [hd] at hW HP
            replace hW : W = .strange := hW
            replace HP : Hid (∀ w, Calls Tryd.prog 28 #[.string s] w fun e w' => e = .returned (.tuple #[.agg #[.int .i64 0, .int .i64 0], .bool false]) ∧ Below w.heap.size w w') := HP
            clear hd
            have HW := Lib.hid hW
            clear hW
            go_wp2_with (first | (go_at_call 27; refine (HC.out _).mono ?_; rintro e w' ⟨rfl, rfl⟩) | (go_at_call 28; refine (HP.out _).mono ?_; rintro e w1 ⟨rfl, hb1⟩))
            refine wp_goto ?_
            refine ⟨rfl, ex_u24 _ _ (by kernel_rfl) _ ⟨?_, HW.out⟩⟩
            exact Below.num hb1
          | some p =>
            have hg := decO_good hd
            obtain ⟨m, c⟩ := p
            rw [hd] at hW HP
            replace hW : W = .num m c := hW
            replace HP : Hid (∀ w, Calls Tryd.prog 28 #[.string s] w fun e w' => e = .returned (.tuple #[.agg #[.int .i64 m, .int .i64 (c : Int)], .bool true]) ∧ Below w.heap.size w w') := HP
            clear hd
            have HR := Lib.hid (rep_int m (by have := hg.1; have := hg.2.1; rw [p53]; dsimp only at *; omega))
            have HS := Lib.hid (rep_int (c : Int) (by have := hg.2.2.2.1; rw [p53]; dsimp only at *; omega))
            have HW := Lib.hid hW
            clear hW hg
            go_wp2_with (first | (go_at_call 27; refine (HC.out _).mono ?_; rintro e w' ⟨rfl, rfl⟩) | (go_at_call 28; refine (HP.out _).mono ?_; rintro e w1 ⟨rfl, hb1⟩))
            simp only [Exit.jump]
            go_ret
            refine ⟨_, _, rfl, ?_, Below.num hb1⟩
            rw [HW.out]
            exact ⟨HR.out, HS.out⟩
      · rw [if_neg h1] at hW
        have h12 : ¬ y.toList = [104, 116, 116, 112, 58, 47, 47, 119, 119, 119, 46, 119, 51, 46, 111, 114, 103, 47, 50, 48, 48, 49, 47, 88, 77, 76, 83, 99, 104, 101, 109, 97, 35, 105, 110, 116, 101, 103, 101, 114] := by rw [Lib.toList_data]; exact h1
        have h13 : (y.toList == [104, 116, 116, 112, 58, 47, 47, 119, 119, 119, 46, 119, 51, 46, 111, 114, 103, 47, 50, 48, 48, 49, 47, 88, 77, 76, 83, 99, 104, 101, 109, 97, 35, 105, 110, 116, 101, 103, 101, 114]) = false := by simpa using h12
        clear h1
        by_cases h4 : y.data.toList = xDecL
        · rw [if_pos h4] at hW
          have h42 : y.toList = [104, 116, 116, 112, 58, 47, 47, 119, 119, 119, 46, 119, 51, 46, 111, 114, 103, 47, 50, 48, 48, 49, 47, 88, 77, 76, 83, 99, 104, 101, 109, 97, 35, 100, 101, 99, 105, 109, 97, 108] := by rw [Lib.toList_data]; exact h4
          clear h4
          cases hd : decO s.data.toList with
          | none =>
            rw [hd] at hW HP
            replace hW : W = .strange := hW
            replace HP : Hid (∀ w, Calls Tryd.prog 28 #[.string s] w fun e w' => e = .returned (.tuple #[.agg #[.int .i64 0, .int .i64 0], .bool false]) ∧ Below w.heap.size w w') := HP
            clear hd
            have HW := Lib.hid hW
            clear hW
            go_wp2_with (first | (go_at_call 27; refine (HC.out _).mono ?_; rintro e w' ⟨rfl, rfl⟩) | (go_at_call 28; refine (HP.out _).mono ?_; rintro e w1 ⟨rfl, hb1⟩))
            refine wp_goto ?_
            refine ⟨rfl, ex_u24 _ _ (by kernel_rfl) _ ⟨?_, HW.out⟩⟩
            exact Below.num hb1
          | some p =>
            have hg := decO_good hd
            obtain ⟨m, c⟩ := p
            rw [hd] at hW HP
            replace hW : W = .num m c := hW
            replace HP : Hid (∀ w, Calls Tryd.prog 28 #[.string s] w fun e w' => e = .returned (.tuple #[.agg #[.int .i64 m, .int .i64 (c : Int)], .bool true]) ∧ Below w.heap.size w w') := HP
            clear hd
            have HR := Lib.hid (rep_int m (by have := hg.1; have := hg.2.1; rw [p53]; dsimp only at *; omega))
            have HS := Lib.hid (rep_int (c : Int) (by have := hg.2.2.2.1; rw [p53]; dsimp only at *; omega))
            have HW := Lib.hid hW
            clear hW hg
            go_wp2_with (first | (go_at_call 27; refine (HC.out _).mono ?_; rintro e w' ⟨rfl, rfl⟩) | (go_at_call 28; refine (HP.out _).mono ?_; rintro e w1 ⟨rfl, hb1⟩))
            simp only [Exit.jump]
            go_ret
            refine ⟨_, _, rfl, ?_, Below.num hb1⟩
            rw [HW.out]
            exact ⟨HR.out, HS.out⟩
        · rw [if_neg h4] at hW
          have h42 : ¬ y.toList = [104, 116, 116, 112, 58, 47, 47, 119, 119, 119, 46, 119, 51, 46, 111, 114, 103, 47, 50, 48, 48, 49, 47, 88, 77, 76, 83, 99, 104, 101, 109, 97, 35, 100, 101, 99, 105, 109, 97, 108] := by rw [Lib.toList_data]; exact h4
          have h43 : (y.toList == [104, 116, 116, 112, 58, 47, 47, 119, 119, 119, 46, 119, 51, 46, 111, 114, 103, 47, 50, 48, 48, 49, 47, 88, 77, 76, 83, 99, 104, 101, 109, 97, 35, 100, 101, 99, 105, 109, 97, 108]) = false := by simpa using h42
          clear h4
          by_cases h5 : y.data.toList = xBoolL
          · rw [if_pos h5] at hW
            have h52 : y.toList = [104, 116, 116, 112, 58, 47, 47, 119, 119, 119, 46, 119, 51, 46, 111, 114, 103, 47, 50, 48, 48, 49, 47, 88, 77, 76, 83, 99, 104, 101, 109, 97, 35, 98, 111, 111, 108, 101, 97, 110] := by rw [Lib.toList_data]; exact h5
            clear h5
            by_cases h6 : s.data.toList = trueL
            · rw [if_pos h6] at hW
              have h62 : s.toList = [116, 114, 117, 101] := by rw [Lib.toList_data]; exact h6
              clear h6
              have HW := Lib.hid hW
              clear hW
              go_wp2_with (first | (go_at_call 27; refine (HC.out _).mono ?_; rintro e w' ⟨rfl, rfl⟩) | (go_at_call 28; refine (HP.out _).mono ?_; rintro e w1 ⟨rfl, hb1⟩))
              simp only [Exit.jump]
              go_ret
              refine ⟨_, _, rfl, ?_, ((Below.refl _ _).alloc (Nat.le_refl _) _)⟩
              rw [HW.out]
              exact ⟨rep1, repm1⟩
            · rw [if_neg h6] at hW
              have h62 : ¬ s.toList = [116, 114, 117, 101] := by rw [Lib.toList_data]; exact h6
              have h63 : (s.toList == [116, 114, 117, 101]) = false := by simpa using h62
              clear h6
              by_cases h7 : s.data.toList = falseL
              · rw [if_pos h7] at hW
                have h72 : s.toList = [102, 97, 108, 115, 101] := by rw [Lib.toList_data]; exact h7
                clear h7
                have HW := Lib.hid hW
                clear hW
                go_wp2_with (first | (go_at_call 27; refine (HC.out _).mono ?_; rintro e w' ⟨rfl, rfl⟩) | (go_at_call 28; refine (HP.out _).mono ?_; rintro e w1 ⟨rfl, hb1⟩))
                simp only [Exit.jump]
                go_ret
                refine ⟨_, _, rfl, ?_, ((Below.refl _ _).alloc (Nat.le_refl _) _)⟩
                rw [HW.out]
                exact ⟨rep0, repm1⟩
              · rw [if_neg h7] at hW
                have h72 : ¬ s.toList = [102, 97, 108, 115, 101] := by rw [Lib.toList_data]; exact h7
                have h73 : (s.toList == [102, 97, 108, 115, 101]) = false := by simpa using h72
                clear h7
                have HW := Lib.hid hW
                clear hW
                go_wp2_with (first | (go_at_call 27; refine (HC.out _).mono ?_; rintro e w' ⟨rfl, rfl⟩) | (go_at_call 28; refine (HP.out _).mono ?_; rintro e w1 ⟨rfl, hb1⟩))
                refine wp_label ?_
                go_wp2_with fail
                simp only [Exit.jump]
                go_ret
                refine ⟨_, _, rfl, ?_, ((Below.refl _ _).alloc (Nat.le_refl _) _)⟩
                rw [HW.out]
                exact ⟨rep0, repm4⟩
          · rw [if_neg h5] at hW
            have h52 : ¬ y.toList = [104, 116, 116, 112, 58, 47, 47, 119, 119, 119, 46, 119, 51, 46, 111, 114, 103, 47, 50, 48, 48, 49, 47, 88, 77, 76, 83, 99, 104, 101, 109, 97, 35, 98, 111, 111, 108, 101, 97, 110] := by rw [Lib.toList_data]; exact h5
            have h53 : (y.toList == [104, 116, 116, 112, 58, 47, 47, 119, 119, 119, 46, 119, 51, 46, 111, 114, 103, 47, 50, 48, 48, 49, 47, 88, 77, 76, 83, 99, 104, 101, 109, 97, 35, 98, 111, 111, 108, 101, 97, 110]) = false := by simpa using h52
            clear h5
            by_cases h6 : y.data.toList = []
            · rw [if_pos h6] at hW
              have h62 : y.toList = [] := by rw [Lib.toList_data]; exact h6
              clear h6
              by_cases h7 : l.data.toList = []
              · rw [if_pos h7] at hW
                have h72 : l.toList = [] := by rw [Lib.toList_data]; exact h7
                clear h7
                have HW := Lib.hid hW
                clear hW
                go_wp2_with (first | (go_at_call 27; refine (HC.out _).mono ?_; rintro e w' ⟨rfl, rfl⟩) | (go_at_call 28; refine (HP.out _).mono ?_; rintro e w1 ⟨rfl, hb1⟩))
                simp only [Exit.jump]
                go_ret
                refine ⟨_, _, rfl, ?_, ((Below.refl _ _).alloc (Nat.le_refl _) _)⟩
                rw [HW.out]
                exact ⟨HZ.out, repm2⟩
              · rw [if_neg h7] at hW
                have h72 : ¬ l.toList = [] := by rw [Lib.toList_data]; exact h7
                have h73 : (l.toList == []) = false := by simpa using h72
                have h74 : l.toList.isEmpty = false := by simpa using h72
                clear h7
                have HW := Lib.hid hW
                clear hW
                go_wp2_with (first | (go_at_call 27; refine (HC.out _).mono ?_; rintro e w' ⟨rfl, rfl⟩) | (go_at_call 28; refine (HP.out _).mono ?_; rintro e w1 ⟨rfl, hb1⟩))
                simp only [Exit.jump]
                go_ret
                refine ⟨_, _, rfl, ?_, ((Below.refl _ _).alloc (Nat.le_refl _) _)⟩
                rw [HW.out]
                exact ⟨rep0, repm3⟩
            · rw [if_neg h6] at hW
              have h62 : ¬ y.toList = [] := by rw [Lib.toList_data]; exact h6
              have h63 : (y.toList == []) = false := by simpa using h62
              have h64 : y.toList.isEmpty = false := by simpa using h62
              clear h6
              have HW := Lib.hid hW
              clear hW
              go_wp2_with (first | (go_at_call 27; refine (HC.out _).mono ?_; rintro e w' ⟨rfl, rfl⟩) | (go_at_call 28; refine (HP.out _).mono ?_; rintro e w1 ⟨rfl, hb1⟩))
              refine wp_label ?_
              go_wp2_with fail
              simp only [Exit.jump]
              go_ret
              refine ⟨_, _, rfl, ?_, ((Below.refl _ _).alloc (Nat.le_refl _) _)⟩
              rw [HW.out]
              exact ⟨rep0, repm4⟩
    · rw [if_neg hk] at hW
      have HW := Lib.hid hW
      clear hW
      go_wp2_with (first | (go_at_call 27; refine (HC.out _).mono ?_; rintro e w' ⟨rfl, rfl⟩) | (go_at_call 28; refine (HP.out _).mono ?_; rintro e w1 ⟨rfl, hb1⟩))
      simp only [Exit.jump]
      go_ret
      refine ⟨_, _, rfl, ?_, ((Below.refl _ _).alloc (Nat.le_refl _) _)⟩
      rw [HW.out]
      exact ⟨rep0, repm5⟩
  · rintro a wr ⟨u, rfl, hb, hW⟩
    have HW := Lib.hid hW
    have HB := Lib.hid hb
    clear hW hb
    go_wp2_with fail
    simp only [Exit.jump]
    go_ret
    refine ⟨_, _, rfl, ?_, HB.out⟩
    rw [HW.out]
    exact ⟨rep0, repm4⟩
end Go.Proofs.YtdlfoinpjbcodaaDoor
