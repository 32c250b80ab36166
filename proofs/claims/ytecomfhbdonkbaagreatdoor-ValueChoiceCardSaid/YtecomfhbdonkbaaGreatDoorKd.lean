/- Package value: what a term weighs. -/
import Derived.Test.YtecomfhbdonkbaaGreatDoorKb
import Derived.Test.YtecomfhbdonkbaaGreatDoorShelfB
import Derived.Shelf.Strings.Search3
import Derived.Lib.IndexLaws
import Derived.Lib.Bytealg
import Derived.Test.YtecomfhbdonkbaaGreatDoorKs
import Derived.Deep.RegionLaw
import Derived.Test.YtecomfhbdonkbaaGreatDoorKp
import Derived.Deep.LoopGhost
namespace Go.Proofs.YtecomfhbdonkbaaGreatDoor
open Go.RowKit Go.Shelf Flo
set_option maxRecDepth 100000
set_option linter.unusedVariables false
set_option linter.unusedSimpArgs false

/-- what its truth hangs on. -/
def Wt.re : Wt → Int
  | .num m _ => m
  | .tr b => if b then 1 else 0
  | .plain n => n
  | _ => 0
/-- the words are that weight. -/
def Wr (re im : Nat) (x : Wt) : Prop := Rep re x.re ∧ Rep im x.im
theorem rep_minus (n : Nat) (h0 : n ≠ 0) (h : n < 2 ^ 53) (w v : Nat) (hv : v = rungOf n) (hw : w = v ^^^ 2 ^ 63) : Rep w (-(n : Int)) := by
  rw [hw]
  exact neg_rep (rep_lit n h0 h v hv)
theorem repm1 : Rep 13830554455654793216 (-1) := rep_minus 1 (by decide) (by decide) _ 4607182418800017408 (by decide) (by decide)
theorem repm2 : Rep 13835058055282163712 (-2) := rep_minus 2 (by decide) (by decide) _ 4611686018427387904 (by decide) (by decide)
theorem repm3 : Rep 13837309855095848960 (-3) := rep_minus 3 (by decide) (by decide) _ 4613937818241073152 (by decide) (by decide)
theorem repm4 : Rep 13839561654909534208 (-4) := rep_minus 4 (by decide) (by decide) _ 4616189618054758400 (by decide) (by decide)
theorem repm5 : Rep 13840687554816376832 (-5) := rep_minus 5 (by decide) (by decide) _ 4617315517961601024 (by decide) (by decide)

theorem contains_dot (s : ByteArray) (w : World) : Calls Tryz.prog 61 #[.string s, .string ⟨#[46]⟩] w fun e w' => e = .returned (.bool (s.data.toList.contains 46)) ∧ w' = w := by
  refine (Any.strings_Contains_one Tryz.lays144 s 46 w).mono ?_
  rintro e w' ⟨rfl, rfl⟩
  refine ⟨?_, rfl⟩
  have : decide (0 ≤ Lib.indexByte s.data.toList 46) = s.data.toList.contains 46 := by
    rw [Bool.eq_iff_iff, decide_eq_true_eq, List.contains_iff_mem]
    have hge := Lib.indexByte_ge s.data.toList 46
    constructor
    · intro h
      obtain ⟨o, ho⟩ : ∃ o : Nat, Lib.indexByte s.data.toList 46 = o := ⟨(Lib.indexByte s.data.toList 46).toNat, by omega⟩
      exact List.mem_of_getElem? (Lib.indexByte_some ho).1
    · intro h
      rcases Int.lt_or_le (Lib.indexByte s.data.toList 46) 0 with hn | hn
      · obtain ⟨k, hk⟩ := List.getElem?_of_mem h
        exact absurd hk (Lib.indexByte_none (by omega) k)
      · exact hn
  rw [this]

theorem tm_cases (t : Tm) : ∃ k s l y, t = ⟨k, s, l, y⟩ := ⟨t.k, t.s, t.l, t.t, rfl⟩
theorem run_min {ia ib : Nat} {i j : Int} (hi : Rep ia i) (hj : Rep ib j) : ∃ r, Rep r (min i j) ∧ ∀ (ats : Array TypeId) (t : TypeId) (w : World), Sem.run Tryz.prog (Builtin.min_ ats t #[.float .f64 ia, .float .f64 ib]) w = .ok (.float .f64 r) w := by
  rcases Int.lt_trichotomy i j with h | h | h
  · have ho := ord_lt hi hj h
    refine ⟨ia, by rw [show min i j = i by omega]; exact hi, fun ats t w => ?_⟩
    unfold Builtin.min_ Builtin.min2
    simp [List.foldlM, ho]
  · have ho := ord_eq hi hj h
    subst h
    refine ⟨if (FloatKind.f64.decode ia).neg then ia else ib, by rw [show min i i = i by omega]; split <;> assumption, fun ats t w => ?_⟩
    unfold Builtin.min_ Builtin.min2
    simp [List.foldlM, ho]
  · have ho := ord_gt hi hj h
    refine ⟨ib, by rw [show min i j = j by omega]; exact hj, fun ats t w => ?_⟩
    unfold Builtin.min_ Builtin.min2
    simp [List.foldlM, ho]
theorem rep_ge {r : Nat} {n : Int} (h : Rep r n) : (FloatKind.f64.format.order r 0 == some .gt || FloatKind.f64.format.order r 0 == some .eq) = decide (0 ≤ n) := by
  rcases Int.lt_trichotomy n 0 with h1 | h1 | h1
  · rw [ord_lt h rep0 h1, decide_eq_false (by omega)]; rfl
  · rw [ord_eq h rep0 h1, decide_eq_true (by omega)]; rfl
  · rw [ord_gt h rep0 h1, decide_eq_true (by omega)]; rfl
set_option maxHeartbeats 1000000 in
theorem numbers_any (ra ia rb ib : Nat) (i j : Int) (hi : Rep ia i) (hj : Rep ib j) (w : World) : Calls Tryz.prog 39 #[.complex .f64 ra ia, .complex .f64 rb ib] w fun e w' => e = .returned (.bool (decide (0 ≤ min i j))) ∧ w = w' := by
  obtain ⟨r, hr, hm⟩ := run_min hi hj
  have e0 := rep_ge hr
  generalize decide (0 ≤ min i j) = c at e0 ⊢
  clear hi hj hr
  go_enter Tryz.func39, Tryz.ntmps39
  go_wp2
  go_ret
  exact ⟨rfl, rfl⟩
theorem Below.num {w w1 : World} {o p : Obj} (hb : Below (w.alloc o).heap.size (w.alloc o) w1) : Below w.heap.size w (w1.alloc p) := by
  have h1 : Below w.heap.size w w1 := ((Below.refl w.heap.size w).alloc (Nat.le_refl _) o).trans (hb.mono (by simp))
  exact h1.alloc h1.size p
set_option maxHeartbeats 4000000 in
theorem weigh_any (t : Tm) (ht : t.Sm) (w : World) : Calls Tryz.prog 38 #[t.val] w fun e w' => ∃ re im, e = .returned (.complex .f64 re im) ∧ Wr re im (wt t) ∧ Below w.heap.size w w' := by
  have hs200 := ht.s
  obtain ⟨k, s, l, y, rfl⟩ := tm_cases t
  replace hs200 : s.size ≤ 200 := hs200
  obtain ⟨W, hW⟩ : ∃ W, W = wt ⟨k, s, l, y⟩ := ⟨_, rfl⟩
  rw [← hW]
  unfold wt at hW
  change W = if k = 3 then (if y.data.toList = xIntL then (if s.data.toList.contains 46 then .strange else wtNum (decO s.data.toList)) else if y.data.toList = xDecL then wtNum (decO s.data.toList)
    else if y.data.toList = xBoolL then (if s.data.toList = trueL then .tr true else if s.data.toList = falseL then .tr false else .strange) else if y.data.toList = [] then (if l.data.toList = [] then .plain s.size else .spoken) else .strange) else .node at hW
  unfold Tm.val
  simp only []
  have HC := Lib.hid (fun w => contains_dot s w)
  have HP := Lib.hid (fun w => parse_any s w (by omega))
  rw [ansD_eq] at HP
  have HZ := Lib.hid (rep_int (s.size : Int) (by rw [p53]; omega))
  clear ht
  go_enter Tryz.func38, Tryz.ntmps38
  go_wp2_with fail
  refine wp_scope_jumps 0 (fun a' w' => (fun a' w' => ∃ u : Nat → Value, a' = { tmps := #[u 0, u 1, u 2, u 3, u 4, u 5, u 6, u 7, u 8, u 9, u 10, u 11, u 12, u 13, u 14, u 15, u 16, u 17, u 18, u 19, u 20, u 21, u 22, u 23, u 24, u 25, u 26, u 27, u 28, u 29, u 30, u 31, u 32, u 33, u 34, u 35, u 36, u 37, u 38, u 39, u 40, u 41, u 42, u 43, u 44, u 45, u 46, u 47, u 48, u 49], defers := [] } ∧ Below w.heap.size w w' ∧ W = .strange) a' w') (fun _ _ => 0) rfl ?_ ?_
  · by_cases hk : k = 3
    · rw [if_pos hk] at hW
      by_cases h1 : y.data.toList = xIntL
      · rw [if_pos h1] at hW
        have h12 : y.toList = [104, 116, 116, 112, 58, 47, 47, 119, 119, 119, 46, 119, 51, 46, 111, 114, 103, 47, 50, 48, 48, 49, 47, 88, 77, 76, 83, 99, 104, 101, 109, 97, 35, 105, 110, 116, 101, 103, 101, 114] := by rw [Lib.toList_data]; exact h1
        clear h1
        obtain ⟨c, hc⟩ : ∃ c, c = s.data.toList.contains 46 := ⟨_, rfl⟩
        rw [← hc] at hW HC
        clear hc
        cases c with
        | true =>
          replace hW : W = .strange := hW
          have HW := Lib.hid hW
          clear hW
          go_wp2_with (first | (go_at_call 61; refine (HC.out _).mono ?_; rintro e w' ⟨rfl, rfl⟩) | (go_at_call 62; refine (HP.out _).mono ?_; rintro e w1 ⟨rfl, hb1⟩))
          refine wp_goto ?_
          exact ⟨rfl, ex_u24 _ _ (by kernel_rfl) _ ⟨((Below.refl _ _).alloc (Nat.le_refl _) _), HW.out⟩⟩
        | false =>
          replace hW : W = wtNum (decO s.data.toList) := hW
          cases hd : decO s.data.toList with
          | none =>
            rw [hd] at hW HP
            replace hW : W = .strange := hW
            replace HP : Hid (∀ w, Calls Tryz.prog 62 #[.string s] w fun e w' => e = .returned (.tuple #[.agg #[.int .i64 0, .int .i64 0], .bool false]) ∧ Below w.heap.size w w') := HP
            clear hd
            have HW := Lib.hid hW
            clear hW
            go_wp2_with (first | (go_at_call 61; refine (HC.out _).mono ?_; rintro e w' ⟨rfl, rfl⟩) | (go_at_call 62; refine (HP.out _).mono ?_; rintro e w1 ⟨rfl, hb1⟩))
            refine wp_goto ?_
            refine ⟨rfl, ex_u24 _ _ (by kernel_rfl) _ ⟨?_, HW.out⟩⟩
            exact Below.num hb1
          | some p =>
            have hg := decO_good hd
            obtain ⟨m, c⟩ := p
            rw [hd] at hW HP
            replace hW : W = .num m c := hW
            replace HP : Hid (∀ w, Calls Tryz.prog 62 #[.string s] w fun e w' => e = .returned (.tuple #[.agg #[.int .i64 m, .int .i64 (c : Int)], .bool true]) ∧ Below w.heap.size w w') := HP
            clear hd
            have HR := Lib.hid (rep_int m (by have := hg.1; have := hg.2.1; rw [p53]; dsimp only at *; omega))
            have HS := Lib.hid (rep_int (c : Int) (by have := hg.2.2.2.1; rw [p53]; dsimp only at *; omega))
            have HW := Lib.hid hW
            clear hW hg
            go_wp2_with (first | (go_at_call 61; refine (HC.out _).mono ?_; rintro e w' ⟨rfl, rfl⟩) | (go_at_call 62; refine (HP.out _).mono ?_; rintro e w1 ⟨rfl, hb1⟩))
            simp only [Exit.jump]
            go_ret
            refine ⟨_, _, rfl, ?_, Below.num hb1⟩
            rw [HW.out]
            exact ⟨HR.out, HS.out⟩
      · rw [if_neg h1] at hW
        have h12 : ¬ y.toList = [104, 116, 116, 112, 58, 47, 47, 119, 119, 119, 46, 119, 51, 46, 111, 114, 103, 47, 50, 48, 48, 49, 47, 88, 77, 76, 83, 99, 104, 101, 109, 97, 35, 105, 110, 116, 101, 103, 101, 114] := by rw [Lib.toList_data]; exact h1
        have h13 : (y.toList == [104, 116, 116, 112, 58, 47, 47, 119, 119, 119, 46, 119, 51, 46, 111, 114, 103, 47, 50, 48, 48, 49, 47, 88, 77, 76, 83, 99, 104, 101, 109, 97, 35, 105, 110, 116, 101, 103, 101, 114]) = false := by simpa using h12
        clear h1
        by_cases h4 : y.data.toList = xDecL
        · rw [if_pos h4] at hW
          have h42 : y.toList = [104, 116, 116, 112, 58, 47, 47, 119, 119, 119, 46, 119, 51, 46, 111, 114, 103, 47, 50, 48, 48, 49, 47, 88, 77, 76, 83, 99, 104, 101, 109, 97, 35, 100, 101, 99, 105, 109, 97, 108] := by rw [Lib.toList_data]; exact h4
          clear h4
          cases hd : decO s.data.toList with
          | none =>
            rw [hd] at hW HP
            replace hW : W = .strange := hW
            replace HP : Hid (∀ w, Calls Tryz.prog 62 #[.string s] w fun e w' => e = .returned (.tuple #[.agg #[.int .i64 0, .int .i64 0], .bool false]) ∧ Below w.heap.size w w') := HP
            clear hd
            have HW := Lib.hid hW
            clear hW
            go_wp2_with (first | (go_at_call 61; refine (HC.out _).mono ?_; rintro e w' ⟨rfl, rfl⟩) | (go_at_call 62; refine (HP.out _).mono ?_; rintro e w1 ⟨rfl, hb1⟩))
            refine wp_goto ?_
            refine ⟨rfl, ex_u24 _ _ (by kernel_rfl) _ ⟨?_, HW.out⟩⟩
            exact Below.num hb1
          | some p =>
            have hg := decO_good hd
            obtain ⟨m, c⟩ := p
            rw [hd] at hW HP
            replace hW : W = .num m c := hW
            replace HP : Hid (∀ w, Calls Tryz.prog 62 #[.string s] w fun e w' => e = .returned (.tuple #[.agg #[.int .i64 m, .int .i64 (c : Int)], .bool true]) ∧ Below w.heap.size w w') := HP
            clear hd
            have HR := Lib.hid (rep_int m (by have := hg.1; have := hg.2.1; rw [p53]; dsimp only at *; omega))
            have HS := Lib.hid (rep_int (c : Int) (by have := hg.2.2.2.1; rw [p53]; dsimp only at *; omega))
            have HW := Lib.hid hW
            clear hW hg
            go_wp2_with (first | (go_at_call 61; refine (HC.out _).mono ?_; rintro e w' ⟨rfl, rfl⟩) | (go_at_call 62; refine (HP.out _).mono ?_; rintro e w1 ⟨rfl, hb1⟩))
            simp only [Exit.jump]
            go_ret
            refine ⟨_, _, rfl, ?_, Below.num hb1⟩
            rw [HW.out]
            exact ⟨HR.out, HS.out⟩
        · rw [if_neg h4] at hW
          have h42 : ¬ y.toList = [104, 116, 116, 112, 58, 47, 47, 119, 119, 119, 46, 119, 51, 46, 111, 114, 103, 47, 50, 48, 48, 49, 47, 88, 77, 76, 83, 99, 104, 101, 109, 97, 35, 100, 101, 99, 105, 109, 97, 108] := by rw [Lib.toList_data]; exact h4
          have h43 : (y.toList == [104, 116, 116, 112, 58, 47, 47, 119, 119, 119, 46, 119, 51, 46, 111, 114, 103, 47, 50, 48, 48, 49, 47, 88, 77, 76, 83, 99, 104, 101, 109, 97, 35, 100, 101, 99, 105, 109, 97, 108]) = false := by simpa using h42
          clear h4
          by_cases h5 : y.data.toList = xBoolL
          · rw [if_pos h5] at hW
            have h52 : y.toList = [104, 116, 116, 112, 58, 47, 47, 119, 119, 119, 46, 119, 51, 46, 111, 114, 103, 47, 50, 48, 48, 49, 47, 88, 77, 76, 83, 99, 104, 101, 109, 97, 35, 98, 111, 111, 108, 101, 97, 110] := by rw [Lib.toList_data]; exact h5
            clear h5
            by_cases h6 : s.data.toList = trueL
            · rw [if_pos h6] at hW
              have h62 : s.toList = [116, 114, 117, 101] := by rw [Lib.toList_data]; exact h6
              clear h6
              have HW := Lib.hid hW
              clear hW
              go_wp2_with (first | (go_at_call 61; refine (HC.out _).mono ?_; rintro e w' ⟨rfl, rfl⟩) | (go_at_call 62; refine (HP.out _).mono ?_; rintro e w1 ⟨rfl, hb1⟩))
              simp only [Exit.jump]
              go_ret
              refine ⟨_, _, rfl, ?_, ((Below.refl _ _).alloc (Nat.le_refl _) _)⟩
              rw [HW.out]
              exact ⟨rep1, repm1⟩
            · rw [if_neg h6] at hW
              have h62 : ¬ s.toList = [116, 114, 117, 101] := by rw [Lib.toList_data]; exact h6
              have h63 : (s.toList == [116, 114, 117, 101]) = false := by simpa using h62
              clear h6
              by_cases h7 : s.data.toList = falseL
              · rw [if_pos h7] at hW
                have h72 : s.toList = [102, 97, 108, 115, 101] := by rw [Lib.toList_data]; exact h7
                clear h7
                have HW := Lib.hid hW
                clear hW
                go_wp2_with (first | (go_at_call 61; refine (HC.out _).mono ?_; rintro e w' ⟨rfl, rfl⟩) | (go_at_call 62; refine (HP.out _).mono ?_; rintro e w1 ⟨rfl, hb1⟩))
                simp only [Exit.jump]
                go_ret
                refine ⟨_, _, rfl, ?_, ((Below.refl _ _).alloc (Nat.le_refl _) _)⟩
                rw [HW.out]
                exact ⟨rep0, repm1⟩
              · rw [if_neg h7] at hW
                have h72 : ¬ s.toList = [102, 97, 108, 115, 101] := by rw [Lib.toList_data]; exact h7
                have h73 : (s.toList == [102, 97, 108, 115, 101]) = false := by simpa using h72
                clear h7
                have HW := Lib.hid hW
                clear hW
                go_wp2_with (first | (go_at_call 61; refine (HC.out _).mono ?_; rintro e w' ⟨rfl, rfl⟩) | (go_at_call 62; refine (HP.out _).mono ?_; rintro e w1 ⟨rfl, hb1⟩))
                refine wp_label ?_
                go_wp2_with fail
                simp only [Exit.jump]
                go_ret
                refine ⟨_, _, rfl, ?_, ((Below.refl _ _).alloc (Nat.le_refl _) _)⟩
                rw [HW.out]
                exact ⟨rep0, repm4⟩
          · rw [if_neg h5] at hW
            have h52 : ¬ y.toList = [104, 116, 116, 112, 58, 47, 47, 119, 119, 119, 46, 119, 51, 46, 111, 114, 103, 47, 50, 48, 48, 49, 47, 88, 77, 76, 83, 99, 104, 101, 109, 97, 35, 98, 111, 111, 108, 101, 97, 110] := by rw [Lib.toList_data]; exact h5
            have h53 : (y.toList == [104, 116, 116, 112, 58, 47, 47, 119, 119, 119, 46, 119, 51, 46, 111, 114, 103, 47, 50, 48, 48, 49, 47, 88, 77, 76, 83, 99, 104, 101, 109, 97, 35, 98, 111, 111, 108, 101, 97, 110]) = false := by simpa using h52
            clear h5
            by_cases h6 : y.data.toList = []
            · rw [if_pos h6] at hW
              have h62 : y.toList = [] := by rw [Lib.toList_data]; exact h6
              clear h6
              by_cases h7 : l.data.toList = []
              · rw [if_pos h7] at hW
                have h72 : l.toList = [] := by rw [Lib.toList_data]; exact h7
                clear h7
                have HW := Lib.hid hW
                clear hW
                go_wp2_with (first | (go_at_call 61; refine (HC.out _).mono ?_; rintro e w' ⟨rfl, rfl⟩) | (go_at_call 62; refine (HP.out _).mono ?_; rintro e w1 ⟨rfl, hb1⟩))
                simp only [Exit.jump]
                go_ret
                refine ⟨_, _, rfl, ?_, ((Below.refl _ _).alloc (Nat.le_refl _) _)⟩
                rw [HW.out]
                exact ⟨HZ.out, repm2⟩
              · rw [if_neg h7] at hW
                have h72 : ¬ l.toList = [] := by rw [Lib.toList_data]; exact h7
                have h73 : (l.toList == []) = false := by simpa using h72
                have h74 : l.toList.isEmpty = false := by simpa using h72
                clear h7
                have HW := Lib.hid hW
                clear hW
                go_wp2_with (first | (go_at_call 61; refine (HC.out _).mono ?_; rintro e w' ⟨rfl, rfl⟩) | (go_at_call 62; refine (HP.out _).mono ?_; rintro e w1 ⟨rfl, hb1⟩))
                simp only [Exit.jump]
                go_ret
                refine ⟨_, _, rfl, ?_, ((Below.refl _ _).alloc (Nat.le_refl _) _)⟩
                rw [HW.out]
                exact ⟨rep0, repm3⟩
            · rw [if_neg h6] at hW
              have h62 : ¬ y.toList = [] := by rw [Lib.toList_data]; exact h6
              have h63 : (y.toList == []) = false := by simpa using h62
              have h64 : y.toList.isEmpty = false := by simpa using h62
              clear h6
              have HW := Lib.hid hW
              clear hW
              go_wp2_with (first | (go_at_call 61; refine (HC.out _).mono ?_; rintro e w' ⟨rfl, rfl⟩) | (go_at_call 62; refine (HP.out _).mono ?_; rintro e w1 ⟨rfl, hb1⟩))
              refine wp_label ?_
              go_wp2_with fail
              simp only [Exit.jump]
              go_ret
              refine ⟨_, _, rfl, ?_, ((Below.refl _ _).alloc (Nat.le_refl _) _)⟩
              rw [HW.out]
              exact ⟨rep0, repm4⟩
    · rw [if_neg hk] at hW
      have HW := Lib.hid hW
      clear hW
      go_wp2_with (first | (go_at_call 61; refine (HC.out _).mono ?_; rintro e w' ⟨rfl, rfl⟩) | (go_at_call 62; refine (HP.out _).mono ?_; rintro e w1 ⟨rfl, hb1⟩))
      simp only [Exit.jump]
      go_ret
      refine ⟨_, _, rfl, ?_, ((Below.refl _ _).alloc (Nat.le_refl _) _)⟩
      rw [HW.out]
      exact ⟨rep0, repm5⟩
  · rintro a wr ⟨u, rfl, hb, hW⟩
    have HW := Lib.hid hW
    have HB := Lib.hid hb
    clear hW hb
    go_wp2_with fail
    simp only [Exit.jump]
    go_ret
    refine ⟨_, _, rfl, ?_, HB.out⟩
    rw [HW.out]
    exact ⟨rep0, repm4⟩
end Go.Proofs.YtecomfhbdonkbaaGreatDoor
/- Package value: Truth, Equal, Less. -/
namespace Go.Proofs.YtecomfhbdonkbaaGreatDoor
open Go.RowKit Go.Shelf Flo
set_option maxRecDepth 100000
set_option linter.unusedVariables false
set_option linter.unusedSimpArgs false

theorem decimal_of (re im : Nat) (m s : Int) (hr : Rep re m) (hi : Rep im s) (hm : m.natAbs < 2 ^ 53) (hs : s.natAbs < 2 ^ 53) (w : World) :
    Calls Tryz.prog 41 #[.complex .f64 re im] w fun e w' => e = .returned (.agg #[.int .i64 m, .int .i64 s]) ∧ Below w.heap.size w w' := by
  have t1 := fun w => run_toInt hr hm 86 3 (by kernel_rfl) Tryz.underlying3 w
  have t2 := fun w => run_toInt hi hs 86 3 (by kernel_rfl) Tryz.underlying3 w
  clear hr hi hm hs
  go_enter Tryz.func41, Tryz.ntmps41
  go_wp2_with fail
  exact bodyPost_ret (v := .agg #[.int .i64 m, .int .i64 s]) (by simp [results, Tryz.results41, go_sem]) rfl ⟨rfl, (Below.refl _ _).alloc (Nat.le_refl _) _⟩

theorem wt_plain_small {t : Tm} (ht : t.Sm) {n : Nat} (h : wt t = .plain n) : n ≤ 200 := by
  unfold wt at h
  split at h
  · split at h
    · split at h
      · cases h
      · unfold wtNum at h; split at h <;> cases h
    · split at h
      · unfold wtNum at h; split at h <;> cases h
      · split at h
        · split at h
          · cases h
          · split at h <;> cases h
        · split at h
          · split at h
            · cases h; exact ht.s
            · cases h
          · cases h
  · cases h
theorem wt_num_good {t : Tm} {m : Int} {s : Nat} (h : wt t = .num m s) : GoodD m (s : Int) := by
  have key : ∀ o : Option (Int × Nat), (∀ p, o = some p → GoodD p.1 (p.2 : Int)) → wtNum o = .num m s → GoodD m (s : Int) := by
    intro o ho h
    cases o with
    | none => cases h
    | some p =>
      have := ho p rfl
      injection h with h1 h2
      rw [← h1, ← h2]
      exact this
  unfold wt at h
  split at h
  · split at h
    · split at h
      · cases h
      · exact key _ (fun p hp => decO_good hp) h
    · split at h
      · exact key _ (fun p hp => decO_good hp) h
      · split at h
        · split at h
          · cases h
          · split at h <;> cases h
        · split at h
          · split at h <;> cases h
          · cases h
  · cases h
/-- A weight is small. -/
theorem wt_small {t : Tm} (ht : t.Sm) : (wt t).re.natAbs < 2 ^ 53 ∧ (wt t).im.natAbs < 2 ^ 53 := by
  rw [p53]
  cases h : wt t with
  | num m s =>
    have := wt_num_good h
    show m.natAbs < _ ∧ ((s : Nat) : Int).natAbs < _
    have h1 := this.abs
    have h2 := this.2.2.2.1
    omega
  | tr b => cases b <;> exact ⟨by decide, by decide⟩
  | plain n =>
    have := wt_plain_small ht h
    show ((n : Nat) : Int).natAbs < _ ∧ (-2 : Int).natAbs < _
    omega
  | spoken => exact ⟨by decide, by decide⟩
  | strange => exact ⟨by decide, by decide⟩
  | node => exact ⟨by decide, by decide⟩
theorem rep_lt {r q : Nat} {n m : Int} (h : Rep r n) (h2 : Rep q m) : (FloatKind.f64.format.order r q == some .lt) = decide (n < m) := by
  rcases Int.lt_trichotomy n m with h1 | h1 | h1
  · rw [ord_lt h h2 h1, decide_eq_true (by omega)]; rfl
  · rw [ord_eq h h2 h1, decide_eq_false (by omega)]; rfl
  · rw [ord_gt h h2 h1, decide_eq_false (by omega)]; rfl
theorem rep_eq {r q : Nat} {n m : Int} (h : Rep r n) (h2 : Rep q m) : (FloatKind.f64.format.order r q == some .eq) = decide (n = m) := by
  rcases Int.lt_trichotomy n m with h1 | h1 | h1
  · rw [ord_lt h h2 h1, decide_eq_false (by omega)]; rfl
  · rw [ord_eq h h2 h1, decide_eq_true (by omega)]; rfl
  · rw [ord_gt h h2 h1, decide_eq_false (by omega)]; rfl
theorem truth_wt (t : Tm) : truthO t = if (wt t).im < -2 then none else some (decide ((wt t).re ≠ 0)) := by
  unfold truthO
  cases wt t with
  | num m s => show _ = if (s : Int) < -2 then _ else some (decide (m ≠ 0)); rw [if_neg (by omega)]
  | tr b => cases b <;> rfl
  | plain n =>
    show some (decide (n ≠ 0)) = some (decide (((n : Nat) : Int) ≠ 0))
    congr 1
    rw [Bool.eq_iff_iff, decide_eq_true_eq, decide_eq_true_eq]
    omega
  | _ => rfl
/-- What Truth answers. -/
def twoB : Option Bool → Value
  | none => .tuple #[.bool false, .bool false]
  | some b => .tuple #[.bool b, .bool true]
set_option maxHeartbeats 1000000 in
theorem truth_any (t : Tm) (ht : t.Sm) (w : World) : Calls Tryz.prog 22 #[t.val] w fun e w' => e = .returned (twoB (truthO t)) ∧ Below w.heap.size w w' := by
  have HW := Lib.hid (fun w => weigh_any t ht w)
  rw [truth_wt]
  generalize wt t = x at HW ⊢
  obtain ⟨V, hV⟩ : ∃ V, V = twoB (if x.im < -2 then none else some (decide (x.re ≠ 0))) := ⟨_, rfl⟩
  rw [← hV]
  have HV := Lib.hid hV
  clear hV
  have HB := Lib.hid ((Below.refl w.heap.size w).alloc (Nat.le_refl _) (.cells #[.int .i64 t.k, .string t.s, .string t.l, .string t.t] 25))
  unfold Tm.val
  unfold Tm.val at HW
  go_enter Tryz.func22, Tryz.ntmps22
  go_wp2_with fail
  refine (HW.out _).mono ?_
  rintro e w1 ⟨re, im, rfl, hw, hb⟩
  have HY := Lib.hid (HB.out.trans (hb.mono (by simp)))
  have e1 := rep_lt hw.2 repm2
  have e2 := rep_eq hw.1 rep0
  clear hw hb HB
  by_cases hc : x.im < -2
  · have HF := Lib.hid (show V = .tuple #[.bool false, .bool false] by rw [HV.out, if_pos hc]; rfl)
    rw [decide_eq_true hc] at e1
    clear hc e2
    go_wp2_with fail
    go_ret2
    exact ⟨HF.out.symm ▸ rfl, HY.out⟩
  · have HF := Lib.hid (show V = .tuple #[.bool (decide (x.re ≠ 0)), .bool true] by rw [HV.out, if_neg hc]; rfl)
    rw [decide_eq_false hc] at e1
    have e3 : decide (x.re ≠ 0) = !decide (x.re = 0) := by simp
    rw [e3] at HF
    generalize decide (x.re = 0) = d at e2 HF
    have e4 : (FloatKind.f64.format.order re 0 != some .eq) = !d := by rw [bne, e2]
    clear hc e3 e2
    generalize (!d) = d at e4 HF
    go_wp2_with fail
    go_ret2
    exact ⟨by rw [HF.out]; simp [e4], HY.out⟩
/-- Two weights: is both's a number? -/
def bothN (x y : Wt) : Bool := decide (0 ≤ min x.im y.im)
theorem bothN_num {x y : Wt} (h : bothN x y = true) : ∃ m s m2 s2, x = .num m s ∧ y = .num m2 s2 := by
  unfold bothN at h
  rw [decide_eq_true_eq] at h
  have h1 : 0 ≤ x.im := by omega
  have h2 : 0 ≤ y.im := by omega
  have key : ∀ x : Wt, 0 ≤ x.im → ∃ m s, x = .num m s := by
    intro x hx
    cases x with
    | num m s => exact ⟨m, s, rfl⟩
    | tr b => exact absurd (show (0 : Int) ≤ -1 from hx) (by decide)
    | plain n => exact absurd (show (0 : Int) ≤ -2 from hx) (by decide)
    | spoken => exact absurd (show (0 : Int) ≤ -3 from hx) (by decide)
    | strange => exact absurd (show (0 : Int) ≤ -4 from hx) (by decide)
    | node => exact absurd (show (0 : Int) ≤ -5 from hx) (by decide)
  obtain ⟨m, s, rfl⟩ := key x h1
  obtain ⟨m2, s2, rfl⟩ := key y h2
  exact ⟨_, _, _, _, rfl, rfl⟩
theorem equal_bool (a b : Tm) (w : World) : (Op.equalIn 10000 25 (.agg #[.int .i64 a.k, .string a.s, .string a.l, .string a.t]) (.agg #[.int .i64 b.k, .string b.s, .string b.l, .string b.t])).run Tryz.prog w = .ok (tmEq a b) w := by
  have e : tmEq a b = (a.k == b.k && (a.s.toList == b.s.toList && (a.l.toList == b.l.toList && a.t.toList == b.t.toList))) := by
    unfold tmEq Tm.sl Tm.ll Tm.tl
    simp only [Lib.toList_data]
    have d : ∀ x y : List UInt8, decide (x = y) = (x == y) := fun x y => by rw [Bool.eq_iff_iff, decide_eq_true_eq, beq_iff_eq]
    have d2 : ∀ x y : Int, decide (x = y) = (x == y) := fun x y => by rw [Bool.eq_iff_iff, decide_eq_true_eq, beq_iff_eq]
    rw [d, d, d, d2]
  rw [e]
  cases h1 : a.k == b.k <;> cases h2 : a.s.toList == b.s.toList <;> cases h3 : a.l.toList == b.l.toList <;> cases h4 : a.t.toList == b.t.toList
  all_goals go_simp
/-- A term in a box. -/
def TmB (w : World) (b : Nat) (t : Tm) : Prop := b < w.heap.size ∧ w.cell? ⟨b, 0, none⟩ = some (.int .i64 t.k) ∧ w.cell? ⟨b, 1, none⟩ = some (.string t.s) ∧ w.cell? ⟨b, 2, none⟩ = some (.string t.l) ∧ w.cell? ⟨b, 3, none⟩ = some (.string t.t)
theorem TmB.below {w w' : World} {b : Nat} {t : Tm} (h : TmB w b t) (hb : Below w.heap.size w w') : TmB w' b t := by
  obtain ⟨h0, h1, h2, h3, h4⟩ := h
  have c : ∀ j, w'.cell? ⟨b, j, none⟩ = w.cell? ⟨b, j, none⟩ := fun j => hb.cell (p := ⟨b, j, none⟩) h0
  exact ⟨Nat.lt_of_lt_of_le h0 hb.size, (c _).trans h1, (c _).trans h2, (c _).trans h3, (c _).trans h4⟩
theorem TmB.new (w : World) (t : Tm) (ty : TypeId) : TmB (w.alloc (.cells #[.int .i64 t.k, .string t.s, .string t.l, .string t.t] ty)) w.heap.size t := ⟨by simp, by simp, by simp, by simp, by simp⟩
/-- What stays while two terms are looked at. -/
def TwoT (w : World) (a b : Tm) (v : World) : Prop := Below w.heap.size w v ∧ TmB v w.heap.size a ∧ TmB v (w.heap.size + 1) b
theorem TwoT.below {w v v' : World} {a b : Tm} (h : TwoT w a b v) (hb : Below v.heap.size v v') : TwoT w a b v' := ⟨h.1.trans (hb.mono h.1.size), h.2.1.below hb, h.2.2.below hb⟩
theorem TwoT.new (w : World) (a b : Tm) (ty : TypeId) : TwoT w a b ((w.alloc (.cells #[.int .i64 a.k, .string a.s, .string a.l, .string a.t] ty)).alloc (.cells #[.int .i64 b.k, .string b.s, .string b.l, .string b.t] ty)) := by
  have h1 := TmB.new w a ty
  have b1 := (Below.refl w.heap.size w).alloc (Nat.le_refl _) (.cells #[.int .i64 a.k, .string a.s, .string a.l, .string a.t] ty)
  have z1 : (w.alloc (.cells #[.int .i64 a.k, .string a.s, .string a.l, .string a.t] ty)).heap.size = w.heap.size + 1 := by simp
  generalize w.alloc (.cells #[.int .i64 a.k, .string a.s, .string a.l, .string a.t] ty) = w1 at *
  have h2 := TmB.new w1 b ty
  have b2 := (Below.refl w1.heap.size w1).alloc (Nat.le_refl _) (.cells #[.int .i64 b.k, .string b.s, .string b.l, .string b.t] ty)
  rw [z1] at h2
  exact ⟨b1.trans (b2.mono (by omega)), h1.below b2, h2⟩
theorem below_drew15 (w : World) : Below w.heap.size w w.drew := (Below.refl _ _).drew
end Go.Proofs.YtecomfhbdonkbaaGreatDoor
/- Package value: Equal, Less. -/
namespace Go.Proofs.YtecomfhbdonkbaaGreatDoor
open Go.RowKit Go.Shelf Flo
set_option maxRecDepth 100000
set_option linter.unusedVariables false
set_option linter.unusedSimpArgs false

theorem equalO_num {a b : Tm} {m s m2 s2} (h : wt a = .num m s) (h2 : wt b = .num m2 s2) : equalO a b = (decide (sixI m s = sixI m2 s2), true) := by unfold equalO; rw [h, h2]
theorem equalO_other {a b : Tm} (h : bothN (wt a) (wt b) = false) : equalO a b = (tmEq a b, tmEq a b || decide (min (wt a).im (wt b).im = -5) || (decide ((wt a).im = (wt b).im) && decide (min (wt a).im (wt b).im ≠ -4))) := by
  unfold equalO
  generalize wt a = x at *
  generalize wt b = y at *
  have h' : ¬ 0 ≤ min x.im y.im := of_decide_eq_false h
  cases x <;> cases y <;> first | rfl | (exfalso; apply h'; simp only [Wt.im]; omega)
theorem cmpI_eq (a b : Int) : (cmpI a b == 0) = decide (a = b) := by
  unfold cmpI
  rcases Int.lt_trichotomy a b with h | h | h
  · rw [if_pos h, decide_eq_false (by omega)]; rfl
  · rw [if_neg (by omega), if_neg (by omega), decide_eq_true h]; rfl
  · rw [if_neg (by omega), if_pos h, decide_eq_false (by omega)]; rfl
theorem cmpI_lt (a b : Int) : decide (cmpI a b < 0) = decide (a < b) := by
  unfold cmpI
  rw [Bool.eq_iff_iff, decide_eq_true_eq, decide_eq_true_eq]
  split
  · omega
  · split <;> omega
set_option maxHeartbeats 2000000 in
theorem equal_any (a b : Tm) (ha : a.Sm) (hb : b.Sm) (w : World) (hP : PowAt w) : Calls Tryz.prog 25 #[a.val, b.val] w fun e w' => e = .returned (.tuple #[.bool (equalO a b).1, .bool (equalO a b).2]) ∧ Below w.heap.size w w' := by
  have HA := Lib.hid (fun w => weigh_any a ha w)
  have HB := Lib.hid (fun w => weigh_any b hb w)
  have HSA := Lib.hid (wt_small ha)
  have HSB := Lib.hid (wt_small hb)
  have HEQ := Lib.hid (fun w => equal_bool a b w)
  have HN := Lib.hid (TwoT.new w a b 25)
  have HP := Lib.hid hP
  obtain ⟨V, hV⟩ : ∃ V, V = Value.tuple #[.bool (equalO a b).1, .bool (equalO a b).2] := ⟨_, rfl⟩
  rw [← hV]
  have HV := Lib.hid hV
  clear hV ha hb hP
  unfold Tm.val
  unfold Tm.val at HA HB
  go_enter Tryz.func25, Tryz.ntmps25
  go_wp2_with fail
  generalize World.alloc (World.alloc w _) _ = wr at HN ⊢
  refine wp_region_any (by kernel_rfl) ?_
  change wpAny _ _ _ _ _ _ _ (World.drew _)
  refine wpAny_of_held (S := fun v => TwoT w a b v) _ _ _ _ ?_
  have hS : (fun v => TwoT w a b v) _ := HN.out.below (below_drew15 _)
  refine wpAnyH_take (i := 0) (oi := ⟨some 9, _, _, _, _, _⟩) (v := ?_) rfl (by kernel_rfl) (by kernel_rfl) (by kernel_rfl) (fun _ _ _ h => h) (Or.inl ⟨by simp only [Region.wanted], ?_⟩) hS ?_
  rotate_left
  · intro wz hSw; obtain ⟨-, k0, k1, k2, k3⟩ := hSw.2.1
    clear hSw
    go_simp
    first | done | with_reducible rfl
  try simp only [Act.put, List.setIfInBounds_toArray, List.set_cons_zero, List.set_cons_succ]
  refine wpAnyH_take (i := 2) (oi := ⟨some 11, _, _, _, _, _⟩) (v := ?_) rfl (by kernel_rfl) (by kernel_rfl) (by kernel_rfl) (fun _ _ _ h => h) (Or.inl ⟨by simp only [Region.wanted], ?_⟩) hS ?_
  rotate_left
  · intro wz hSw; obtain ⟨-, k0, k1, k2, k3⟩ := hSw.2.2
    clear hSw
    go_simp
    first | done | with_reducible rfl
  try simp only [Act.put, List.setIfInBounds_toArray, List.set_cons_zero, List.set_cons_succ]
  refine wpAnyH_ready (rs := [1]) (by kernel_rfl) (by simp) ?_
  refine AllReadyH.cons (o := ⟨some 10, _, _, _, _, _⟩) rfl (fun K hK => ?_) AllReadyH.nil
  go_simp
  refine (HA.out _).mono ?_
  rintro e w1 ⟨xr, xi, rfl, h1, h2⟩
  have HX := Lib.hid h1
  have HB1 := Lib.hid (hS.below h2)
  clear h1 h2
  go_wp2_with fail
  refine hK.out _ _ (HB1.out) (fun hS => ?_)
  clear hK K
  try simp only [Act.put, List.setIfInBounds_toArray, List.set_cons_zero, List.set_cons_succ]
  refine wpAnyH_ready (rs := [3]) (by kernel_rfl) (by simp) ?_
  refine AllReadyH.cons (o := ⟨some 12, _, _, _, _, _⟩) rfl (fun K hK => ?_) AllReadyH.nil
  go_simp
  refine (HB.out _).mono ?_
  rintro e w2 ⟨yr, yi, rfl, h1, h2⟩
  have HY := Lib.hid h1
  have HT := Lib.hid (hS.below h2)
  clear h1 h2
  go_wp2_with fail
  refine hK.out _ _ (HT.out) (fun hS => ?_)
  clear hK K
  try simp only [Act.put, List.setIfInBounds_toArray, List.set_cons_zero, List.set_cons_succ]
  refine wpAnyH_take (i := 4) (oi := ⟨some 6, _, _, _, _, _⟩) (v := ?_) rfl (by kernel_rfl) (by kernel_rfl) (by kernel_rfl) (fun _ _ _ h => h) (Or.inl ⟨by simp only [Region.wanted], ?_⟩) hS ?_
  rotate_left
  · intro wz hSw
    clear hSw
    go_simp
    first | done | with_reducible rfl
  try simp only [Act.put, List.setIfInBounds_toArray, List.set_cons_zero, List.set_cons_succ]
  refine wpAnyH_take (i := 5) (oi := ⟨some 7, _, _, _, _, _⟩) (v := ?_) rfl (by kernel_rfl) (by kernel_rfl) (by kernel_rfl) (fun _ _ _ h => h) (Or.inl ⟨by simp only [Region.wanted], ?_⟩) hS ?_
  rotate_left
  · intro wz hSw
    clear hSw
    go_simp
    first | done | with_reducible rfl
  try simp only [Act.put, List.setIfInBounds_toArray, List.set_cons_zero, List.set_cons_succ]
  refine wpAnyH_done (by kernel_rfl) ?_ _
  clear hS HN HB1
  have HNUM := Lib.hid (fun w => numbers_any xr xi yr yi _ _ HX.out.2 HY.out.2 w)
  have HDX := Lib.hid (fun w => decimal_of xr xi _ _ HX.out.1 HX.out.2 HSA.out.1 HSA.out.2 w)
  have HDY := Lib.hid (fun w => decimal_of yr yi _ _ HY.out.1 HY.out.2 HSB.out.1 HSB.out.2 w)
  by_cases hn : bothN (wt a) (wt b) = true
  · obtain ⟨m, s, m2, s2, ea, eb⟩ := bothN_num hn
    have HG := Lib.hid (And.intro (wt_num_good ea) (wt_num_good eb))
    rw [show decide (0 ≤ min (wt a).im (wt b).im) = true from hn] at HNUM
    rw [ea] at HDX
    rw [eb] at HDY
    replace HDX : Hid (∀ w, Calls Tryz.prog 41 #[.complex .f64 xr xi] w fun e w' => e = .returned (.agg #[.int .i64 m, .int .i64 (s : Int)]) ∧ Below w.heap.size w w') := HDX
    replace HDY : Hid (∀ w, Calls Tryz.prog 41 #[.complex .f64 yr yi] w fun e w' => e = .returned (.agg #[.int .i64 m2, .int .i64 (s2 : Int)]) ∧ Below w.heap.size w w') := HDY
    have HF := Lib.hid (show V = .tuple #[.bool (cmpI (sixI m s) (sixI m2 s2) == 0), .bool true] by rw [HV.out, equalO_num ea eb, cmpI_eq])
    clear hn ea eb HV
    go_wp2_with fail
    refine (HNUM.out _).mono ?_
    rintro e w3 ⟨rfl, rfl⟩
    go_wp2_with fail
    refine (HDX.out _).mono ?_
    rintro e w3 ⟨rfl, hb3⟩
    have HT3 := Lib.hid (HT.out.below hb3)
    clear hb3
    go_wp2_with fail
    refine (HDY.out _).mono ?_
    rintro e w4 ⟨rfl, hb4⟩
    have HT4 := Lib.hid (HT3.out.below hb4)
    clear hb4
    go_wp2_with fail
    refine (cmp_six _ m s m2 s2 HG.out.1 HG.out.2 (HP.out.below HT4.out.1)).mono ?_
    rintro e w5 ⟨rfl, hb5⟩
    have HT5 := Lib.hid (HT4.out.below hb5)
    clear hb5
    simp only [Int.toNat_natCast]
    generalize cmpI (sixI m s) (sixI m2 s2) = c at HF ⊢
    go_wp2_with fail
    go_ret2
    exact ⟨by rw [HF.out]; rfl, HT5.out.1⟩
  · have hn' : bothN (wt a) (wt b) = false := by simpa using hn
    rw [show decide (0 ≤ min (wt a).im (wt b).im) = false from hn'] at HNUM
    obtain ⟨r, hr, hm⟩ := run_min HX.out.2 HY.out.2
    have e1 := rep_eq hr repm5
    have e2 := rep_eq HX.out.2 HY.out.2
    have e3 := rep_eq hr repm4
    have HF := Lib.hid (show V = .tuple #[.bool (tmEq a b), .bool (tmEq a b || decide (min (wt a).im (wt b).im = -5) || (decide ((wt a).im = (wt b).im) && !decide (min (wt a).im (wt b).im = -4)))] by rw [HV.out, equalO_other hn']; simp)
    clear hn hn' HV hr HSA HSB
    generalize decide (min (wt a).im (wt b).im = -5) = c1 at *
    generalize decide ((wt a).im = (wt b).im) = c2 at *
    generalize decide (min (wt a).im (wt b).im = -4) = c3 at *
    obtain ⟨-, ka0, ka1, ka2, ka3⟩ := HT.out.2.1
    obtain ⟨-, kb0, kb1, kb2, kb3⟩ := HT.out.2.2
    have HEQ2 := HEQ.out
    generalize tmEq a b = c0 at *
    clear HEQ
    go_wp2_with fail
    refine (HNUM.out _).mono ?_
    rintro e w3 ⟨rfl, rfl⟩
    cases c0 <;> cases c1 <;> cases c2 <;> cases c3
    all_goals
      go_wp2_with fail
      go_ret2
      exact ⟨by rw [HF.out]; first | rfl | (simp [bne, e3]; done), HT.out.1⟩
theorem lessO_num {a b : Tm} {m s m2 s2} (h : wt a = .num m s) (h2 : wt b = .num m2 s2) : lessO a b = some (decide (sixI m s < sixI m2 s2)) := by unfold lessO; rw [h, h2]
theorem lessO_other {a b : Tm} (h : bothN (wt a) (wt b) = false) : lessO a b = if (wt a).im ≠ (wt b).im then none else if (wt a).im = -1 then some (decide ((wt a).re < (wt b).re)) else if (wt a).im = -2 then some (Op.bytesLess a.sl b.sl) else none := by
  unfold lessO
  generalize wt a = x at *
  generalize wt b = y at *
  have h' : ¬ 0 ≤ min x.im y.im := of_decide_eq_false h
  cases x <;> cases y <;> first | rfl | (exfalso; apply h'; simp only [Wt.im]; omega) | (rename_i n k; show none = if _ then _ else _; rw [if_pos (by simp only [Wt.im]; omega)]) | (rename_i n k k2; show none = if _ then _ else _; rw [if_pos (by simp only [Wt.im]; omega)]) | (rename_i p q; cases p <;> cases q <;> rfl)
set_option maxHeartbeats 2000000 in
theorem less_any (a b : Tm) (ha : a.Sm) (hb : b.Sm) (w : World) (hP : PowAt w) : Calls Tryz.prog 98 #[a.val, b.val] w fun e w' => e = .returned (twoB (lessO a b)) ∧ Below w.heap.size w w' := by
  have HA := Lib.hid (fun w => weigh_any a ha w)
  have HB := Lib.hid (fun w => weigh_any b hb w)
  have HSA := Lib.hid (wt_small ha)
  have HSB := Lib.hid (wt_small hb)
  have HEQ := Lib.hid (fun w => equal_bool a b w)
  have HN := Lib.hid (TwoT.new w a b 25)
  have HP := Lib.hid hP
  obtain ⟨V, hV⟩ : ∃ V, V = twoB (lessO a b) := ⟨_, rfl⟩
  rw [← hV]
  have HV := Lib.hid hV
  clear hV ha hb hP
  unfold Tm.val
  unfold Tm.val at HA HB
  go_enter Tryz.func98, Tryz.ntmps98
  go_wp2_with fail
  generalize World.alloc (World.alloc w _) _ = wr at HN ⊢
  refine wp_region_any (by kernel_rfl) ?_
  change wpAny _ _ _ _ _ _ _ (World.drew _)
  refine wpAny_of_held (S := fun v => TwoT w a b v) _ _ _ _ ?_
  have hS : (fun v => TwoT w a b v) _ := HN.out.below (below_drew15 _)
  refine wpAnyH_take (i := 0) (oi := ⟨some 8, _, _, _, _, _⟩) (v := ?_) rfl (by kernel_rfl) (by kernel_rfl) (by kernel_rfl) (fun _ _ _ h => h) (Or.inl ⟨by simp only [Region.wanted], ?_⟩) hS ?_
  rotate_left
  · intro wz hSw; obtain ⟨-, k0, k1, k2, k3⟩ := hSw.2.1
    clear hSw
    go_simp
    first | done | with_reducible rfl
  try simp only [Act.put, List.setIfInBounds_toArray, List.set_cons_zero, List.set_cons_succ]
  refine wpAnyH_take (i := 2) (oi := ⟨some 10, _, _, _, _, _⟩) (v := ?_) rfl (by kernel_rfl) (by kernel_rfl) (by kernel_rfl) (fun _ _ _ h => h) (Or.inl ⟨by simp only [Region.wanted], ?_⟩) hS ?_
  rotate_left
  · intro wz hSw; obtain ⟨-, k0, k1, k2, k3⟩ := hSw.2.2
    clear hSw
    go_simp
    first | done | with_reducible rfl
  try simp only [Act.put, List.setIfInBounds_toArray, List.set_cons_zero, List.set_cons_succ]
  refine wpAnyH_ready (rs := [1]) (by kernel_rfl) (by simp) ?_
  refine AllReadyH.cons (o := ⟨some 9, _, _, _, _, _⟩) rfl (fun K hK => ?_) AllReadyH.nil
  go_simp
  refine (HA.out _).mono ?_
  rintro e w1 ⟨xr, xi, rfl, h1, h2⟩
  have HX := Lib.hid h1
  have HB1 := Lib.hid (hS.below h2)
  clear h1 h2
  go_wp2_with fail
  refine hK.out _ _ (HB1.out) (fun hS => ?_)
  clear hK K
  try simp only [Act.put, List.setIfInBounds_toArray, List.set_cons_zero, List.set_cons_succ]
  refine wpAnyH_ready (rs := [3]) (by kernel_rfl) (by simp) ?_
  refine AllReadyH.cons (o := ⟨some 11, _, _, _, _, _⟩) rfl (fun K hK => ?_) AllReadyH.nil
  go_simp
  refine (HB.out _).mono ?_
  rintro e w2 ⟨yr, yi, rfl, h1, h2⟩
  have HY := Lib.hid h1
  have HT := Lib.hid (hS.below h2)
  clear h1 h2
  go_wp2_with fail
  refine hK.out _ _ (HT.out) (fun hS => ?_)
  clear hK K
  try simp only [Act.put, List.setIfInBounds_toArray, List.set_cons_zero, List.set_cons_succ]
  refine wpAnyH_take (i := 4) (oi := ⟨some 6, _, _, _, _, _⟩) (v := ?_) rfl (by kernel_rfl) (by kernel_rfl) (by kernel_rfl) (fun _ _ _ h => h) (Or.inl ⟨by simp only [Region.wanted], ?_⟩) hS ?_
  rotate_left
  · intro wz hSw
    clear hSw
    go_simp
    first | done | with_reducible rfl
  try simp only [Act.put, List.setIfInBounds_toArray, List.set_cons_zero, List.set_cons_succ]
  refine wpAnyH_take (i := 5) (oi := ⟨some 7, _, _, _, _, _⟩) (v := ?_) rfl (by kernel_rfl) (by kernel_rfl) (by kernel_rfl) (fun _ _ _ h => h) (Or.inl ⟨by simp only [Region.wanted], ?_⟩) hS ?_
  rotate_left
  · intro wz hSw
    clear hSw
    go_simp
    first | done | with_reducible rfl
  try simp only [Act.put, List.setIfInBounds_toArray, List.set_cons_zero, List.set_cons_succ]
  refine wpAnyH_done (by kernel_rfl) ?_ _
  clear hS HN HB1
  have HNUM := Lib.hid (fun w => numbers_any xr xi yr yi _ _ HX.out.2 HY.out.2 w)
  have HDX := Lib.hid (fun w => decimal_of xr xi _ _ HX.out.1 HX.out.2 HSA.out.1 HSA.out.2 w)
  have HDY := Lib.hid (fun w => decimal_of yr yi _ _ HY.out.1 HY.out.2 HSB.out.1 HSB.out.2 w)
  by_cases hn : bothN (wt a) (wt b) = true
  · obtain ⟨m, s, m2, s2, ea, eb⟩ := bothN_num hn
    have HG := Lib.hid (And.intro (wt_num_good ea) (wt_num_good eb))
    rw [show decide (0 ≤ min (wt a).im (wt b).im) = true from hn] at HNUM
    rw [ea] at HDX
    rw [eb] at HDY
    replace HDX : Hid (∀ w, Calls Tryz.prog 41 #[.complex .f64 xr xi] w fun e w' => e = .returned (.agg #[.int .i64 m, .int .i64 (s : Int)]) ∧ Below w.heap.size w w') := HDX
    replace HDY : Hid (∀ w, Calls Tryz.prog 41 #[.complex .f64 yr yi] w fun e w' => e = .returned (.agg #[.int .i64 m2, .int .i64 (s2 : Int)]) ∧ Below w.heap.size w w') := HDY
    have HF := Lib.hid (show V = .tuple #[.bool (decide (cmpI (sixI m s) (sixI m2 s2) < 0)), .bool true] by rw [HV.out, lessO_num ea eb, cmpI_lt]; rfl)
    clear hn ea eb HV
    go_wp2_with fail
    refine (HNUM.out _).mono ?_
    rintro e w3 ⟨rfl, rfl⟩
    go_wp2_with fail
    refine (HDX.out _).mono ?_
    rintro e w3 ⟨rfl, hb3⟩
    have HT3 := Lib.hid (HT.out.below hb3)
    clear hb3
    go_wp2_with fail
    refine (HDY.out _).mono ?_
    rintro e w4 ⟨rfl, hb4⟩
    have HT4 := Lib.hid (HT3.out.below hb4)
    clear hb4
    go_wp2_with fail
    refine (cmp_six _ m s m2 s2 HG.out.1 HG.out.2 (HP.out.below HT4.out.1)).mono ?_
    rintro e w5 ⟨rfl, hb5⟩
    have HT5 := Lib.hid (HT4.out.below hb5)
    clear hb5
    simp only [Int.toNat_natCast]
    generalize cmpI (sixI m s) (sixI m2 s2) = c at HF ⊢
    go_wp2_with fail
    go_ret2
    exact ⟨by rw [HF.out]; rfl, HT5.out.1⟩
  · have hn' : bothN (wt a) (wt b) = false := by simpa using hn
    rw [show decide (0 ≤ min (wt a).im (wt b).im) = false from hn'] at HNUM
    have e1 := rep_eq HX.out.2 HY.out.2
    have e2 := rep_eq HX.out.2 repm1
    have e3 := rep_eq HX.out.2 repm2
    have e4 := rep_lt HX.out.1 HY.out.1
    have HF := Lib.hid (show V = twoB (if (wt a).im ≠ (wt b).im then none else if (wt a).im = -1 then some (decide ((wt a).re < (wt b).re)) else if (wt a).im = -2 then some (Op.bytesLess a.sl b.sl) else none) by rw [HV.out, lessO_other hn'])
    obtain ⟨-, ka0, ka1, ka2, ka3⟩ := HT.out.2.1
    obtain ⟨-, kb0, kb1, kb2, kb3⟩ := HT.out.2.2
    clear hn hn' HV HSA HSB HDX HDY HEQ
    by_cases c1 : (wt a).im = (wt b).im
    · rw [decide_eq_true c1] at e1
      have e1b : (FloatKind.f64.format.order xi yi != some .eq) = false := by rw [bne, e1]; rfl
      rw [if_neg (by simpa using c1)] at HF
      clear c1
      by_cases c2 : (wt a).im = -1
      · rw [decide_eq_true c2] at e2
        rw [if_pos c2] at HF
        clear c2
        generalize decide ((wt a).re < (wt b).re) = d at HF e4
        go_wp2_with fail
        refine (HNUM.out _).mono ?_
        rintro e w3 ⟨rfl, rfl⟩
        go_wp2_with fail
        go_ret2
        exact ⟨by rw [HF.out]; first | rfl | (simp [bne, e4]; done), HT.out.1⟩
      · rw [decide_eq_false c2] at e2
        rw [if_neg c2] at HF
        clear c2
        by_cases c3 : (wt a).im = -2
        · rw [decide_eq_true c3] at e3
          rw [if_pos c3] at HF
          clear c3
          go_wp2_with fail
          refine (HNUM.out _).mono ?_
          rintro e w3 ⟨rfl, rfl⟩
          go_wp2_with fail
          go_ret2
          exact ⟨by rw [HF.out]; unfold Tm.sl; rw [← Lib.toList_data a.s, ← Lib.toList_data b.s]; rfl, HT.out.1⟩
        · rw [decide_eq_false c3] at e3
          rw [if_neg c3] at HF
          clear c3
          go_wp2_with fail
          refine (HNUM.out _).mono ?_
          rintro e w3 ⟨rfl, rfl⟩
          go_wp2_with fail
          go_ret2
          exact ⟨by rw [HF.out]; first | rfl | (simp [bne, e4]; done), HT.out.1⟩
    · rw [decide_eq_false c1] at e1
      have e1b : (FloatKind.f64.format.order xi yi != some .eq) = true := by rw [bne, e1]; rfl
      rw [if_pos c1] at HF
      clear c1
      go_wp2_with fail
      refine (HNUM.out _).mono ?_
      rintro e w3 ⟨rfl, rfl⟩
      go_wp2_with fail
      go_ret2
      exact ⟨by rw [HF.out]; first | rfl | (simp [bne, e4]; done), HT.out.1⟩

end Go.Proofs.YtecomfhbdonkbaaGreatDoor
/- Package value: what operators answer: numeral, boolean, typeOf, level, logic. -/
namespace Go.Proofs.YtecomfhbdonkbaaGreatDoor
open Go.RowKit Go.Shelf Flo
set_option maxRecDepth 100000
set_option linter.unusedVariables false
set_option linter.unusedSimpArgs false

/-- A term, and whether it is one: of an error any term. -/
def Tells (e : Ending) (o : Option Tm) : Prop := ∃ x : Tm, e = .returned (.tuple #[x.val, .bool o.isSome]) ∧ ∀ y, o = some y → x = y
theorem Tells.some {x : Tm} {e : Ending} (h : e = .returned (.tuple #[x.val, .bool true])) : Tells e (.some x) := ⟨x, h, fun y hy => Option.some.inj hy⟩
theorem Tells.none {x : Tm} {e : Ending} (h : e = .returned (.tuple #[x.val, .bool false])) : Tells e .none := ⟨x, h, fun y hy => by cases hy⟩
theorem Tells.ite {x : Tm} {e : Ending} {b : Bool} (h : e = .returned (.tuple #[x.val, .bool b])) : Tells e (if b then .some x else .none) := by
  cases b
  · exact .none h
  · exact .some h

set_option maxHeartbeats 1000000 in
theorem boolean_any (b ok : Bool) (w : World) : Calls Tryz.prog 67 #[.bool b, .bool ok] w fun e w' => e = .returned (.tuple #[(boolT b).val, .bool ok]) ∧ Below w.heap.size w w' := by
  have hb : (Below w.heap.size w (w.alloc (.cells #[.int .i64 0, .string ⟨#[]⟩, .string ⟨#[]⟩, .string ⟨#[]⟩] 25))) := (Below.refl _ _).alloc (Nat.le_refl _) _
  have HB := Lib.hid hb
  clear hb
  cases b
  · go_enter Tryz.func67, Tryz.ntmps67
    go_wp2
    exact bodyPost_ret (v := .tuple #[(boolT false).val, .bool ok]) (by simp [results, Tryz.results67, go_sem, boolT, Tm.val, mkT, falseL, xBoolL]) rfl ⟨rfl, (Below.refl _ _).alloc (Nat.le_refl _) _⟩
  · go_enter Tryz.func67, Tryz.ntmps67
    go_wp2
    exact bodyPost_ret (v := .tuple #[(boolT true).val, .bool ok]) (by simp [results, Tryz.results67, go_sem, boolT, Tm.val, mkT, trueL, xBoolL]) rfl ⟨rfl, (Below.refl _ _).alloc (Nat.le_refl _) _⟩

theorem boolean_ex (b ok : Bool) (w : World) : Calls Tryz.prog 67 #[.bool b, .bool ok] w fun e w' => ∃ (k : Int) (s l y : ByteArray) (o : Bool), e = .returned (.tuple #[.agg #[.int .i64 k, .string s, .string l, .string y], .bool o]) ∧ (⟨k, s, l, y⟩ : Tm) = boolT b ∧ o = ok ∧ Below w.heap.size w w' := by
  refine (boolean_any b ok w).mono ?_
  rintro e w' ⟨rfl, h⟩
  exact ⟨_, _, _, _, _, rfl, rfl, rfl, h⟩
theorem is_bad (w : World) (m s : Int) (hs : s < 0) : Calls Tryz.prog 87 #[.agg #[.int .i64 m, .int .i64 s]] w fun e w' => e = .returned (.bool false) ∧ Below w.heap.size w w' := by
  have h0 : ¬ 0 ≤ s := by omega
  by_cases h1 : -999999999999999 ≤ m
  · by_cases h2 : m ≤ 999999999999999
    · clear hs
      go_enter Tryz.func87, Tryz.ntmps87
      go_wp2
      go_ret
      exact ⟨rfl, (Below.refl _ _).alloc (Nat.le_refl _) _⟩
    · clear hs
      go_enter Tryz.func87, Tryz.ntmps87
      go_wp2
      go_ret
      exact ⟨rfl, (Below.refl _ _).alloc (Nat.le_refl _) _⟩
  · clear hs
    go_enter Tryz.func87, Tryz.ntmps87
    go_wp2
    go_ret
    exact ⟨rfl, (Below.refl _ _).alloc (Nat.le_refl _) _⟩
theorem print_bad (w : World) (m s : Int) (hs : s < 0) : Calls Tryz.prog 117 #[.agg #[.int .i64 m, .int .i64 s]] w fun e w' => e = .returned (.string ⟨#[]⟩) ∧ Below w.heap.size w w' := by
  have HI := Lib.hid (fun w => is_bad w m s hs)
  clear hs
  go_enter Tryz.func117, Tryz.ntmps117
  go_wp2_with fail
  refine (HI.out _).mono ?_
  rintro e w1 ⟨rfl, hb⟩
  have HB := Lib.hid hb
  clear hb
  go_wp2_with fail
  go_ret
  exact ⟨rfl, ((Below.refl _ _).alloc (Nat.le_refl _) _).trans (HB.out.mono (by simp))⟩
theorem neg_small (w : World) (m s : Int) (hm : m.natAbs < 2 ^ 53) : Calls Tryz.prog 94 #[.agg #[.int .i64 m, .int .i64 s]] w fun e w' => e = .returned (.agg #[.int .i64 (-m), .int .i64 s]) ∧ Below w.heap.size w w' := by
  rw [p53] at hm
  have h1 : -9007199254740992 ≤ m := by omega
  have h2 : m ≤ 9007199254740992 := by omega
  clear hm
  go_enter Tryz.func94, Tryz.ntmps94
  go_wp2_with fail
  exact bodyPost_ret (v := .agg #[.int .i64 (-m), .int .i64 s]) (by simp [results, Tryz.results94, go_sem]) rfl ⟨rfl, ((Below.refl _ _).alloc (Nat.le_refl _) _).alloc (by simp) _⟩
theorem numeral_of (m s : Int) (z kind : ByteArray) (ok : Bool) (w : World) (hz : ∀ w1, Below w.heap.size w w1 → Calls Tryz.prog 117 #[.agg #[.int .i64 m, .int .i64 s]] w1 fun e w' => e = .returned (.string z) ∧ Below w1.heap.size w1 w') :
    Calls Tryz.prog 93 #[.agg #[.int .i64 m, .int .i64 s], .string kind, .bool ok] w fun e w' => e = .returned (.tuple #[.agg #[.int .i64 3, .string z, .string ⟨#[]⟩, .string kind], .bool ok]) ∧ Below w.heap.size w w' := by
  have HZ := Lib.hid hz
  clear hz
  have b1 := (Below.refl w.heap.size w).alloc (Nat.le_refl _) (.cells #[.int .i64 m, .int .i64 s] 44)
  have d1 := DecB.new w m s 44
  have HB := Lib.hid (b1.alloc b1.size (.cells #[.int .i64 0, .string ⟨#[]⟩, .string ⟨#[]⟩, .string ⟨#[]⟩] 25))
  clear b1 d1
  go_enter Tryz.func93, Tryz.ntmps93
  go_wp2_with fail
  refine (HZ.out _ HB.out).mono ?_
  rintro e w1 ⟨rfl, hb⟩
  have hs1 := hb.size
  have HC := Lib.hid hb
  simp only [World.size_alloc] at hs1
  have hc : ∀ j, w1.cell? ⟨w.heap.size + 1, j, none⟩ = _ := fun j => hb.cell (p := ⟨w.heap.size + 1, j, none⟩) (by simp)
  have hf : ∀ j, w1.frozen? ⟨w.heap.size + 1, j, none⟩ = _ := fun j => hb.frozen (p := ⟨w.heap.size + 1, j, none⟩) (by simp)
  have c0 := hc 0
  have c1 := hc 1
  have c2 := hc 2
  have c3 := hc 3
  have f0 := hf 0
  have f1 := hf 1
  have f2 := hf 2
  have f3 := hf 3
  simp at c0 c1 c2 c3 f0 f1 f2 f3
  clear hb hc hf
  go_wp2_with fail
  refine bodyPost_ret (v := .tuple #[.agg #[.int .i64 3, .string z, .string ⟨#[]⟩, .string kind], .bool ok]) (by simp [results, Tryz.results93, go_sem, *]) rfl ⟨rfl, ?_⟩
  have hb2 := HB.out.trans (HC.out.mono (by simp; omega))
  exact ((((hb2.setCell (by simp) _).setCell (by simp) _).setCell (by simp) _).setCell (by simp) _)
end Go.Proofs.YtecomfhbdonkbaaGreatDoor
/- Package value: typeOf, level, logic, reckon, one. -/
namespace Go.Proofs.YtecomfhbdonkbaaGreatDoor
open Go.RowKit Go.Shelf Flo
set_option maxRecDepth 100000
set_option linter.unusedVariables false
set_option linter.unusedSimpArgs false

theorem or_any (b : Nat) (x y : ByteArray) (w : World) (h0 : w.cell? ⟨b, 0, none⟩ = some (.string x)) (h1 : w.cell? ⟨b, 1, none⟩ = some (.string y)) : Calls Tryz.prog 118 #[.slice (some ⟨b, 0, none⟩) 2 2] w fun e w' => e = .returned (.string (if x.data.toList = [] then y else x)) ∧ w' = w := by
  obtain ⟨r, hr⟩ : ∃ r, r = if x.data.toList = [] then y else x := ⟨_, rfl⟩
  rw [← hr]
  have hx : x.toList.isEmpty = decide (x.data.toList = []) := by
    rw [Lib.toList_data]
    cases x.data.toList <;> simp
  have hy : y.toList.isEmpty = decide (y.data.toList = []) := by
    rw [Lib.toList_data]
    cases y.data.toList <;> simp
  have HR := Lib.hid hr
  have ey : y.data.toList = [] → y = ⟨#[]⟩ := fun e => ba_ext e
  have HEY := Lib.hid ey
  clear hr ey
  go_enter Tryz.func118, Tryz.ntmps118
  go_wp2_with fail
  go_loopg [8] 2 (fun g s8 wx => ∃ i : Nat, i + g = 2 ∧ s8 = .int .i64 i ∧ wx = w ∧ (1 ≤ i → x.data.toList = []) ∧ (2 ≤ i → y.data.toList = []))
  case atStart => exact ⟨0, rfl, rfl, rfl, fun h => by omega, fun h => by omega⟩
  case round =>
    obtain ⟨i, hig, rfl, rfl, hi1, hi2⟩ := hrel
    have H1 := Lib.hid hi1
    have H2 := Lib.hid hi2
    clear hi1 hi2
    match gk, hig with
    | 0, hig =>
      obtain rfl : i = 2 := by omega
      clear hig
      go_wp2_with fail
      go_ret
      refine ⟨?_, rfl⟩
      rw [HR.out, if_pos (H1.out (by omega)), HEY.out (H2.out (by omega))]
      rfl
    | 1, hig =>
      obtain rfl : i = 1 := by omega
      clear hig
      by_cases h : y.data.toList = []
      · rw [decide_eq_true h] at hy
        have HY := Lib.hid h
        clear h
        go_wp2_with fail
        go_roundg 0
        case measure => omega
        case rel => exact ⟨2, rfl, by go_num, rfl, fun _ => H1.out (by omega), fun _ => HY.out⟩
      · rw [decide_eq_false h] at hy
        have HY := Lib.hid h
        clear h
        go_wp2_with fail
        go_ret
        refine ⟨?_, rfl⟩
        rw [HR.out, if_pos (H1.out (by omega))]
        rfl
    | 2, hig =>
      obtain rfl : i = 0 := by omega
      clear hig
      by_cases h : x.data.toList = []
      · rw [decide_eq_true h] at hx
        have HX := Lib.hid h
        clear h
        go_wp2_with fail
        go_roundg 1
        case measure => omega
        case rel => exact ⟨1, rfl, by go_num, rfl, fun _ => HX.out, fun h => by omega⟩
      · rw [decide_eq_false h] at hx
        have HX := Lib.hid h
        clear h
        go_wp2_with fail
        go_ret
        refine ⟨?_, rfl⟩
        rw [HR.out, if_neg HX.out]
        rfl
    | g + 3, hig => omega
theorem mk_self (x : ByteArray) : (⟨x.data.toList.toArray⟩ : ByteArray) = x := (ba_ext rfl).symm
theorem typeOf_any (t : Tm) (w : World) : Calls Tryz.prog 95 #[t.val] w fun e w' => e = .returned (.string ⟨(typeL t).toArray⟩) ∧ Below w.heap.size w w' := by
  obtain ⟨k, s, l, y, rfl⟩ := tm_cases t
  obtain ⟨V, hV⟩ : ∃ V : ByteArray, V = ⟨(typeL ⟨k, s, l, y⟩).toArray⟩ := ⟨_, rfl⟩
  rw [← hV]
  have hV2 : V = if y.data.toList = [] then (if l.data.toList = [] then ⟨xStrL.toArray⟩ else ⟨rLangL.toArray⟩) else y := by
    rw [hV]
    show (⟨(if y.data.toList = [] then (if l.data.toList = [] then xStrL else rLangL) else y.data.toList).toArray⟩ : ByteArray) = _
    by_cases h : y.data.toList = []
    · rw [if_pos h, if_pos h]
      by_cases h2 : l.data.toList = []
      · rw [if_pos h2, if_pos h2]
      · rw [if_neg h2, if_neg h2]
    · rw [if_neg h, if_neg h]
  have HV := Lib.hid hV2
  clear hV hV2
  have HOR := Lib.hid (fun b x y w => or_any b x y w)
  have b1 := (Below.refl w.heap.size w).alloc (Nat.le_refl _) (.cells #[.int .i64 k, .string s, .string l, .string y] 25)
  unfold Tm.val
  simp only []
  by_cases hl : l.data.toList = []
  · have hl2 : l.toList = [] := by rw [Lib.toList_data]; exact hl
    have HF := Lib.hid (show V = if y.data.toList = [] then ⟨xStrL.toArray⟩ else y by rw [HV.out, if_pos hl])
    have HB := Lib.hid (b1.alloc b1.size (.cells #[.string y, .string ⟨xStrL.toArray⟩] 9))
    clear hl b1
    go_enter Tryz.func95, Tryz.ntmps95
    go_wp2_with fail
    refine (HOR.out _ y ⟨xStrL.toArray⟩ _ (by simp) (by simp [xStrL])).mono ?_
    rw [← HF.out]
    rintro e w1 ⟨rfl, rfl⟩
    go_wp2_with fail
    go_ret
    exact ⟨rfl, HB.out⟩
  · have hl2 : ¬ l.toList = [] := by rw [Lib.toList_data]; exact hl
    have hl3 : l.toList.isEmpty = false := by simpa using hl2
    have HF := Lib.hid (show V = if y.data.toList = [] then ⟨rLangL.toArray⟩ else y by rw [HV.out, if_neg hl])
    have HB := Lib.hid (b1.alloc b1.size (.cells #[.string y, .string ⟨rLangL.toArray⟩] 9))
    clear hl b1
    go_enter Tryz.func95, Tryz.ntmps95
    go_wp2_with fail
    refine (HOR.out _ y ⟨rLangL.toArray⟩ _ (by simp) (by simp [rLangL])).mono ?_
    rw [← HF.out]
    rintro e w1 ⟨rfl, rfl⟩
    go_wp2_with fail
    go_ret
    exact ⟨rfl, HB.out⟩

theorem level_any15 (t : Tm) (ht : t.Sm) (w : World) : Calls Tryz.prog 120 #[t.val] w fun e w' => e = .returned (.int .i64 (lvl t)) ∧ Below w.heap.size w w' := by
  have HT := Lib.hid (fun w => truth_any t ht w)
  have HL := Lib.hid (show lvl t = match truthO t with | none => 1 | some true => 2 | some false => 0 from rfl)
  have HB := Lib.hid ((Below.refl w.heap.size w).alloc (Nat.le_refl _) (.cells #[.int .i64 t.k, .string t.s, .string t.l, .string t.t] 25))
  generalize lvl t = v at HL ⊢
  generalize truthO t = o at HT HL
  clear ht
  unfold Tm.val
  unfold Tm.val at HT
  rcases o with _ | b
  · have HL2 := Lib.hid (show v = 1 from HL.out)
    have HT2 : Hid (∀ w, Calls Tryz.prog 22 #[.agg #[.int .i64 t.k, .string t.s, .string t.l, .string t.t]] w fun e w' => e = .returned (.tuple #[.bool false, .bool false]) ∧ Below w.heap.size w w') := HT
    clear HL HT
    go_enter Tryz.func120, Tryz.ntmps120
    go_wp2_with fail
    refine (HT2.out _).mono ?_
    rintro e w1 ⟨rfl, hb⟩
    have HC := Lib.hid (HB.out.trans (hb.mono (by simp)))
    clear hb
    go_wp2_with fail
    go_ret
    exact ⟨by rw [HL2.out]; rfl, HC.out⟩
  · have HT2 : Hid (∀ w, Calls Tryz.prog 22 #[.agg #[.int .i64 t.k, .string t.s, .string t.l, .string t.t]] w fun e w' => e = .returned (.tuple #[.bool b, .bool true]) ∧ Below w.heap.size w w') := HT
    have HL2 := Lib.hid (show v = if b then 2 else 0 by rw [HL.out]; cases b <;> rfl)
    clear HL HT
    cases b
    all_goals
      go_enter Tryz.func120, Tryz.ntmps120
      go_wp2_with fail
      refine (HT2.out _).mono ?_
      rintro e w1 ⟨rfl, hb⟩
      have HC := Lib.hid (HB.out.trans (hb.mono (by simp)))
      clear hb
      go_wp2_with fail
      go_ret
      exact ⟨by rw [HL2.out]; rfl, HC.out⟩
/-- Two terms and the answer's. -/
def ThreeT (w : World) (a b : Tm) (v : World) : Prop := TwoT w a b v ∧ TmB v (w.heap.size + 1 + 1) zeroT ∧ ∀ j, v.frozen? ⟨w.heap.size + 1 + 1, j, none⟩ = false
theorem ThreeT.below {w v v' : World} {a b : Tm} (h : ThreeT w a b v) (hb : Below v.heap.size v v') : ThreeT w a b v' := ⟨h.1.below hb, h.2.1.below hb, fun j => (hb.frozen (p := ⟨w.heap.size + 1 + 1, j, none⟩) h.2.1.1).trans (h.2.2 j)⟩
theorem frozen_new (w : World) (cur : Array Value) (ty : TypeId) (j : Nat) : (w.alloc (.cells cur ty)).frozen? ⟨w.heap.size, j, none⟩ = false := (Blk.new w cur ty).frozen j
theorem ThreeT.new (w : World) (a b : Tm) (ty : TypeId) : ThreeT w a b (((w.alloc (.cells #[.int .i64 a.k, .string a.s, .string a.l, .string a.t] ty)).alloc (.cells #[.int .i64 b.k, .string b.s, .string b.l, .string b.t] ty)).alloc (.cells #[.int .i64 0, .string ⟨#[]⟩, .string ⟨#[]⟩, .string ⟨#[]⟩] ty)) := by
  have h := TwoT.new w a b ty
  have z1 : ((w.alloc (.cells #[.int .i64 a.k, .string a.s, .string a.l, .string a.t] ty)).alloc (.cells #[.int .i64 b.k, .string b.s, .string b.l, .string b.t] ty)).heap.size = w.heap.size + 1 + 1 := by simp
  generalize (w.alloc (.cells #[.int .i64 a.k, .string a.s, .string a.l, .string a.t] ty)).alloc (.cells #[.int .i64 b.k, .string b.s, .string b.l, .string b.t] ty) = w1 at *
  have hz := TmB.new w1 zeroT ty
  have hf := frozen_new w1 #[.int .i64 zeroT.k, .string zeroT.s, .string zeroT.l, .string zeroT.t] ty
  rw [z1] at hz hf
  exact ⟨h.below ((Below.refl _ _).alloc (Nat.le_refl _) _), hz, hf⟩
theorem ThreeT.drew {w v : World} {a b : Tm} (h : ThreeT w a b v) : ThreeT w a b v.drew := h.below (below_drew15 _)
/-- The answer's cells, written. -/
theorem ThreeT.put {w v : World} {a b : Tm} (h : ThreeT w a b v) (k s l y : Value) : Below w.heap.size w ((((v.setCell ⟨w.heap.size + 1 + 1, 0, none⟩ k).setCell ⟨w.heap.size + 1 + 1, 1, none⟩ s).setCell ⟨w.heap.size + 1 + 1, 2, none⟩ l).setCell ⟨w.heap.size + 1 + 1, 3, none⟩ y) :=
  (((h.1.1.setCell (by simp only []; omega) _).setCell (by simp only []; omega) _).setCell (by simp only []; omega) _).setCell (by simp only []; omega) _
theorem lvl_three (t : Tm) : lvl t = 0 ∨ lvl t = 1 ∨ lvl t = 2 := by
  unfold lvl
  split <;> simp
set_option maxHeartbeats 2000000 in
theorem logic_any (op : Int) (a b : Tm) (ha : a.Sm) (hb : b.Sm) (hop : opIn op) (w : World) : Calls Tryz.prog 97 #[.int .i64 op, a.val, b.val] w fun e w' => Tells e (logicO op a b) ∧ Below w.heap.size w w' := by
  have HA := Lib.hid (fun w => level_any15 a ha w)
  have HB := Lib.hid (fun w => level_any15 b hb w)
  have HN := Lib.hid (ThreeT.new w a b 25)
  have h1 := lvl_three a
  have h2 := lvl_three b
  obtain ⟨V, hV⟩ : ∃ V, V = logicO op a b := ⟨_, rfl⟩
  rw [← hV]
  unfold logicO at hV
  generalize lvl a = x at *
  generalize lvl b = y at *
  have HV := Lib.hid hV
  have H1 := Lib.hid h1
  have H2 := Lib.hid h2
  clear hV ha hb h1 h2
  have HBO := Lib.hid (fun b ok w => boolean_ex b ok w)
  unfold Tm.val
  unfold Tm.val at HA HB
  by_cases hc : op = 2
  · have HC := Lib.hid hc
    subst hc
    go_enter Tryz.func97, Tryz.ntmps97
    go_wp2_with fail
    generalize World.alloc (World.alloc (World.alloc w _) _) _ = wr at HN ⊢
    refine wp_region_any (by kernel_rfl) ?_
    change wpAny _ _ _ _ _ _ _ (World.drew _)
    refine wpAny_of_held (S := fun v => ThreeT w a b v) _ _ _ _ ?_
    have hS : (fun v => ThreeT w a b v) _ := HN.out.drew
    refine wpAnyH_take (i := 0) (oi := ⟨some 11, _, _, _, _, _⟩) (v := ?_) rfl (by kernel_rfl) (by kernel_rfl) (by kernel_rfl) (fun _ _ _ h => h) (Or.inl ⟨by simp only [Region.wanted], ?_⟩) hS ?_
    rotate_left
    · intro wz hSw; obtain ⟨-, k0, k1, k2, k3⟩ := hSw.1.2.1
      clear hSw
      go_simp
      first | done | with_reducible rfl
    try simp only [Act.put, List.setIfInBounds_toArray, List.set_cons_zero, List.set_cons_succ]
    refine wpAnyH_take (i := 2) (oi := ⟨some 13, _, _, _, _, _⟩) (v := ?_) rfl (by kernel_rfl) (by kernel_rfl) (by kernel_rfl) (fun _ _ _ h => h) (Or.inl ⟨by simp only [Region.wanted], ?_⟩) hS ?_
    rotate_left
    · intro wz hSw; obtain ⟨-, k0, k1, k2, k3⟩ := hSw.1.2.2
      clear hSw
      go_simp
      first | done | with_reducible rfl
    try simp only [Act.put, List.setIfInBounds_toArray, List.set_cons_zero, List.set_cons_succ]
    refine wpAnyH_ready (rs := [1]) (by kernel_rfl) (by simp) ?_
    refine AllReadyH.cons (o := ⟨some 12, _, _, _, _, _⟩) rfl (fun K hK => ?_) AllReadyH.nil
    go_simp
    refine (HA.out _).mono ?_
    rintro e w1 ⟨rfl, h2⟩
    have HB1 := Lib.hid (hS.below h2)
    clear h2
    go_wp2_with fail
    refine hK.out _ _ (HB1.out) (fun hS => ?_)
    clear hK K
    try simp only [Act.put, List.setIfInBounds_toArray, List.set_cons_zero, List.set_cons_succ]
    refine wpAnyH_ready (rs := [3]) (by kernel_rfl) (by simp) ?_
    refine AllReadyH.cons (o := ⟨some 14, _, _, _, _, _⟩) rfl (fun K hK => ?_) AllReadyH.nil
    go_simp
    refine (HB.out _).mono ?_
    rintro e w2 ⟨rfl, h2⟩
    have HT := Lib.hid (hS.below h2)
    clear h2
    go_wp2_with fail
    refine hK.out _ _ (HT.out) (fun hS => ?_)
    clear hK K
    try simp only [Act.put, List.setIfInBounds_toArray, List.set_cons_zero, List.set_cons_succ]
    refine wpAnyH_take (i := 4) (oi := ⟨some 8, _, _, _, _, _⟩) (v := ?_) rfl (by kernel_rfl) (by kernel_rfl) (by kernel_rfl) (fun _ _ _ h => h) (Or.inl ⟨by simp only [Region.wanted], ?_⟩) hS ?_
    rotate_left
    · intro wz hSw
      clear hSw
      go_simp
      first | done | with_reducible rfl
    try simp only [Act.put, List.setIfInBounds_toArray, List.set_cons_zero, List.set_cons_succ]
    refine wpAnyH_take (i := 5) (oi := ⟨some 9, _, _, _, _, _⟩) (v := ?_) rfl (by kernel_rfl) (by kernel_rfl) (by kernel_rfl) (fun _ _ _ h => h) (Or.inl ⟨by simp only [Region.wanted], ?_⟩) hS ?_
    rotate_left
    · intro wz hSw
      clear hSw
      go_simp
      first | done | with_reducible rfl
    try simp only [Act.put, List.setIfInBounds_toArray, List.set_cons_zero, List.set_cons_succ]
    refine wpAnyH_done (by kernel_rfl) ?_ _
    clear hS HN HB1
    obtain ⟨-, kz0, kz1, kz2, kz3⟩ := HT.out.2.1
    have fz0 := HT.out.2.2 0
    have fz1 := HT.out.2.2 1
    have fz2 := HT.out.2.2 2
    have fz3 := HT.out.2.2 3
    simp only [zeroT] at kz0 kz1 kz2 kz3
    have HF := Lib.hid (show V = if max x y = 1 then none else some (boolT (decide (max x y = 2))) by rw [HV.out]; simp)
    have H1o := H1.out
    have H2o := H2.out
    clear HV H1 H2 HA HB HC
    rcases H1o with rfl | rfl | rfl <;> rcases H2o with rfl | rfl | rfl
    all_goals
      go_wp2_with fail
      refine (HBO.out _ _ _).mono ?_
      rintro e w3 ⟨k, s, l, y, o, rfl, hx, ho, hb3⟩
      have HX := Lib.hid (And.intro hx ho)
      have HT3 := Lib.hid (HT.out.below hb3)
      clear hx ho hb3 kz0 kz1 kz2 kz3 fz0 fz1 fz2 fz3
      obtain ⟨-, kz0, kz1, kz2, kz3⟩ := HT3.out.2.1
      have fz0 := HT3.out.2.2 0
      have fz1 := HT3.out.2.2 1
      have fz2 := HT3.out.2.2 2
      have fz3 := HT3.out.2.2 3
      simp only [zeroT] at kz0 kz1 kz2 kz3
      go_wp2_with fail
      refine bodyPost_ret (v := .tuple #[.agg #[.int .i64 k, .string s, .string l, .string y], .bool o]) (by simp [results, Tryz.results97, go_sem, *]) rfl ⟨?_, HT3.out.put _ _ _ _⟩
      rw [HF.out]
      obtain ⟨hx, ho⟩ := HX.out
      subst ho
      first | exact hx ▸ Tells.some (x := ⟨k, s, l, y⟩) rfl | exact Tells.none (x := ⟨k, s, l, y⟩) rfl
  · have HC := Lib.hid hc
    go_enter Tryz.func97, Tryz.ntmps97
    go_wp2_with fail
    generalize World.alloc (World.alloc (World.alloc w _) _) _ = wr at HN ⊢
    refine wp_region_any (by kernel_rfl) ?_
    change wpAny _ _ _ _ _ _ _ (World.drew _)
    refine wpAny_of_held (S := fun v => ThreeT w a b v) _ _ _ _ ?_
    have hS : (fun v => ThreeT w a b v) _ := HN.out.drew
    refine wpAnyH_take (i := 0) (oi := ⟨some 11, _, _, _, _, _⟩) (v := ?_) rfl (by kernel_rfl) (by kernel_rfl) (by kernel_rfl) (fun _ _ _ h => h) (Or.inl ⟨by simp only [Region.wanted], ?_⟩) hS ?_
    rotate_left
    · intro wz hSw; obtain ⟨-, k0, k1, k2, k3⟩ := hSw.1.2.1
      clear hSw
      go_simp
      first | done | with_reducible rfl
    try simp only [Act.put, List.setIfInBounds_toArray, List.set_cons_zero, List.set_cons_succ]
    refine wpAnyH_take (i := 2) (oi := ⟨some 13, _, _, _, _, _⟩) (v := ?_) rfl (by kernel_rfl) (by kernel_rfl) (by kernel_rfl) (fun _ _ _ h => h) (Or.inl ⟨by simp only [Region.wanted], ?_⟩) hS ?_
    rotate_left
    · intro wz hSw; obtain ⟨-, k0, k1, k2, k3⟩ := hSw.1.2.2
      clear hSw
      go_simp
      first | done | with_reducible rfl
    try simp only [Act.put, List.setIfInBounds_toArray, List.set_cons_zero, List.set_cons_succ]
    refine wpAnyH_ready (rs := [1]) (by kernel_rfl) (by simp) ?_
    refine AllReadyH.cons (o := ⟨some 12, _, _, _, _, _⟩) rfl (fun K hK => ?_) AllReadyH.nil
    go_simp
    refine (HA.out _).mono ?_
    rintro e w1 ⟨rfl, h2⟩
    have HB1 := Lib.hid (hS.below h2)
    clear h2
    go_wp2_with fail
    refine hK.out _ _ (HB1.out) (fun hS => ?_)
    clear hK K
    try simp only [Act.put, List.setIfInBounds_toArray, List.set_cons_zero, List.set_cons_succ]
    refine wpAnyH_ready (rs := [3]) (by kernel_rfl) (by simp) ?_
    refine AllReadyH.cons (o := ⟨some 14, _, _, _, _, _⟩) rfl (fun K hK => ?_) AllReadyH.nil
    go_simp
    refine (HB.out _).mono ?_
    rintro e w2 ⟨rfl, h2⟩
    have HT := Lib.hid (hS.below h2)
    clear h2
    go_wp2_with fail
    refine hK.out _ _ (HT.out) (fun hS => ?_)
    clear hK K
    try simp only [Act.put, List.setIfInBounds_toArray, List.set_cons_zero, List.set_cons_succ]
    refine wpAnyH_take (i := 4) (oi := ⟨some 8, _, _, _, _, _⟩) (v := ?_) rfl (by kernel_rfl) (by kernel_rfl) (by kernel_rfl) (fun _ _ _ h => h) (Or.inl ⟨by simp only [Region.wanted], ?_⟩) hS ?_
    rotate_left
    · intro wz hSw
      clear hSw
      go_simp
      first | done | with_reducible rfl
    try simp only [Act.put, List.setIfInBounds_toArray, List.set_cons_zero, List.set_cons_succ]
    refine wpAnyH_take (i := 5) (oi := ⟨some 9, _, _, _, _, _⟩) (v := ?_) rfl (by kernel_rfl) (by kernel_rfl) (by kernel_rfl) (fun _ _ _ h => h) (Or.inl ⟨by simp only [Region.wanted], ?_⟩) hS ?_
    rotate_left
    · intro wz hSw
      clear hSw
      go_simp
      first | done | with_reducible rfl
    try simp only [Act.put, List.setIfInBounds_toArray, List.set_cons_zero, List.set_cons_succ]
    refine wpAnyH_done (by kernel_rfl) ?_ _
    clear hS HN HB1
    obtain ⟨-, kz0, kz1, kz2, kz3⟩ := HT.out.2.1
    have fz0 := HT.out.2.2 0
    have fz1 := HT.out.2.2 1
    have fz2 := HT.out.2.2 2
    have fz3 := HT.out.2.2 3
    simp only [zeroT] at kz0 kz1 kz2 kz3
    have HF := Lib.hid (show V = if min x y = 1 then none else some (boolT (decide (min x y = 2))) by rw [HV.out]; simp only [if_neg HC.out])
    have H1o := H1.out
    have H2o := H2.out
    clear HV H1 H2 HA HB HC
    rcases H1o with rfl | rfl | rfl <;> rcases H2o with rfl | rfl | rfl
    all_goals
      go_wp2_with fail
      refine (HBO.out _ _ _).mono ?_
      rintro e w3 ⟨k, s, l, y, o, rfl, hx, ho, hb3⟩
      have HX := Lib.hid (And.intro hx ho)
      have HT3 := Lib.hid (HT.out.below hb3)
      clear hx ho hb3 kz0 kz1 kz2 kz3 fz0 fz1 fz2 fz3
      obtain ⟨-, kz0, kz1, kz2, kz3⟩ := HT3.out.2.1
      have fz0 := HT3.out.2.2 0
      have fz1 := HT3.out.2.2 1
      have fz2 := HT3.out.2.2 2
      have fz3 := HT3.out.2.2 3
      simp only [zeroT] at kz0 kz1 kz2 kz3
      go_wp2_with fail
      refine bodyPost_ret (v := .tuple #[.agg #[.int .i64 k, .string s, .string l, .string y], .bool o]) (by simp [results, Tryz.results97, go_sem, *]) rfl ⟨?_, HT3.out.put _ _ _ _⟩
      rw [HF.out]
      obtain ⟨hx, ho⟩ := HX.out
      subst ho
      first | exact hx ▸ Tells.some (x := ⟨k, s, l, y⟩) rfl | exact Tells.none (x := ⟨k, s, l, y⟩) rfl
end Go.Proofs.YtecomfhbdonkbaaGreatDoor
