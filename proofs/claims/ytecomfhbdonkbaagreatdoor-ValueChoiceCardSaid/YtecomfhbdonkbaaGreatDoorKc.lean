/- The reference of value: plain, boolean, Number, Truth. -/
import Derived.Test.YtecomfhbdonkbaaGreatDoorKd
import Derived.Test.YtecomfhbdonkbaaGreatDoorKr
namespace Go.Proofs.YtecomfhbdonkbaaGreatDoor
open Go.RowKit Go.Shelf Flo
set_option maxRecDepth 100000
set_option linter.unusedVariables false
set_option linter.unusedSimpArgs false

/-- It has no language and a type. -/
def Tm.Pu (t : Tm) : Prop := t.ll = [] ∨ t.tl = []
def plainB (t : Tm) : Bool := match wt t with
  | .plain _ => true
  | _ => false
def boolO (t : Tm) : Option Bool := match wt t with
  | .tr b => some b
  | _ => none
theorem wtNum_cases (o : Option (Int × Nat)) : (∃ m s, wtNum o = .num m s) ∨ wtNum o = .strange := by
  cases o with
  | none => exact .inr rfl
  | some p => exact .inl ⟨_, _, rfl⟩
theorem plainB_eq (t : Tm) : plainB t = (decide (t.k = 3) && (decide (t.ll = []) && decide (t.tl = []))) := by
  unfold plainB wt
  by_cases h3 : t.k = 3
  · rw [if_pos h3, decide_eq_true h3, Bool.true_and]
    by_cases h4 : t.tl = xIntL
    · rw [if_pos h4, decide_eq_false (p := t.tl = []) (by rw [h4]; decide), Bool.and_false]
      split
      · rename_i n h; split at h
        · cases h
        · rcases wtNum_cases (decO t.sl) with ⟨m, s, e⟩ | e <;> rw [e] at h <;> cases h
      · rfl
    · rw [if_neg h4]
      by_cases h5 : t.tl = xDecL
      · rw [if_pos h5, decide_eq_false (p := t.tl = []) (by rw [h5]; decide), Bool.and_false]
        rcases wtNum_cases (decO t.sl) with ⟨m, s, e⟩ | e <;> rw [e]
      · rw [if_neg h5]
        by_cases h6 : t.tl = xBoolL
        · rw [if_pos h6, decide_eq_false (p := t.tl = []) (by rw [h6]; decide), Bool.and_false]
          split
          · rename_i n h; split at h
            · cases h
            · split at h <;> cases h
          · rfl
        · rw [if_neg h6]
          by_cases h7 : t.tl = []
          · rw [if_pos h7, decide_eq_true h7, Bool.and_true]
            by_cases h8 : t.ll = []
            · rw [if_pos h8, decide_eq_true h8]
            · rw [if_neg h8, decide_eq_false h8]
          · rw [if_neg h7, decide_eq_false h7, Bool.and_false]
  · rw [if_neg h3, decide_eq_false h3]; rfl
theorem rplain_any (t : Tm) (w : World) : Calls Tryz.prog 103 #[t.val] w fun e w' => e = .returned (.bool (plainB t)) ∧ Below w.heap.size w w' := by
  rw [plainB_eq]
  obtain ⟨k, s, l, y, rfl⟩ := tm_cases t
  obtain ⟨V, hV⟩ : ∃ V, V = (decide (k = 3) && (decide (l.data.toList = []) && decide (y.data.toList = []))) := ⟨_, rfl⟩
  change Calls _ _ _ _ fun e w' => e = .returned (.bool (decide (k = 3) && (decide (l.data.toList = []) && decide (y.data.toList = [])))) ∧ _
  rw [← hV]
  unfold Tm.val
  simp only []
  by_cases h3 : k = 3
  · subst h3
    by_cases h4 : l.data.toList = []
    · by_cases h5 : y.data.toList = []
      · rw [decide_eq_true h4, decide_eq_true h5] at hV
        have h42 : l.toList = [] := by rw [Lib.toList_data]; exact h4
        clear h4
        have h52 : y.toList = [] := by rw [Lib.toList_data]; exact h5
        clear h5
        have HV := Lib.hid (show V = true from hV)
        clear hV
        go_enter Tryz.func103, Tryz.ntmps103
        go_wp2
        go_ret
        exact ⟨by rw [HV.out]; rfl, (Below.refl _ _).alloc (Nat.le_refl _) _⟩
      · rw [decide_eq_true h4, decide_eq_false h5] at hV
        have h42 : l.toList = [] := by rw [Lib.toList_data]; exact h4
        clear h4
        have h52 : ¬ y.toList = [] := by rw [Lib.toList_data]; exact h5
        have h53 : (y.toList == []) = false := by simpa using h52
        have h54 : y.toList.isEmpty = false := by simpa using h52
        clear h5
        have HV := Lib.hid (show V = false from hV)
        clear hV
        go_enter Tryz.func103, Tryz.ntmps103
        go_wp2
        go_ret
        exact ⟨by rw [HV.out]; rfl, (Below.refl _ _).alloc (Nat.le_refl _) _⟩
    · rw [decide_eq_false h4] at hV
      have h42 : ¬ l.toList = [] := by rw [Lib.toList_data]; exact h4
      have h43 : (l.toList == []) = false := by simpa using h42
      have h44 : l.toList.isEmpty = false := by simpa using h42
      clear h4
      have HV := Lib.hid (show V = false from hV)
      clear hV
      go_enter Tryz.func103, Tryz.ntmps103
      go_wp2
      go_ret
      exact ⟨by rw [HV.out]; rfl, (Below.refl _ _).alloc (Nat.le_refl _) _⟩
  · rw [decide_eq_false h3] at hV
    have HV := Lib.hid (show V = false from hV)
    clear hV
    go_enter Tryz.func103, Tryz.ntmps103
    go_wp2
    go_ret
    exact ⟨by rw [HV.out]; rfl, (Below.refl _ _).alloc (Nat.le_refl _) _⟩
theorem boolO_eq (t : Tm) : boolO t = if t.k = 3 then (if t.tl = xBoolL then (if t.sl = trueL then some true else if t.sl = falseL then some false else none) else none) else none := by
  unfold boolO wt
  by_cases h3 : t.k = 3
  · rw [if_pos h3, if_pos h3]
    by_cases h4 : t.tl = xIntL
    · rw [if_pos h4, if_neg (show ¬ t.tl = xBoolL by rw [h4]; decide)]
      by_cases h : t.sl.contains 46 = true
      · rw [if_pos h]
      · rw [if_neg h]
        rcases wtNum_cases (decO t.sl) with ⟨m, s, e⟩ | e <;> rw [e]
    · rw [if_neg h4]
      by_cases h5 : t.tl = xDecL
      · rw [if_pos h5, if_neg (show ¬ t.tl = xBoolL by rw [h5]; decide)]
        rcases wtNum_cases (decO t.sl) with ⟨m, s, e⟩ | e <;> rw [e]
      · rw [if_neg h5]
        by_cases h6 : t.tl = xBoolL
        · rw [if_pos h6, if_pos h6]
          by_cases h7 : t.sl = trueL
          · rw [if_pos h7, if_pos h7]
          · rw [if_neg h7, if_neg h7]
            by_cases h8 : t.sl = falseL
            · rw [if_pos h8, if_pos h8]
            · rw [if_neg h8, if_neg h8]
        · rw [if_neg h6, if_neg h6]
          by_cases h7 : t.tl = []
          · rw [if_pos h7]
            by_cases h8 : t.ll = []
            · rw [if_pos h8]
            · rw [if_neg h8]
          · rw [if_neg h7]
  · rw [if_neg h3, if_neg h3]
theorem rboolean_any (t : Tm) (w : World) : Calls Tryz.prog 104 #[t.val] w fun e w' => e = .returned (twoB (boolO t)) ∧ Below w.heap.size w w' := by
  obtain ⟨V, hV⟩ : ∃ V, V = boolO t := ⟨_, rfl⟩
  rw [← hV]
  rw [boolO_eq] at hV
  obtain ⟨k, s, l, y, rfl⟩ := tm_cases t
  replace hV : V = if k = 3 then (if y.data.toList = xBoolL then (if s.data.toList = trueL then some true else if s.data.toList = falseL then some false else none) else none) else none := hV
  unfold Tm.val
  simp only []
  by_cases h3 : k = 3
  · rw [if_pos h3] at hV
    subst h3
    by_cases h4 : y.data.toList = xBoolL
    · rw [if_pos h4] at hV
      have h42 : y.toList = [104, 116, 116, 112, 58, 47, 47, 119, 119, 119, 46, 119, 51, 46, 111, 114, 103, 47, 50, 48, 48, 49, 47, 88, 77, 76, 83, 99, 104, 101, 109, 97, 35, 98, 111, 111, 108, 101, 97, 110] := by rw [Lib.toList_data]; exact h4
      clear h4
      by_cases h5 : s.data.toList = trueL
      · rw [if_pos h5] at hV
        have h52 : s.toList = [116, 114, 117, 101] := by rw [Lib.toList_data]; exact h5
        clear h5
        have HV := Lib.hid (show V = some true from hV)
        clear hV
        go_enter Tryz.func104, Tryz.ntmps104
        go_wp2
        go_ret2
        exact ⟨by rw [HV.out]; rfl, (Below.refl _ _).alloc (Nat.le_refl _) _⟩
      · rw [if_neg h5] at hV
        have h52 : ¬ s.toList = [116, 114, 117, 101] := by rw [Lib.toList_data]; exact h5
        have h53 : (s.toList == [116, 114, 117, 101]) = false := by simpa using h52
        clear h5
        by_cases h6 : s.data.toList = falseL
        · rw [if_pos h6] at hV
          have h62 : s.toList = [102, 97, 108, 115, 101] := by rw [Lib.toList_data]; exact h6
          clear h6
          have HV := Lib.hid (show V = some false from hV)
          clear hV
          go_enter Tryz.func104, Tryz.ntmps104
          go_wp2
          go_ret2
          exact ⟨by rw [HV.out]; rfl, (Below.refl _ _).alloc (Nat.le_refl _) _⟩
        · rw [if_neg h6] at hV
          have h62 : ¬ s.toList = [102, 97, 108, 115, 101] := by rw [Lib.toList_data]; exact h6
          have h63 : (s.toList == [102, 97, 108, 115, 101]) = false := by simpa using h62
          clear h6
          have HV := Lib.hid (show V = none from hV)
          clear hV
          go_enter Tryz.func104, Tryz.ntmps104
          go_wp2
          go_ret2
          exact ⟨by rw [HV.out]; rfl, (Below.refl _ _).alloc (Nat.le_refl _) _⟩
    · rw [if_neg h4] at hV
      have h42 : ¬ y.toList = [104, 116, 116, 112, 58, 47, 47, 119, 119, 119, 46, 119, 51, 46, 111, 114, 103, 47, 50, 48, 48, 49, 47, 88, 77, 76, 83, 99, 104, 101, 109, 97, 35, 98, 111, 111, 108, 101, 97, 110] := by rw [Lib.toList_data]; exact h4
      have h43 : (y.toList == [104, 116, 116, 112, 58, 47, 47, 119, 119, 119, 46, 119, 51, 46, 111, 114, 103, 47, 50, 48, 48, 49, 47, 88, 77, 76, 83, 99, 104, 101, 109, 97, 35, 98, 111, 111, 108, 101, 97, 110]) = false := by simpa using h42
      clear h4
      have HV := Lib.hid (show V = none from hV)
      clear hV
      go_enter Tryz.func104, Tryz.ntmps104
      go_wp2
      go_ret2
      exact ⟨by rw [HV.out]; rfl, (Below.refl _ _).alloc (Nat.le_refl _) _⟩
  · rw [if_neg h3] at hV
    have HV := Lib.hid (show V = none from hV)
    clear hV
    go_enter Tryz.func104, Tryz.ntmps104
    go_wp2
    go_ret2
    exact ⟨by rw [HV.out]; rfl, (Below.refl _ _).alloc (Nat.le_refl _) _⟩
end Go.Proofs.YtecomfhbdonkbaaGreatDoor
/- Statements on value: num, within, Term, the chapter's example. -/
namespace Go.Proofs.YtecomfhbdonkbaaGreatDoor
open Go.RowKit Go.Shelf Flo
set_option maxRecDepth 100000
set_option linter.unusedVariables false
set_option linter.unusedSimpArgs false

theorem within15_any (x n : Int) (w : World) (hn : 0 < n) (hn2 : n ≤ 1000000) (hx : -9223372036854775808 ≤ x) (hx2 : x ≤ 9223372036854775807) :
    Calls Tryz.prog 14 #[.int .i64 x, .int .i64 n] w fun e w' => e = .returned (.int .i64 (x % n)) ∧ w = w' := by
  obtain ⟨r, hr⟩ : ∃ r, r = x % n := ⟨_, rfl⟩
  rw [← hr]
  have h0 : ¬ n = 0 := by omega
  have h1 : ¬ (n : Int) = -1 := by omega
  rcases Int.lt_or_le x 0 with hlt | hge
  · obtain ⟨t, ht⟩ : ∃ t, t = x.tmod n := ⟨_, rfl⟩
    have htb : -n < t ∧ t ≤ 0 := by
      rw [ht]
      have a := Int.lt_tmod_of_pos x hn
      have b : x.tmod n ≤ 0 := by
        have e : x = -(-x) := by omega
        rw [e, Int.neg_tmod]
        have := Int.tmod_nonneg n (show 0 ≤ -x by omega)
        omega
      omega
    have hrt : (t < 0 → t + n = r) ∧ (¬ t < 0 → t = r) := by
      have e := Int.tmod_add_mul_tdiv x n
      rw [← ht] at e
      constructor
      · intro h
        rw [hr, ← e, Int.add_mul_emod_self_left]
        have : t % n = (t + n) % n := by simp
        rw [this, Int.emod_eq_of_lt (by omega) (by omega)]
      · intro h
        have h0 : t = 0 := by omega
        rw [hr, ← e, Int.add_mul_emod_self_left, h0]; simp
    have HR := Lib.hid hrt
    have ht' := ht.symm
    clear hrt hr ht
    by_cases htn : t < 0
    · have HQ := Lib.hid (HR.out.1 htn)
      go_enter Tryz.func14, Tryz.ntmps14
      go_wp2
      go_ret
      exact ⟨by rw [← HQ.out]; rfl, rfl⟩
    · have HQ := Lib.hid (HR.out.2 htn)
      go_enter Tryz.func14, Tryz.ntmps14
      go_wp2
      go_ret
      exact ⟨by rw [← HQ.out]; rfl, rfl⟩
  · have hr' := hr.symm
    have hrb : 0 ≤ r := by rw [hr]; exact Int.emod_nonneg _ (by omega)
    clear hr
    go_enter Tryz.func14, Tryz.ntmps14
    go_wp2
    go_ret
    exact ⟨by show Ending.returned (.int .i64 (x % n)) = _; rw [hr'], rfl⟩

theorem num15_any (s t : ByteArray) (w : World) : Calls Tryz.prog 13 #[.string s, .string t] w fun e w' => e = .returned (.agg #[.int .i64 3, .string s, .string ⟨#[]⟩, .string t]) ∧ Below w.heap.size w w' := by
  go_enter Tryz.func13, Tryz.ntmps13
  go_wp2
  exact bodyPost_ret (v := .agg #[.int .i64 3, .string s, .string ⟨#[]⟩, .string t]) (by simp [results, Tryz.results13, go_sem]) rfl ⟨rfl, (Below.refl _ _).alloc (Nat.le_refl _) _⟩
def termsT : List Tm := [mkT 3 [48] [] xIntL, mkT 3 [49] [] xIntL, mkT 3 [45, 55] [] xIntL, mkT 3 [48, 48, 55] [] xIntL, mkT 3 [49, 46, 48] [] xDecL, mkT 3 [50, 46, 53, 48] [] xDecL, mkT 3 [57, 57, 57, 57, 57, 57, 57, 57, 57, 57, 57, 57, 57, 57, 57] [] xIntL, mkT 3 [120] [] xIntL, mkT 3 [49, 46, 53] [] xIntL, mkT 3 [97] [] [], mkT 3 [97, 98] [] [], mkT 3 [] [] [], mkT 3 [97] [101, 110] [], mkT 3 [97] [100, 101] [], mkT 3 [116, 114, 117, 101] [] xBoolL, mkT 3 [102, 97, 108, 115, 101] [] xBoolL, mkT 3 [109, 97, 121, 98, 101] [] xBoolL, mkT 3 [97] [] [116, 58, 116], mkT 3 [98] [] [116, 58, 116], mkT 1 [97] [] [], mkT 1 [98] [] [], mkT 2 [97] [] [], mkT 3 [48, 46, 48, 48, 48, 48, 48, 49] [] xDecL, mkT 3 [45, 48] [] xIntL]
/-- The term of a number. -/
def termT (n : Int) : Tm := termsT.getD (n % 24).toNat zeroT
def tmSm (t : Tm) : Bool := decide (1 ≤ t.k) && decide (t.k ≤ 3) && decide (t.s.size ≤ 200) && decide (t.l.size ≤ 200) && decide (t.t.size ≤ 200)
theorem tmSm_of {t : Tm} (h : tmSm t = true) : t.Sm := by
  unfold tmSm at h
  simp only [Bool.and_eq_true, decide_eq_true_eq] at h
  exact ⟨by omega, h.1.1.2, h.1.2, h.2⟩
theorem terms_sm : ∀ k, k < 24 → tmSm (termsT.getD k zeroT) = true := by decide +kernel
theorem termT_sm (n : Int) : (termT n).Sm := tmSm_of (terms_sm _ (by omega))
/-- What may be written is there, and all that was is as it was. -/
def OneQ (w : World) (b : Nat) (v : World) : Prop := Below w.heap.size w v ∧ w.heap.size ≤ b ∧ (∃ x : Tm, TmB v b x) ∧ ∀ j, v.frozen? ⟨b, j, none⟩ = false
theorem OneQ.below {w v v' : World} {b : Nat} (h : OneQ w b v) (hb : Below v.heap.size v v') : OneQ w b v' := by
  obtain ⟨h1, h2, ⟨x, hx⟩, hf⟩ := h
  exact ⟨h1.trans (hb.mono h1.size), h2, ⟨x, hx.below hb⟩, fun j => (hb.frozen (p := ⟨b, j, none⟩) hx.1).trans (hf j)⟩
theorem OneQ.new (w : World) (ty : TypeId) : OneQ w w.heap.size (w.alloc (.cells #[.int .i64 0, .string ⟨#[]⟩, .string ⟨#[]⟩, .string ⟨#[]⟩] ty)) :=
  ⟨(Below.refl _ _).alloc (Nat.le_refl _) _, Nat.le_refl _, ⟨zeroT, TmB.new w zeroT ty⟩, fun j => (Blk.new w #[.int .i64 0, .string ⟨#[]⟩, .string ⟨#[]⟩, .string ⟨#[]⟩] ty).frozen j⟩
theorem OneQ.put {w v : World} {b : Nat} (h : OneQ w b v) (k s l y : Value) : Below w.heap.size w ((((v.setCell ⟨b, 0, none⟩ k).setCell ⟨b, 1, none⟩ s).setCell ⟨b, 2, none⟩ l).setCell ⟨b, 3, none⟩ y) := by
  obtain ⟨h1, h2, -, -⟩ := h
  exact (((h1.setCell h2 _).setCell h2 _).setCell h2 _).setCell h2 _
theorem val_get (k : Nat) (h : k < 24) : (termsT.getD k zeroT) = termsT[k]'h := by rw [List.getD_eq_getElem?_getD, List.getElem?_eq_getElem h]; rfl
set_option maxHeartbeats 8000000 in
theorem term15_any (n : Int) (w : World) (hn : -9223372036854775808 ≤ n) (hn2 : n ≤ 9223372036854775807) : Calls Tryz.prog 16 #[.int .i64 n] w fun e w' => e = .returned (termT n).val ∧ Below w.heap.size w w' := by
  have HU := Lib.hid (fun s t w => num15_any s t w)
  have HI := Lib.hid (fun w => within15_any n 24 w (by decide) (by decide) hn hn2)
  obtain ⟨V, hV⟩ : ∃ V, V = termT n := ⟨_, rfl⟩
  rw [← hV]
  obtain ⟨k, hk, hk2⟩ : ∃ k : Nat, k < 24 ∧ n % 24 = k := ⟨(n % 24).toNat, by omega, by omega⟩
  unfold termT at hV
  rw [hk2, Int.toNat_natCast, val_get k hk] at hV
  rw [hk2] at HI
  have HV := Lib.hid (⟨hk, hV⟩ : ∃ h : k < 24, V = termsT[k]'h)
  have HK := Lib.hid hk
  clear hV hk hk2 hn hn2
  have HT := Lib.hid (OneQ.new w 25)
  go_enter Tryz.func16, Tryz.ntmps16
  go_wp2_with fail
  generalize World.alloc w _ = wr at HT ⊢
  iterate 15 (refine (HU.out _ _ _).mono ?_; rintro e wn ⟨rfl, hb⟩; replace HT := Lib.hid (HT.out.below hb); clear hb; go_wp2_with fail)
  refine (HU.out _ _ _).mono ?_
  rintro e wn ⟨rfl, hb⟩
  replace HT := Lib.hid (HT.out.below hb)
  clear hb
  go_wp2_with fail
  have hblk := Blk.new wn #[.int .i64 3, .string ⟨#[48]⟩, .string ⟨#[]⟩, .string ⟨#[104, 116, 116, 112, 58, 47, 47, 119, 119, 119, 46, 119, 51, 46, 111, 114, 103, 47, 50, 48, 48, 49, 47, 88, 77, 76, 83, 99, 104, 101, 109, 97, 35, 105, 110, 116, 101, 103, 101, 114]⟩, .int .i64 3, .string ⟨#[49]⟩, .string ⟨#[]⟩, .string ⟨#[104, 116, 116, 112, 58, 47, 47, 119, 119, 119, 46, 119, 51, 46, 111, 114, 103, 47, 50, 48, 48, 49, 47, 88, 77, 76, 83, 99, 104, 101, 109, 97, 35, 105, 110, 116, 101, 103, 101, 114]⟩, .int .i64 3, .string ⟨#[45, 55]⟩, .string ⟨#[]⟩, .string ⟨#[104, 116, 116, 112, 58, 47, 47, 119, 119, 119, 46, 119, 51, 46, 111, 114, 103, 47, 50, 48, 48, 49, 47, 88, 77, 76, 83, 99, 104, 101, 109, 97, 35, 105, 110, 116, 101, 103, 101, 114]⟩, .int .i64 3, .string ⟨#[48, 48, 55]⟩, .string ⟨#[]⟩, .string ⟨#[104, 116, 116, 112, 58, 47, 47, 119, 119, 119, 46, 119, 51, 46, 111, 114, 103, 47, 50, 48, 48, 49, 47, 88, 77, 76, 83, 99, 104, 101, 109, 97, 35, 105, 110, 116, 101, 103, 101, 114]⟩, .int .i64 3, .string ⟨#[49, 46, 48]⟩, .string ⟨#[]⟩, .string ⟨#[104, 116, 116, 112, 58, 47, 47, 119, 119, 119, 46, 119, 51, 46, 111, 114, 103, 47, 50, 48, 48, 49, 47, 88, 77, 76, 83, 99, 104, 101, 109, 97, 35, 100, 101, 99, 105, 109, 97, 108]⟩, .int .i64 3, .string ⟨#[50, 46, 53, 48]⟩, .string ⟨#[]⟩, .string ⟨#[104, 116, 116, 112, 58, 47, 47, 119, 119, 119, 46, 119, 51, 46, 111, 114, 103, 47, 50, 48, 48, 49, 47, 88, 77, 76, 83, 99, 104, 101, 109, 97, 35, 100, 101, 99, 105, 109, 97, 108]⟩, .int .i64 3, .string ⟨#[57, 57, 57, 57, 57, 57, 57, 57, 57, 57, 57, 57, 57, 57, 57]⟩, .string ⟨#[]⟩, .string ⟨#[104, 116, 116, 112, 58, 47, 47, 119, 119, 119, 46, 119, 51, 46, 111, 114, 103, 47, 50, 48, 48, 49, 47, 88, 77, 76, 83, 99, 104, 101, 109, 97, 35, 105, 110, 116, 101, 103, 101, 114]⟩, .int .i64 3, .string ⟨#[120]⟩, .string ⟨#[]⟩, .string ⟨#[104, 116, 116, 112, 58, 47, 47, 119, 119, 119, 46, 119, 51, 46, 111, 114, 103, 47, 50, 48, 48, 49, 47, 88, 77, 76, 83, 99, 104, 101, 109, 97, 35, 105, 110, 116, 101, 103, 101, 114]⟩, .int .i64 3, .string ⟨#[49, 46, 53]⟩, .string ⟨#[]⟩, .string ⟨#[104, 116, 116, 112, 58, 47, 47, 119, 119, 119, 46, 119, 51, 46, 111, 114, 103, 47, 50, 48, 48, 49, 47, 88, 77, 76, 83, 99, 104, 101, 109, 97, 35, 105, 110, 116, 101, 103, 101, 114]⟩, .int .i64 3, .string ⟨#[97]⟩, .string ⟨#[]⟩, .string ⟨#[]⟩, .int .i64 3, .string ⟨#[97, 98]⟩, .string ⟨#[]⟩, .string ⟨#[]⟩, .int .i64 3, .string ⟨#[]⟩, .string ⟨#[]⟩, .string ⟨#[]⟩, .int .i64 3, .string ⟨#[97]⟩, .string ⟨#[101, 110]⟩, .string ⟨#[]⟩, .int .i64 3, .string ⟨#[97]⟩, .string ⟨#[100, 101]⟩, .string ⟨#[]⟩, .int .i64 3, .string ⟨#[116, 114, 117, 101]⟩, .string ⟨#[]⟩, .string ⟨#[104, 116, 116, 112, 58, 47, 47, 119, 119, 119, 46, 119, 51, 46, 111, 114, 103, 47, 50, 48, 48, 49, 47, 88, 77, 76, 83, 99, 104, 101, 109, 97, 35, 98, 111, 111, 108, 101, 97, 110]⟩, .int .i64 3, .string ⟨#[102, 97, 108, 115, 101]⟩, .string ⟨#[]⟩, .string ⟨#[104, 116, 116, 112, 58, 47, 47, 119, 119, 119, 46, 119, 51, 46, 111, 114, 103, 47, 50, 48, 48, 49, 47, 88, 77, 76, 83, 99, 104, 101, 109, 97, 35, 98, 111, 111, 108, 101, 97, 110]⟩, .int .i64 3, .string ⟨#[109, 97, 121, 98, 101]⟩, .string ⟨#[]⟩, .string ⟨#[104, 116, 116, 112, 58, 47, 47, 119, 119, 119, 46, 119, 51, 46, 111, 114, 103, 47, 50, 48, 48, 49, 47, 88, 77, 76, 83, 99, 104, 101, 109, 97, 35, 98, 111, 111, 108, 101, 97, 110]⟩, .int .i64 3, .string ⟨#[97]⟩, .string ⟨#[]⟩, .string ⟨#[116, 58, 116]⟩, .int .i64 3, .string ⟨#[98]⟩, .string ⟨#[]⟩, .string ⟨#[116, 58, 116]⟩, .int .i64 1, .string ⟨#[97]⟩, .string ⟨#[]⟩, .string ⟨#[]⟩, .int .i64 1, .string ⟨#[98]⟩, .string ⟨#[]⟩, .string ⟨#[]⟩, .int .i64 2, .string ⟨#[97]⟩, .string ⟨#[]⟩, .string ⟨#[]⟩, .int .i64 3, .string ⟨#[48, 46, 48, 48, 48, 48, 48, 49]⟩, .string ⟨#[]⟩, .string ⟨#[104, 116, 116, 112, 58, 47, 47, 119, 119, 119, 46, 119, 51, 46, 111, 114, 103, 47, 50, 48, 48, 49, 47, 88, 77, 76, 83, 99, 104, 101, 109, 97, 35, 100, 101, 99, 105, 109, 97, 108]⟩, .int .i64 3, .string ⟨#[45, 48]⟩, .string ⟨#[]⟩, .string ⟨#[104, 116, 116, 112, 58, 47, 47, 119, 119, 119, 46, 119, 51, 46, 111, 114, 103, 47, 50, 48, 48, 49, 47, 88, 77, 76, 83, 99, 104, 101, 109, 97, 35, 105, 110, 116, 101, 103, 101, 114]⟩] 25
  have HW := Lib.hid (HT.out.below ((Below.refl wn.heap.size wn).alloc (Nat.le_refl _) (.cells #[.int .i64 3, .string ⟨#[48]⟩, .string ⟨#[]⟩, .string ⟨#[104, 116, 116, 112, 58, 47, 47, 119, 119, 119, 46, 119, 51, 46, 111, 114, 103, 47, 50, 48, 48, 49, 47, 88, 77, 76, 83, 99, 104, 101, 109, 97, 35, 105, 110, 116, 101, 103, 101, 114]⟩, .int .i64 3, .string ⟨#[49]⟩, .string ⟨#[]⟩, .string ⟨#[104, 116, 116, 112, 58, 47, 47, 119, 119, 119, 46, 119, 51, 46, 111, 114, 103, 47, 50, 48, 48, 49, 47, 88, 77, 76, 83, 99, 104, 101, 109, 97, 35, 105, 110, 116, 101, 103, 101, 114]⟩, .int .i64 3, .string ⟨#[45, 55]⟩, .string ⟨#[]⟩, .string ⟨#[104, 116, 116, 112, 58, 47, 47, 119, 119, 119, 46, 119, 51, 46, 111, 114, 103, 47, 50, 48, 48, 49, 47, 88, 77, 76, 83, 99, 104, 101, 109, 97, 35, 105, 110, 116, 101, 103, 101, 114]⟩, .int .i64 3, .string ⟨#[48, 48, 55]⟩, .string ⟨#[]⟩, .string ⟨#[104, 116, 116, 112, 58, 47, 47, 119, 119, 119, 46, 119, 51, 46, 111, 114, 103, 47, 50, 48, 48, 49, 47, 88, 77, 76, 83, 99, 104, 101, 109, 97, 35, 105, 110, 116, 101, 103, 101, 114]⟩, .int .i64 3, .string ⟨#[49, 46, 48]⟩, .string ⟨#[]⟩, .string ⟨#[104, 116, 116, 112, 58, 47, 47, 119, 119, 119, 46, 119, 51, 46, 111, 114, 103, 47, 50, 48, 48, 49, 47, 88, 77, 76, 83, 99, 104, 101, 109, 97, 35, 100, 101, 99, 105, 109, 97, 108]⟩, .int .i64 3, .string ⟨#[50, 46, 53, 48]⟩, .string ⟨#[]⟩, .string ⟨#[104, 116, 116, 112, 58, 47, 47, 119, 119, 119, 46, 119, 51, 46, 111, 114, 103, 47, 50, 48, 48, 49, 47, 88, 77, 76, 83, 99, 104, 101, 109, 97, 35, 100, 101, 99, 105, 109, 97, 108]⟩, .int .i64 3, .string ⟨#[57, 57, 57, 57, 57, 57, 57, 57, 57, 57, 57, 57, 57, 57, 57]⟩, .string ⟨#[]⟩, .string ⟨#[104, 116, 116, 112, 58, 47, 47, 119, 119, 119, 46, 119, 51, 46, 111, 114, 103, 47, 50, 48, 48, 49, 47, 88, 77, 76, 83, 99, 104, 101, 109, 97, 35, 105, 110, 116, 101, 103, 101, 114]⟩, .int .i64 3, .string ⟨#[120]⟩, .string ⟨#[]⟩, .string ⟨#[104, 116, 116, 112, 58, 47, 47, 119, 119, 119, 46, 119, 51, 46, 111, 114, 103, 47, 50, 48, 48, 49, 47, 88, 77, 76, 83, 99, 104, 101, 109, 97, 35, 105, 110, 116, 101, 103, 101, 114]⟩, .int .i64 3, .string ⟨#[49, 46, 53]⟩, .string ⟨#[]⟩, .string ⟨#[104, 116, 116, 112, 58, 47, 47, 119, 119, 119, 46, 119, 51, 46, 111, 114, 103, 47, 50, 48, 48, 49, 47, 88, 77, 76, 83, 99, 104, 101, 109, 97, 35, 105, 110, 116, 101, 103, 101, 114]⟩, .int .i64 3, .string ⟨#[97]⟩, .string ⟨#[]⟩, .string ⟨#[]⟩, .int .i64 3, .string ⟨#[97, 98]⟩, .string ⟨#[]⟩, .string ⟨#[]⟩, .int .i64 3, .string ⟨#[]⟩, .string ⟨#[]⟩, .string ⟨#[]⟩, .int .i64 3, .string ⟨#[97]⟩, .string ⟨#[101, 110]⟩, .string ⟨#[]⟩, .int .i64 3, .string ⟨#[97]⟩, .string ⟨#[100, 101]⟩, .string ⟨#[]⟩, .int .i64 3, .string ⟨#[116, 114, 117, 101]⟩, .string ⟨#[]⟩, .string ⟨#[104, 116, 116, 112, 58, 47, 47, 119, 119, 119, 46, 119, 51, 46, 111, 114, 103, 47, 50, 48, 48, 49, 47, 88, 77, 76, 83, 99, 104, 101, 109, 97, 35, 98, 111, 111, 108, 101, 97, 110]⟩, .int .i64 3, .string ⟨#[102, 97, 108, 115, 101]⟩, .string ⟨#[]⟩, .string ⟨#[104, 116, 116, 112, 58, 47, 47, 119, 119, 119, 46, 119, 51, 46, 111, 114, 103, 47, 50, 48, 48, 49, 47, 88, 77, 76, 83, 99, 104, 101, 109, 97, 35, 98, 111, 111, 108, 101, 97, 110]⟩, .int .i64 3, .string ⟨#[109, 97, 121, 98, 101]⟩, .string ⟨#[]⟩, .string ⟨#[104, 116, 116, 112, 58, 47, 47, 119, 119, 119, 46, 119, 51, 46, 111, 114, 103, 47, 50, 48, 48, 49, 47, 88, 77, 76, 83, 99, 104, 101, 109, 97, 35, 98, 111, 111, 108, 101, 97, 110]⟩, .int .i64 3, .string ⟨#[97]⟩, .string ⟨#[]⟩, .string ⟨#[116, 58, 116]⟩, .int .i64 3, .string ⟨#[98]⟩, .string ⟨#[]⟩, .string ⟨#[116, 58, 116]⟩, .int .i64 1, .string ⟨#[97]⟩, .string ⟨#[]⟩, .string ⟨#[]⟩, .int .i64 1, .string ⟨#[98]⟩, .string ⟨#[]⟩, .string ⟨#[]⟩, .int .i64 2, .string ⟨#[97]⟩, .string ⟨#[]⟩, .string ⟨#[]⟩, .int .i64 3, .string ⟨#[48, 46, 48, 48, 48, 48, 48, 49]⟩, .string ⟨#[]⟩, .string ⟨#[104, 116, 116, 112, 58, 47, 47, 119, 119, 119, 46, 119, 51, 46, 111, 114, 103, 47, 50, 48, 48, 49, 47, 88, 77, 76, 83, 99, 104, 101, 109, 97, 35, 100, 101, 99, 105, 109, 97, 108]⟩, .int .i64 3, .string ⟨#[45, 48]⟩, .string ⟨#[]⟩, .string ⟨#[104, 116, 116, 112, 58, 47, 47, 119, 119, 119, 46, 119, 51, 46, 111, 114, 103, 47, 50, 48, 48, 49, 47, 88, 77, 76, 83, 99, 104, 101, 109, 97, 35, 105, 110, 116, 101, 103, 101, 114]⟩] 25)))
  generalize World.alloc wn (.cells #[.int .i64 3, .string ⟨#[48]⟩, .string ⟨#[]⟩, .string ⟨#[104, 116, 116, 112, 58, 47, 47, 119, 119, 119, 46, 119, 51, 46, 111, 114, 103, 47, 50, 48, 48, 49, 47, 88, 77, 76, 83, 99, 104, 101, 109, 97, 35, 105, 110, 116, 101, 103, 101, 114]⟩, .int .i64 3, .string ⟨#[49]⟩, .string ⟨#[]⟩, .string ⟨#[104, 116, 116, 112, 58, 47, 47, 119, 119, 119, 46, 119, 51, 46, 111, 114, 103, 47, 50, 48, 48, 49, 47, 88, 77, 76, 83, 99, 104, 101, 109, 97, 35, 105, 110, 116, 101, 103, 101, 114]⟩, .int .i64 3, .string ⟨#[45, 55]⟩, .string ⟨#[]⟩, .string ⟨#[104, 116, 116, 112, 58, 47, 47, 119, 119, 119, 46, 119, 51, 46, 111, 114, 103, 47, 50, 48, 48, 49, 47, 88, 77, 76, 83, 99, 104, 101, 109, 97, 35, 105, 110, 116, 101, 103, 101, 114]⟩, .int .i64 3, .string ⟨#[48, 48, 55]⟩, .string ⟨#[]⟩, .string ⟨#[104, 116, 116, 112, 58, 47, 47, 119, 119, 119, 46, 119, 51, 46, 111, 114, 103, 47, 50, 48, 48, 49, 47, 88, 77, 76, 83, 99, 104, 101, 109, 97, 35, 105, 110, 116, 101, 103, 101, 114]⟩, .int .i64 3, .string ⟨#[49, 46, 48]⟩, .string ⟨#[]⟩, .string ⟨#[104, 116, 116, 112, 58, 47, 47, 119, 119, 119, 46, 119, 51, 46, 111, 114, 103, 47, 50, 48, 48, 49, 47, 88, 77, 76, 83, 99, 104, 101, 109, 97, 35, 100, 101, 99, 105, 109, 97, 108]⟩, .int .i64 3, .string ⟨#[50, 46, 53, 48]⟩, .string ⟨#[]⟩, .string ⟨#[104, 116, 116, 112, 58, 47, 47, 119, 119, 119, 46, 119, 51, 46, 111, 114, 103, 47, 50, 48, 48, 49, 47, 88, 77, 76, 83, 99, 104, 101, 109, 97, 35, 100, 101, 99, 105, 109, 97, 108]⟩, .int .i64 3, .string ⟨#[57, 57, 57, 57, 57, 57, 57, 57, 57, 57, 57, 57, 57, 57, 57]⟩, .string ⟨#[]⟩, .string ⟨#[104, 116, 116, 112, 58, 47, 47, 119, 119, 119, 46, 119, 51, 46, 111, 114, 103, 47, 50, 48, 48, 49, 47, 88, 77, 76, 83, 99, 104, 101, 109, 97, 35, 105, 110, 116, 101, 103, 101, 114]⟩, .int .i64 3, .string ⟨#[120]⟩, .string ⟨#[]⟩, .string ⟨#[104, 116, 116, 112, 58, 47, 47, 119, 119, 119, 46, 119, 51, 46, 111, 114, 103, 47, 50, 48, 48, 49, 47, 88, 77, 76, 83, 99, 104, 101, 109, 97, 35, 105, 110, 116, 101, 103, 101, 114]⟩, .int .i64 3, .string ⟨#[49, 46, 53]⟩, .string ⟨#[]⟩, .string ⟨#[104, 116, 116, 112, 58, 47, 47, 119, 119, 119, 46, 119, 51, 46, 111, 114, 103, 47, 50, 48, 48, 49, 47, 88, 77, 76, 83, 99, 104, 101, 109, 97, 35, 105, 110, 116, 101, 103, 101, 114]⟩, .int .i64 3, .string ⟨#[97]⟩, .string ⟨#[]⟩, .string ⟨#[]⟩, .int .i64 3, .string ⟨#[97, 98]⟩, .string ⟨#[]⟩, .string ⟨#[]⟩, .int .i64 3, .string ⟨#[]⟩, .string ⟨#[]⟩, .string ⟨#[]⟩, .int .i64 3, .string ⟨#[97]⟩, .string ⟨#[101, 110]⟩, .string ⟨#[]⟩, .int .i64 3, .string ⟨#[97]⟩, .string ⟨#[100, 101]⟩, .string ⟨#[]⟩, .int .i64 3, .string ⟨#[116, 114, 117, 101]⟩, .string ⟨#[]⟩, .string ⟨#[104, 116, 116, 112, 58, 47, 47, 119, 119, 119, 46, 119, 51, 46, 111, 114, 103, 47, 50, 48, 48, 49, 47, 88, 77, 76, 83, 99, 104, 101, 109, 97, 35, 98, 111, 111, 108, 101, 97, 110]⟩, .int .i64 3, .string ⟨#[102, 97, 108, 115, 101]⟩, .string ⟨#[]⟩, .string ⟨#[104, 116, 116, 112, 58, 47, 47, 119, 119, 119, 46, 119, 51, 46, 111, 114, 103, 47, 50, 48, 48, 49, 47, 88, 77, 76, 83, 99, 104, 101, 109, 97, 35, 98, 111, 111, 108, 101, 97, 110]⟩, .int .i64 3, .string ⟨#[109, 97, 121, 98, 101]⟩, .string ⟨#[]⟩, .string ⟨#[104, 116, 116, 112, 58, 47, 47, 119, 119, 119, 46, 119, 51, 46, 111, 114, 103, 47, 50, 48, 48, 49, 47, 88, 77, 76, 83, 99, 104, 101, 109, 97, 35, 98, 111, 111, 108, 101, 97, 110]⟩, .int .i64 3, .string ⟨#[97]⟩, .string ⟨#[]⟩, .string ⟨#[116, 58, 116]⟩, .int .i64 3, .string ⟨#[98]⟩, .string ⟨#[]⟩, .string ⟨#[116, 58, 116]⟩, .int .i64 1, .string ⟨#[97]⟩, .string ⟨#[]⟩, .string ⟨#[]⟩, .int .i64 1, .string ⟨#[98]⟩, .string ⟨#[]⟩, .string ⟨#[]⟩, .int .i64 2, .string ⟨#[97]⟩, .string ⟨#[]⟩, .string ⟨#[]⟩, .int .i64 3, .string ⟨#[48, 46, 48, 48, 48, 48, 48, 49]⟩, .string ⟨#[]⟩, .string ⟨#[104, 116, 116, 112, 58, 47, 47, 119, 119, 119, 46, 119, 51, 46, 111, 114, 103, 47, 50, 48, 48, 49, 47, 88, 77, 76, 83, 99, 104, 101, 109, 97, 35, 100, 101, 99, 105, 109, 97, 108]⟩, .int .i64 3, .string ⟨#[45, 48]⟩, .string ⟨#[]⟩, .string ⟨#[104, 116, 116, 112, 58, 47, 47, 119, 119, 119, 46, 119, 51, 46, 111, 114, 103, 47, 50, 48, 48, 49, 47, 88, 77, 76, 83, 99, 104, 101, 109, 97, 35, 105, 110, 116, 101, 103, 101, 114]⟩] 25) = wt at hblk HW ⊢
  have hcell : ∀ k (h : k < 24), wt.cell? ⟨wn.heap.size, k * 4, none⟩ = some (.int .i64 (termsT[k]'h).k) ∧ wt.cell? ⟨wn.heap.size, k * 4 + 1, none⟩ = some (.string (termsT[k]'h).s) ∧ wt.cell? ⟨wn.heap.size, k * 4 + 2, none⟩ = some (.string (termsT[k]'h).l) ∧ wt.cell? ⟨wn.heap.size, k * 4 + 3, none⟩ = some (.string (termsT[k]'h).t) := by
    intro k h
    rw [hblk.cell, hblk.cell, hblk.cell, hblk.cell]
    rcases (show k = 0 ∨ k = 1 ∨ k = 2 ∨ k = 3 ∨ k = 4 ∨ k = 5 ∨ k = 6 ∨ k = 7 ∨ k = 8 ∨ k = 9 ∨ k = 10 ∨ k = 11 ∨ k = 12 ∨ k = 13 ∨ k = 14 ∨ k = 15 ∨ k = 16 ∨ k = 17 ∨ k = 18 ∨ k = 19 ∨ k = 20 ∨ k = 21 ∨ k = 22 ∨ k = 23 by omega) with rfl | rfl | rfl | rfl | rfl | rfl | rfl | rfl | rfl | rfl | rfl | rfl | rfl | rfl | rfl | rfl | rfl | rfl | rfl | rfl | rfl | rfl | rfl | rfl
    all_goals exact ⟨rfl, rfl, rfl, rfl⟩
  clear hblk
  refine (HI.out _).mono ?_
  rintro e w3 ⟨rfl, rfl⟩
  obtain ⟨hh, hv⟩ := HV.out
  obtain ⟨c0, c1, c2, c3⟩ := hcell k hh
  rw [← hv] at c0 c1 c2 c3
  have hk1 : (k : Int) < 24 := by omega
  obtain ⟨hb0, hlt, ⟨xz, hlz, kz0, kz1, kz2, kz3⟩, fz⟩ := HW.out
  have fz0 := fz 0
  have fz1 := fz 1
  have fz2 := fz 2
  have fz3 := fz 3
  clear fz hcell HT hv hh HV HU HI HK hb0
  go_wp2_with fail
  refine bodyPost_ret (v := .agg #[.int .i64 V.k, .string V.s, .string V.l, .string V.t]) (by simp [results, Tryz.results16, go_sem, kz0, kz1, kz2, kz3]) rfl ⟨rfl, HW.out.put _ _ _ _⟩
end Go.Proofs.YtecomfhbdonkbaaGreatDoor
/- The reference of value: Number, Truth. -/
namespace Go.Proofs.YtecomfhbdonkbaaGreatDoor
open Go.RowKit Go.Shelf Flo
set_option maxRecDepth 100000
set_option linter.unusedVariables false
set_option linter.unusedSimpArgs false

theorem rparse15 (s : ByteArray) (w : World) (hs : s.size ≤ 400) : Calls Tryz.prog 31 #[.string s] w fun e w' => e = .returned (decOV (decO s.data.toList)) ∧ Below w.heap.size w w' := by
  have := rparse_any s w hs
  rw [parse_same, ansD_eq] at this
  exact this
theorem numO_eq (t : Tm) : numO t = if t.k = 3 then (if t.tl = xIntL then (if t.sl.contains 46 then none else decO t.sl) else if t.tl = xDecL then decO t.sl else none) else none := by
  have key : ∀ o : Option (Int × Nat), (match wtNum o with | .num m s => some (m, s) | _ => none) = o := by
    intro o; cases o <;> rfl
  unfold numO wt
  by_cases h3 : t.k = 3
  · rw [if_pos h3, if_pos h3]
    by_cases h4 : t.tl = xIntL
    · rw [if_pos h4, if_pos h4]
      by_cases h : t.sl.contains 46 = true
      · rw [if_pos h, if_pos h]
      · rw [if_neg h, if_neg h]; exact key _
    · rw [if_neg h4, if_neg h4]
      by_cases h5 : t.tl = xDecL
      · rw [if_pos h5, if_pos h5]; exact key _
      · rw [if_neg h5, if_neg h5]
        by_cases h6 : t.tl = xBoolL
        · rw [if_pos h6]
          by_cases h7 : t.sl = trueL
          · rw [if_pos h7]
          · rw [if_neg h7]
            by_cases h8 : t.sl = falseL
            · rw [if_pos h8]
            · rw [if_neg h8]
        · rw [if_neg h6]
          by_cases h7 : t.tl = []
          · rw [if_pos h7]
            by_cases h8 : t.ll = []
            · rw [if_pos h8]
            · rw [if_neg h8]
          · rw [if_neg h7]
  · rw [if_neg h3, if_neg h3]
theorem take_dot {s : ByteArray} {j : Nat} (h : j < s.size) : (s.data.toList.take (j + 1)).contains 46 = ((s.data.toList.take j).contains 46 || s[j] == 46) := by
  have hl : j < s.data.toList.length := by rw [Array.length_toList]; exact h
  rw [List.take_succ_eq_append_getElem hl, Bool.eq_iff_iff]
  simp only [List.contains_iff_mem, List.mem_append, List.mem_singleton, Bool.or_eq_true, beq_iff_eq]
  constructor
  · rintro (h | h)
    · exact .inl h
    · exact .inr h.symm
  · rintro (h | h)
    · exact .inl h
    · exact .inr h.symm
/-- The term's box and the number's. -/
def NumB (w : World) (t : Tm) (v : World) : Prop := Below w.heap.size w v ∧ TmB v w.heap.size t ∧ DecB v (w.heap.size + 1) 0 0
theorem NumB.below {w v v' : World} {t : Tm} (h : NumB w t v) (hb : Below v.heap.size v v') : NumB w t v' := ⟨h.1.trans (hb.mono h.1.size), h.2.1.below hb, h.2.2.below hb⟩
theorem NumB.new (w : World) (t : Tm) (ty ty2 : TypeId) : NumB w t ((w.alloc (.cells #[.int .i64 t.k, .string t.s, .string t.l, .string t.t] ty)).alloc (.cells #[.int .i64 0, .int .i64 0] ty2)) := by
  have h1 := TmB.new w t ty
  have b1 := (Below.refl w.heap.size w).alloc (Nat.le_refl _) (.cells #[.int .i64 t.k, .string t.s, .string t.l, .string t.t] ty)
  have z1 : (w.alloc (.cells #[.int .i64 t.k, .string t.s, .string t.l, .string t.t] ty)).heap.size = w.heap.size + 1 := by simp
  generalize w.alloc (.cells #[.int .i64 t.k, .string t.s, .string t.l, .string t.t] ty) = w1 at *
  have h2 := DecB.new w1 0 0 ty2
  have b2 := (Below.refl w1.heap.size w1).alloc (Nat.le_refl _) (.cells #[.int .i64 0, .int .i64 0] ty2)
  rw [z1] at h2
  exact ⟨b1.trans (b2.mono (by omega)), h1.below b2, h2⟩
theorem NumB.put {w v : World} {t : Tm} (h : NumB w t v) (x y : Value) : Below w.heap.size w ((v.setCell ⟨w.heap.size + 1, 0, none⟩ x).setCell ⟨w.heap.size + 1, 1, none⟩ y) := (h.1.setCell (by simp only []; omega) _).setCell (by simp only []; omega) _
set_option maxHeartbeats 1000000 in
theorem rnumber_any (t : Tm) (ht : t.Sm) (w : World) : Calls Tryz.prog 17 #[t.val] w fun e w' => e = .returned (decOV (numO t)) ∧ Below w.heap.size w w' := by
  obtain ⟨V, hV⟩ : ∃ V, V = numO t := ⟨_, rfl⟩
  rw [← hV]
  rw [numO_eq] at hV
  have hs200 := ht.s
  clear ht
  have HN := Lib.hid (NumB.new w t 25 44)
  obtain ⟨k, s, l, y, rfl⟩ := tm_cases t
  replace hs200 : s.size ≤ 200 := hs200
  replace hV : V = if k = 3 then (if y.data.toList = xIntL then (if s.data.toList.contains 46 then none else decO s.data.toList) else if y.data.toList = xDecL then decO s.data.toList else none) else none := hV
  have HP := Lib.hid (fun w => rparse15 s w (by omega))
  generalize decO s.data.toList = o at HP hV
  unfold Tm.val
  simp only [] at HN ⊢
  by_cases h3 : k = 3
  · rw [if_pos h3] at hV
    subst h3
    by_cases h4 : y.data.toList = xIntL
    · rw [if_pos h4] at hV
      have h42 : y.toList = [104, 116, 116, 112, 58, 47, 47, 119, 119, 119, 46, 119, 51, 46, 111, 114, 103, 47, 50, 48, 48, 49, 47, 88, 77, 76, 83, 99, 104, 101, 109, 97, 35, 105, 110, 116, 101, 103, 101, 114] := by rw [Lib.toList_data]; exact h4
      clear h4
      have HV := Lib.hid hV
      clear hV
      go_enter Tryz.func17, Tryz.ntmps17
      go_upto_region 1 with fail
      generalize World.alloc (World.alloc w _) _ = wr at HN ⊢
      obtain ⟨-, k0, k1, k2, k3⟩ := HN.out.2.1
      obtain ⟨-, d0, d1, fd0, fd1⟩ := HN.out.2.2
      simp only [] at k0 k1 k2 k3
      go_wp2_with fail
      go_loop [4] (fun i => ∃ j : Nat, i = .int .i64 (j : Int) ∧ j ≤ s.size ∧ (s.data.toList.take j).contains 46 = false) (fun i => s.size - (intOf i).toNat)
      case atStart => exact ⟨0, rfl, Nat.zero_le _, rfl⟩
      case round =>
        obtain ⟨j, rfl, hj, hD⟩ := hrel
        have HD := Lib.hid hD
        clear hD
        by_cases hlt : j < s.size
        · have htd := take_dot hlt
          rw [HD.out, Bool.false_or] at htd
          by_cases hg : s[j] = 46
          · have h46 : (s.data.toList.take (j + 1)).contains 46 = true := by rw [htd, hg]; rfl
            have h47 : s.data.toList.contains 46 = true := by
              rw [List.contains_iff_mem] at h46 ⊢
              exact List.mem_of_mem_take h46
            have HF := Lib.hid (show V = none by rw [HV.out, if_pos h47])
            clear h46 h47
            have hg2 : (s[j].toNat : Int) = 46 := by rw [hg]; rfl
            clear htd hg
            go_wp2_with fail
            refine bodyPost_ret (v := .tuple #[.agg #[.int .i64 0, .int .i64 0], .bool false]) (by simp [results, Tryz.results17, go_sem, d0, d1]) rfl ⟨by rw [HF.out]; rfl, HN.out.put _ _⟩
          · have HT := Lib.hid (show (s.data.toList.take (j + 1)).contains 46 = false by rw [htd]; simpa using hg)
            have hg2 : ¬ (s[j].toNat : Int) = 46 := by
              intro h
              have h' : s[j].toNat = (46 : UInt8).toNat := by
                show s[j].toNat = 46
                omega
              exact hg (UInt8.toNat_inj.1 h')
            have hg3 : ((s[j].toNat : Int) == 46) = false := by simpa using hg2
            clear htd hg
            go_wp2_with fail
            exact ⟨⟨j + 1, by go_num, hlt, HT.out⟩, by simp [intOf]; omega⟩
        · have h47 := HD.out
          rw [List.take_of_length_le (by rw [Array.length_toList]; exact Nat.le_of_not_lt hlt)] at h47
          have HVN := Lib.hid (show V = o by rw [HV.out, h47]; rfl)
          clear h47
          clear d0 d1 fd0 fd1
          go_wp2_with fail
          refine (HP.out _).mono ?_
          rintro e w2 ⟨rfl, hb2⟩
          have HT := Lib.hid (HN.out.below hb2)
          clear hb2
          obtain ⟨-, d0, d1, fd0, fd1⟩ := HT.out.2.2
          cases o with
          | none =>
            unfold decOV overV
            go_wp2_with fail
            refine bodyPost_ret (v := .tuple #[.agg #[.int .i64 0, .int .i64 0], .bool false]) (by simp [results, Tryz.results17, go_sem, d0, d1]) rfl ⟨by rw [HVN.out]; rfl, HT.out.put _ _⟩
          | some p =>
            unfold decOV
            go_wp2_with fail
            refine bodyPost_ret (v := .tuple #[.agg #[.int .i64 p.1, .int .i64 (p.2 : Int)], .bool true]) (by simp [results, Tryz.results17, go_sem, d0, d1]) rfl ⟨by rw [HVN.out]; rfl, HT.out.put _ _⟩
    · rw [if_neg h4] at hV
      have h42 : ¬ y.toList = [104, 116, 116, 112, 58, 47, 47, 119, 119, 119, 46, 119, 51, 46, 111, 114, 103, 47, 50, 48, 48, 49, 47, 88, 77, 76, 83, 99, 104, 101, 109, 97, 35, 105, 110, 116, 101, 103, 101, 114] := by rw [Lib.toList_data]; exact h4
      have h43 : (y.toList == [104, 116, 116, 112, 58, 47, 47, 119, 119, 119, 46, 119, 51, 46, 111, 114, 103, 47, 50, 48, 48, 49, 47, 88, 77, 76, 83, 99, 104, 101, 109, 97, 35, 105, 110, 116, 101, 103, 101, 114]) = false := by simpa using h42
      clear h4
      by_cases h5 : y.data.toList = xDecL
      · rw [if_pos h5] at hV
        have h52 : y.toList = [104, 116, 116, 112, 58, 47, 47, 119, 119, 119, 46, 119, 51, 46, 111, 114, 103, 47, 50, 48, 48, 49, 47, 88, 77, 76, 83, 99, 104, 101, 109, 97, 35, 100, 101, 99, 105, 109, 97, 108] := by rw [Lib.toList_data]; exact h5
        clear h5
        have HV := Lib.hid hV
        clear hV
        go_enter Tryz.func17, Tryz.ntmps17
        go_upto_region 1 with fail
        generalize World.alloc (World.alloc w _) _ = wr at HN ⊢
        obtain ⟨-, k0, k1, k2, k3⟩ := HN.out.2.1
        obtain ⟨-, d0, d1, fd0, fd1⟩ := HN.out.2.2
        simp only [] at k0 k1 k2 k3
        go_wp2_with fail
        go_loop [4] (fun i => i = .int .i64 0) (fun _ => 0)
        case atStart => rfl
        case round =>
          subst hrel
          have HVN := Lib.hid (show V = o from HV.out)
          clear d0 d1 fd0 fd1
          go_wp2_with fail
          all_goals
            refine (HP.out _).mono ?_
            rintro e w2 ⟨rfl, hb2⟩
            have HT := Lib.hid (HN.out.below hb2)
            clear hb2
            obtain ⟨-, d0, d1, fd0, fd1⟩ := HT.out.2.2
            cases o with
            | none =>
              unfold decOV overV
              go_wp2_with fail
              refine bodyPost_ret (v := .tuple #[.agg #[.int .i64 0, .int .i64 0], .bool false]) (by simp [results, Tryz.results17, go_sem, d0, d1]) rfl ⟨by rw [HVN.out]; rfl, HT.out.put _ _⟩
            | some p =>
              unfold decOV
              go_wp2_with fail
              refine bodyPost_ret (v := .tuple #[.agg #[.int .i64 p.1, .int .i64 (p.2 : Int)], .bool true]) (by simp [results, Tryz.results17, go_sem, d0, d1]) rfl ⟨by rw [HVN.out]; rfl, HT.out.put _ _⟩
      · rw [if_neg h5] at hV
        have h52 : ¬ y.toList = [104, 116, 116, 112, 58, 47, 47, 119, 119, 119, 46, 119, 51, 46, 111, 114, 103, 47, 50, 48, 48, 49, 47, 88, 77, 76, 83, 99, 104, 101, 109, 97, 35, 100, 101, 99, 105, 109, 97, 108] := by rw [Lib.toList_data]; exact h5
        have h53 : (y.toList == [104, 116, 116, 112, 58, 47, 47, 119, 119, 119, 46, 119, 51, 46, 111, 114, 103, 47, 50, 48, 48, 49, 47, 88, 77, 76, 83, 99, 104, 101, 109, 97, 35, 100, 101, 99, 105, 109, 97, 108]) = false := by simpa using h52
        clear h5
        have HV := Lib.hid hV
        clear hV
        go_enter Tryz.func17, Tryz.ntmps17
        go_upto_region 1 with fail
        generalize World.alloc (World.alloc w _) _ = wr at HN ⊢
        obtain ⟨-, k0, k1, k2, k3⟩ := HN.out.2.1
        obtain ⟨-, d0, d1, fd0, fd1⟩ := HN.out.2.2
        simp only [] at k0 k1 k2 k3
        go_wp2_with fail
        refine bodyPost_ret (v := .tuple #[.agg #[.int .i64 0, .int .i64 0], .bool false]) (by simp [results, Tryz.results17, go_sem, d0, d1]) rfl ⟨by rw [HV.out]; rfl, HN.out.put _ _⟩
  · rw [if_neg h3] at hV
    have HV := Lib.hid hV
    clear hV
    go_enter Tryz.func17, Tryz.ntmps17
    go_upto_region 1 with fail
    generalize World.alloc (World.alloc w _) _ = wr at HN ⊢
    obtain ⟨-, k0, k1, k2, k3⟩ := HN.out.2.1
    obtain ⟨-, d0, d1, fd0, fd1⟩ := HN.out.2.2
    simp only [] at k0 k1 k2 k3
    go_wp2_with fail
    refine bodyPost_ret (v := .tuple #[.agg #[.int .i64 0, .int .i64 0], .bool false]) (by simp [results, Tryz.results17, go_sem, d0, d1]) rfl ⟨by rw [HV.out]; rfl, HN.out.put _ _⟩
/-- A term's box. -/
def OneT (w : World) (t : Tm) (v : World) : Prop := Below w.heap.size w v ∧ TmB v w.heap.size t
theorem OneT.below {w v v' : World} {t : Tm} (h : OneT w t v) (hb : Below v.heap.size v v') : OneT w t v' := ⟨h.1.trans (hb.mono h.1.size), h.2.below hb⟩
theorem OneT.new (w : World) (t : Tm) (ty : TypeId) : OneT w t (w.alloc (.cells #[.int .i64 t.k, .string t.s, .string t.l, .string t.t] ty)) := ⟨(Below.refl _ _).alloc (Nat.le_refl _) _, TmB.new w t ty⟩
theorem truth_cases (t : Tm) : match boolO t with
    | some b => truthO t = some b
    | none => match numO t with
      | some m => truthO t = some (decide (m.1 ≠ 0))
      | none => match plainB t with
        | true => truthO t = some (decide (t.sl ≠ []))
        | false => truthO t = none := by
  have hp := plainB_eq t
  have hpl : ∀ n, wt t = .plain n → n = t.s.size := by
    intro n h
    unfold wt at h
    split at h
    · split at h
      · split at h
        · cases h
        · rcases wtNum_cases (decO t.sl) with ⟨m, s, e⟩ | e <;> rw [e] at h <;> cases h
      · split at h
        · rcases wtNum_cases (decO t.sl) with ⟨m, s, e⟩ | e <;> rw [e] at h <;> cases h
        · split at h
          · split at h
            · cases h
            · split at h <;> cases h
          · split at h
            · split at h
              · cases h; rfl
              · cases h
            · cases h
    · cases h
  unfold boolO numO plainB truthO
  cases hw : wt t with
  | num m s => rfl
  | tr b => rfl
  | plain n =>
    have := hpl n hw
    subst this
    show some (decide (t.s.size ≠ 0)) = some (decide (t.sl ≠ []))
    congr 1
    rw [Bool.eq_iff_iff, decide_eq_true_eq, decide_eq_true_eq]
    unfold Tm.sl
    rw [ne_eq, ne_eq, ← List.length_eq_zero_iff, Array.length_toList]
    exact Iff.rfl
  | spoken => rfl
  | strange => rfl
  | node => rfl
theorem rtruth_any (t : Tm) (ht : t.Sm) (w : World) : Calls Tryz.prog 100 #[t.val] w fun e w' => e = .returned (twoB (truthO t)) ∧ Below w.heap.size w w' := by
  have HB := Lib.hid (fun w => rboolean_any t w)
  have HNU := Lib.hid (fun w => rnumber_any t ht w)
  have HPL := Lib.hid (fun w => rplain_any t w)
  have HX := Lib.hid (OneT.new w t 25)
  have hc := truth_cases t
  generalize truthO t = V at hc ⊢
  generalize boolO t = q at HB hc
  generalize numO t = o at HNU hc
  generalize plainB t = p at HPL hc
  clear ht
  unfold Tm.val
  unfold Tm.val at HB HNU HPL
  go_enter Tryz.func100, Tryz.ntmps100
  go_wp2_with fail
  generalize World.alloc w _ = wr at HX ⊢
  refine (HB.out _).mono ?_
  rintro e w1 ⟨rfl, hb1⟩
  have HT1 := Lib.hid (HX.out.below hb1)
  clear hb1 HB
  cases q with
  | some b =>
    have HF := Lib.hid (show V = some b from hc)
    clear hc
    unfold twoB
    cases b
    all_goals
      go_wp2_with fail
      go_ret2
      exact ⟨by rw [HF.out]; rfl, HT1.out.1⟩
  | none =>
    unfold twoB
    obtain ⟨-, k0, k1, k2, k3⟩ := HT1.out.2
    go_wp2_with fail
    clear k0 k1 k2 k3
    refine (HNU.out _).mono ?_
    rintro e w2 ⟨rfl, hb2⟩
    have HT2 := Lib.hid (HT1.out.below hb2)
    clear hb2 HNU
    cases o with
    | some m =>
      have HF := Lib.hid (show V = some (decide (m.1 ≠ 0)) from hc)
      clear hc
      unfold decOV
      obtain ⟨m, c⟩ := m
      simp only [] at HF ⊢
      by_cases hm : m = 0
      · have HF2 := Lib.hid (show V = some false by rw [HF.out, decide_eq_false (by simpa using hm)])
        subst hm
        go_wp2_with fail
        go_ret2
        exact ⟨by rw [HF2.out]; rfl, HT2.out.1.alloc HT2.out.1.size _⟩
      · have HF2 := Lib.hid (show V = some true by rw [HF.out, decide_eq_true hm])
        have hm2 : (m != 0) = true := by simpa using hm
        clear hm
        go_wp2_with fail
        go_ret2
        exact ⟨by rw [HF2.out]; simp [hm2]; rfl, HT2.out.1.alloc HT2.out.1.size _⟩
    | none =>
      unfold decOV overV
      obtain ⟨hlt, k0, k1, k2, k3⟩ := HT2.out.2
      have hne : ¬ w.heap.size = w2.heap.size := by omega
      go_wp2_with fail
      clear k0 k1 k2 k3 hlt hne
      have HT3 := Lib.hid (HT2.out.below ((Below.refl _ _).alloc (Nat.le_refl _) (.cells #[.int .i64 0, .int .i64 0] 44)))
      generalize World.alloc w2 _ = w3 at HT3 ⊢
      refine (HPL.out _).mono ?_
      rintro e w4 ⟨rfl, hb4⟩
      have HT4 := Lib.hid (HT3.out.below hb4)
      clear hb4 HPL
      cases p with
      | false =>
        have HF := Lib.hid (show V = none from hc)
        clear hc
        go_wp2_with fail
        go_ret2
        exact ⟨by rw [HF.out]; rfl, HT4.out.1⟩
      | true =>
        obtain ⟨-, k0, k1, k2, k3⟩ := HT4.out.2
        by_cases hs : t.sl = []
        · have HF := Lib.hid (show V = some false by rw [show V = some (decide (t.sl ≠ [])) from hc, decide_eq_false (by simpa using hs)])
          have hs2 : t.s.toList = [] := by rw [Lib.toList_data]; exact hs
          clear hc hs
          go_wp2_with fail
          go_ret2
          exact ⟨by rw [HF.out]; rfl, HT4.out.1⟩
        · have HF := Lib.hid (show V = some true by rw [show V = some (decide (t.sl ≠ [])) from hc, decide_eq_true hs])
          have hs2 : ¬ t.s.toList = [] := by rw [Lib.toList_data]; exact hs
          have hs3 : (t.s.toList == []) = false := by simpa using hs2
          have hs4 : t.s.toList.isEmpty = false := by simpa using hs2
          clear hc hs
          go_wp2_with fail
          go_ret2
          exact ⟨by rw [HF.out]; simp [hs4]; rfl, HT4.out.1⟩
end Go.Proofs.YtecomfhbdonkbaaGreatDoor
