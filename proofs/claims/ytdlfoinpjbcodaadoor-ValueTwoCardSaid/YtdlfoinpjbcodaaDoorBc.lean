/- The reference of value: Number, Truth. -/
import Derived.Test.YtdlfoinpjbcodaaDoorBa
namespace Go.Proofs.YtdlfoinpjbcodaaDoor
open Go.RowKit Go.Shelf Flo
set_option maxRecDepth 100000
set_option linter.unusedVariables false
set_option linter.unusedSimpArgs false

theorem rparse15 (s : ByteArray) (w : World) (hs : s.size ≤ 400) : Calls Tryd.prog 29 #[.string s] w fun e w' => e = .returned (decOV (decO s.data.toList)) ∧ Below w.heap.size w w' := by
  have := rparse_any s w hs
  rw [parse_same, ansD_eq] at this
  exact this
theorem numO_eq (t : Tm) : numO t = if t.k = 3 then (if t.tl = xIntL then (if t.sl.contains 46 then none else decO t.sl) else if t.tl = xDecL then decO t.sl else none) else none := by
  have key : ∀ o : Option (Int × Nat), (match wtNum o with | .num m s => some (m, s) | _ => none) = o := by
    intro o; cases o <;> rfl
  unfold numO wt
  by_cases h3 : t.k = 3
  · rw [if_pos h3, if_pos h3]
    by_cases h4 : t.tl = xIntL
    · rw [if_pos h4, if_pos h4]
      by_cases h : t.sl.contains 46 = true
      · rw [if_pos h, if_pos h]
      · rw [if_neg h, if_neg h]; exact key _
    · rw [if_neg h4, if_neg h4]
      by_cases h5 : t.tl = xDecL
      · rw [if_pos h5, if_pos h5]; exact key _
      · rw [if_neg h5, if_neg h5]
        by_cases h6 : t.tl = xBoolL
        · rw [if_pos h6]
          by_cases h7 : t.sl = trueL
          · rw [if_pos h7]
          · rw [if_neg h7]
            by_cases h8 : t.sl = falseL
            · rw [if_pos h8]
            · rw [if_neg h8]
        · rw [if_neg h6]
          by_cases h7 : t.tl = []
          · rw [if_pos h7]
            by_cases h8 : t.ll = []
            · rw [if_pos h8]
            · rw [if_neg h8]
          · rw [if_neg h7]
  · rw [if_neg h3, if_neg h3]
theorem take_dot {s : ByteArray} {j : Nat} (h : j < s.size) : (s.data.toList.take (j + 1)).contains 46 = ((s.data.toList.take j).contains 46 || s[j] == 46) := by
  have hl : j < s.data.toList.length := by rw [Array.length_toList]; exact h
  rw [List.take_succ_eq_append_getElem hl, Bool.eq_iff_iff]
  simp only [List.contains_iff_mem, List.mem_append, List.mem_singleton, Bool.or_eq_true, beq_iff_eq]
  constructor
  · rintro (h | h)
    · exact .inl h
    · exact .inr h.symm
  · rintro (h | h)
    · exact .inl h
    · exact .inr h.symm
/-- The term's box and the number's. -/
def NumB (w : World) (t : Tm) (v : World) : Prop := Below w.heap.size w v ∧ TmB v w.heap.size t ∧ DecB v (w.heap.size + 1) 0 0
theorem NumB.below {w v v' : World} {t : Tm} (h : NumB w t v) (hb : Below v.heap.size v v') : NumB w t v' := ⟨h.1.trans (hb.mono h.1.size), h.2.1.below hb, h.2.2.below hb⟩
theorem NumB.new (w : World) (t : Tm) (ty ty2 : TypeId) : NumB w t ((w.alloc (.cells #[.int .i64 t.k, .string t.s, .string t.l, .string t.t] ty)).alloc (.cells #[.int .i64 0, .int .i64 0] ty2)) := by
  have h1 := TmB.new w t ty
  have b1 := (Below.refl w.heap.size w).alloc (Nat.le_refl _) (.cells #[.int .i64 t.k, .string t.s, .string t.l, .string t.t] ty)
  have z1 : (w.alloc (.cells #[.int .i64 t.k, .string t.s, .string t.l, .string t.t] ty)).heap.size = w.heap.size + 1 := by simp
  generalize w.alloc (.cells #[.int .i64 t.k, .string t.s, .string t.l, .string t.t] ty) = w1 at *
  have h2 := DecB.new w1 0 0 ty2
  have b2 := (Below.refl w1.heap.size w1).alloc (Nat.le_refl _) (.cells #[.int .i64 0, .int .i64 0] ty2)
  rw [z1] at h2
  exact ⟨b1.trans (b2.mono (by omega)), h1.below b2, h2⟩
theorem NumB.put {w v : World} {t : Tm} (h : NumB w t v) (x y : Value) : Below w.heap.size w ((v.setCell ⟨w.heap.size + 1, 0, none⟩ x).setCell ⟨w.heap.size + 1, 1, none⟩ y) := (h.1.setCell (by simp only []; omega) _).setCell (by simp only []; omega) _
set_option maxHeartbeats 1000000 in
theorem rnumber_any (t : Tm) (ht : t.Sm) (w : World) : Calls Tryd.prog 20 #[t.val] w fun e w' => e = .returned (decOV (numO t)) ∧ Below w.heap.size w w' := by
  obtain ⟨V, hV⟩ : ∃ V, V = numO t := ⟨_, rfl⟩
  rw [← hV]
  rw [numO_eq] at hV
  have hs200 := ht.s
  clear ht
  have HN := Lib.hid (NumB.new w t 23 43)
  obtain ⟨k, s, l, y, rfl⟩ := tm_cases t
  replace hs200 : s.size ≤ 200 := hs200
  replace hV : V = if k = 3 then (if y.data.toList = xIntL then (if s.data.toList.contains 46 then none else decO s.data.toList) else if y.data.toList = xDecL then decO s.data.toList else none) else none := hV
  have HP := Lib.hid (fun w => rparse15 s w (by omega))
  generalize decO s.data.toList = o at HP hV
  unfold Tm.val
  simp only [] at HN ⊢
  by_cases h3 : k = 3
  · rw [if_pos h3] at hV
    subst h3
    by_cases h4 : y.data.toList = xIntL
    · rw [if_pos h4] at hV
      have h42 : y.toList = [104, 116, 116, 112, 58, 47, 47, 119, 119, 119, 46, 119, 51, 46, 111, 114, 103, 47, 50, 48, 48, 49, 47, 88, 77, 76, 83, 99, 104, 101, 109, 97, 35, 105, 110, 116, 101, 103, 101, 114] := by rw [Lib.toList_data]; exact h4
      clear h4
      have HV := Lib.hid hV
      clear hV
      go_enter Tryd.func20, Tryd.ntmps20
      go_upto_region 1 with fail
      generalize World.alloc (World.alloc w _) _ = wr at HN ⊢
      obtain ⟨-, k0, k1, k2, k3⟩ := HN.out.2.1
      obtain ⟨-, d0, d1, fd0, fd1⟩ := HN.out.2.2
      simp only [] at k0 k1 k2 k3
      go_wp2_with fail
      go_loop [4] (fun i => ∃ j : Nat, i = .int .i64 (j : Int) ∧ j ≤ s.size ∧ (s.data.toList.take j).contains 46 = false) (fun i => s.size - (intOf i).toNat)
      case atStart => exact ⟨0, rfl, Nat.zero_le _, rfl⟩
      case round =>
        obtain ⟨j, rfl, hj, hD⟩ := hrel
        have HD := Lib.hid hD
        clear hD
        by_cases hlt : j < s.size
        · have htd := take_dot hlt
          rw [HD.out, Bool.false_or] at htd
          by_cases hg : s[j] = 46
          · have h46 : (s.data.toList.take (j + 1)).contains 46 = true := by rw [htd, hg]; rfl
            have h47 : s.data.toList.contains 46 = true := by
              rw [List.contains_iff_mem] at h46 ⊢
              exact List.mem_of_mem_take h46
            have HF := Lib.hid (show V = none by rw [HV.out, if_pos h47])
            clear h46 h47
            have hg2 : (s[j].toNat : Int) = 46 := by rw [hg]; rfl
            clear htd hg
            go_wp2_with fail
            refine bodyPost_ret (v := .tuple #[.agg #[.int .i64 0, .int .i64 0], .bool false]) (by simp [results, Tryd.results20, go_sem, d0, d1]) rfl ⟨by rw [HF.out]; rfl, HN.out.put _ _⟩
          · have HT := Lib.hid (show (s.data.toList.take (j + 1)).contains 46 = false by rw [htd]; simpa using hg)
            have hg2 : ¬ (s[j].toNat : Int) = 46 := by
              intro h
              have h' : s[j].toNat = (46 : UInt8).toNat := by
                show s[j].toNat = 46
                omega
              exact hg (UInt8.toNat_inj.1 h')
            have hg3 : ((s[j].toNat : Int) == 46) = false := by simpa using hg2
            clear htd hg
            go_wp2_with fail
            exact ⟨⟨j + 1, by go_num, hlt, HT.out⟩, by simp [intOf]; omega⟩
        · have h47 := HD.out
          rw [List.take_of_length_le (by rw [Array.length_toList]; exact Nat.le_of_not_lt hlt)] at h47
          have HVN := Lib.hid (show V = o by rw [HV.out, h47]; rfl)
          clear h47
          clear d0 d1 fd0 fd1
          go_wp2_with fail
          refine (HP.out _).mono ?_
          rintro e w2 ⟨rfl, hb2⟩
          have HT := Lib.hid (HN.out.below hb2)
          clear hb2
          obtain ⟨-, d0, d1, fd0, fd1⟩ := HT.out.2.2
          cases o with
          | none =>
            unfold decOV overV
            go_wp2_with fail
            refine bodyPost_ret (v := .tuple #[.agg #[.int .i64 0, .int .i64 0], .bool false]) (by simp [results, Tryd.results20, go_sem, d0, d1]) rfl ⟨by rw [HVN.out]; rfl, HT.out.put _ _⟩
          | some p =>
            unfold decOV
            go_wp2_with fail
            refine bodyPost_ret (v := .tuple #[.agg #[.int .i64 p.1, .int .i64 (p.2 : Int)], .bool true]) (by simp [results, Tryd.results20, go_sem, d0, d1]) rfl ⟨by rw [HVN.out]; rfl, HT.out.put _ _⟩
    · rw [if_neg h4] at hV
      have h42 : ¬ y.toList = [104, 116, 116, 112, 58, 47, 47, 119, 119, 119, 46, 119, 51, 46, 111, 114, 103, 47, 50, 48, 48, 49, 47, 88, 77, 76, 83, 99, 104, 101, 109, 97, 35, 105, 110, 116, 101, 103, 101, 114] := by rw [Lib.toList_data]; exact h4
      have h43 : (y.toList == [104, 116, 116, 112, 58, 47, 47, 119, 119, 119, 46, 119, 51, 46, 111, 114, 103, 47, 50, 48, 48, 49, 47, 88, 77, 76, 83, 99, 104, 101, 109, 97, 35, 105, 110, 116, 101, 103, 101, 114]) = false := by simpa using h42
      clear h4
      by_cases h5 : y.data.toList = xDecL
      · rw [if_pos h5] at hV
        have h52 : y.toList = [104, 116, 116, 112, 58, 47, 47, 119, 119, 119, 46, 119, 51, 46, 111, 114, 103, 47, 50, 48, 48, 49, 47, 88, 77, 76, 83, 99, 104, 101, 109, 97, 35, 100, 101, 99, 105, 109, 97, 108] := by rw [Lib.toList_data]; exact h5
        clear h5
        have HV := Lib.hid hV
        clear hV
        go_enter Tryd.func20, Tryd.ntmps20
        go_upto_region 1 with fail
        generalize World.alloc (World.alloc w _) _ = wr at HN ⊢
        obtain ⟨-, k0, k1, k2, k3⟩ := HN.out.2.1
        obtain ⟨-, d0, d1, fd0, fd1⟩ := HN.out.2.2
        simp only [] at k0 k1 k2 k3
        go_wp2_with fail
        go_loop [4] (fun i => i = .int .i64 0) (fun _ => 0)
        case atStart => rfl
        case round =>
          subst hrel
          have HVN := Lib.hid (show V = o from HV.out)
          clear d0 d1 fd0 fd1
          go_wp2_with fail
          all_goals
            refine (HP.out _).mono ?_
            rintro e w2 ⟨rfl, hb2⟩
            have HT := Lib.hid (HN.out.below hb2)
            clear hb2
            obtain ⟨-, d0, d1, fd0, fd1⟩ := HT.out.2.2
            cases o with
            | none =>
              unfold decOV overV
              go_wp2_with fail
              refine bodyPost_ret (v := .tuple #[.agg #[.int .i64 0, .int .i64 0], .bool false]) (by simp [results, Tryd.results20, go_sem, d0, d1]) rfl ⟨by rw [HVN.out]; rfl, HT.out.put _ _⟩
            | some p =>
              unfold decOV
              go_wp2_with fail
              refine bodyPost_ret (v := .tuple #[.agg #[.int .i64 p.1, .int .i64 (p.2 : Int)], .bool true]) (by simp [results, Tryd.results20, go_sem, d0, d1]) rfl ⟨by rw [HVN.out]; rfl, HT.out.put _ _⟩
      · rw [if_neg h5] at hV
        have h52 : ¬ y.toList = [104, 116, 116, 112, 58, 47, 47, 119, 119, 119, 46, 119, 51, 46, 111, 114, 103, 47, 50, 48, 48, 49, 47, 88, 77, 76, 83, 99, 104, 101, 109, 97, 35, 100, 101, 99, 105, 109, 97, 108] := by rw [Lib.toList_data]; exact h5
        have h53 : (y.toList == [104, 116, 116, 112, 58, 47, 47, 119, 119, 119, 46, 119, 51, 46, 111, 114, 103, 47, 50, 48, 48, 49, 47, 88, 77, 76, 83, 99, 104, 101, 109, 97, 35, 100, 101, 99, 105, 109, 97, 108]) = false := by simpa using h52
        clear h5
        have HV := Lib.hid hV
        clear hV
        go_enter Tryd.func20, Tryd.ntmps20
        go_upto_region 1 with fail
        generalize World.alloc (World.alloc w _) _ = wr at HN ⊢
        obtain ⟨-, k0, k1, k2, k3⟩ := HN.out.2.1
        obtain ⟨-, d0, d1, fd0, fd1⟩ := HN.out.2.2
        simp only [] at k0 k1 k2 k3
        go_wp2_with fail
        refine bodyPost_ret (v := .tuple #[.agg #[.int .i64 0, .int .i64 0], .bool false]) (by simp [results, Tryd.results20, go_sem, d0, d1]) rfl ⟨by rw [HV.out]; rfl, HN.out.put _ _⟩
  · rw [if_neg h3] at hV
    have HV := Lib.hid hV
    clear hV
    go_enter Tryd.func20, Tryd.ntmps20
    go_upto_region 1 with fail
    generalize World.alloc (World.alloc w _) _ = wr at HN ⊢
    obtain ⟨-, k0, k1, k2, k3⟩ := HN.out.2.1
    obtain ⟨-, d0, d1, fd0, fd1⟩ := HN.out.2.2
    simp only [] at k0 k1 k2 k3
    go_wp2_with fail
    refine bodyPost_ret (v := .tuple #[.agg #[.int .i64 0, .int .i64 0], .bool false]) (by simp [results, Tryd.results20, go_sem, d0, d1]) rfl ⟨by rw [HV.out]; rfl, HN.out.put _ _⟩
/-- A term's box. -/
def OneT (w : World) (t : Tm) (v : World) : Prop := Below w.heap.size w v ∧ TmB v w.heap.size t
theorem OneT.below {w v v' : World} {t : Tm} (h : OneT w t v) (hb : Below v.heap.size v v') : OneT w t v' := ⟨h.1.trans (hb.mono h.1.size), h.2.below hb⟩
theorem OneT.new (w : World) (t : Tm) (ty : TypeId) : OneT w t (w.alloc (.cells #[.int .i64 t.k, .string t.s, .string t.l, .string t.t] ty)) := ⟨(Below.refl _ _).alloc (Nat.le_refl _) _, TmB.new w t ty⟩
theorem truth_cases (t : Tm) : match boolO t with
    | some b => truthO t = some b
    | none => match numO t with
      | some m => truthO t = some (decide (m.1 ≠ 0))
      | none => match plainB t with
        | true => truthO t = some (decide (t.sl ≠ []))
        | false => truthO t = none := by
  have hp := plainB_eq t
  have hpl : ∀ n, wt t = .plain n → n = t.s.size := by
    intro n h
    unfold wt at h
    split at h
    · split at h
      · split at h
        · cases h
        · rcases wtNum_cases (decO t.sl) with ⟨m, s, e⟩ | e <;> rw [e] at h <;> cases h
      · split at h
        · rcases wtNum_cases (decO t.sl) with ⟨m, s, e⟩ | e <;> rw [e] at h <;> cases h
        · split at h
          · split at h
            · cases h
            · split at h <;> cases h
          · split at h
            · split at h
              · cases h; rfl
              · cases h
            · cases h
    · cases h
  unfold boolO numO plainB truthO
  cases hw : wt t with
  | num m s => rfl
  | tr b => rfl
  | plain n =>
    have := hpl n hw
    subst this
    show some (decide (t.s.size ≠ 0)) = some (decide (t.sl ≠ []))
    congr 1
    rw [Bool.eq_iff_iff, decide_eq_true_eq, decide_eq_true_eq]
    unfold Tm.sl
    rw [ne_eq, ne_eq, ← List.length_eq_zero_iff, Array.length_toList]
    exact Iff.rfl
  | spoken => rfl
  | strange => rfl
  | node => rfl
theorem rtruth_any (t : Tm) (ht : t.Sm) (w : World) : Calls Tryd.prog 9 #[t.val] w fun e w' => e = .returned (twoB (truthO t)) ∧ Below w.heap.size w w' := by
  have HB := Lib.hid (fun w => rboolean_any t w)
  have HNU := Lib.hid (fun w => rnumber_any t ht w)
  have HPL := Lib.hid (fun w => rplain_any t w)
  have HX := Lib.hid (OneT.new w t 23)
  have hc := truth_cases t
  generalize truthO t = V at hc ⊢
  generalize boolO t = q at HB hc
  generalize numO t = o at HNU hc
  generalize plainB t = p at HPL hc
  clear ht
  unfold Tm.val
  unfold Tm.val at HB HNU HPL
  go_enter Tryd.func9, Tryd.ntmps9
  go_wp2_with fail
  generalize World.alloc w _ = wr at HX ⊢
  refine (HB.out _).mono ?_
  rintro e w1 ⟨rfl, hb1⟩
  have HT1 := Lib.hid (HX.out.below hb1)
  clear hb1 HB
  cases q with
  | some b =>
    have HF := Lib.hid (show V = some b from hc)
    clear hc
    unfold twoB
    cases b
    all_goals
      go_wp2_with fail
      go_ret2
      exact ⟨by rw [HF.out]; rfl, HT1.out.1⟩
  | none =>
    unfold twoB
    obtain ⟨-, k0, k1, k2, k3⟩ := HT1.out.2
    go_wp2_with fail
    clear k0 k1 k2 k3
    refine (HNU.out _).mono ?_
    rintro e w2 ⟨rfl, hb2⟩
    have HT2 := Lib.hid (HT1.out.below hb2)
    clear hb2 HNU
    cases o with
    | some m =>
      have HF := Lib.hid (show V = some (decide (m.1 ≠ 0)) from hc)
      clear hc
      unfold decOV
      obtain ⟨m, c⟩ := m
      simp only [] at HF ⊢
      by_cases hm : m = 0
      · have HF2 := Lib.hid (show V = some false by rw [HF.out, decide_eq_false (by simpa using hm)])
        subst hm
        go_wp2_with fail
        go_ret2
        exact ⟨by rw [HF2.out]; rfl, HT2.out.1.alloc HT2.out.1.size _⟩
      · have HF2 := Lib.hid (show V = some true by rw [HF.out, decide_eq_true hm])
        have hm2 : (m != 0) = true := by simpa using hm
        clear hm
        go_wp2_with fail
        go_ret2
        exact ⟨by rw [HF2.out]; simp [hm2]; rfl, HT2.out.1.alloc HT2.out.1.size _⟩
    | none =>
      unfold decOV overV
      obtain ⟨hlt, k0, k1, k2, k3⟩ := HT2.out.2
      have hne : ¬ w.heap.size = w2.heap.size := by omega
      go_wp2_with fail
      clear k0 k1 k2 k3 hlt hne
      have HT3 := Lib.hid (HT2.out.below ((Below.refl _ _).alloc (Nat.le_refl _) (.cells #[.int .i64 0, .int .i64 0] 43)))
      generalize World.alloc w2 _ = w3 at HT3 ⊢
      refine (HPL.out _).mono ?_
      rintro e w4 ⟨rfl, hb4⟩
      have HT4 := Lib.hid (HT3.out.below hb4)
      clear hb4 HPL
      cases p with
      | false =>
        have HF := Lib.hid (show V = none from hc)
        clear hc
        go_wp2_with fail
        go_ret2
        exact ⟨by rw [HF.out]; rfl, HT4.out.1⟩
      | true =>
        obtain ⟨-, k0, k1, k2, k3⟩ := HT4.out.2
        by_cases hs : t.sl = []
        · have HF := Lib.hid (show V = some false by rw [show V = some (decide (t.sl ≠ [])) from hc, decide_eq_false (by simpa using hs)])
          have hs2 : t.s.toList = [] := by rw [Lib.toList_data]; exact hs
          clear hc hs
          go_wp2_with fail
          go_ret2
          exact ⟨by rw [HF.out]; rfl, HT4.out.1⟩
        · have HF := Lib.hid (show V = some true by rw [show V = some (decide (t.sl ≠ [])) from hc, decide_eq_true hs])
          have hs2 : ¬ t.s.toList = [] := by rw [Lib.toList_data]; exact hs
          have hs3 : (t.s.toList == []) = false := by simpa using hs2
          have hs4 : t.s.toList.isEmpty = false := by simpa using hs2
          clear hc hs
          go_wp2_with fail
          go_ret2
          exact ⟨by rw [HF.out]; simp [hs4]; rfl, HT4.out.1⟩
end Go.Proofs.YtdlfoinpjbcodaaDoor
