/- The reference of value: known, Equal, Less. -/
import Derived.Test.YtdlfoinpjbcodaaDoorBc
import Derived.Test.YtdlfoinpjbcodaaDoorRj
namespace Go.Proofs.YtdlfoinpjbcodaaDoor
open Go.RowKit Go.Shelf Flo
set_option maxRecDepth 100000
set_option linter.unusedVariables false
set_option linter.unusedSimpArgs false

def knownF (a b : Tm) : Bool := (a.k != 3) || ((b.k != 3) || ((plainB a && plainB b) || (((!a.ll.isEmpty) && (!b.ll.isEmpty)) || ((boolO a).isSome && (boolO b).isSome))))
/-- What its weight is, said by its parts. -/
theorem wt_cases (t : Tm) (h : t.Pu) : (wt t = .node ∧ t.k ≠ 3 ∧ plainB t = false ∧ boolO t = none ∧ numO t = none) ∨
    (t.k = 3 ∧ ((∃ m s, wt t = .num m s ∧ t.ll = [] ∧ plainB t = false ∧ boolO t = none ∧ numO t = some (m, s)) ∨ (∃ c, wt t = .tr c ∧ t.ll = [] ∧ plainB t = false ∧ boolO t = some c ∧ numO t = none) ∨
      (∃ n, wt t = .plain n ∧ t.ll = [] ∧ plainB t = true ∧ boolO t = none ∧ numO t = none) ∨ (wt t = .spoken ∧ t.ll ≠ [] ∧ plainB t = false ∧ boolO t = none ∧ numO t = none) ∨ (wt t = .strange ∧ t.ll = [] ∧ plainB t = false ∧ boolO t = none ∧ numO t = none))) := by
  have h1 : ∀ L : List UInt8, L ≠ [] → t.tl = L → t.ll = [] := by
    intro L hL e
    rcases h with h | h
    · exact h
    · rw [h] at e; exact absurd e.symm hL
  have fin : ∀ x : Wt, wt t = x → (x = .spoken ↔ t.ll ≠ []) → t.k = 3 → x ≠ .node → (∃ m s, wt t = .num m s ∧ t.ll = [] ∧ plainB t = false ∧ boolO t = none ∧ numO t = some (m, s)) ∨ (∃ c, wt t = .tr c ∧ t.ll = [] ∧ plainB t = false ∧ boolO t = some c ∧ numO t = none) ∨
      (∃ n, wt t = .plain n ∧ t.ll = [] ∧ plainB t = true ∧ boolO t = none ∧ numO t = none) ∨ (wt t = .spoken ∧ t.ll ≠ [] ∧ plainB t = false ∧ boolO t = none ∧ numO t = none) ∨ (wt t = .strange ∧ t.ll = [] ∧ plainB t = false ∧ boolO t = none ∧ numO t = none) := by
    intro x hx hs h3 hn
    have hl : x ≠ .spoken → t.ll = [] := fun h => by
      rcases Classical.em (t.ll = []) with h' | h'
      · exact h'
      · exact absurd (hs.2 h') h
    unfold plainB boolO numO
    rw [hx]
    cases x with
    | num m s => exact .inl ⟨m, s, rfl, hl (by simp), rfl, rfl, rfl⟩
    | tr c => exact .inr (.inl ⟨c, rfl, hl (by simp), rfl, rfl, rfl⟩)
    | plain n => exact .inr (.inr (.inl ⟨n, rfl, hl (by simp), rfl, rfl, rfl⟩))
    | spoken => exact .inr (.inr (.inr (.inl ⟨rfl, hs.1 rfl, rfl, rfl, rfl⟩)))
    | strange => exact .inr (.inr (.inr (.inr ⟨rfl, hl (by simp), rfl, rfl, rfl⟩)))
    | node => exact absurd rfl hn
  by_cases h3 : t.k = 3
  · refine .inr ⟨h3, fin (wt t) rfl ?_ h3 ?_⟩
    all_goals
      unfold wt
      rw [if_pos h3]
      by_cases h4 : t.tl = xIntL
      · rw [if_pos h4]
        have hl := h1 xIntL (by decide) h4
        by_cases h5 : t.sl.contains 46 = true
        · rw [if_pos h5]; simp [hl]
        · rw [if_neg h5]; rcases wtNum_cases (decO t.sl) with ⟨m, s, e⟩ | e <;> rw [e] <;> simp [hl]
      · rw [if_neg h4]
        by_cases h5 : t.tl = xDecL
        · rw [if_pos h5]
          have hl := h1 xDecL (by decide) h5
          rcases wtNum_cases (decO t.sl) with ⟨m, s, e⟩ | e <;> rw [e] <;> simp [hl]
        · rw [if_neg h5]
          by_cases h6 : t.tl = xBoolL
          · rw [if_pos h6]
            have hl := h1 xBoolL (by decide) h6
            by_cases h7 : t.sl = trueL
            · rw [if_pos h7]; simp [hl]
            · rw [if_neg h7]
              by_cases h8 : t.sl = falseL
              · rw [if_pos h8]; simp [hl]
              · rw [if_neg h8]; simp [hl]
          · rw [if_neg h6]
            by_cases h7 : t.tl = []
            · rw [if_pos h7]
              by_cases h8 : t.ll = []
              · rw [if_pos h8]; simp [h8]
              · rw [if_neg h8]; simp [h8]
            · rw [if_neg h7]
              have hl := h1 t.tl h7 rfl
              simp [hl]
  · refine .inl ⟨by unfold wt; rw [if_neg h3], h3, ?_⟩
    have e : wt t = .node := by unfold wt; rw [if_neg h3]
    unfold plainB boolO numO
    rw [e]
    exact ⟨rfl, rfl, rfl⟩
theorem equal_cases (a b : Tm) (ha : a.Pu) (hb : b.Pu) : match numO a, numO b with
    | some p, some q => equalO a b = (decide (sixI p.1 p.2 = sixI q.1 q.2), true)
    | _, _ => equalO a b = (tmEq a b, tmEq a b || knownF a b) := by
  have hm1 : ∀ (s : Nat) (k : Int), k < 0 → min (s : Int) k = k := fun s k h => by omega
  have hm2 : ∀ (s : Nat) (k : Int), k < 0 → min k (s : Int) = k := fun s k h => by omega
  have hq1 : ∀ (s : Nat) (k : Int), k < 0 → ((s : Int) = k) = False := fun s k h => by rw [eq_iff_iff]; exact ⟨fun e => by omega, fun f => f.elim⟩
  have hq2 : ∀ (s : Nat) (k : Int), k < 0 → (k = (s : Int)) = False := fun s k h => by rw [eq_iff_iff]; exact ⟨fun e => by omega, fun f => f.elim⟩
  unfold knownF equalO
  generalize tmEq a b = e
  rcases wt_cases a ha with ⟨wa, ka, pa, ba, na⟩ | ⟨ka, ⟨m, s, wa, la, pa, ba, na⟩ | ⟨c, wa, la, pa, ba, na⟩ | ⟨n, wa, la, pa, ba, na⟩ | ⟨wa, la, pa, ba, na⟩ | ⟨wa, la, pa, ba, na⟩⟩ <;>
  rcases wt_cases b hb with ⟨wb, kb, pb, bb, nb⟩ | ⟨kb, ⟨m2, s2, wb, lb, pb, bb, nb⟩ | ⟨c2, wb, lb, pb, bb, nb⟩ | ⟨n2, wb, lb, pb, bb, nb⟩ | ⟨wb, lb, pb, bb, nb⟩ | ⟨wb, lb, pb, bb, nb⟩⟩ <;>
  (rw [wa, wb, na, nb, pa, pb, ba, bb]; first | done | rfl | (cases e <;> simp [Wt.im, hm1, hm2, hq1, hq2, *] <;> (try (rw [show (a.k != 3) = true from by simpa using ka])) <;> (try (rw [show (b.k != 3) = true from by simpa using kb])) <;> (first | rfl | decide | (rw [Bool.true_or]; decide) | omega | simp)))
theorem less_cases (a b : Tm) : match numO a, numO b with
    | some p, some q => lessO a b = some (decide (sixI p.1 p.2 < sixI q.1 q.2))
    | _, _ => lessO a b = if plainB a && plainB b then some (Op.bytesLess a.sl b.sl) else match boolO a, boolO b with
      | some x, some y => some (!x && y)
      | _, _ => none := by
  unfold lessO numO plainB boolO
  cases wt a <;> cases wt b <;> rfl
theorem rknown15_any (a b : Tm) (w : World) : Calls Tryd.prog 26 #[a.val, b.val] w fun e w' => e = .returned (.bool (knownF a b)) ∧ Below w.heap.size w w' := by
  have HPA := Lib.hid (fun w => rplain_any a w)
  have HPB := Lib.hid (fun w => rplain_any b w)
  have HBA := Lib.hid (fun w => rboolean_any a w)
  have HBB := Lib.hid (fun w => rboolean_any b w)
  have HX := Lib.hid (TwoT.new w a b 23)
  have hv : ∃ V, V = knownF a b := ⟨_, rfl⟩
  obtain ⟨V, hv⟩ := hv
  rw [← hv]
  unfold knownF at hv
  have l1 : a.l.toList.isEmpty = a.ll.isEmpty := by unfold Tm.ll; rw [Lib.toList_data]
  have l2 : b.l.toList.isEmpty = b.ll.isEmpty := by unfold Tm.ll; rw [Lib.toList_data]
  generalize plainB a = pa at HPA hv
  generalize plainB b = pb at HPB hv
  generalize boolO a = qa at HBA hv
  generalize boolO b = qb at HBB hv
  generalize a.ll.isEmpty = ea at l1 hv
  generalize b.ll.isEmpty = eb at l2 hv
  have HV := Lib.hid hv
  clear hv
  unfold Tm.val
  unfold Tm.val at HPA HPB HBA HBB
  have m1 : (a.l.toList == []) = ea := by rw [← l1]; cases a.l.toList <;> rfl
  have m2 : (b.l.toList == []) = eb := by rw [← l2]; cases b.l.toList <;> rfl
  obtain ⟨c1, h1⟩ : ∃ c, (a.k != 3) = c := ⟨_, rfl⟩
  obtain ⟨c2, h2⟩ : ∃ c, (b.k != 3) = c := ⟨_, rfl⟩
  rw [h1, h2] at HV
  go_enter Tryd.func26, Tryd.ntmps26
  go_upto_region 1 with fail
  generalize World.alloc (World.alloc w _) _ = wr at HX ⊢
  obtain ⟨hl0, ka0, ka1, ka2, ka3⟩ := HX.out.2.1
  obtain ⟨hl1, kb0, kb1, kb2, kb3⟩ := HX.out.2.2
  cases c1 with
  | true =>
    go_wp2_with fail
    go_ret
    exact ⟨by rw [HV.out]; rfl, HX.out.1⟩
  | false =>
    cases c2 with
    | true =>
      go_wp2_with fail
      go_ret
      exact ⟨by rw [HV.out]; rfl, HX.out.1⟩
    | false =>
      go_wp2_with fail
      refine (HPA.out _).mono ?_
      rintro e w1 ⟨rfl, hb1⟩
      have HT1 := Lib.hid (HX.out.below hb1)
      clear hb1 HPA ka0 ka1 ka2 ka3 kb0 kb1 kb2 kb3 hl0 hl1
      obtain ⟨hl0, ka0, ka1, ka2, ka3⟩ := HT1.out.2.1
      obtain ⟨hl1, kb0, kb1, kb2, kb3⟩ := HT1.out.2.2
      cases pa with
      | true =>
        go_wp2_with fail
        clear ka0 ka1 ka2 ka3 kb0 kb1 kb2 kb3 hl0 hl1
        refine (HPB.out _).mono ?_
        rintro e w2 ⟨rfl, hb2⟩
        have HT2 := Lib.hid (HT1.out.below hb2)
        clear hb2 HPB
        obtain ⟨hl0, ka0, ka1, ka2, ka3⟩ := HT2.out.2.1
        obtain ⟨hl1, kb0, kb1, kb2, kb3⟩ := HT2.out.2.2
        cases pb with
        | true =>
          go_wp2_with fail
          go_ret
          exact ⟨by rw [HV.out]; rfl, HT2.out.1⟩
        | false =>
          cases ea with
          | true =>
            go_wp2_with fail
            clear ka0 ka1 ka2 ka3 kb0 kb1 kb2 kb3 hl0 hl1
            refine (HBA.out _).mono ?_
            rintro e wa ⟨rfl, hba⟩
            have HTA := Lib.hid (HT2.out.below hba)
            clear hba
            obtain ⟨hl0, ka0, ka1, ka2, ka3⟩ := HTA.out.2.1
            obtain ⟨hl1, kb0, kb1, kb2, kb3⟩ := HTA.out.2.2
            rcases qa with _ | x
            all_goals
              unfold twoB
              go_wp2_with fail
              clear ka0 ka1 ka2 ka3 kb0 kb1 kb2 kb3 hl0 hl1
              refine (HBB.out _).mono ?_
              rintro e wb ⟨rfl, hbb⟩
              have HTB := Lib.hid (HTA.out.below hbb)
              clear hbb
              rcases qb with _ | y
              all_goals
                unfold twoB
                go_wp2_with fail
                go_ret
                exact ⟨by rw [HV.out]; first | rfl | (cases pb <;> rfl), HTB.out.1⟩
          | false =>
            cases eb with
            | true =>
              go_wp2_with fail
              clear ka0 ka1 ka2 ka3 kb0 kb1 kb2 kb3 hl0 hl1
              refine (HBA.out _).mono ?_
              rintro e wa ⟨rfl, hba⟩
              have HTA := Lib.hid (HT2.out.below hba)
              clear hba
              obtain ⟨hl0, ka0, ka1, ka2, ka3⟩ := HTA.out.2.1
              obtain ⟨hl1, kb0, kb1, kb2, kb3⟩ := HTA.out.2.2
              rcases qa with _ | x
              all_goals
                unfold twoB
                go_wp2_with fail
                clear ka0 ka1 ka2 ka3 kb0 kb1 kb2 kb3 hl0 hl1
                refine (HBB.out _).mono ?_
                rintro e wb ⟨rfl, hbb⟩
                have HTB := Lib.hid (HTA.out.below hbb)
                clear hbb
                rcases qb with _ | y
                all_goals
                  unfold twoB
                  go_wp2_with fail
                  go_ret
                  exact ⟨by rw [HV.out]; first | rfl | (cases pb <;> rfl), HTB.out.1⟩
            | false =>
              go_wp2_with fail
              go_ret
              exact ⟨by rw [HV.out]; first | rfl | (cases pb <;> rfl), HT2.out.1⟩
      | false =>
        cases ea with
        | true =>
          go_wp2_with fail
          clear ka0 ka1 ka2 ka3 kb0 kb1 kb2 kb3 hl0 hl1
          refine (HBA.out _).mono ?_
          rintro e wa ⟨rfl, hba⟩
          have HTA := Lib.hid (HT1.out.below hba)
          clear hba
          obtain ⟨hl0, ka0, ka1, ka2, ka3⟩ := HTA.out.2.1
          obtain ⟨hl1, kb0, kb1, kb2, kb3⟩ := HTA.out.2.2
          rcases qa with _ | x
          all_goals
            unfold twoB
            go_wp2_with fail
            clear ka0 ka1 ka2 ka3 kb0 kb1 kb2 kb3 hl0 hl1
            refine (HBB.out _).mono ?_
            rintro e wb ⟨rfl, hbb⟩
            have HTB := Lib.hid (HTA.out.below hbb)
            clear hbb
            rcases qb with _ | y
            all_goals
              unfold twoB
              go_wp2_with fail
              go_ret
              exact ⟨by rw [HV.out]; first | rfl | (cases pb <;> rfl), HTB.out.1⟩
        | false =>
          cases eb with
          | true =>
            go_wp2_with fail
            clear ka0 ka1 ka2 ka3 kb0 kb1 kb2 kb3 hl0 hl1
            refine (HBA.out _).mono ?_
            rintro e wa ⟨rfl, hba⟩
            have HTA := Lib.hid (HT1.out.below hba)
            clear hba
            obtain ⟨hl0, ka0, ka1, ka2, ka3⟩ := HTA.out.2.1
            obtain ⟨hl1, kb0, kb1, kb2, kb3⟩ := HTA.out.2.2
            rcases qa with _ | x
            all_goals
              unfold twoB
              go_wp2_with fail
              clear ka0 ka1 ka2 ka3 kb0 kb1 kb2 kb3 hl0 hl1
              refine (HBB.out _).mono ?_
              rintro e wb ⟨rfl, hbb⟩
              have HTB := Lib.hid (HTA.out.below hbb)
              clear hbb
              rcases qb with _ | y
              all_goals
                unfold twoB
                go_wp2_with fail
                go_ret
                exact ⟨by rw [HV.out]; first | rfl | (cases pb <;> rfl), HTB.out.1⟩
          | false =>
            go_wp2_with fail
            go_ret
            exact ⟨by rw [HV.out]; first | rfl | (cases pb <;> rfl), HT1.out.1⟩
end Go.Proofs.YtdlfoinpjbcodaaDoor
