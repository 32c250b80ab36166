/- A region that draws its order, its last stores apart: a load may be taken first though a store of the same region writes its cell, where that store waits for it. -/
import Derived.Test.YtecomfhbdonkbaaGreatDoorProg
import Derived.OrdersHeld
import Derived.BigRegion
import Derived.Deep.RegionHeld
namespace Go.Proofs.YtecomfhbdonkbaaGreatDoor
open Go.RowKit
set_option linter.unusedVariables false

/-- None of T has come up. -/
def BeforeT (T : List Nat) (listed : Array Bool) : Prop := ∀ k ∈ T, listed.getD k true = false
/-- What has come up had waited for all that it waits for. -/
def closedB (md : Region.Mode) (ops : Array Oper) (listed : Array Bool) : Bool := (List.range ops.size).all fun k => match ops[k]? with
  | some o => !(listed.getD k false) || o.after.toList.all fun e => !(Region.binds md e) || listed.getD e.on false
  | none => true
/-- k waits for i. -/
def waitsB (md : Region.Mode) (ops : Array Oper) : Nat → Nat → Nat → Bool
  | 0, _, _ => false
  | f + 1, k, i => match ops[k]? with
    | some o => o.after.toList.any fun e => Region.binds md e && (e.on == i || waitsB md ops f e.on i)
    | none => false
section
variable {P : Program} {ops : Array Oper} {Q : Exit → Act → World → Prop} {md : Region.Mode} {C : World → Prop} {T : List Nat}
def ClosedT (md : Region.Mode) (ops : Array Oper) (listed : Array Bool) : Prop := ∀ k o, ops[k]? = some o → listed.getD k false = true → ∀ e ∈ o.after, Region.binds md e = true → listed.getD e.on false = true
theorem closedT_of {listed : Array Bool} (h : closedB md ops listed = true) : ClosedT md ops listed := by
  intro k o ho hl e he hb
  unfold closedB at h
  rw [List.all_eq_true] at h
  have h1 := h k (List.mem_range.2 (Array.getElem?_eq_some_iff.1 ho).1)
  rw [ho] at h1
  simp only [hl, Bool.not_true, Bool.false_or, List.all_eq_true] at h1
  have h2 := h1 e (Array.mem_toList_iff.2 he)
  simpa [hb] using h2
theorem ClosedT.set {listed : Array Bool} (h : ClosedT md ops listed) {j : Nat} (hj : j ∈ Region.ready md ops listed) : ClosedT md ops (listed.setIfInBounds j true) := by
  intro k o ho hl e he hb
  by_cases hjk : j = k
  · subst hjk
    obtain ⟨-, o', ho', hall⟩ := mem_ready.1 hj
    obtain rfl : o' = o := Option.some.inj (ho'.symm.trans ho)
    exact getD_set_true (hall e he hb)
  · rw [getD_set_ne false hjk] at hl
    exact getD_set_true (h k o ho hl e he hb)
theorem ClosedT.waits {listed : Array Bool} (h : ClosedT md ops listed) : ∀ (f k i : Nat), waitsB md ops f k i = true → listed.getD k false = true → listed.getD i false = true
  | 0, _, _, hw, _ => by cases hw
  | f + 1, k, i, hw, hl => by
    unfold waitsB at hw
    cases ho : ops[k]? with
    | none => rw [ho] at hw; cases hw
    | some o =>
      rw [ho] at hw
      simp only [List.any_eq_true, Bool.and_eq_true, Bool.or_eq_true, beq_iff_eq] at hw
      obtain ⟨e, he, hb, hw⟩ := hw
      have h1 := h k o ho hl e (Array.mem_toList_iff.1 he) hb
      rcases hw with rfl | hw
      · exact h1
      · exact ClosedT.waits h f e.on i hw h1

def wpAnyT (P : Program) (md : Region.Mode) (ops : Array Oper) (Q : Exit → Act → World → Prop) (C : World → Prop) (T : List Nat) : Nat → Array Bool → Act → World → Prop
  | 0, listed, a, w => Region.ready md ops listed = [] ∧ Q .normal a w
  | fuel + 1, listed, a, w =>
    (Region.ready md ops listed = [] → Q .normal a w) ∧
    ∀ i ∈ Region.ready md ops listed, wpOp P ops Q i (fun a' w' => (BeforeT T (listed.setIfInBounds i true) → C w') ∧ wpAnyT P md ops Q C T fuel (listed.setIfInBounds i true) a' w') a w
theorem wpAny_of_T : ∀ (fuel : Nat) (listed : Array Bool) (a : Act) (w : World), wpAnyT P md ops Q C T fuel listed a w → wpAny P md ops Q fuel listed a w
  | 0, _, _, _, h => h
  | fuel + 1, _, _, _, h => ⟨h.1, fun i hi => wpOp_mono (fun a' w' h' => wpAny_of_T fuel _ a' w' h'.2) (h.2 i hi)⟩
theorem beforeT_of {listed : Array Bool} {i : Nat} (hc : ClosedT md ops listed) (hT : ∀ k ∈ T, waitsB md ops ops.size k i = true ∧ k < listed.size) (hi : listed.getD i true = false) : BeforeT T listed := by
  intro k hk
  obtain ⟨h1, h2⟩ := hT k hk
  cases hl : listed.getD k true with
  | false => rfl
  | true =>
    have h3 : listed.getD k false = true := by
      simp only [Array.getD_eq_getD_getElem?, Array.getElem?_eq_getElem h2, Option.getD_some] at hl ⊢
      exact hl
    have h4 := hc.waits _ k i h1 h3
    rcases Nat.lt_or_ge i listed.size with h' | h'
    · simp [h'] at hi h4; rw [hi] at h4; cases h4
    · simp [Array.getElem?_eq_none h'] at h4
theorem wpAnyT_first {i : Nat} {oi : Oper} {v : Value} (hi : ops[i]? = some oi) (hsel : ∀ (j : Nat) (o : Oper) cs b, ops[j]? = some o → o.op ≠ .select cs b)
    (hQ : ∀ c a w, Q (.panic c) (a.put oi.dst v) w → Q (.panic c) a w) (hiT : i ∉ T) :
    ∀ (fuel : Nat) (listed : Array Bool) (a : Act) (w : World), ClosedT md ops listed → (∀ k ∈ T, waitsB md ops ops.size k i = true ∧ k < listed.size) →
      (∀ j oj, ops[j]? = some oj → j ≠ i → listed.getD j true = false → (∀ e ∈ oj.after, Region.binds md e = true → e.on ≠ i) → oi.apart ops oj = true) →
      i ∈ Region.ready md ops listed → YieldsIf P ops C oi v a → C w →
      wpAnyT P md ops Q C T fuel (listed.setIfInBounds i true) (a.put oi.dst v) w → wpAnyT P md ops Q C T (fuel + 1) listed a w := by
  intro fuel
  induction fuel with
  | zero =>
    intro listed a w _ _ _ hr hy hS H
    refine ⟨fun h => (by rw [h] at hr; cases hr), fun j hj => ?_⟩
    by_cases hji : j = i
    · subst hji; exact hy.wpOp hi hS ⟨fun _ => hS, H⟩
    · have := ready_mono hj hji
      rw [H.1] at this
      cases this
  | succ fuel ih =>
    intro listed a w hcl hT hfree hr hy hS H
    refine ⟨fun h => (by rw [h] at hr; cases hr), fun j hj => ?_⟩
    by_cases hji : j = i
    · subst hji; exact hy.wpOp hi hS ⟨fun _ => hS, H⟩
    · have h1 := H.2 j (ready_mono hj hji)
      obtain ⟨hjun, oj, hoj, hall⟩ := mem_ready.1 hj
      have hnot : ∀ e ∈ oj.after, Region.binds md e = true → e.on ≠ i := fun e he hb heq => by
        have h1 := hall e he hb
        have h0 := (mem_ready.1 hr).1
        rw [heq] at h1
        rcases Nat.lt_or_ge i listed.size with h' | h'
        · simp [h'] at h0 h1; rw [h0] at h1; cases h1
        · simp [Array.getElem?_eq_none h'] at h1
      have h2 := wpOp_putIf hoj (hfree j oj hoj hji hjun hnot) (fun cs b => hsel i oi cs b hi) (fun cs b => hsel j oj cs b hoj) hQ hy h1
      have hfree' : ∀ k ok, ops[k]? = some ok → k ≠ i → (listed.setIfInBounds j true).getD k true = false →
          (∀ e ∈ ok.after, Region.binds md e = true → e.on ≠ i) → oi.apart ops ok = true := fun k ok hk hki hun hno => by
        refine hfree k ok hk hki ?_ hno
        by_cases hjk : j = k
        · subst hjk; exact hjun
        · rw [getD_set_ne true hjk] at hun; exact hun
      have hcl' := hcl.set hj
      have hT' : ∀ k ∈ T, waitsB md ops ops.size k i = true ∧ k < (listed.setIfInBounds j true).size := fun k hk => ⟨(hT k hk).1, by rw [Array.size_setIfInBounds]; exact (hT k hk).2⟩
      have hr' := ready_mono hr (Ne.symm hji)
      have hbf : BeforeT T (listed.setIfInBounds j true) := beforeT_of hcl' hT' (mem_ready.1 hr').1
      have hbf2 : BeforeT T ((listed.setIfInBounds i true).setIfInBounds j true) := by
        rw [Array.setIfInBounds_comm _ _ (Ne.symm hji)]
        intro k hk
        rw [getD_set_ne true (fun e => hiT (by rw [e]; exact hk))]
        exact hbf k hk
      refine wpOp_mono (fun a' w' h3 => ?_) h2
      have hC := h3.2.1 hbf2
      refine ⟨fun _ => hC, ih (listed.setIfInBounds j true) a' w' hcl' hT' hfree' hr' h3.1 hC ?_⟩
      rw [Array.setIfInBounds_comm _ _ hji]
      exact h3.2.2
/-- Take number i first. -/
theorem wpAnyT_take {i : Nat} {oi : Oper} {v : Value} {fuel : Nat} {listed : Array Bool} {a : Act} {w : World} (hi : ops[i]? = some oi)
    (hs : Region.noSelect ops = true) (hf : Region.free md ops listed i = true) (hr : (Region.ready md ops listed).contains i = true) (hc : (closedB md ops listed && T.all (fun k => waitsB md ops ops.size k i && (decide (k < listed.size) && !(k == i)))) = true)
    (hQ : ∀ c a w, Q (.panic c) (a.put oi.dst v) w → Q (.panic c) a w) (hy : YieldsIf P ops C oi v a) (hS : C w)
    (h : wpAnyT P md ops Q C T fuel (listed.setIfInBounds i true) (a.put oi.dst v) w) : wpAnyT P md ops Q C T (fuel + 1) listed a w := by
  rw [Bool.and_eq_true, List.all_eq_true] at hc
  refine wpAnyT_first hi (Region.noSelect_spec hs) hQ (fun hm => ?_) fuel listed a w (closedT_of hc.1) (fun k hk => ?_) (Region.free_spec hi hf) (by simpa using hr) hy hS h
  · have := hc.2 i hm
    simp at this
  · have := hc.2 k hk
    simp only [Bool.and_eq_true, decide_eq_true_eq] at this
    exact ⟨this.1, this.2.1⟩
def AllReadyT (P : Program) (md : Region.Mode) (ops : Array Oper) (Q : Exit → Act → World → Prop) (C : World → Prop) (T : List Nat) (fuel : Nat) (listed : Array Bool) (a : Act) (w : World) (rs : List Nat) : Prop :=
  ∀ i ∈ rs, wpOp P ops Q i (fun a' w' => (BeforeT T (listed.setIfInBounds i true) → C w') ∧ wpAnyT P md ops Q C T fuel (listed.setIfInBounds i true) a' w') a w
theorem AllReadyT.nil {fuel : Nat} {listed : Array Bool} {a : Act} {w : World} : AllReadyT P md ops Q C T fuel listed a w [] := fun _ h => by cases h
/-- One that is none of T: C is to be shown behind it. -/
theorem AllReadyT.cons {fuel : Nat} {listed : Array Bool} {a : Act} {w : World} {i : Nat} {o : Oper} {rs : List Nat} (ho : ops[i]? = some o)
    (h : ∀ K' : Act → World → Prop, Shut (∀ a w, C w → (C w → wpAnyT P md ops Q C T fuel (listed.setIfInBounds i true) a w) → K' a w) → if Region.wanted o (yielded ops a.tmps) = true then Oper.wp P o a w K' Q else K' (a.put o.dst undef) w)
    (hs : AllReadyT P md ops Q C T fuel listed a w rs) : AllReadyT P md ops Q C T fuel listed a w (i :: rs) := fun j hj => by
  rcases List.mem_cons.1 hj with rfl | hj
  · exact wpOp_step ho (fun K' hK => h K' (fun a w hS hW => hK a w ⟨fun _ => hS, hW hS⟩))
  · exact hs j hj
/-- One of T: nothing is to be shown. -/
theorem AllReadyT.last {fuel : Nat} {listed : Array Bool} {a : Act} {w : World} {i : Nat} {o : Oper} {rs : List Nat} (ho : ops[i]? = some o) (hT : (T.contains i && decide (i < listed.size)) = true)
    (h : ∀ K' : Act → World → Prop, Shut (∀ a w, wpAnyT P md ops Q C T fuel (listed.setIfInBounds i true) a w → K' a w) → if Region.wanted o (yielded ops a.tmps) = true then Oper.wp P o a w K' Q else K' (a.put o.dst undef) w)
    (hs : AllReadyT P md ops Q C T fuel listed a w rs) : AllReadyT P md ops Q C T fuel listed a w (i :: rs) := fun j hj => by
  rcases List.mem_cons.1 hj with rfl | hj
  · rw [Bool.and_eq_true, decide_eq_true_eq] at hT
    refine wpOp_step ho (fun K' hK => h K' (fun a w hW => hK a w ⟨fun hb => ?_, hW⟩))
    have := hb j (by simpa using hT.1)
    simp [hT.2] at this
  · exact hs j hj
theorem wpAnyT_ready {rs : List Nat} {fuel : Nat} {listed : Array Bool} {a : Act} {w : World} (hr : Region.ready md ops listed = rs) (hne : rs ≠ [])
    (h : AllReadyT P md ops Q C T fuel listed a w rs) : wpAnyT P md ops Q C T (fuel + 1) listed a w := ⟨fun h0 => absurd (hr ▸ h0) hne, hr ▸ h⟩
theorem wpAnyT_done {listed : Array Bool} {a : Act} {w : World} (hr : Region.ready md ops listed = []) (h : Q .normal a w) : ∀ fuel, wpAnyT P md ops Q C T fuel listed a w
  | 0 => ⟨hr, h⟩
  | _ + 1 => ⟨fun _ => h, by rw [hr]; simp⟩
theorem wpAnyT_mono {C C' : World → Prop} (hS : ∀ w, C' w → C w) :
    ∀ (fuel : Nat) (listed : Array Bool) (a : Act) (w : World), wpAnyT P md ops Q C' T fuel listed a w → wpAnyT P md ops Q C T fuel listed a w
  | 0, _, _, _, h => h
  | fuel + 1, _, _, _, h => ⟨h.1, fun i hi => wpOp_mono (fun a' w' h' => ⟨fun hb => hS _ (h'.1 hb), wpAnyT_mono hS fuel _ a' w' h'.2⟩) (h.2 i hi)⟩
end
end Go.Proofs.YtecomfhbdonkbaaGreatDoor
