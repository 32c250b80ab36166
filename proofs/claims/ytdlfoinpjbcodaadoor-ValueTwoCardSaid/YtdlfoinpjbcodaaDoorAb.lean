/- Package value, plain: those that wait, one behind the other. -/
import Derived.Test.YtdlfoinpjbcodaaDoorAa
namespace Go.Proofs.YtdlfoinpjbcodaaDoor
open Go.RowKit Go.Shelf Flo
set_option maxRecDepth 100000
set_option linter.unusedVariables false
set_option linter.unusedSimpArgs false

/-- One that waits: how far its Kids may be looked at, itself, how many of its Kids were told ahead of the one on its way, what the first one told. -/
structure Frm where
  n : Nat
  e : Exp
  k : Nat
  f : Tm
def two2 (op : Int) (f : Tm) (v : Option Tm) : Option Tm := if op = 2 ∨ op = 3 then twoO op f (v.getD zeroT) else v.bind (fun y => twoO op f y)
/-- What it is, when the Kid on its way has told v. -/
def contO (s : Slt) (x : Frm) (v : Option Tm) : Option Tm :=
  if x.e.op = 26 then firstO (v :: (x.e.kids.drop (x.k + 1)).map (fun k => evalO x.n k s))
  else if x.e.op = 25 then (if x.k = 0 then (v.bind truthO).bind (fun t => evalO x.n (x.e.kid (if t then 1 else 2)) s) else v)
  else if v.isNone = true ∧ ¬ (x.e.op = 2 ∨ x.e.op = 3) then none
  else if x.e.kids.length = 1 then v.bind (oneO x.e.op)
  else if x.k = 0 then two2 x.e.op (v.getD zeroT) (evalO x.n (x.e.kid 1) s)
  else two2 x.e.op x.f v
def plugO (s : Slt) : List Frm → Option Tm → Option Tm
  | [], v => v
  | x :: st, v => plugO s st (contO s x v)
/-- Which Kid must be told next; 0: none. -/
def nextK (x : Frm) (v : Option Tm) : Nat :=
  if x.e.op = 26 then (if v.isNone = true ∧ x.k + 1 < x.e.kids.length then x.k + 1 else 0)
  else if x.e.op = 25 then (if x.k = 0 then (match v.bind truthO with
    | none => 0
    | some true => 1
    | some false => 2) else 0)
  else if v.isNone = true ∧ ¬ (x.e.op = 2 ∨ x.e.op = 3) then 0
  else if x.e.kids.length = 1 then 0
  else if x.k = 0 then 1
  else 0
def nextF (x : Frm) (v : Option Tm) : Tm := if x.e.op = 26 ∨ x.e.op = 25 then x.f else v.getD zeroT
/-- What it is told as, when no other Kid must be told. -/
def doneV (x : Frm) (v : Option Tm) : Option Tm :=
  if x.e.op = 26 then v
  else if x.e.op = 25 then (if x.k = 0 then none else v)
  else if v.isNone = true ∧ ¬ (x.e.op = 2 ∨ x.e.op = 3) then none
  else if x.e.kids.length = 1 then v.bind (oneO x.e.op)
  else two2 x.e.op x.f v
def Frm.next (x : Frm) (v : Option Tm) : Frm := ⟨x.n, x.e, x.k + 1, nextF x v⟩
structure Frm.Ok (x : Frm) : Prop where
  fits : fitsO x.e.op x.e.kids.length = true
  op1 : x.e.op ≠ 1
  op15 : x.e.op ≠ 15
  k : x.k < x.e.kids.length
theorem fits26 {n : Nat} (h : fitsO 26 n = true) : 0 < n := by
  unfold fitsO at h; rw [if_pos rfl] at h; exact of_decide_eq_true h
theorem fits25 {n : Nat} (h : fitsO 25 n = true) : n = 3 := by
  unfold fitsO at h; rw [if_neg (by decide), if_pos rfl] at h; exact of_decide_eq_true h
theorem fitsX {op : Int} {n : Nat} (h : fitsO op n = true) (h1 : op ≠ 26) (h2 : op ≠ 25) (h3 : op ≠ 1) : n = 1 ∨ n = 2 := by
  unfold fitsO at h
  rw [if_neg h1, if_neg h2, if_neg h3] at h
  split at h
  · exact .inl (of_decide_eq_true h)
  · split at h
    · exact .inr (of_decide_eq_true h)
    · cases h
theorem kid_at {e : Exp} {i : Nat} (h : i < e.kids.length) : e.kid i = e.kids[i] := by
  unfold Exp.kid
  rw [List.getD_eq_getElem?_getD, List.getElem?_eq_getElem h]; rfl
theorem drop_kids {e : Exp} {i : Nat} (h : i < e.kids.length) : e.kids.drop i = e.kid i :: e.kids.drop (i + 1) := by
  rw [kid_at h]; exact List.drop_eq_getElem_cons h
theorem cont_done {s : Slt} {x : Frm} {v : Option Tm} (h : x.Ok) (hn : nextK x v = 0) : contO s x v = doneV x v := by
  have hk := h.k
  unfold nextK at hn
  unfold contO doneV
  by_cases h26 : x.e.op = 26
  · rw [if_pos h26] at hn ⊢
    rw [if_pos h26]
    cases v with
    | some y => rfl
    | none =>
      have : ¬ x.k + 1 < x.e.kids.length := by
        intro hc
        rw [if_pos ⟨rfl, hc⟩] at hn
        omega
      rw [List.drop_of_length_le (by omega)]
      rfl
  · rw [if_neg h26] at hn ⊢
    rw [if_neg h26]
    by_cases h25 : x.e.op = 25
    · rw [if_pos h25] at hn ⊢
      rw [if_pos h25]
      by_cases hk0 : x.k = 0
      · rw [if_pos hk0] at hn ⊢
        rw [if_pos hk0]
        cases hv : v.bind truthO with
        | none => rfl
        | some b => rw [hv] at hn; cases b <;> simp at hn
      · rw [if_neg hk0, if_neg hk0]
    · rw [if_neg h25] at hn ⊢
      rw [if_neg h25]
      split
      · rfl
      · rename_i hc
        rw [if_neg hc] at hn
        split
        · rfl
        · rename_i hl
          rw [if_neg hl] at hn
          split
          · rename_i hk0; rw [if_pos hk0] at hn; omega
          · rfl
theorem cont_next {s : Slt} {x : Frm} {v : Option Tm} (h : x.Ok) (hn : nextK x v ≠ 0) :
    contO s x v = contO s (x.next v) (evalO x.n (x.e.kid (nextK x v)) s) ∧ nextK x v < x.e.kids.length ∧ (x.next v).Ok := by
  have hk := h.k
  have hf := h.fits
  by_cases h26 : x.e.op = 26
  · have hc : v.isNone = true ∧ x.k + 1 < x.e.kids.length := by
      unfold nextK at hn
      rw [if_pos h26] at hn
      by_cases hc : v.isNone = true ∧ x.k + 1 < x.e.kids.length
      · exact hc
      · rw [if_neg hc] at hn; exact absurd rfl hn
    have he : nextK x v = x.k + 1 := by unfold nextK; rw [if_pos h26, if_pos hc]
    refine ⟨?_, by rw [he]; exact hc.2, ⟨h.fits, h.op1, h.op15, hc.2⟩⟩
    rw [he]
    unfold contO
    rw [if_pos h26, if_pos (show (x.next v).e.op = 26 from h26)]
    cases v with
    | some y => simp at hc
    | none =>
      show firstO ((x.e.kids.drop (x.k + 1)).map _) = _
      rw [drop_kids hc.2]
      rfl
  · by_cases h25 : x.e.op = 25
    · have hl : x.e.kids.length = 3 := by rw [h25] at hf; exact fits25 hf
      have hk0 : x.k = 0 := by
        unfold nextK at hn
        rw [if_neg h26, if_pos h25] at hn
        by_cases hk0 : x.k = 0
        · exact hk0
        · rw [if_neg hk0] at hn; exact absurd rfl hn
      have he : ∃ t : Bool, v.bind truthO = some t ∧ nextK x v = (if t then 1 else 2) := by
        unfold nextK at hn ⊢
        rw [if_neg h26, if_pos h25, if_pos hk0] at hn ⊢
        cases hv : v.bind truthO with
        | none => rw [hv] at hn; exact absurd rfl hn
        | some b => cases b <;> exact ⟨_, rfl, rfl⟩
      obtain ⟨t, ht, he⟩ := he
      refine ⟨?_, by rw [he, hl]; cases t <;> decide, ⟨h.fits, h.op1, h.op15, by show x.k + 1 < x.e.kids.length; omega⟩⟩
      rw [he]
      unfold contO
      rw [if_neg h26, if_pos h25, if_pos hk0, ht, if_neg (show ¬ (x.next v).e.op = 26 from h26), if_pos (show (x.next v).e.op = 25 from h25), if_neg (show ¬ (x.next v).k = 0 from by show ¬ x.k + 1 = 0; omega)]
      rfl
    · unfold nextK at hn
      rw [if_neg h26, if_neg h25] at hn
      by_cases hc : v.isNone = true ∧ ¬ (x.e.op = 2 ∨ x.e.op = 3)
      · rw [if_pos hc] at hn; exact absurd rfl hn
      · rw [if_neg hc] at hn
        by_cases hl : x.e.kids.length = 1
        · rw [if_pos hl] at hn; exact absurd rfl hn
        · rw [if_neg hl] at hn
          by_cases hk0 : x.k = 0
          · have hl2 : x.e.kids.length = 2 := by
              rcases fitsX hf h26 h25 h.op1 with h | h
              · exact absurd h hl
              · exact h
            have he : nextK x v = 1 := by
              unfold nextK
              rw [if_neg h26, if_neg h25, if_neg hc, if_neg hl, if_pos hk0]
            refine ⟨?_, by rw [he, hl2]; decide, ⟨h.fits, h.op1, h.op15, by show x.k + 1 < x.e.kids.length; omega⟩⟩
            rw [he]
            have hfx : (x.next v).f = v.getD zeroT := by
              show nextF x v = _
              unfold nextF
              rw [if_neg (by rintro (h | h) <;> contradiction)]
            have e1 : contO s x v = two2 x.e.op (v.getD zeroT) (evalO x.n (x.e.kid 1) s) := by
              unfold contO
              rw [if_neg h26, if_neg h25, if_neg hc, if_neg hl, if_pos hk0]
            rw [e1]
            have e2 : contO s (x.next v) (evalO x.n (x.e.kid 1) s) = (if (evalO x.n (x.e.kid 1) s).isNone = true ∧ ¬ (x.e.op = 2 ∨ x.e.op = 3) then none else two2 x.e.op (x.next v).f (evalO x.n (x.e.kid 1) s)) := by
              unfold contO
              rw [if_neg (show ¬ (x.next v).e.op = 26 from h26), if_neg (show ¬ (x.next v).e.op = 25 from h25), if_neg (show ¬ (x.next v).e.kids.length = 1 from hl), if_neg (show ¬ (x.next v).k = 0 from by show ¬ x.k + 1 = 0; omega)]
              rfl
            rw [e2, hfx]
            split
            · rename_i hd
              unfold two2
              rw [if_neg hd.2]
              cases hv : evalO x.n (x.e.kid 1) s with
              | none => rfl
              | some y => rw [hv] at hd; simp at hd
            · rfl
          · rw [if_neg hk0] at hn; exact absurd rfl hn
theorem eval_push {s : Slt} {n : Nat} {e : Exp} (hf : fitsO e.op e.kids.length = true) (h1 : e.op ≠ 1) (h15 : e.op ≠ 15) :
    evalO (n + 1) e s = contO s ⟨n, e, 0, zeroT⟩ (evalO n (e.kid 0) s) ∧ (⟨n, e, 0, zeroT⟩ : Frm).Ok := by
  have hlen : 0 < e.kids.length := by
    by_cases h26 : e.op = 26
    · rw [h26] at hf; exact fits26 hf
    · by_cases h25 : e.op = 25
      · rw [h25] at hf; have := fits25 hf; omega
      · have := fitsX hf h26 h25 h1; omega
  refine ⟨?_, ⟨hf, h1, h15, hlen⟩⟩
  show (if fitsO e.op e.kids.length then _ else _) = _
  rw [if_pos hf, if_neg h1, if_neg h15]
  unfold opO contO
  dsimp only
  by_cases h26 : e.op = 26
  · rw [if_pos h26, if_pos h26]
    have := drop_kids hlen
    rw [List.drop_zero] at this
    rw [this]
    rfl
  · rw [if_neg h26, if_neg h26]
    by_cases h25 : e.op = 25
    · rw [if_pos h25, if_pos h25, if_pos rfl]
      have hl : e.kids.length = 3 := by rw [h25] at hf; exact fits25 hf
      have e0 := drop_kids hlen
      have e1 := drop_kids (show 1 < e.kids.length by omega)
      have e2 := drop_kids (show 2 < e.kids.length by omega)
      rw [List.drop_zero] at e0
      rw [e0, e1, e2, List.drop_of_length_le (by omega)]
      simp only [List.map_cons, List.map_nil]
      congr 1
      funext t
      cases t <;> rfl
    · rw [if_neg h25, if_neg h25]
      rcases fitsX hf h26 h25 h1 with hl | hl
      · have e0 := drop_kids hlen
        rw [List.drop_zero] at e0
        rw [e0, List.drop_of_length_le (by omega)]
        simp only [List.map_cons, List.map_nil]
        split
        · rename_i hc
          cases hv : evalO n (e.kid 0) s with
          | none => rfl
          | some y => rw [hv] at hc; simp at hc
        · rw [if_pos (by rfl)]
      · have e0 := drop_kids hlen
        have e1 := drop_kids (show 1 < e.kids.length by omega)
        rw [List.drop_zero] at e0
        rw [e0, e1, List.drop_of_length_le (by omega)]
        simp only [List.map_cons, List.map_nil]
        unfold two2
        split
        · rename_i hc
          rw [if_neg (by rintro ⟨-, hd⟩; exact hd hc), if_neg (by simp)]
          simp
        · rename_i hc
          cases hv : evalO n (e.kid 0) s with
          | none => rw [if_pos ⟨rfl, hc⟩]; rfl
          | some y => rw [if_neg (by simp), if_neg (by simp)]; simp

/-- How many steps an expression takes, at most. -/
def costE : Nat → Exp → Nat
  | 0, _ => 1
  | n + 1, e => (e.kids.length + 1) * ((e.kids.map (costE n)).foldr (· + ·) 0 + 2) + 2
def kidsC (x : Frm) : Nat := (x.e.kids.map (costE x.n)).foldr (· + ·) 0
def costF (x : Frm) : Nat := (x.e.kids.length - x.k) * (kidsC x + 2) + 1
def costS (st : List Frm) : Nat := (st.map costF).foldr (· + ·) 0
theorem costE_pos (n : Nat) (e : Exp) : 0 < costE n e := by
  cases n with
  | zero => exact Nat.one_pos
  | succ n => show 0 < _ + 2; omega
theorem sum_le {l : List Nat} {x : Nat} (h : x ∈ l) : x ≤ l.foldr (· + ·) 0 := by
  induction l with
  | nil => cases h
  | cons a t ih =>
    rcases List.mem_cons.1 h with rfl | h
    · show x ≤ x + _; omega
    · have := ih h
      show x ≤ a + t.foldr (· + ·) 0; omega
theorem kid_cost {x : Frm} {i : Nat} (h : i < x.e.kids.length) : costE x.n (x.e.kid i) ≤ kidsC x := by
  refine sum_le (List.mem_map.2 ⟨x.e.kid i, ?_, rfl⟩)
  rw [kid_at h]
  exact List.getElem_mem h
theorem cost_push {n : Nat} {e : Exp} (h : 0 < e.kids.length) : costE n (e.kid 0) + costF ⟨n, e, 0, zeroT⟩ < costE (n + 1) e := by
  have h1 := kid_cost (x := ⟨n, e, 0, zeroT⟩) h
  show costE n (e.kid 0) + ((e.kids.length - 0) * (kidsC ⟨n, e, 0, zeroT⟩ + 2) + 1) < (e.kids.length + 1) * (kidsC ⟨n, e, 0, zeroT⟩ + 2) + 2
  rw [Nat.sub_zero, Nat.succ_mul]
  generalize e.kids.length * (kidsC ⟨n, e, 0, zeroT⟩ + 2) = q
  have h2 : costE n (e.kid 0) ≤ kidsC ⟨n, e, 0, zeroT⟩ := h1
  omega
theorem cost_next {x : Frm} {v : Option Tm} {i : Nat} (hi : i < x.e.kids.length) (hk : x.k < x.e.kids.length) : costE x.n (x.e.kid i) + costF (x.next v) < costF x := by
  have h1 := kid_cost hi
  show costE x.n (x.e.kid i) + ((x.e.kids.length - (x.k + 1)) * (kidsC x + 2) + 1) < (x.e.kids.length - x.k) * (kidsC x + 2) + 1
  rw [show x.e.kids.length - x.k = (x.e.kids.length - (x.k + 1)) + 1 by omega, Nat.succ_mul]
  generalize (x.e.kids.length - (x.k + 1)) * (kidsC x + 2) = q
  omega
theorem costS_cons (x : Frm) (st : List Frm) : costS (x :: st) = costF x + costS st := rfl
theorem costF_pos (x : Frm) : 0 < costF x := by unfold costF; omega
end Go.Proofs.YtdlfoinpjbcodaaDoor
