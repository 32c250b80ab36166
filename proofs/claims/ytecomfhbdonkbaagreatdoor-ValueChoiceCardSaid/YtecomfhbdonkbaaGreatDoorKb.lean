/- Package value, plain: those that wait, one behind the other. -/
import Derived.Test.YtecomfhbdonkbaaGreatDoorAa
import Derived.Test.YtecomfhbdonkbaaGreatDoorGc
import Derived.Deep.AppendLies
import Derived.Laws.OwnMore
namespace Go.Proofs.YtecomfhbdonkbaaGreatDoor
open Go.RowKit Go.Shelf Flo
set_option maxRecDepth 100000
set_option linter.unusedVariables false
set_option linter.unusedSimpArgs false

/-- One that waits: how far its Kids may be looked at, itself, how many of its Kids were told ahead of the one on its way, what the first one told. -/
structure Frm where
  n : Nat
  e : Exp
  k : Nat
  f : Tm
def two2 (op : Int) (f : Tm) (v : Option Tm) : Option Tm := if op = 2 ∨ op = 3 then twoO op f (v.getD zeroT) else v.bind (fun y => twoO op f y)
/-- What it is, when the Kid on its way has told v. -/
def contO (s : Slt) (x : Frm) (v : Option Tm) : Option Tm :=
  if x.e.op = 26 then firstO (v :: (x.e.kids.drop (x.k + 1)).map (fun k => evalO x.n k s))
  else if x.e.op = 25 then (if x.k = 0 then (v.bind truthO).bind (fun t => evalO x.n (x.e.kid (if t then 1 else 2)) s) else v)
  else if v.isNone = true ∧ ¬ (x.e.op = 2 ∨ x.e.op = 3) then none
  else if x.e.kids.length = 1 then v.bind (oneO x.e.op)
  else if x.k = 0 then two2 x.e.op (v.getD zeroT) (evalO x.n (x.e.kid 1) s)
  else two2 x.e.op x.f v
def plugO (s : Slt) : List Frm → Option Tm → Option Tm
  | [], v => v
  | x :: st, v => plugO s st (contO s x v)
/-- Which Kid must be told next; 0: none. -/
def nextK (x : Frm) (v : Option Tm) : Nat :=
  if x.e.op = 26 then (if v.isNone = true ∧ x.k + 1 < x.e.kids.length then x.k + 1 else 0)
  else if x.e.op = 25 then (if x.k = 0 then (match v.bind truthO with
    | none => 0
    | some true => 1
    | some false => 2) else 0)
  else if v.isNone = true ∧ ¬ (x.e.op = 2 ∨ x.e.op = 3) then 0
  else if x.e.kids.length = 1 then 0
  else if x.k = 0 then 1
  else 0
def nextF (x : Frm) (v : Option Tm) : Tm := if x.e.op = 26 ∨ x.e.op = 25 then x.f else v.getD zeroT
/-- What it is told as, when no other Kid must be told. -/
def doneV (x : Frm) (v : Option Tm) : Option Tm :=
  if x.e.op = 26 then v
  else if x.e.op = 25 then (if x.k = 0 then none else v)
  else if v.isNone = true ∧ ¬ (x.e.op = 2 ∨ x.e.op = 3) then none
  else if x.e.kids.length = 1 then v.bind (oneO x.e.op)
  else two2 x.e.op x.f v
def Frm.next (x : Frm) (v : Option Tm) : Frm := ⟨x.n, x.e, x.k + 1, nextF x v⟩
structure Frm.Ok (x : Frm) : Prop where
  fits : fitsO x.e.op x.e.kids.length = true
  op1 : x.e.op ≠ 1
  op15 : x.e.op ≠ 15
  k : x.k < x.e.kids.length
theorem fits26 {n : Nat} (h : fitsO 26 n = true) : 0 < n := by
  unfold fitsO at h; rw [if_pos rfl] at h; exact of_decide_eq_true h
theorem fits25 {n : Nat} (h : fitsO 25 n = true) : n = 3 := by
  unfold fitsO at h; rw [if_neg (by decide), if_pos rfl] at h; exact of_decide_eq_true h
theorem fitsX {op : Int} {n : Nat} (h : fitsO op n = true) (h1 : op ≠ 26) (h2 : op ≠ 25) (h3 : op ≠ 1) : n = 1 ∨ n = 2 := by
  unfold fitsO at h
  rw [if_neg h1, if_neg h2, if_neg h3] at h
  split at h
  · exact .inl (of_decide_eq_true h)
  · split at h
    · exact .inr (of_decide_eq_true h)
    · cases h
theorem kid_at {e : Exp} {i : Nat} (h : i < e.kids.length) : e.kid i = e.kids[i] := by
  unfold Exp.kid
  rw [List.getD_eq_getElem?_getD, List.getElem?_eq_getElem h]; rfl
theorem drop_kids {e : Exp} {i : Nat} (h : i < e.kids.length) : e.kids.drop i = e.kid i :: e.kids.drop (i + 1) := by
  rw [kid_at h]; exact List.drop_eq_getElem_cons h
theorem cont_done {s : Slt} {x : Frm} {v : Option Tm} (h : x.Ok) (hn : nextK x v = 0) : contO s x v = doneV x v := by
  have hk := h.k
  unfold nextK at hn
  unfold contO doneV
  by_cases h26 : x.e.op = 26
  · rw [if_pos h26] at hn ⊢
    rw [if_pos h26]
    cases v with
    | some y => rfl
    | none =>
      have : ¬ x.k + 1 < x.e.kids.length := by
        intro hc
        rw [if_pos ⟨rfl, hc⟩] at hn
        omega
      rw [List.drop_of_length_le (by omega)]
      rfl
  · rw [if_neg h26] at hn ⊢
    rw [if_neg h26]
    by_cases h25 : x.e.op = 25
    · rw [if_pos h25] at hn ⊢
      rw [if_pos h25]
      by_cases hk0 : x.k = 0
      · rw [if_pos hk0] at hn ⊢
        rw [if_pos hk0]
        cases hv : v.bind truthO with
        | none => rfl
        | some b => rw [hv] at hn; cases b <;> simp at hn
      · rw [if_neg hk0, if_neg hk0]
    · rw [if_neg h25] at hn ⊢
      rw [if_neg h25]
      split
      · rfl
      · rename_i hc
        rw [if_neg hc] at hn
        split
        · rfl
        · rename_i hl
          rw [if_neg hl] at hn
          split
          · rename_i hk0; rw [if_pos hk0] at hn; omega
          · rfl
theorem cont_next {s : Slt} {x : Frm} {v : Option Tm} (h : x.Ok) (hn : nextK x v ≠ 0) :
    contO s x v = contO s (x.next v) (evalO x.n (x.e.kid (nextK x v)) s) ∧ nextK x v < x.e.kids.length ∧ (x.next v).Ok := by
  have hk := h.k
  have hf := h.fits
  by_cases h26 : x.e.op = 26
  · have hc : v.isNone = true ∧ x.k + 1 < x.e.kids.length := by
      unfold nextK at hn
      rw [if_pos h26] at hn
      by_cases hc : v.isNone = true ∧ x.k + 1 < x.e.kids.length
      · exact hc
      · rw [if_neg hc] at hn; exact absurd rfl hn
    have he : nextK x v = x.k + 1 := by unfold nextK; rw [if_pos h26, if_pos hc]
    refine ⟨?_, by rw [he]; exact hc.2, ⟨h.fits, h.op1, h.op15, hc.2⟩⟩
    rw [he]
    unfold contO
    rw [if_pos h26, if_pos (show (x.next v).e.op = 26 from h26)]
    cases v with
    | some y => simp at hc
    | none =>
      show firstO ((x.e.kids.drop (x.k + 1)).map _) = _
      rw [drop_kids hc.2]
      rfl
  · by_cases h25 : x.e.op = 25
    · have hl : x.e.kids.length = 3 := by rw [h25] at hf; exact fits25 hf
      have hk0 : x.k = 0 := by
        unfold nextK at hn
        rw [if_neg h26, if_pos h25] at hn
        by_cases hk0 : x.k = 0
        · exact hk0
        · rw [if_neg hk0] at hn; exact absurd rfl hn
      have he : ∃ t : Bool, v.bind truthO = some t ∧ nextK x v = (if t then 1 else 2) := by
        unfold nextK at hn ⊢
        rw [if_neg h26, if_pos h25, if_pos hk0] at hn ⊢
        cases hv : v.bind truthO with
        | none => rw [hv] at hn; exact absurd rfl hn
        | some b => cases b <;> exact ⟨_, rfl, rfl⟩
      obtain ⟨t, ht, he⟩ := he
      refine ⟨?_, by rw [he, hl]; cases t <;> decide, ⟨h.fits, h.op1, h.op15, by show x.k + 1 < x.e.kids.length; omega⟩⟩
      rw [he]
      unfold contO
      rw [if_neg h26, if_pos h25, if_pos hk0, ht, if_neg (show ¬ (x.next v).e.op = 26 from h26), if_pos (show (x.next v).e.op = 25 from h25), if_neg (show ¬ (x.next v).k = 0 from by show ¬ x.k + 1 = 0; omega)]
      rfl
    · unfold nextK at hn
      rw [if_neg h26, if_neg h25] at hn
      by_cases hc : v.isNone = true ∧ ¬ (x.e.op = 2 ∨ x.e.op = 3)
      · rw [if_pos hc] at hn; exact absurd rfl hn
      · rw [if_neg hc] at hn
        by_cases hl : x.e.kids.length = 1
        · rw [if_pos hl] at hn; exact absurd rfl hn
        · rw [if_neg hl] at hn
          by_cases hk0 : x.k = 0
          · have hl2 : x.e.kids.length = 2 := by
              rcases fitsX hf h26 h25 h.op1 with h | h
              · exact absurd h hl
              · exact h
            have he : nextK x v = 1 := by
              unfold nextK
              rw [if_neg h26, if_neg h25, if_neg hc, if_neg hl, if_pos hk0]
            refine ⟨?_, by rw [he, hl2]; decide, ⟨h.fits, h.op1, h.op15, by show x.k + 1 < x.e.kids.length; omega⟩⟩
            rw [he]
            have hfx : (x.next v).f = v.getD zeroT := by
              show nextF x v = _
              unfold nextF
              rw [if_neg (by rintro (h | h) <;> contradiction)]
            have e1 : contO s x v = two2 x.e.op (v.getD zeroT) (evalO x.n (x.e.kid 1) s) := by
              unfold contO
              rw [if_neg h26, if_neg h25, if_neg hc, if_neg hl, if_pos hk0]
            rw [e1]
            have e2 : contO s (x.next v) (evalO x.n (x.e.kid 1) s) = (if (evalO x.n (x.e.kid 1) s).isNone = true ∧ ¬ (x.e.op = 2 ∨ x.e.op = 3) then none else two2 x.e.op (x.next v).f (evalO x.n (x.e.kid 1) s)) := by
              unfold contO
              rw [if_neg (show ¬ (x.next v).e.op = 26 from h26), if_neg (show ¬ (x.next v).e.op = 25 from h25), if_neg (show ¬ (x.next v).e.kids.length = 1 from hl), if_neg (show ¬ (x.next v).k = 0 from by show ¬ x.k + 1 = 0; omega)]
              rfl
            rw [e2, hfx]
            split
            · rename_i hd
              unfold two2
              rw [if_neg hd.2]
              cases hv : evalO x.n (x.e.kid 1) s with
              | none => rfl
              | some y => rw [hv] at hd; simp at hd
            · rfl
          · rw [if_neg hk0] at hn; exact absurd rfl hn
theorem eval_push {s : Slt} {n : Nat} {e : Exp} (hf : fitsO e.op e.kids.length = true) (h1 : e.op ≠ 1) (h15 : e.op ≠ 15) :
    evalO (n + 1) e s = contO s ⟨n, e, 0, zeroT⟩ (evalO n (e.kid 0) s) ∧ (⟨n, e, 0, zeroT⟩ : Frm).Ok := by
  have hlen : 0 < e.kids.length := by
    by_cases h26 : e.op = 26
    · rw [h26] at hf; exact fits26 hf
    · by_cases h25 : e.op = 25
      · rw [h25] at hf; have := fits25 hf; omega
      · have := fitsX hf h26 h25 h1; omega
  refine ⟨?_, ⟨hf, h1, h15, hlen⟩⟩
  show (if fitsO e.op e.kids.length then _ else _) = _
  rw [if_pos hf, if_neg h1, if_neg h15]
  unfold opO contO
  dsimp only
  by_cases h26 : e.op = 26
  · rw [if_pos h26, if_pos h26]
    have := drop_kids hlen
    rw [List.drop_zero] at this
    rw [this]
    rfl
  · rw [if_neg h26, if_neg h26]
    by_cases h25 : e.op = 25
    · rw [if_pos h25, if_pos h25, if_pos rfl]
      have hl : e.kids.length = 3 := by rw [h25] at hf; exact fits25 hf
      have e0 := drop_kids hlen
      have e1 := drop_kids (show 1 < e.kids.length by omega)
      have e2 := drop_kids (show 2 < e.kids.length by omega)
      rw [List.drop_zero] at e0
      rw [e0, e1, e2, List.drop_of_length_le (by omega)]
      simp only [List.map_cons, List.map_nil]
      congr 1
      funext t
      cases t <;> rfl
    · rw [if_neg h25, if_neg h25]
      rcases fitsX hf h26 h25 h1 with hl | hl
      · have e0 := drop_kids hlen
        rw [List.drop_zero] at e0
        rw [e0, List.drop_of_length_le (by omega)]
        simp only [List.map_cons, List.map_nil]
        split
        · rename_i hc
          cases hv : evalO n (e.kid 0) s with
          | none => rfl
          | some y => rw [hv] at hc; simp at hc
        · rw [if_pos (by rfl)]
      · have e0 := drop_kids hlen
        have e1 := drop_kids (show 1 < e.kids.length by omega)
        rw [List.drop_zero] at e0
        rw [e0, e1, List.drop_of_length_le (by omega)]
        simp only [List.map_cons, List.map_nil]
        unfold two2
        split
        · rename_i hc
          rw [if_neg (by rintro ⟨-, hd⟩; exact hd hc), if_neg (by simp)]
          simp
        · rename_i hc
          cases hv : evalO n (e.kid 0) s with
          | none => rw [if_pos ⟨rfl, hc⟩]; rfl
          | some y => rw [if_neg (by simp), if_neg (by simp)]; simp

/-- How many steps an expression takes, at most. -/
def costE : Nat → Exp → Nat
  | 0, _ => 1
  | n + 1, e => (e.kids.length + 1) * ((e.kids.map (costE n)).foldr (· + ·) 0 + 2) + 2
def kidsC (x : Frm) : Nat := (x.e.kids.map (costE x.n)).foldr (· + ·) 0
def costF (x : Frm) : Nat := (x.e.kids.length - x.k) * (kidsC x + 2) + 1
def costS (st : List Frm) : Nat := (st.map costF).foldr (· + ·) 0
theorem costE_pos (n : Nat) (e : Exp) : 0 < costE n e := by
  cases n with
  | zero => exact Nat.one_pos
  | succ n => show 0 < _ + 2; omega
theorem sum_le {l : List Nat} {x : Nat} (h : x ∈ l) : x ≤ l.foldr (· + ·) 0 := by
  induction l with
  | nil => cases h
  | cons a t ih =>
    rcases List.mem_cons.1 h with rfl | h
    · show x ≤ x + _; omega
    · have := ih h
      show x ≤ a + t.foldr (· + ·) 0; omega
theorem kid_cost {x : Frm} {i : Nat} (h : i < x.e.kids.length) : costE x.n (x.e.kid i) ≤ kidsC x := by
  refine sum_le (List.mem_map.2 ⟨x.e.kid i, ?_, rfl⟩)
  rw [kid_at h]
  exact List.getElem_mem h
theorem cost_push {n : Nat} {e : Exp} (h : 0 < e.kids.length) : costE n (e.kid 0) + costF ⟨n, e, 0, zeroT⟩ < costE (n + 1) e := by
  have h1 := kid_cost (x := ⟨n, e, 0, zeroT⟩) h
  show costE n (e.kid 0) + ((e.kids.length - 0) * (kidsC ⟨n, e, 0, zeroT⟩ + 2) + 1) < (e.kids.length + 1) * (kidsC ⟨n, e, 0, zeroT⟩ + 2) + 2
  rw [Nat.sub_zero, Nat.succ_mul]
  generalize e.kids.length * (kidsC ⟨n, e, 0, zeroT⟩ + 2) = q
  have h2 : costE n (e.kid 0) ≤ kidsC ⟨n, e, 0, zeroT⟩ := h1
  omega
theorem cost_next {x : Frm} {v : Option Tm} {i : Nat} (hi : i < x.e.kids.length) (hk : x.k < x.e.kids.length) : costE x.n (x.e.kid i) + costF (x.next v) < costF x := by
  have h1 := kid_cost hi
  show costE x.n (x.e.kid i) + ((x.e.kids.length - (x.k + 1)) * (kidsC x + 2) + 1) < (x.e.kids.length - x.k) * (kidsC x + 2) + 1
  rw [show x.e.kids.length - x.k = (x.e.kids.length - (x.k + 1)) + 1 by omega, Nat.succ_mul]
  generalize (x.e.kids.length - (x.k + 1)) * (kidsC x + 2) = q
  omega
theorem costS_cons (x : Frm) (st : List Frm) : costS (x :: st) = costF x + costS st := rfl
theorem costF_pos (x : Frm) : 0 < costF x := by unfold costF; omega
end Go.Proofs.YtecomfhbdonkbaaGreatDoor
/- Rows of structs of the call's own, whatever they hold. -/
namespace Go.Proofs.YtecomfhbdonkbaaGreatDoor
open Go.RowKit
set_option maxRecDepth 100000
set_option linter.unusedVariables false
set_option linter.unusedSimpArgs false
theorem flat_len {α : Type} {c : α → List Value} {k : Nat} (hc : ∀ x, (c x).length = k) (l : List α) : (l.flatMap c).length = l.length * k := by
  induction l with
  | nil => simp
  | cons a t ih => simp only [List.flatMap_cons, List.length_append, hc, ih, List.length_cons, Nat.succ_mul]; omega
theorem flat_at {α : Type} {c : α → List Value} {k : Nat} (hc : ∀ x, (c x).length = k) : ∀ (l : List α) (j : Nat) (h : j < l.length) (i : Nat), i < k → (l.flatMap c)[j * k + i]? = (c l[j])[i]?
  | a :: t, 0, _, i, hi => by
    rw [List.flatMap_cons, Nat.zero_mul, Nat.zero_add, List.getElem?_append_left (by rw [hc]; exact hi)]
    rfl
  | a :: t, j + 1, h, i, hi => by
    rw [List.flatMap_cons, List.getElem?_append_right (by rw [hc, Nat.succ_mul]; omega), hc, Nat.succ_mul, show j * k + k + i - k = j * k + i by omega]
    exact flat_at hc t j (by simpa using h) i hi
def OwG {α : Type} (e : TypeId) (c : α → List Value) (k : Nat) (w : World) (base : Nat) (v : Value) (l : List α) : Prop := w.ownsRow base e k v l.length (l.flatMap c)
section
variable {α : Type} {e : TypeId} {c : α → List Value} {k : Nat} {w w' : World} {base : Nat} {v : Value} {l : List α}
theorem OwG.out (h : OwG e c k w base v l) : w.ownsRow base e k v l.length (l.flatMap c) := h
theorem OwG.nil (e : TypeId) (c : α → List Value) (k : Nat) (w : World) (base : Nat) : OwG e c k w base (.slice none 0 0) [] := World.ownsRow_nil _ _ _ _
theorem OwG.lt (h : OwG e c k w base v l) : ∀ q, v.ownBlock = some q → base ≤ q ∧ q < w.heap.size := World.ownsRow.lt h
theorem OwG.form (h : OwG e c k w base v l) : ∃ ao cap, v = .slice ao l.length cap ∧ l.length ≤ cap ∧ cap ≤ 9223372036854775807 := owns_form h
theorem OwG.moved {P : Nat → Prop} (h : OwG e c k w base v l) (hm : Moved P w w') (hP : ∀ q, v.ownBlock = some q → ¬ P q) : OwG e c k w' base v l := owns_moved h hm hP
theorem OwG.mono {base' : Nat} (h : OwG e c k w base v l) (hb : base' ≤ base) : OwG e c k w base' v l := by
  obtain ⟨h0, h1⟩ := h
  refine ⟨h0, ?_⟩
  rcases h1 with h1 | ⟨g, cap, cur, rfl, hg, q⟩
  · exact .inl h1
  · exact .inr ⟨g, cap, cur, rfl, Nat.le_trans hb hg, q⟩
theorem OwG.below (h : OwG e c k w base v l) (hb : Below w.heap.size w w') : OwG e c k w' base v l := h.moved (Moved.of_below hb (fun _ => False)) (fun _ _ h => h)
theorem OwG.open (h : OwG e c k w base v l) (hl : 0 < l.length) : ∃ g cap cur, v = .slice (some ⟨g, 0, none⟩) l.length cap ∧ base ≤ g ∧ g < w.heap.size ∧ Blk w g cur e ∧ l.length ≤ cap ∧ cap ≤ maxLen ∧ cur.size = cap * k ∧ cur.toList.take (l.length * k) = l.flatMap c := by
  rcases h.2 with ⟨-, h2⟩ | ⟨g, cap, cur, rfl, h1, h2, h3, h4, h5, h6⟩
  · omega
  · exact ⟨g, cap, cur, rfl, h1, (Array.getElem?_eq_some_iff.1 h2).1, h2, h3, h4, h5, h6⟩
theorem OwG.at (h : OwG e c k w base v l) (hc : ∀ x, (c x).length = k) (hl : 0 < l.length) :
    ∃ g cap, v = .slice (some ⟨g, 0, none⟩) l.length cap ∧ base ≤ g ∧ g < w.heap.size ∧ l.length ≤ cap ∧ cap ≤ 9223372036854775807 ∧ (∀ j, w.frozen? ⟨g, j, none⟩ = false) ∧ ∀ j (hj : j < l.length) i u, (c l[j])[i]? = some u → w.cell? ⟨g, j * k + i, none⟩ = some u := by
  obtain ⟨g, cap, cur, rfl, h1, h2, h3, h4, h5, h6, h7⟩ := h.open hl
  refine ⟨g, cap, rfl, h1, h2, h4, h5, fun j => h3.frozen j, fun j hj i u hu => ?_⟩
  have hi : i < k := by
    have := (List.getElem?_eq_some_iff.1 hu).1
    rw [hc] at this
    exact this
  have hjk : j * k + i < l.length * k := by
    have : (j + 1) * k ≤ l.length * k := Nat.mul_le_mul_right k hj
    rw [Nat.succ_mul] at this
    omega
  rw [World.ownsRow.cellAt h (j * k + i) hjk, flat_at hc l j hj i hi]
  exact hu
theorem OwG.front {l m : List α} {ao : Option Addr} {n cap : Nat} (h : OwG e c k w base (.slice ao n cap) (l ++ m)) (hc : ∀ x, (c x).length = k) (hm : 0 < (l ++ m).length) : OwG e c k w base (.slice ao l.length cap) l := by
  obtain ⟨g, cap', cur, hv, h1, h2, h3, h4, h5, h6, h7⟩ := h.open hm
  simp only [Value.slice.injEq] at hv
  obtain ⟨rfl, -, rfl⟩ := hv
  have hle : l.length ≤ (l ++ m).length := by simp
  refine ⟨flat_len hc l, .inr ⟨g, cap, cur, rfl, h1, h3, by omega, h5, h6, ?_⟩⟩
  have := congrArg (List.take (l.length * k)) h7
  rw [List.take_take, Nat.min_eq_left (Nat.mul_le_mul_right k hle), List.flatMap_append, List.take_left' (flat_len hc l)] at this
  exact this
theorem OwG.setLast {l : List α} {a a' : α} {g n cap : Nat} (h : OwG e c k w base (.slice (some ⟨g, 0, none⟩) n cap) (l ++ [a])) (hc : ∀ x, (c x).length = k) (i o : Nat) (u : Value) (ha : (c a).set i u = c a') (ho : o = l.length * k + i) :
    OwG e c k (w.setCell ⟨g, o, none⟩ u) base (.slice (some ⟨g, 0, none⟩) n cap) (l ++ [a']) ∧ w.grownBy (w.setCell ⟨g, o, none⟩ u) (some g) := by
  subst ho
  have hn : n = (l ++ [a]).length := by
    obtain ⟨ao, cap', hv, -⟩ := h.form
    simp only [Value.slice.injEq] at hv
    exact hv.2.1
  subst hn
  obtain ⟨h1, h2⟩ := World.ownsRow.stored h (l.length * k + i) u
  refine ⟨?_, h2⟩
  have e1 : (l ++ [a']).length = (l ++ [a]).length := by simp
  have e2 : ((l ++ [a]).flatMap c).set (l.length * k + i) u = (l ++ [a']).flatMap c := by
    rw [List.flatMap_append, List.flatMap_append, List.set_append_right _ _ (by rw [flat_len hc]; omega), flat_len hc, show l.length * k + i - l.length * k = i by omega]
    simp only [List.flatMap_cons, List.flatMap_nil, List.append_nil, ha]
  unfold OwG
  rw [e1, ← e2]
  exact h1
end
theorem wpList_append_g {α : Type} {w : World} {ops : Array Oper} {rest : List Oper} {o : Oper} {a : Act} {Q : Exit → Act → World → Prop} (hgd : o.guard = none) (s x : Operand) (t e : TypeId) (c : α → List Value) (k by_ : Nat) (z : Value)
    (ho : o.op = .call { callee := .builtin .append, args := #[s, x], argTypes := #[t, t] }) (ht : Tryz.prog.underlying t = some (.slice e)) (hi : (Tryz.prog.info? e).map (fun i => (i.zero, i.size, i.bytes)) = some (some z, k, by_)) (hz : z.cells.size = k) (hk : 0 < k) (hby : by_ ≤ 1000)
    (hc : ∀ x, (c x).length = k) (h1 : ∀ x, ∀ u ∈ c x, u.oneCell' = true) (base : Nat) (hbase : base ≤ w.heap.size)
    (v : Value) (l : List α) (hs : a.eval s = v) (hown : OwG e c k w base v l) (g0 : Nat) (hx : a.eval x = .slice (some ⟨g0, 0, none⟩) 1 1) (y : α) (hg : Blk w g0 (c y).toArray e) (n : Nat) (hn : n = l.length + 1) (hl : n ≤ 1000000)
    (h : ∀ g cap w', OwG e c k w' base (.slice (some ⟨g, 0, none⟩) n cap) (l ++ [y]) → n ≤ cap → cap ≤ 9223372036854775807 → w.grownBy w' v.ownBlock → (v.ownBlock = some g ∨ g = w.heap.size) → g < w'.heap.size → wpList Tryz.prog ops Q rest (a.put o.dst (.slice (some ⟨g, 0, none⟩) n cap)) w') :
    wpList Tryz.prog ops Q (o :: rest) a w := by
  obtain ⟨i0, hi0, hz0, hz1, hz2⟩ := info_parts hi
  refine wpList_append_lies w hgd s x t ho base e i0 z k by_ ht hi0 hz0 hz1 hz2 hz hk v l.length (l.flatMap c) hs hown ⟨g0, 0, none⟩ 1 1 (c y) hx (by rw [hc, Nat.one_mul]) ?_ (h1 y) (by decide) (by simp [maxLen]; omega) ?_ hbase _ rfl ?_
  · intro j u hj
    rw [show (⟨g0, 0, none⟩ : Addr).add j = ⟨g0, j, none⟩ from by unfold Addr.add; split <;> simp_all, hg.cell]
    simpa using hj
  · have : (l.length + 1) * by_ ≤ 1000000 * 1000 := Nat.mul_le_mul (by omega) hby
    omega
  · intro g cap w' k1 k2 k3 k4
    subst hn
    have hown' : OwG e c k w' base (.slice (some ⟨g, 0, none⟩) (l.length + 1) cap) (l ++ [y]) := by
      unfold OwG
      rw [List.length_append, List.flatMap_append]
      simpa using k1
    obtain ⟨aox, capx, ex, hx1, hx2⟩ := hown'.form
    simp only [Value.slice.injEq] at ex
    obtain ⟨-, -, rfl⟩ := ex
    exact h g cap w' hown' (by simpa using hx1) hx2 k2 k3 k4
end Go.Proofs.YtecomfhbdonkbaaGreatDoor
/- Expressions, and an Eval on its way, in memory. -/
namespace Go.Proofs.YtecomfhbdonkbaaGreatDoor
open Go.RowKit Go.Shelf Flo
set_option maxRecDepth 100000
set_option linter.unusedVariables false
set_option linter.unusedSimpArgs false
def XCells (w : World) (b o : Nat) (op : Int) (t : Tm) (kv : Value) : Prop :=
  w.cell? ⟨b, o, none⟩ = some (.int .i64 op) ∧ w.cell? ⟨b, o + 1, none⟩ = some (.int .i64 t.k) ∧ w.cell? ⟨b, o + 2, none⟩ = some (.string t.s) ∧ w.cell? ⟨b, o + 3, none⟩ = some (.string t.l) ∧ w.cell? ⟨b, o + 4, none⟩ = some (.string t.t) ∧ w.cell? ⟨b, o + 5, none⟩ = some kv
theorem XCells.uniq {w : World} {b o : Nat} {op op' : Int} {t t' : Tm} {kv kv' : Value} (h : XCells w b o op t kv) (h' : XCells w b o op' t' kv') : op = op' ∧ t = t' ∧ kv = kv' := by
  obtain ⟨a0, a1, a2, a3, a4, a5⟩ := h
  obtain ⟨b0, b1, b2, b3, b4, b5⟩ := h'
  rw [a0] at b0; rw [a1] at b1; rw [a2] at b2; rw [a3] at b3; rw [a4] at b4; rw [a5] at b5
  simp only [Option.some.injEq, Value.int.injEq, Value.string.injEq, true_and] at b0 b1 b2 b3 b4 b5
  refine ⟨b0, ?_, b5⟩
  cases t; cases t'
  simp only at b1 b2 b3 b4
  subst b1 b2 b3 b4
  rfl
theorem XCells.keep {w w' : World} {b o B : Nat} {op : Int} {t : Tm} {kv : Value} (h : XCells w b o op t kv) (hb : b < B) (hw : Below B w w') : XCells w' b o op t kv := by
  obtain ⟨a0, a1, a2, a3, a4, a5⟩ := h
  have c : ∀ j, w'.cell? ⟨b, j, none⟩ = w.cell? ⟨b, j, none⟩ := fun j => hw.cell (p := ⟨b, j, none⟩) hb
  exact ⟨(c _).trans a0, (c _).trans a1, (c _).trans a2, (c _).trans a3, (c _).trans a4, (c _).trans a5⟩
def opIn (op : Int) : Prop := -9223372036854775808 ≤ op ∧ op ≤ 9223372036854775807
/-- The slice kv reads as the expressions l, so deep, in blocks below B. -/
def KidsAt (B : Nat) (w : World) : Nat → Value → List Exp → Prop
  | 0, kv, l => l = [] ∧ ∃ kp cap, kv = .slice kp 0 cap
  | n + 1, kv, l => l.length ≤ 1000 ∧ ∃ kp cap, kv = .slice kp l.length cap ∧ ∀ i (h : i < l.length), ∃ kb ko kv', kp = some ⟨kb, ko, none⟩ ∧ kb < B ∧ XCells w kb (ko + i * 6) l[i].op l[i].tm kv' ∧ opIn l[i].op ∧ l[i].tm.Sm ∧ KidsAt B w n kv' l[i].kids
/-- The expression e lies at a place below B; its Kids so deep. -/
def XAt (B : Nat) (w : World) (n b o : Nat) (e : Exp) : Prop := b < B ∧ ∃ kv, XCells w b o e.op e.tm kv ∧ opIn e.op ∧ e.tm.Sm ∧ KidsAt B w n kv e.kids
theorem KidsAt.keep {B : Nat} {w w' : World} (hw : Below B w w') : ∀ {n : Nat} {kv : Value} {l : List Exp}, KidsAt B w n kv l → KidsAt B w' n kv l
  | 0, _, _, h => h
  | n + 1, kv, l, ⟨h0, kp, cap, h1, h2⟩ => ⟨h0, kp, cap, h1, fun i hi => by
    obtain ⟨kb, ko, kv', g1, g2, g3, g4, g5, g6⟩ := h2 i hi
    exact ⟨kb, ko, kv', g1, g2, g3.keep g2 hw, g4, g5, KidsAt.keep hw g6⟩⟩
theorem KidsAt.mono {B B' : Nat} {w : World} (hw : B ≤ B') : ∀ {n : Nat} {kv : Value} {l : List Exp}, KidsAt B w n kv l → KidsAt B' w n kv l
  | 0, _, _, h => h
  | n + 1, kv, l, ⟨h0, kp, cap, h1, h2⟩ => ⟨h0, kp, cap, h1, fun i hi => by
    obtain ⟨kb, ko, kv', g1, g2, g3, g4, g5, g6⟩ := h2 i hi
    exact ⟨kb, ko, kv', g1, Nat.lt_of_lt_of_le g2 hw, g3, g4, g5, KidsAt.mono hw g6⟩⟩
theorem KidsAt.deeper {B : Nat} {w : World} : ∀ {n : Nat} {kv : Value} {l : List Exp}, KidsAt B w n kv l → KidsAt B w (n + 1) kv l
  | 0, kv, l, ⟨h, kp, cap, h2⟩ => by
    subst h
    exact ⟨by simp, kp, cap, h2, fun i hi => absurd hi (by simp)⟩
  | n + 1, kv, l, ⟨h0, kp, cap, h1, h2⟩ => ⟨h0, kp, cap, h1, fun i hi => by
    obtain ⟨kb, ko, kv', g1, g2, g3, g4, g5, g6⟩ := h2 i hi
    exact ⟨kb, ko, kv', g1, g2, g3, g4, g5, KidsAt.deeper g6⟩⟩
theorem KidsAt.deep {B : Nat} {w : World} {n m : Nat} {kv : Value} {l : List Exp} (h : KidsAt B w n kv l) (hm : n ≤ m) : KidsAt B w m kv l := by
  obtain ⟨d, rfl⟩ : ∃ d, m = n + d := ⟨m - n, by omega⟩
  clear hm
  induction d with
  | zero => exact h
  | succ d ih => exact ih.deeper
theorem KidsAt.form {B : Nat} {w : World} {n : Nat} {kv : Value} {l : List Exp} (h : KidsAt B w n kv l) : l.length ≤ 1000 ∧ ∃ kp cap, kv = .slice kp l.length cap := by
  cases n with
  | zero => obtain ⟨rfl, kp, cap, h⟩ := h; exact ⟨by simp, kp, cap, h⟩
  | succ n => obtain ⟨h0, kp, cap, h, -⟩ := h; exact ⟨h0, kp, cap, h⟩
theorem Exp.eta (e : Exp) : Exp.mk e.op e.tm e.kids = e := by cases e; rfl
theorem exp_ext {a b : Exp} (h1 : a.op = b.op) (h2 : a.tm = b.tm) (h3 : a.kids = b.kids) : a = b := by rw [← a.eta, ← b.eta, h1, h2, h3]
theorem KidsAt.uniq {B : Nat} {w : World} : ∀ {n m : Nat} {kv : Value} {l l' : List Exp}, KidsAt B w n kv l → KidsAt B w m kv l' → l = l'
  | 0, m, kv, l, l', h, h' => by
    obtain ⟨rfl, kp, cap, rfl⟩ := h
    obtain ⟨-, kp', cap', e⟩ := h'.form
    simp only [Value.slice.injEq] at e
    exact (List.length_eq_zero_iff.1 e.2.1.symm).symm
  | n + 1, 0, kv, l, l', h, h' => by
    obtain ⟨rfl, kp, cap, rfl⟩ := h'
    obtain ⟨-, kp', cap', e⟩ := h.form
    simp only [Value.slice.injEq] at e
    exact List.length_eq_zero_iff.1 e.2.1.symm
  | n + 1, m + 1, kv, l, l', h, h' => by
    obtain ⟨-, kp, cap, e1, h2⟩ := h
    obtain ⟨-, kp', cap', e2, h2'⟩ := h'
    rw [e1] at e2
    simp only [Value.slice.injEq] at e2
    obtain ⟨rfl, hlen, rfl⟩ := e2
    refine List.ext_getElem hlen fun i hi hi' => ?_
    obtain ⟨kb, ko, kv1, g1, g2, g3, -, -, g6⟩ := h2 i hi
    obtain ⟨kb', ko', kv1', g1', g2', g3', -, -, g6'⟩ := h2' i hi'
    rw [g1] at g1'
    simp only [Option.some.injEq, Addr.mk.injEq, and_true] at g1'
    obtain ⟨rfl, rfl⟩ := g1'
    obtain ⟨u1, u2, u3⟩ := g3.uniq g3'
    subst u3
    exact exp_ext u1 u2 (KidsAt.uniq g6 g6')
theorem XAt.uniq {B : Nat} {w : World} {n m b o : Nat} {e e' : Exp} (h : XAt B w n b o e) (h' : XAt B w m b o e') : e = e' := by
  obtain ⟨-, kv, g3, -, -, g6⟩ := h
  obtain ⟨-, kv', g3', -, -, g6'⟩ := h'
  obtain ⟨u1, u2, u3⟩ := g3.uniq g3'
  subst u3
  exact exp_ext u1 u2 (KidsAt.uniq g6 g6')
theorem XAt.keep {B : Nat} {w w' : World} {n b o : Nat} {e : Exp} (h : XAt B w n b o e) (hw : Below B w w') : XAt B w' n b o e := by
  obtain ⟨h0, kv, g3, g4, g5, g6⟩ := h
  exact ⟨h0, kv, g3.keep h0 hw, g4, g5, g6.keep hw⟩
/-- A Kid's place. -/
theorem XAt.kid {B : Nat} {w : World} {n b o i : Nat} {e : Exp} (h : XAt B w n b o e) (hi : i < e.kids.length) :
    ∃ kb ko cap m, n = m + 1 ∧ w.cell? ⟨b, o + 5, none⟩ = some (.slice (some ⟨kb, ko, none⟩) e.kids.length cap) ∧ kb < B ∧ XAt B w m kb (ko + i * 6) (e.kid i) ∧ SizeOf.sizeOf (e.kid i) < SizeOf.sizeOf e := by
  obtain ⟨h0, kv, g3, g4, g5, g6⟩ := h
  cases n with
  | zero => obtain ⟨g6, -⟩ := g6; rw [g6] at hi; simp at hi
  | succ m =>
    obtain ⟨-, kp, cap, rfl, g7⟩ := g6
    obtain ⟨kb, ko, kv', rfl, q2, q3, q4, q5, q6⟩ := g7 i hi
    refine ⟨kb, ko, cap, m, rfl, g3.2.2.2.2.2, q2, ?_, ?_⟩
    · rw [kid_at hi]
      exact ⟨q2, kv', q3, q4, q5, q6⟩
    · rw [kid_at hi]
      have := List.sizeOf_lt_of_mem (List.getElem_mem hi)
      cases e with
      | mk op t kids =>
        simp only [Exp.kids] at this ⊢
        simp only [Exp.mk.sizeOf_spec]
        omega

/-- One that waits, as it lies. -/
structure Wc where
  b : Nat
  o : Nat
  k : Nat
  f : Tm
def waitC (x : Wc) : List Value := [.pointer (some ⟨x.b, x.o, none⟩), .int .i64 (x.k : Int), .int .i64 x.f.k, .string x.f.s, .string x.f.l, .string x.f.t]
theorem waitC_len (x : Wc) : (waitC x).length = 6 := rfl
theorem waitC_one : ∀ x, ∀ u ∈ waitC x, u.oneCell' = true := by
  intro x u hu
  simp only [waitC, List.mem_cons, List.not_mem_nil, or_false] at hu
  rcases hu with rfl | rfl | rfl | rfl | rfl | rfl <;> rfl
theorem Tryz.infoWait : (Tryz.prog.info? 95).map (fun i => (i.zero, i.size, i.bytes)) = some (some (.agg #[.pointer none, .int .i64 0, .int .i64 0, .string ⟨#[]⟩, .string ⟨#[]⟩, .string ⟨#[]⟩]), 6, 72) := by kernel_rfl
abbrev OwW := @OwG Wc 95 waitC 6
def wcOf (x : Frm × Nat × Nat) : Wc := ⟨x.2.1, x.2.2, x.1.k, x.1.f⟩
abbrev Stk := List (Frm × Nat × Nat)
/-- An Eval on its way, at r: what waits, and what was told last. -/
def RunAt (w : World) (r : Nat) (sv : Value) (S : Stk) (v : Option Tm) : Prop :=
  ∃ way, Blk w r #[sv, way, .int .i64 (v.getD zeroT).k, .string (v.getD zeroT).s, .string (v.getD zeroT).l, .string (v.getD zeroT).t, .bool v.isSome] 68 ∧ OwW w (r + 1) way (S.reverse.map wcOf)
/-- Those that wait are expressions, each within the ones ahead of it. -/
structure StkOk (B : Nat) (w : World) (S : Stk) : Prop where
  at_ : ∀ x ∈ S, XAt B w (x.1.n) x.2.1 x.2.2 x.1.e ∧ x.1.Ok
  len : S.length ≤ 100
  sub : S.Pairwise (fun x y => SizeOf.sizeOf x.1.e < SizeOf.sizeOf y.1.e)
theorem StkOk.keep {B : Nat} {w w' : World} {S : Stk} (h : StkOk B w S) (hw : Below B w w') : StkOk B w' S := ⟨fun x hx => ⟨(h.at_ x hx).1.keep hw, (h.at_ x hx).2⟩, h.len, h.sub⟩
end Go.Proofs.YtecomfhbdonkbaaGreatDoor
