/- Ha -/
import Derived.Test.YtbpdapcmaioeiaaGreatKGr
import Derived.Test.YtbpdapcmaioeiaaGreatKGt
namespace Go.Proofs.YtbpdapcmaioeiaaGreat
open Go.RowKit Go.Maps
set_option maxRecDepth 100000
set_option linter.unusedVariables false
theorem less_irrefl : ∀ l : List UInt8, Op.bytesLess l l = false
 | [] => rfl
 | a :: t => by unfold Op.bytesLess; simp [less_irrefl t]
theorem less_asymm : ∀ {x y : List UInt8}, Op.bytesLess x y = true → Op.bytesLess y x = false
 | [], [], h => by cases h
 | [], b :: t, _ => rfl
 | a :: s, [], h => by cases h
 | a :: s, b :: t, h => by
  unfold Op.bytesLess at h ⊢
  by_cases h1 : a < b
  ·have h2 : ¬ b < a := by rw [UInt8.lt_iff_toNat_lt] at h1 ⊢; omega
   have h3 : (b == a) = false := by simp; rintro rfl; rw [UInt8.lt_iff_toNat_lt] at h1; omega
   simp [h2, h3]
  ·by_cases h2 : a = b
   ·subst h2
    simp at h ⊢
    exact less_asymm h
   ·have h3 : (a == b) = false := by simpa using h2
    simp [h1, h3] at h
theorem less_total : ∀ {x y : List UInt8}, Op.bytesLess x y = false → x ≠ y → Op.bytesLess y x = true
 | [], [], _, h => (h rfl).elim
 | [], b :: t, h, _ => by cases h
 | a :: s, [], _, _ => rfl
 | a :: s, b :: t, h, hn => by
  unfold Op.bytesLess at h ⊢
  by_cases h1 : a = b
  ·subst h1
   have hlt : ¬ a < a := by rw [UInt8.lt_iff_toNat_lt]; omega
   simp [hlt] at h ⊢
   exact less_total h (fun e => hn (by rw [e]))
  ·have h3 : (a == b) = false := by simpa using h1
   by_cases h4 : a < b
   ·simp [h4] at h
   ·have h2 : b < a := by
     rw [UInt8.lt_iff_toNat_lt] at h4 ⊢
     have : a.toNat ≠ b.toNat := fun e => h1 (UInt8.toNat_inj.1 e)
     omega
    simp [h2]
theorem less_trans : ∀ {x y z : List UInt8}, Op.bytesLess x y = true → Op.bytesLess y z = true → Op.bytesLess x z = true
 | [], [], _, h, _ => by cases h
 | [], b :: t, [], _, h => by cases h
 | [], b :: t, c :: u, _, _ => rfl
 | a :: s, [], _, h, _ => by cases h
 | a :: s, b :: t, [], _, h => by cases h
 | a :: s, b :: t, c :: u, h, h' => by
  unfold Op.bytesLess at h h' ⊢
  by_cases h1 : a = b
  ·subst h1
   have hlt : ¬ a < a := by rw [UInt8.lt_iff_toNat_lt]; omega
   simp [hlt] at h
   by_cases h2 : a < c
   ·simp [h2]
   ·simp [h2] at h' ⊢
    exact ⟨h'.1, less_trans h h'.2⟩
  ·have h3 : (a == b) = false := by simpa using h1
   have h4 : a < b := by simpa [h3, h1] using h
   by_cases h5 : b = c
   ·subst h5; simp [h4]
   ·have h6 : (b == c) = false := by simpa using h5
    have h7 : b < c := by simpa [h6, h5] using h'
    have h8 : a < c := by rw [UInt8.lt_iff_toNat_lt] at *; omega
    simp [h8]
def ient : {n : Nat} → BT.Item Ent n → Ent
 | 0, e => e
 | n + 1, k => kidE ((BT.page (n := n) k : Nat) : Int)
def isz : {n : Nat} → BT.Item Ent n → Nat
 | 0, e => esize 0 e
 | n + 1, _ => 2
def ents {n : Nat} (t : BT Ent n) : List Ent := t.items.map ient
theorem isz_two {n : Nat} (h : n ≠ 0) : ∀ x : BT.Item Ent n, isz x = 2 := by
 cases n with
 | zero => exact (h rfl).elim
 | succ n => intro x; rfl
theorem isz_ient : {n : Nat} → (x : BT.Item Ent n) → esize ((n : Nat) : Int) (ient x) = isz x
 | 0, x => rfl
 | n + 1, x => by unfold esize; rw [if_pos (by omega)]; rfl
theorem ients_leaf (l : List Ent) : (l.map (ient (n := 0))) = l := by
 show l.map (fun e => e) = l
 simp
theorem ents_leaf (p : Nat) (l : List Ent) : ents (BT.leaf p l) = l := ients_leaf l
theorem sizes_ient {n : Nat} : ∀ l : List (BT.Item Ent n), sizes ((n : Nat) : Int) (l.map ient) = Parts.size isz l
 | [] => rfl
 | x :: l => by
  have := sizes_ient l
  rw [List.map_cons, sizes_cons, this, isz_ient]
  unfold Parts.size
  rw [List.map_cons, List.sum_cons]
/-- parted of what stands in nodes. -/
theorem pstate_ient {n : Nat} (most : Int) (l : List (BT.Item Ent n)) : pstate ((n : Nat) : Int) most (l.map ient) = ((Parts.run isz most ([], []) l).1.map (List.map ient), (Parts.run isz most ([], []) l).2.map ient) := by
 refine snoc_ind (P := fun l => pstate ((n : Nat) : Int) most (l.map ient) = ((Parts.run isz most ([], []) l).1.map (List.map ient), (Parts.run isz most ([], []) l).2.map ient)) rfl (fun l x ih => ?_) l
 rw [List.map_append, List.map_cons, List.map_nil, pstate_snoc, ih, Parts.run_snoc]
 unfold pstep Parts.step
 simp only [sizes_ient, isz_ient]
 by_cases h : (Parts.run isz most ([], []) l).2 ≠ [] ∧ most < ((Parts.size isz (Parts.run isz most ([], []) l).2 + isz x : Nat) : Int)
 ·rw [if_pos h, if_pos ⟨by simpa using h.1, h.2⟩]
  simp
 ·rw [if_neg h, if_neg (fun k => h ⟨by simpa using k.1, k.2⟩)]
  simp
theorem parted_ient {n : Nat} (most : Int) (l : List (BT.Item Ent n)) : partedOf ((n : Nat) : Int) most (l.map ient) = (Parts.parts isz most l).map (List.map ient) := by
 unfold partedOf Parts.parts
 rw [pstate_ient]
 simp
theorem even_ient {n : Nat} {l : List (BT.Item Ent n)} {ls : List (List Ent)} (h : EvenOf ((n : Nat) : Int) (l.map ient) ls) : ∃ ls', ls = ls'.map (List.map ient) ∧ BT.Even isz l ls' := by
 obtain ⟨m, h1, h2, h3, h4⟩ := h
 simp only [parted_ient, List.length_map] at h2 h3 h4
 refine ⟨_, h2, m, h1, rfl, ?_, h4⟩
 rw [h2, List.length_map] at h3
 exact h3
theorem NodeAt.frame {N : Nat} {H H' : Lg} {i : Nat} {lvl : Int} {es : List Ent} (h : NodeAt N H (i : Int) lvl es) (hp : H'.page i = H.page i) (hf : i ∉ H'.free) : NodeAt N H' (i : Int) lvl es :=
 ⟨⟨h.used.1, h.used.2.1, by simpa using hf⟩, by rw [← h.page]; simpa using hp, h.size, h.low, h.high, h.few, h.wf⟩
def Stored (N : Nat) (H : Lg) : {n : Nat} → BT Ent n → Prop
 | 0, t => NodeAt N H ((BT.page (n := 0) t : Nat) : Int) ((0 : Nat) : Int) (ents (n := 0) t)
 | n + 1, t => NodeAt N H ((BT.page (n := n + 1) t : Nat) : Int) ((n + 1 : Nat) : Int) (ents (n := n + 1) t) ∧ ∀ k ∈ BT.kids t, Stored N H (n := n) k
/-- The kids are stored (of a leaf: nothing). -/
def Kept (N : Nat) (H : Lg) : {n : Nat} → BT.Item Ent n → Prop
 | 0, e => LeafE e
 | n + 1, k => Stored N H (n := n) k
theorem Stored.node {N : Nat} {H : Lg} : {n : Nat} → {t : BT Ent n} → Stored N H t → NodeAt N H ((t.page : Nat) : Int) ((n : Nat) : Int) (ents t)
 | 0, t, h => h
 | n + 1, t, h => h.1
theorem Stored.kids {N : Nat} {H : Lg} {n : Nat} {t : BT Ent (n + 1)} (h : Stored N H t) : ∀ k ∈ BT.kids t, Stored N H k := h.2
theorem Stored.of {N : Nat} {H : Lg} : {n : Nat} → {t : BT Ent n} → NodeAt N H ((t.page : Nat) : Int) ((n : Nat) : Int) (ents t) → (∀ x ∈ t.items, Kept N H x) → Stored N H t
 | 0, t, h, _ => h
 | n + 1, t, h, hk => ⟨h, hk⟩
theorem leaf_ok {N : Nat} {H : Lg} {i : Int} {es : List Ent} (h : NodeAt N H i 0 es) : ∀ e ∈ es, LeafE e := fun e he => by
 have := h.wf e he
 unfold EWf at this
 rw [if_neg (by decide)] at this
 exact this
theorem Stored.kept {N : Nat} {H : Lg} : {n : Nat} → {t : BT Ent n} → Stored N H t → ∀ x ∈ t.items, Kept N H x
 | 0, t, h => fun e he => by
  have h' : NodeAt N H ((BT.page (n := 0) t : Nat) : Int) 0 (ents (n := 0) t) := h
  refine leaf_ok h' e ?_
  have e2 : ents (n := 0) t = t.2 := ients_leaf t.2
  rw [e2]; exact he
 | n + 1, t, h => h.2
theorem Stored.frame {N : Nat} {H H' : Lg} : {n : Nat} → {t : BT Ent n} → Stored N H t → (∀ q ∈ t.pages, H'.page q = H.page q ∧ q ∉ H'.free) → Stored N H' t
 | 0, t, h, hp => NodeAt.frame h (hp _ (BT.page_mem t)).1 (hp _ (BT.page_mem t)).2
 | n + 1, t, h, hp => ⟨NodeAt.frame h.1 (hp _ (BT.page_mem t)).1 (hp _ (BT.page_mem t)).2, fun k hk => Stored.frame (h.2 k hk) (fun q hq => hp q (by
  show q ∈ t.1 :: (BT.kids t).flatMap BT.pages
  exact List.mem_cons_of_mem _ (List.mem_flatMap.2 ⟨k, hk, hq⟩)))⟩
theorem Stored.used {N : Nat} {H : Lg} : {n : Nat} → {t : BT Ent n} → Stored N H t → ∀ q ∈ t.pages, 1 ≤ q ∧ q < N ∧ q ∉ H.free
 | 0, t, h, q, hq => by
  have h' : NodeAt N H ((BT.page (n := 0) t : Nat) : Int) 0 (ents (n := 0) t) := h
  have e0 : q = t.1 := by simpa [BT.pages] using hq
  have e : q = BT.page t := e0
  subst e
  have := h'.used
  exact ⟨by have := this.1; omega, by have := this.2.1; omega, by simpa using this.2.2⟩
 | n + 1, t, h, q, hq => by
  have hq' : q ∈ t.1 :: (BT.kids t).flatMap BT.pages := hq
  rcases List.mem_cons.1 hq' with e | hq'
  ·have := h.1.used
   have e' : q = BT.page t := e
   subst e'
   exact ⟨by have := this.1; omega, by have := this.2.1; omega, by simpa using this.2.2⟩
  ·obtain ⟨k, hk, hqk⟩ := List.mem_flatMap.1 hq'
   exact Stored.used (h.2 k hk) q hqk
/-- What lies on a page fits: at most so many bytes, so many entries. -/
theorem NodeAt.sizes {N : Nat} {H : Lg} {i : Int} {n : Nat} {es : List Ent} (h : NodeAt N H i ((n : Nat) : Int) es) : Go.Proofs.YtbpdapcmaioeiaaGreat.sizes ((n : Nat) : Int) es ≤ 502 := by
 have h1 := h.size
 unfold enc at h1
 rw [List.length_append, List.length_append, le_length, le_length] at h1
 cases n with
 | zero =>
  have h' : NodeAt N H i 0 es := h
  have h2 := encs_leaf_len (leaf_ok h')
  have h3 : (encs ((0 : Nat) : Int) es).length = (encs 0 es).length := rfl
  have h4 : Go.Proofs.YtbpdapcmaioeiaaGreat.sizes ((0 : Nat) : Int) es = Go.Proofs.YtbpdapcmaioeiaaGreat.sizes 0 es := rfl
  omega
 | succ n =>
  have h2 : (encs ((n + 1 : Nat) : Int) es).length = Go.Proofs.YtbpdapcmaioeiaaGreat.sizes ((n + 1 : Nat) : Int) es := by
   clear h h1
   induction es with
   | nil => rfl
   | cons e t ih =>
    rw [sizes_cons, ← ih, show encs ((n + 1 : Nat) : Int) (e :: t) = encE ((n + 1 : Nat) : Int) e ++ encs ((n + 1 : Nat) : Int) t from rfl, List.length_append]
    unfold encE esize
    rw [if_pos (by omega), if_pos (by omega), List.length_append, le_length, le_length]
  omega
theorem Stored.fits {N : Nat} {H : Lg} {n : Nat} {t : BT Ent n} (h : Stored N H t) : Parts.size isz t.items ≤ 502 := by
 rw [← sizes_ient]; exact h.node.sizes
/-- The pages are few: a row of different numbers below N. -/
theorem nodup_length {N : Nat} : ∀ {l : List Nat}, l.Nodup → (∀ q ∈ l, q < N) → l.length ≤ N := by
 induction N with
 | zero =>
  intro l _ h
  cases l with
  | nil => simp
  | cons a l => exact absurd (h a (by simp)) (by omega)
 | succ N ih =>
  intro l hn h
  have h1 : (l.filter (· != N)).length ≤ N := ih (hn.sublist List.filter_sublist) (fun q hq => by
   rw [List.mem_filter] at hq
   have := h q hq.1
   have h2 : q ≠ N := by simpa using hq.2
   omega)
  have h3 : l.length ≤ (l.filter (· != N)).length + 1 := by
   clear ih h1 h
   induction l with
   | nil => simp
   | cons a l ih =>
    obtain ⟨ha, hn'⟩ := List.nodup_cons.1 hn
    by_cases e : a = N
    ·subst e
     have : l.filter (· != a) = l := List.filter_eq_self.2 (fun x hx => by simp; rintro rfl; exact ha hx)
     rw [List.filter_cons, if_neg (by simp), this, List.length_cons]
     exact Nat.le_refl _
    ·rw [List.filter_cons, if_pos (by simpa using e), List.length_cons, List.length_cons]
     have := ih hn'
     omega
  omega
def rK (x y : Ent) : Prop := Op.bytesLess x.key.toList y.key.toList = true
def leK (key : ByteArray) (x : Ent) : Bool := !(Op.bytesLess key.toList x.key.toList)
def gK (key : ByteArray) (x : Ent) : Bool := geB x.key key
def sameK (key : ByteArray) (x : Ent) : Bool := x.key.toList == key.toList
theorem gK_up (key : ByteArray) (x y : Ent) (h : rK x y) (hx : gK key x = true) : gK key y = true := by
 unfold gK geB at *
 simp only [Bool.not_eq_true'] at *
 cases hy : Op.bytesLess y.key.toList key.toList with
 | false => rfl
 | true => rw [less_trans h hy] at hx; cases hx
theorem le_below (key : ByteArray) (x y : Ent) (h : rK x y) (hy : leK key y = true) : gK key x = false := by
 unfold gK geB leK at *
 simp only [Bool.not_eq_true', Bool.not_eq_false'] at *
 by_cases e : y.key.toList = key.toList
 ·rw [← e]; exact h
 ·exact less_trans h (less_total hy (fun k => e k.symm))
theorem not_le (key : ByteArray) (x : Ent) (h : leK key x = false) : gK key x = true := by
 unfold gK geB leK at *
 simp only [Bool.not_eq_true', Bool.not_eq_false'] at *
 exact less_asymm h
theorem le_down (key : ByteArray) (x y : Ent) (h : rK x y) (hy : leK key y = true) : leK key x = true := by
 unfold leK at *
 simp only [Bool.not_eq_true'] at *
 cases hx : Op.bytesLess key.toList x.key.toList with
 | false => rfl
 | true => rw [less_trans hx h] at hy; cases hy
theorem above_other (key : ByteArray) (x y : Ent) (h : rK x y) (hx : gK key x = true) : sameK key y = false := by
 unfold gK geB sameK at *
 simp only [Bool.not_eq_true', beq_eq_false_iff_ne, ne_eq] at *
 intro e
 rw [← e, h] at hx
 cases hx
theorem not_le_same (key : ByteArray) (x : Ent) (h : leK key x = false) : sameK key x = false := by
 unfold leK sameK at *
 simp only [Bool.not_eq_false', beq_eq_false_iff_ne, ne_eq] at *
 intro e
 rw [e, less_irrefl] at h
 cases h
theorem same_ge (key : ByteArray) (x : Ent) (h : sameK key x = true) : gK key x = true := by
 unfold gK geB sameK at *
 simp only [beq_iff_eq] at h
 rw [h, less_irrefl]; rfl
theorem same_one (key : ByteArray) (x y : Ent) (h : rK x y) (hx : sameK key x = true) : sameK key y = false :=
 above_other key x y h (same_ge key x hx)
end Go.Proofs.YtbpdapcmaioeiaaGreat
namespace Go.Proofs.YtbpdapcmaioeiaaGreat
open Go.RowKit Go.Maps
set_option maxRecDepth 100000
set_option linter.unusedVariables false
/-- A step: a node, and which entry comes next. -/
structure Stp where
 at' : Int
 lvl : Int
 v : Value
 es : List Ent
 i : Nat
def Stp.cells (s : Stp) : List Value := [.int .i64 s.at', .int .i64 s.lvl, s.v, .int .i64 s.i]
def scells (ss : List Stp) : List Value := ss.flatMap Stp.cells
theorem scells_length : ∀ ss : List Stp, (scells ss).length = ss.length * 4
 | [] => rfl
 | s :: t => by
  have := scells_length t
  show (s.cells ++ scells t).length = _
  rw [List.length_append, this, List.length_cons]
  simp only [Stp.cells, List.length_cons, List.length_nil]; omega
theorem scells_append (a b : List Stp) : scells (a ++ b) = scells a ++ scells b := by unfold scells; rw [List.flatMap_append]
theorem scells_at : ∀ (ss : List Stp) (k : Nat) (hk : k < ss.length), (scells ss)[k * 4]? = some (.int .i64 ss[k].at') ∧ (scells ss)[k * 4 + 1]? = some (.int .i64 ss[k].lvl) ∧ (scells ss)[k * 4 + 2]? = some ss[k].v ∧ (scells ss)[k * 4 + 3]? = some (.int .i64 ss[k].i)
 | s :: t, 0, _ => ⟨rfl, rfl, rfl, rfl⟩
 | s :: t, k + 1, hk => by
  have ih := scells_at t k (by simpa using hk)
  have e : scells (s :: t) = s.cells ++ scells t := rfl
  have hl : s.cells.length = 4 := rfl
  have g : ∀ j, (scells (s :: t))[(k + 1) * 4 + j]? = (scells t)[k * 4 + j]? := fun j => by
   rw [e, List.getElem?_append_right (by rw [hl]; omega), hl]; congr 1; omega
  have g0 := g 0
  simp only [Nat.add_zero] at g0
  rw [g0, g 1, g 2, g 3]
  simpa using ih
/-- A row of steps: it, and the entries', are of S. -/
def Sts (w : World) (S : Nat → Prop) (v : Value) (ss : List Stp) : Prop :=
 w.ownsRow 0 142 4 v ss.length (scells ss) ∧ (∀ q, v.ownBlock = some q → S q) ∧ ∀ s ∈ ss, Ens w s.v s.es ∧ ∀ q, s.v.ownBlock = some q → S q ∧ q < w.heap.size ∧ v.ownBlock ≠ some q
section
variable {w w' : World} {S : Nat → Prop} {v : Value} {ss : List Stp}
theorem Sts.nil (w : World) (S : Nat → Prop) : Sts w S (.slice none 0 0) [] := ⟨World.ownsRow_nil _ _ _ _, (fun q h => by cases h), (fun s hs => by cases hs)⟩
theorem Sts.form (h : Sts w S v ss) : ∃ ao cap, v = .slice ao ss.length cap ∧ ss.length ≤ cap ∧ cap ≤ 9223372036854775807 := owns_form h.1
theorem Sts.lt (h : Sts w S v ss) : ∀ q, v.ownBlock = some q → q < w.heap.size := fun q hq => (h.1.lt q hq).2
theorem Sts.moved {P : Nat → Prop} (h : Sts w S v ss) (hm : Moved P w w') (hP : ∀ q, S q → q < w.heap.size → ¬ P q) : Sts w' S v ss := by
 obtain ⟨h1, h2, h3⟩ := h
 have hs := hm.size
 refine ⟨owns_moved h1 hm (fun q hq => hP q (h2 q hq) (h1.lt q hq).2), h2, fun s hs' => ?_⟩
 obtain ⟨k1, k2⟩ := h3 s hs'
 exact ⟨k1.moved hm (fun _ q hq => hP q (k2 q hq).1 (k2 q hq).2.1), fun q hq => ⟨(k2 q hq).1, by have := (k2 q hq).2.1; omega, (k2 q hq).2.2⟩⟩
theorem Sts.below (h : Sts w S v ss) (hb : Below w.heap.size w w') : Sts w' S v ss := h.moved (Moved.of_below hb (fun _ => False)) (fun _ _ _ h => h)
theorem Sts.more {S' : Nat → Prop} (h : Sts w S v ss) (hS : ∀ q, S q → q < w.heap.size → S' q) : Sts w S' v ss :=
 ⟨h.1, fun q hq => hS q (h.2.1 q hq) (h.lt q hq), fun s hs => ⟨(h.2.2 s hs).1, fun q hq => ⟨hS q ((h.2.2 s hs).2 q hq).1 ((h.2.2 s hs).2 q hq).2.1, ((h.2.2 s hs).2 q hq).2⟩⟩⟩
/-- The step at k. -/
theorem Sts.at (h : Sts w S v ss) (k : Nat) (hk : k < ss.length) : ∃ g cap, v = .slice (some ⟨g, 0, none⟩) ss.length cap ∧ g < w.heap.size ∧ S g ∧ ss.length ≤ cap ∧ cap ≤ 9223372036854775807 ∧ (∀ j, w.frozen? ⟨g, j, none⟩ = false) ∧
 w.cell? ⟨g, k * 4, none⟩ = some (.int .i64 ss[k].at') ∧ w.cell? ⟨g, k * 4 + 1, none⟩ = some (.int .i64 ss[k].lvl) ∧ w.cell? ⟨g, k * 4 + 2, none⟩ = some ss[k].v ∧ w.cell? ⟨g, k * 4 + 3, none⟩ = some (.int .i64 ss[k].i) := by
 obtain ⟨h1, h2, h3⟩ := h
 have hlt := h1.lt
 rcases id h1.2 with ⟨rfl, hn⟩ | ⟨g, cap, cur, rfl, hb, hh, k1, k2, k3, k4⟩
 ·omega
 ·have hc := fun j (u : Value) (hj : (scells ss)[j]? = some u) => (show w.cell? ⟨g, j, none⟩ = some u by have := World.ownsRow.cells h1 (g := g) rfl (j := j) (u := u) hj; rwa [Addr.add_lit, Nat.zero_add] at this)
  obtain ⟨c0, c1, c2, c3⟩ := scells_at ss k hk
  exact ⟨g, cap, rfl, (hlt g rfl).2, h2 g rfl, k1, k2, fun j => frozen_of_row w g j cur _ hh, hc _ _ c0, hc _ _ c1, hc _ _ c2, hc _ _ c3⟩
theorem Sts.ens (h : Sts w S v ss) (k : Nat) (hk : k < ss.length) : Ens w ss[k].v ss[k].es ∧ ∀ q, ss[k].v.ownBlock = some q → S q ∧ q < w.heap.size ∧ v.ownBlock ≠ some q := h.2.2 _ (List.getElem_mem _)
/-- One cell of a step written. -/
theorem Sts.set {g cap : Nat} (h : Sts w S (.slice (some ⟨g, 0, none⟩) ss.length cap) ss) (k : Nat) (hk : k < ss.length) (j : Nat) (hj : j < 4) (u : Value) (s' : Stp) (hc : s'.cells = ss[k].cells.set j u)
 (hs' : Ens w s'.v s'.es ∧ ∀ q, s'.v.ownBlock = some q → S q ∧ q < w.heap.size ∧ q ≠ g) : Sts (w.setCell ⟨g, k * 4 + j, none⟩ u) S (.slice (some ⟨g, 0, none⟩) ss.length cap) (ss.set k s') := by
 obtain ⟨h1, h2, h3⟩ := h
 have hsz : (w.setCell ⟨g, k * 4 + j, none⟩ u).heap.size = w.heap.size := by simp
 have hm : Moved (· = g) w (w.setCell ⟨g, k * 4 + j, none⟩ u) := (Moved.refl (· = g) w).setCell ⟨g, k * 4 + j, none⟩ u (.inl rfl)
 rcases h1.2 with ⟨e, -⟩ | ⟨g', cap', cur, e, hbs, hh, k1, k2, k3, k4⟩
 ·cases e
 ·simp only [Value.slice.injEq, Option.some.injEq, Addr.mk.injEq, and_true, true_and] at e
  obtain ⟨rfl, rfl⟩ := e
  have hlt : k * 4 + j < cur.size := by omega
  refine ⟨⟨by rw [scells_length], .inr ⟨g, cap, cur.set! (k * 4 + j) u, by rw [List.length_set], Nat.zero_le _, ?_, by rw [List.length_set]; exact k1, k2, by simpa using k3, ?_⟩⟩, h2, fun s hs => ?_⟩
  ·exact (show Blk w g cur _ from hh).set (k * 4 + j) u
  ·rw [List.length_set]
   have e1 : (cur.set! (k * 4 + j) u).toList = cur.toList.set (k * 4 + j) u := by simp [Array.set!_eq_setIfInBounds]
   rw [e1, List.take_set, k4]
   clear k4 h1 h2 h3 hsz hm hs'
   -- plain
   have key : ∀ (ss : List Stp) (k : Nat) (hk : k < ss.length), s'.cells = ss[k].cells.set j u → (scells ss).set (k * 4 + j) u = scells (ss.set k s') := by
    intro ss
    induction ss with
    | nil => intro k hk; simp at hk
    | cons a t ih =>
     intro k hk hc
     have ea : scells (a :: t) = a.cells ++ scells t := rfl
     have hl : a.cells.length = 4 := rfl
     cases k with
     | zero =>
      have hc' : s'.cells = a.cells.set j u := hc
      rw [ea, List.set_cons_zero, show scells (s' :: t) = s'.cells ++ scells t from rfl, hc', List.set_append_left _ _ (by rw [hl]; omega), Nat.zero_mul, Nat.zero_add]
     | succ k =>
      rw [ea, List.set_cons_succ, show scells (a :: t.set k s') = a.cells ++ scells (t.set k s') from rfl, ← ih k (by simpa using hk) (by simpa using hc), List.set_append_right _ _ (by rw [hl]; omega), hl]
      congr 2; omega
   exact key ss k hk hc
  ·rcases List.mem_or_eq_of_mem_set hs with hs | rfl
   ·obtain ⟨a1, a2⟩ := h3 s hs
    exact ⟨a1.moved hm (fun _ q hq e => (a2 q hq).2.2 (by rw [e]; rfl)), fun q hq => ⟨(a2 q hq).1, by rw [hsz]; exact (a2 q hq).2.1, (a2 q hq).2.2⟩⟩
   ·obtain ⟨a1, a2⟩ := hs'
    exact ⟨a1.moved hm (fun _ q hq e => (a2 q hq).2.2 e), fun q hq => ⟨(a2 q hq).1, by rw [hsz]; exact (a2 q hq).2.1, fun e => (a2 q hq).2.2 (Option.some.inj e).symm⟩⟩
end
/-- l = append(l, s) -/
theorem wpList_append_step {w : World} {ops : Array Oper} {rest : List Oper} {o : Oper} {a : Act} {Q : Exit → Act → World → Prop} (hgd : o.guard = none) (s x : Operand)
 (ho : o.op = .call { callee := .builtin .append, args := #[s, x], argTypes := #[135, 135] }) (S : Nat → Prop)
 (v : Value) (ss : List Stp) (hs : a.eval s = v) (hown : Sts w S v ss) (g0 : Nat) (hx : a.eval x = .slice (some ⟨g0, 0, none⟩) 1 1) (e : Stp) (hg : Blk w g0 e.cells.toArray 142)
 (he : Ens w e.v e.es) (hev : ∀ q, e.v.ownBlock = some q → S q ∧ q < w.heap.size ∧ v.ownBlock ≠ some q) (n : Nat) (hn : n = ss.length + 1) (hl : n ≤ 1000000)
 (h : ∀ g cap w', Sts w' (fun q => S q ∨ (w.heap.size ≤ q ∧ q < w'.heap.size)) (.slice (some ⟨g, 0, none⟩) n cap) (ss ++ [e]) → n ≤ cap → cap ≤ 9223372036854775807 → w.grownBy w' v.ownBlock → (v.ownBlock = some g ∨ w.heap.size ≤ g) → wpList Tryz.prog ops Q rest (a.put o.dst (.slice (some ⟨g, 0, none⟩) n cap)) w') :
 wpList Tryz.prog ops Q (o :: rest) a w := by
 obtain ⟨i0, hi, hz0, hz1, hz2⟩ := info_parts Tryz.infoStep
 obtain ⟨h1, h2, h3⟩ := hown
 have hev1 : e.v.oneCell' = true := by
  obtain ⟨ao, c, h, -⟩ := he.form
  rw [h]; rfl
 refine wpList_append_lies w hgd s x _ ho 0 142 i0 _ 4 48 Tryz.underlying135 hi hz0 hz1 hz2 rfl (by decide) v ss.length (scells ss) hs h1 ⟨g0, 0, none⟩ 1 1 e.cells hx rfl ?_ ?_ (by decide) (by simp [maxLen]; omega) (by omega) (Nat.zero_le _) _ rfl ?_
 ·intro j u hj
  rw [show (⟨g0, 0, none⟩ : Addr).add j = ⟨g0, j, none⟩ from by unfold Addr.add; split <;> simp_all, hg.cell]
  simpa using hj
 ·intro u hu
  simp [Stp.cells] at hu
  rcases hu with rfl | rfl | rfl | rfl
  ·rfl
  ·rfl
  ·exact hev1
  ·rfl
 ·intro g cap w' k1 k2 k3 k4
  subst hn
  obtain ⟨aox, capx, ex, hx1, hx2⟩ := owns_form k1
  simp only [Value.slice.injEq] at ex
  obtain ⟨-, -, rfl⟩ := ex
  have hsz := k2.size
  have hm : Moved (fun q => v.ownBlock = some q) w w' := ⟨k2.os, k2.tape, k2.output, k2.size, fun q hq hn => k2.block q hq (fun e => hn e.symm)⟩
  have hgn : ∀ q, q < w.heap.size → v.ownBlock ≠ some q → g ≠ q := fun q hq hv e => by
   rcases k3 with k3 | k3
   ·exact hv (by rw [k3, e])
   ·omega
  refine h g cap w' ⟨by rw [scells_append, List.length_append]; simpa [scells] using k1, fun q hq => ?_, fun s hs => ?_⟩ hx1 hx2 k2 (k3.imp id (fun e => by omega))
  ·have hgq : g = q := Option.some.inj hq
   subst hgq
   rcases k3 with k3 | k3
   ·exact .inl (h2 _ k3)
   ·exact .inr ⟨by omega, k4⟩
  ·rcases List.mem_append.1 hs with hs | hs
   ·obtain ⟨a1, a2⟩ := h3 s hs
    exact ⟨a1.moved hm (fun _ q hq => (a2 q hq).2.2), fun q hq => ⟨.inl (a2 q hq).1, by have := (a2 q hq).2.1; omega, fun e => hgn q (a2 q hq).2.1 (a2 q hq).2.2 (Option.some.inj e)⟩⟩
   ·rw [List.mem_singleton] at hs
    subst hs
    exact ⟨he.moved hm (fun _ q hq => (hev q hq).2.2), fun q hq => ⟨.inl (hev q hq).1, by have := (hev q hq).2.1; omega, fun e => hgn q (hev q hq).2.1 (hev q hq).2.2 (Option.some.inj e)⟩⟩
/-- The steps above a node of page cur. -/
def OnWay : {n N : Nat} → BT.Path Ent n N → Nat → List Stp → Prop
 | _, _, .top, _, ss => ss = []
 | n, _, .up page ka kb rest, cur, ss => ∃ ss' s, ss = ss' ++ [s] ∧ s.at' = (page : Int) ∧ s.lvl = ((n + 1 : Nat) : Int) ∧ s.es = (ka.map BT.page ++ cur :: kb.map BT.page).map (fun q : Nat => kidE (q : Int)) ∧ s.i = ka.length ∧ OnWay rest page ss'
theorem OnWay.length : {n N : Nat} → {p : BT.Path Ent n N} → {cur : Nat} → {ss : List Stp} → OnWay p cur ss → ss.length = p.len
 | _, _, .top, _, ss, h => by rw [show ss = [] from h]; rfl
 | n, N, .up page ka kb rest, cur, ss, h => by
  obtain ⟨ss', s, rfl, -, -, -, -, h⟩ := h
  have := OnWay.length h
  rw [List.length_append, this]; rfl
/-- The whole way to a leaf, with the place in it. -/
structure Way {N : Nat} (p : BT.Path Ent 0 N) (f : BT Ent 0) (m : Nat) (ss : List Stp) : Prop where
 up : ∃ ss' s, ss = ss' ++ [s] ∧ s.at' = (f.page : Int) ∧ s.lvl = 0 ∧ s.es = f.flat ∧ s.i = m ∧ OnWay p f.page ss'
/-- Which kid comes next on the way to a key: the last one whose least key is not above it, else the first. -/
def KidOf {m : Nat} (key : ByteArray) (ks : List (BT Ent m)) (i : Nat) : Prop :=
 i < ks.length ∧ (i = 0 ∨ ∀ k, ks[i]? = some k → ∀ x, k.first = some x → leK key x = true) ∧ ∀ j, i < j → ∀ k, ks[j]? = some k → ∀ x, k.first = some x → leK key x = false
theorem KidOf.on {m : Nat} {key : ByteArray} {ks : List (BT Ent m)} {i : Nat} (h : KidOf key ks i) : ∃ k, ks[i]? = some k ∧ ks = ks.take i ++ k :: ks.drop (i + 1) ∧ (ks.take i = [] ∨ ∀ x, k.first = some x → leK key x = true) ∧
 ∀ k' ∈ ks.drop (i + 1), ∀ x, k'.first = some x → leK key x = false := by
 obtain ⟨h1, h2, h3⟩ := h
 refine ⟨ks[i], List.getElem?_eq_getElem h1, ?_, ?_, ?_⟩
 ·conv => lhs; rw [← List.take_append_drop i ks, List.drop_eq_getElem_cons h1]
 ·rcases h2 with rfl | h2
  ·exact .inl rfl
  ·exact .inr (h2 _ (List.getElem?_eq_getElem h1))
 ·intro k' hk'
  obtain ⟨j, hj, rfl⟩ := List.mem_iff_getElem.1 hk'
  rw [List.length_drop] at hj
  rw [List.getElem_drop]
  exact h3 (i + 1 + j) (by omega) _ (List.getElem?_eq_getElem (by omega))
end Go.Proofs.YtbpdapcmaioeiaaGreat
