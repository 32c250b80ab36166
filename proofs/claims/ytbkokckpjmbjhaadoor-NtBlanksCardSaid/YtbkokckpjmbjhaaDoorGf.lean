/- Ends4; MapIS; Page; PMap; PgSt; PgEnd; PgPut -/
import Derived.Test.YtbkokckpjmbjhaaDoorGe
import Derived.Maps.OwnSet
import Derived.Maps.StringElems
import Derived.Maps.Views
import Derived.Maps.Own
import Derived.Deep.WholeRow
namespace Go.Proofs.YtbkokckpjmbjhaaDoor
open Go.RowKit
set_option maxRecDepth 100000
section
end
section
end
section
section
variable {w0 w : World} {X : Nat → Prop} {r x : Nat} {A B : Ab}
end
end
section
theorem Mx.trans {w0 a b c : World} {X : Nat → Prop} (h : Mx w0 X a b) (k : Mx w0 X b c) : Mx w0 X a c := Moved.trans h k (fun _ hj => .inl hj)
theorem Mx.refl (w0 : World) (X : Nat → Prop) (a : World) : Mx w0 X a a := Moved.refl _ _
theorem Mx.of {w0 a b : World} {X : Nat → Prop} (h : Below a.heap.size a b) : Mx w0 X a b := Moved.of_below h _
end
section
end
end Go.Proofs.YtbkokckpjmbjhaaDoor
namespace Go.Proofs.YtbkokckpjmbjhaaDoor
open Go.RowKit Go.Maps
set_option maxRecDepth 100000
section
variable {P : Program} {t k e : TypeId} {w : World} {b n : Nat} {f : Int → Option ByteArray}
theorem owns_fit {D : DataW Unit} {N : Nat} {R : Value → Option (DataW Unit × List MemPlace)} (h : w.ownsMap P k R b N D) : w.ownsMap P k R b (Maps.size D) D := by
  obtain ⟨es, clock, hb, F, hs, rfl⟩ := h
  refine ⟨es, clock, hb, F, ?_, rfl⟩
  rw [Maps.size_eq, length_read]
  exact Nat.le_refl _
theorem turned_moved {w' : World} (h : w.mapTurned w' b) : Moved (· = b) w w' := by
  have g := h.grown
  exact ⟨g.os, g.tape, g.output, g.size, fun j hj hn => g.block j hj (fun e => hn (by simpa using e))⟩
theorem lit_ne {i j : Int} (h : j ≠ i) : (Lit.int .i64 j) ≠ (Lit.int .i64 i) := by
  intro e
  cases e
  exact h rfl
end
end Go.Proofs.YtbkokckpjmbjhaaDoor
namespace Go.Proofs.YtbkokckpjmbjhaaDoor
open Go.RowKit Go.Maps
set_option maxRecDepth 100000
/-- A page as a value. -/
def pg (l : List UInt8) : Value := .agg (vbs l).toArray
theorem vbs_all (l : List UInt8) : (vbs l).toArray.all (·.oneCell') = true := by
  rw [Array.all_eq_true_iff_forall_mem]
  intro v hv
  exact vbs_oneCell l v (by simpa using hv)
/-- b, cut or with noughts behind, as a page. -/
def pageOf (l : List UInt8) : List UInt8 := page (l.take 504)
theorem pageOf_length (l : List UInt8) : (pageOf l).length = 504 := by
  unfold pageOf page
  rw [List.length_append, List.length_take, zeros_length]
  omega
theorem pageOf_short {l : List UInt8} (h : l.length ≤ 504) : pageOf l = page l := by unfold pageOf; rw [List.take_of_length_le h]
/-- copy(p[:], b), p a new page. -/
theorem wpList_copy_page {w : World} {ops : Array Oper} {rest : List Oper} {o : Oper} {a : Act} {Q : Exit → Act → World → Prop} (hgd : o.guard = none) (d x : Operand)
    (ho : o.op = .call { callee := .builtin .copy, args := #[d, x], argTypes := #[60, 60] }) (g : Nat) (t : TypeId) (v : Value) (l : List UInt8)
    (hd : a.eval d = .slice (some ⟨g, 0, none⟩) 504 504) (hx : a.eval x = v) (hb : Bs w v l) (hg : Blk w g (vbs (zeros 504)).toArray t)
    (h : ∀ n w', Blk w' g (vbs (pageOf l)).toArray t → w.grownBy w' (some g) → wpList Tryd.prog ops Q rest (a.put o.dst (goInt n)) w') : wpList Tryd.prog ops Q (o :: rest) a w := by
  have hsz : (Tryd.prog.info? 5).map (·.size) = some 1 := by kernel_rfl
  obtain ⟨ao, cap, rfl, h1, h2, h3, h4⟩ := hb
  by_cases h0 : l.length = 0
  · obtain rfl : l = [] := List.eq_nil_of_length_eq_zero h0
    refine wpList_copy_nothing hgd d x _ _ ho 5 Tryd.underlying60 hsz _ _ _ _ _ _ hd hx (by simp) ?_
    exact h 0 w hg (World.grownBy.refl _ _)
  · cases ao with
    | none => have := h3 rfl; omega
    | some ad =>
      have hml : (l.take 504).length = min l.length 504 := by rw [List.length_take]; omega
      refine wpList_copy_own hgd d x _ _ ho 5 Tryd.underlying60 hsz g 0 504 504 ad l.length cap hd hx _ t hg (vbs (l.take 504)) (by rw [vbs_length]; exact hml) (fun j u hu => h4 ad rfl j u ?_) (by rw [vbs_length, List.size_toArray, vbs_length, zeros_length, hml]; omega) (vbs_oneCell _) ?_
      · unfold vbs at hu ⊢
        rw [List.map_take, List.getElem?_take] at hu
        split at hu
        · exact hu
        · cases hu
      · have e : splice (vbs (zeros 504)) 0 (vbs (l.take 504)) = vbs (pageOf l) := by
          unfold splice pageOf page
          rw [List.take_zero, List.nil_append, Nat.zero_add, vbs_length, vbs_append]
          congr 1
          unfold vbs
          rw [← List.map_drop, zeros_drop]
        unfold splice at e
        rw [e, vbs_length]
        exact h _ _ (setRow_heap w g _ _ _ _ hg) ⟨rfl, rfl, rfl, by simp [World.setRow], fun k _ hk => setRow_other w g k _ (fun e => hk (by simp [e]))⟩
end Go.Proofs.YtbkokckpjmbjhaaDoor
namespace Go.Proofs.YtbkokckpjmbjhaaDoor
open Go.RowKit Go.Maps
set_option maxRecDepth 100000
def unvb : Value → Option UInt8
  | .int .u8 z => if 0 ≤ z ∧ z < 256 then some (UInt8.ofNat z.toNat) else none
  | _ => none
def unvbs : List Value → Option (List UInt8)
  | [] => some []
  | v :: r => match unvb v, unvbs r with
    | some c, some l => some (c :: l)
    | _, _ => none
def unpg : Value → Option (List UInt8)
  | .agg a => unvbs a.toList
  | _ => none
theorem unvb_vb (c : UInt8) : unvb (vb c) = some c := by
  have h : c.toNat < 256 := c.toNat_lt
  simp [unvb, vb]
  omega
theorem unvbs_vbs : ∀ l : List UInt8, unvbs (vbs l) = some l
  | [] => rfl
  | c :: l => by
    have ih := unvbs_vbs l
    show (match unvb (vb c), unvbs (vbs l) with | some c, some l => some (c :: l) | _, _ => none) = _
    rw [unvb_vb, ih]
theorem unvb_inv {v : Value} {c : UInt8} (h : unvb v = some c) : v = vb c := by
  unfold unvb at h
  split at h
  · rename_i z
    split at h
    · rename_i hz
      cases h
      unfold vb
      congr 1
      have : (UInt8.ofNat z.toNat).toNat = z.toNat := by rw [UInt8.toNat_ofNat']; omega
      rw [this]
      omega
    · cases h
  · cases h
theorem unvbs_inv : ∀ {vs : List Value} {l : List UInt8}, unvbs vs = some l → vs = vbs l
  | [], l, h => by cases h; rfl
  | v :: r, l, h => by
    unfold unvbs at h
    split at h
    · rename_i c m h1 h2
      cases h
      rw [unvb_inv h1, unvbs_inv h2]
      rfl
    · cases h
theorem unpg_pg (l : List UInt8) : unpg (pg l) = some l := unvbs_vbs l
theorem unpg_inv {v : Value} {l : List UInt8} (h : unpg v = some l) : v = pg l := by
  unfold unpg at h
  split at h
  · rename_i a
    unfold pg
    rw [← unvbs_inv h]
  · cases h
/-- How a page reads as an element of a map. -/
def pgR (v : Value) : Option (DataW Unit × List MemPlace) := (unpg v).map fun l => (.lit (.string l), [])
theorem pgR_pg (l : List UInt8) : pgR (pg l) = some (.lit (.string l), []) := by unfold pgR; rw [unpg_pg]; rfl
theorem pgR_inv {v : Value} {x : DataW Unit × List MemPlace} (h : pgR v = some x) : ∃ l, v = pg l ∧ x = (.lit (.string l), []) := by
  unfold pgR at h
  cases hu : unpg v with
  | none => rw [hu] at h; cases h
  | some l => rw [hu] at h; cases h; exact ⟨l, unpg_inv hu, rfl⟩
/-- Block b of w is a map from int to pages that reads as f, with n entries. -/
def Pm (w : World) (b : Nat) (f : Int → Option (List UInt8)) (n : Nat) : Prop :=
  ∃ D : DataW Unit, w.ownsMap Tryd.prog 3 pgR b n D ∧ Maps.size D = n ∧ ∀ i : Int, (Lit.int .i64 i).wf = true → Maps.has D (.int .i64 i) = (f i).isSome ∧ ∀ s, f i = some s → ∀ z, D.atKey (.int .i64 i) z = .lit (.string s)
section
variable {w : World} {b n : Nat} {f : Int → Option (List UInt8)}
theorem und_pk : Tryd.prog.underlying 3 = some (.int .i64) := Tryd.underlying3
theorem Pm.lt (h : Pm w b f n) : b < w.heap.size := by
  obtain ⟨D, h1, -⟩ := h
  exact h1.lt
theorem Pm.made (w : World) : Pm (w.alloc (.map #[] 0)) w.heap.size (fun _ => none) 0 :=
  ⟨.map [], World.ownsMap_made w _ _ _, rfl, fun i _ => ⟨rfl, fun s hs => by cases hs⟩⟩
theorem Pm.moved {Q : Nat → Prop} {w' : World} (h : Pm w b f n) (hm : Moved Q w w') (hQ : ¬ Q b) : Pm w' b f n := by
  obtain ⟨D, ⟨es, clock, hb, F, hs, rfl⟩, h2⟩ := h
  refine ⟨_, ⟨es, clock, ?_, F, hs, rfl⟩, h2⟩
  have hlt : b < w.heap.size := (Array.getElem?_eq_some_iff.1 hb).1
  exact (hm.block b hlt hQ).trans hb
end
end Go.Proofs.YtbkokckpjmbjhaaDoor
namespace Go.Proofs.YtbkokckpjmbjhaaDoor
open Go.RowKit Go.Maps
set_option maxRecDepth 100000
def ints (L : List Int) : List Value := L.map (Value.int .i64)
theorem ints_length (L : List Int) : (ints L).length = L.length := by simp [ints]
/-- The block g is a row of numbers (and what stands behind). -/
def IRow (w : World) (g : Nat) (L : List Int) : Prop := ∃ cur : Array Value, Blk w g cur 3 ∧ cur.toList.take L.length = ints L
theorem IRow.lt {w : World} {g : Nat} {L : List Int} (h : IRow w g L) : g < w.heap.size := by
  obtain ⟨cur, h1, -⟩ := h
  exact h1.lt
theorem IRow.cell {w : World} {g : Nat} {L : List Int} (h : IRow w g L) (j : Nat) (hj : j < L.length) : w.cell? ⟨g, j, none⟩ = some (.int .i64 L[j]) := by
  obtain ⟨cur, h1, h2⟩ := h
  rw [h1.cell, ← Array.getElem?_toList]
  have e : (cur.toList.take L.length)[j]? = cur.toList[j]? := by rw [List.getElem?_take, if_pos hj]
  rw [← e, h2]
  simp [ints, hj]
theorem IRow.frozen {w : World} {g : Nat} {L : List Int} (h : IRow w g L) (j : Nat) : w.frozen? ⟨g, j, none⟩ = false := by
  obtain ⟨cur, h1, -⟩ := h
  exact h1.frozen j
theorem IRow.set {w : World} {g : Nat} {L : List Int} (h : IRow w g L) (j : Nat) (b : Int) : IRow (w.setCell ⟨g, j, none⟩ (.int .i64 b)) g (L.set j b) := by
  obtain ⟨cur, h1, h2⟩ := h
  refine ⟨_, h1.set j (.int .i64 b), ?_⟩
  rw [List.length_set, Array.toList_setIfInBounds, List.take_set, h2]
  simp [ints, List.map_set]
theorem IRow.moved {P : Nat → Prop} {w w' : World} {g : Nat} {L : List Int} (h : IRow w g L) (hm : Moved P w w') (hP : ¬ P g) : IRow w' g L := by
  obtain ⟨cur, h1, h2⟩ := h
  exact ⟨cur, h1.moved hm hP, h2⟩
/-- A state of the pages but for their bytes. -/
structure Stt where
  root : Int
  next : List Int
/-- A transaction: as it was at Begin, what was put, of how many pages. -/
structure Tx where
  was : Stt
  f : Int → Option (List UInt8)
  n : Nat
structure TxAt (w : World) (Q : Nat → Prop) (p gn : Nat) (t : Tx) (gw cw b : Nat) : Prop where
  row : IRow w gw t.was.next
  cap : t.was.next.length ≤ cw
  max : cw ≤ maxLen
  map : Pm w b t.f t.n
  qw : Q gw
  qb : Q b
  w1 : gw ≠ p
  w2 : gw ≠ gn
  b1 : b ≠ p
  b2 : b ≠ gn
  b3 : b ≠ gw
theorem TxAt.moved {P Q : Nat → Prop} {w w' : World} {p gn gw cw b : Nat} {t : Tx} (h : TxAt w Q p gn t gw cw b) (hm : Moved P w w') (hP : ∀ k, Q k → ¬ P k) : TxAt w' Q p gn t gw cw b :=
  ⟨h.row.moved hm (hP _ h.qw), h.cap, h.max, h.map.moved hm (hP _ h.qb), h.qw, h.qb, h.w1, h.w2, h.b1, h.b2, h.b3⟩
theorem TxAt.mono {Q Q' : Nat → Prop} {w : World} {p gn gw cw b : Nat} {t : Tx} (h : TxAt w Q p gn t gw cw b) (hQ : ∀ k, Q k → Q' k) : TxAt w Q' p gn t gw cw b :=
  ⟨h.row, h.cap, h.max, h.map, hQ _ h.qw, hQ _ h.qb, h.w1, h.w2, h.b1, h.b2, h.b3⟩
/-- What 'absent' answers. -/
def absentOf (S : Stt) (i : Int) : Int := if 0 ≤ i ∧ i < S.next.length ∧ S.next.getD i.toNat 0 = 0 then 0 else 1
/-- What 'fault' answers. -/
def pfaultOf (S : Stt) (T : Option Tx) (i : Int) : Int := if T.isSome then absentOf S i else 12
end Go.Proofs.YtbkokckpjmbjhaaDoor
namespace Go.Proofs.YtbkokckpjmbjhaaDoor
open Go.RowKit Go.Maps
set_option maxRecDepth 100000
def wasOf (S : Stt) : Option Tx → Stt
  | none => S
  | some t => t.was
/-- What SetRoot answers. -/
def setRootOf (T : Option Tx) (i : Int) : Int := if T.isSome then (if 0 ≤ i then 0 else 1) else 12
end Go.Proofs.YtbkokckpjmbjhaaDoor
namespace Go.Proofs.YtbkokckpjmbjhaaDoor
open Go.RowKit Go.Maps
set_option maxRecDepth 100000
/-- What Put answers. -/
def putOf (S : Stt) (T : Option Tx) (i : Int) (l : List UInt8) : Int := if pfaultOf S T i ≠ 0 then pfaultOf S T i else if 504 < l.length then 5 else 0
def Tx.put (t : Tx) (i : Int) (l : List UInt8) : Tx := { t with f := fun j => if j = i then some l else t.f j, n := if (t.f i).isSome then t.n else t.n + 1 }
end Go.Proofs.YtbkokckpjmbjhaaDoor
