/- Gf -/
import Derived.Test.YtbpdapcmaioeiaaGreatKGe
import Derived.Maps.OwnSet
import Derived.Maps.StringElems
import Derived.Maps.Views
import Derived.Maps.Own
import Derived.Deep.WholeRow
namespace Go.Proofs.YtbpdapcmaioeiaaGreat
open Go.RowKit
set_option maxRecDepth 100000
section
end
section
end
section
section
variable {w0 w : World} {X : Nat → Prop} {r x : Nat} {A B : Ab}
end
end
section
theorem Mx.trans {w0 a b c : World} {X : Nat → Prop} (h : Mx w0 X a b) (k : Mx w0 X b c) : Mx w0 X a c := Moved.trans h k (fun _ hj => .inl hj)
theorem Mx.refl (w0 : World) (X : Nat → Prop) (a : World) : Mx w0 X a a := Moved.refl _ _
theorem Mx.of {w0 a b : World} {X : Nat → Prop} (h : Below a.heap.size a b) : Mx w0 X a b := Moved.of_below h _
end
section
end
end Go.Proofs.YtbpdapcmaioeiaaGreat
namespace Go.Proofs.YtbpdapcmaioeiaaGreat
open Go.RowKit Go.Maps
set_option maxRecDepth 100000
section
variable {P : Program} {t k e : TypeId} {w : World} {b n : Nat} {f : Int → Option ByteArray}
theorem owns_fit {D : DataW Unit} {N : Nat} {R : Value → Option (DataW Unit × List MemPlace)} (h : w.ownsMap P k R b N D) : w.ownsMap P k R b (Maps.size D) D := by
 obtain ⟨es, clock, hb, F, hs, rfl⟩ := h
 refine ⟨es, clock, hb, F, ?_, rfl⟩
 rw [Maps.size_eq, length_read]
 exact Nat.le_refl _
theorem turned_moved {w' : World} (h : w.mapTurned w' b) : Moved (· = b) w w' := by
 have g := h.grown
 exact ⟨g.os, g.tape, g.output, g.size, fun j hj hn => g.block j hj (fun e => hn (by simpa using e))⟩
theorem lit_ne {i j : Int} (h : j ≠ i) : (Lit.int .i64 j) ≠ (Lit.int .i64 i) := by
 intro e
 cases e
 exact h rfl
end
end Go.Proofs.YtbpdapcmaioeiaaGreat
namespace Go.Proofs.YtbpdapcmaioeiaaGreat
open Go.RowKit Go.Maps
set_option maxRecDepth 100000
/-- A page as a value. -/
def pg (l : List UInt8) : Value := .agg (vbs l).toArray
theorem Tryz.infoPg : (Tryz.prog.info? 126).map (fun i => (i.zero, i.size)) = some (some (.agg (vbs (zeros 504)).toArray), 504) := by kernel_rfl
theorem pg_zero (w : World) : (zeroValue 126).run Tryz.prog w = .ok (.agg (vbs (zeros 504)).toArray) w := (zero_of_info Tryz.infoPg).1 w
theorem pg_size {l : List UInt8} (h : l.length = 504) : (Tryz.prog.info? 126).map (·.size) = some (vbs l).toArray.size := by
 rw [(zero_of_info Tryz.infoPg).2, List.size_toArray, vbs_length, h]
theorem vbs_all (l : List UInt8) : (vbs l).toArray.all (·.oneCell') = true := by
 rw [Array.all_eq_true_iff_forall_mem]
 intro v hv
 exact vbs_oneCell l v (by simpa using hv)
/-- b, cut or with noughts behind, as a page. -/
def pageOf (l : List UInt8) : List UInt8 := page (l.take 504)
theorem pageOf_length (l : List UInt8) : (pageOf l).length = 504 := by
 unfold pageOf page
 rw [List.length_append, List.length_take, zeros_length]
 omega
theorem pageOf_short {l : List UInt8} (h : l.length ≤ 504) : pageOf l = page l := by unfold pageOf; rw [List.take_of_length_le h]
/-- 'x' out of a variable of a page. -/
theorem wpList_pload {ops : Array Oper} {rest : List Oper} {o : Oper} {a : Act} {w : World} {Q : Exit → Act → World → Prop} (hgd : o.guard = none) (x : Operand) (ho : o.op = .load 126 x)
 (g : Nat) (hx : a.eval x = .pointer (some ⟨g, 0, none⟩)) (t : TypeId) (l : List UInt8) (hg : Blk w g (vbs l).toArray t) (hl : l.length = 504)
 (h : wpList Tryz.prog ops Q rest (a.put o.dst (pg l)) w) : wpList Tryz.prog ops Q (o :: rest) a w :=
 wpList_load_row hgd _ x ho g hx t _ (0, 0) _ hg Tryz.underlying126 rfl (pg_size hl) h
/-- 'x = y' into a variable of a page. -/
theorem wpList_pstore {ops : Array Oper} {rest : List Oper} {o : Oper} {a : Act} {w : World} {Q : Exit → Act → World → Prop} (hgd : o.guard = none) (x y : Operand) (ho : o.op = .store 126 x y)
 (g : Nat) (l m : List UInt8) (hx : a.eval x = .pointer (some ⟨g, 0, none⟩)) (hy : a.eval y = pg l) (t : TypeId) (hg : Blk w g (vbs m).toArray t) (hm : m.length = 504) (hl : l.length = 504)
 (h : ∀ w', Blk w' g (vbs l).toArray t → w.grownBy w' (some g) → wpList Tryz.prog ops Q rest (a.put o.dst undef) w') : wpList Tryz.prog ops Q (o :: rest) a w :=
 wpList_store_row hgd _ x y ho g _ hx hy t _ hg (pg_size hl) (by simp [vbs_length, hm, hl]) (vbs_all l)
  (h _ (setRow_heap w g _ _ _ _ hg) ⟨rfl, rfl, rfl, by simp [World.setRow], fun k _ hk => setRow_other w g k _ (fun e => hk (by simp [e]))⟩)
/-- copy(p[:], b), p a new page. -/
theorem wpList_copy_page {w : World} {ops : Array Oper} {rest : List Oper} {o : Oper} {a : Act} {Q : Exit → Act → World → Prop} (hgd : o.guard = none) (d x : Operand)
 (ho : o.op = .call { callee := .builtin .copy, args := #[d, x], argTypes := #[131, 131] }) (g : Nat) (t : TypeId) (v : Value) (l : List UInt8)
 (hd : a.eval d = .slice (some ⟨g, 0, none⟩) 504 504) (hx : a.eval x = v) (hb : Bs w v l) (hg : Blk w g (vbs (zeros 504)).toArray t)
 (h : ∀ n w', Blk w' g (vbs (pageOf l)).toArray t → w.grownBy w' (some g) → wpList Tryz.prog ops Q rest (a.put o.dst (goInt n)) w') : wpList Tryz.prog ops Q (o :: rest) a w := by
 have hsz : (Tryz.prog.info? 5).map (·.size) = some 1 := by kernel_rfl
 obtain ⟨ao, cap, rfl, h1, h2, h3, h4⟩ := hb
 by_cases h0 : l.length = 0
 ·obtain rfl : l = [] := List.eq_nil_of_length_eq_zero h0
  refine wpList_copy_nothing hgd d x _ _ ho 5 Tryz.underlying131 hsz _ _ _ _ _ _ hd hx (by simp) ?_
  exact h 0 w hg (World.grownBy.refl _ _)
 ·cases ao with
  | none => have := h3 rfl; omega
  | some ad =>
   have hml : (l.take 504).length = min l.length 504 := by rw [List.length_take]; omega
   refine wpList_copy_own hgd d x _ _ ho 5 Tryz.underlying131 hsz g 0 504 504 ad l.length cap hd hx _ t hg (vbs (l.take 504)) (by rw [vbs_length]; exact hml) (fun j u hu => h4 ad rfl j u ?_) (by rw [vbs_length, List.size_toArray, vbs_length, zeros_length, hml]; omega) (vbs_oneCell _) ?_
   ·unfold vbs at hu ⊢
    rw [List.map_take, List.getElem?_take] at hu
    split at hu
    ·exact hu
    ·cases hu
   ·have e : splice (vbs (zeros 504)) 0 (vbs (l.take 504)) = vbs (pageOf l) := by
     unfold splice pageOf page
     rw [List.take_zero, List.nil_append, Nat.zero_add, vbs_length, vbs_append]
     congr 1
     unfold vbs
     rw [← List.map_drop, zeros_drop]
    unfold splice at e
    rw [e, vbs_length]
    exact h _ _ (setRow_heap w g _ _ _ _ hg) ⟨rfl, rfl, rfl, by simp [World.setRow], fun k _ hk => setRow_other w g k _ (fun e => hk (by simp [e]))⟩
theorem pg_results {fn : Func} {p : Tmp} (h : fn.results = #[.cell p 126]) (tmps : Array Value) (w : World) (g : Nat) (t : TypeId) (l : List UInt8)
 (hp : tmps.getD p undef = .pointer (some ⟨g, 0, none⟩)) (hg : Blk w g (vbs l).toArray t) (hl : l.length = 504) : (results fn tmps).run Tryz.prog w = .ok (pg l) w :=
 results_cell_row h tmps w g t _ (0, 0) _ hp hg Tryz.underlying126 rfl (pg_size hl)
theorem paged_any (v : Value) (l : List UInt8) (w : World) (hb : Bs w v l) :
 Calls Tryz.prog 107 #[v] w fun e w' => e = .returned (pg (pageOf l)) ∧ Below w.heap.size w w' := by
 have hz := pg_zero
 have hpl := pageOf_length l
 obtain ⟨Z, hZ⟩ : ∃ Z, Z = (vbs (zeros 504)).toArray := ⟨_, rfl⟩
 rw [← hZ] at hz
 obtain ⟨o, ho⟩ : ∃ o : Obj, o = .cells Z 126 := ⟨_, rfl⟩
 have hal1 : Below w.heap.size w (w.alloc o) := (Below.refl _ w).alloc (Nat.le_refl _) o
 have hal : Below w.heap.size w ((w.alloc o).alloc o) := hal1.alloc hal1.size o
 have hbs : Bs ((w.alloc o).alloc o) v l := hb.below hal
 have h1 : Blk ((w.alloc o).alloc o) (w.heap.size + 1) (vbs (zeros 504)).toArray 126 := by
  rw [ho, hZ]; exact heap_alloc2_new w _ _
 have h2 : Blk ((w.alloc o).alloc o) w.heap.size (vbs (zeros 504)).toArray 126 := by
  rw [ho, hZ]; exact heap_alloc2_old w _ _
 have HB := Lib.hid hbs
 have H1 := Lib.hid h1
 have H2 := Lib.hid h2
 have HA := Lib.hid hal
 subst ho
 clear hb hbs h1 h2 hal hal1 hZ
 go_enter Tryz.func107, Tryz.ntmps107
 go_wp2_with (first
  | (with_reducible refine wpList_copy_page rfl _ _ rfl _ 126 v l rfl rfl HB.out H1.out ?_; intro n w2 hb2 hg2)
  | (with_reducible refine wpList_pload rfl _ rfl _ rfl 126 (pageOf l) hb2 hpl ?_)
  | (with_reducible refine wpList_pstore rfl _ _ rfl w.heap.size (pageOf l) (zeros 504) rfl rfl 126 ?_ (zeros_length _) hpl ?_) | fail)
 ·exact grown_keep hg2 H2.out (fun e => by have := Option.some.inj e; omega)
 intro w3 hb3 hg3
 go_wp2_with fail
 refine bodyPost_ret (pg_results rfl _ _ w.heap.size 126 (pageOf l) rfl hb3 hpl) rfl ?_
 exact ⟨rfl, (HA.out.grown hg2 HA.out.size (fun q hq => by have := Option.some.inj hq; omega)).grown hg3 (Nat.le_trans HA.out.size hg2.size) (fun q hq => by have := Option.some.inj hq; omega)⟩
end Go.Proofs.YtbpdapcmaioeiaaGreat
namespace Go.Proofs.YtbpdapcmaioeiaaGreat
open Go.RowKit Go.Maps
set_option maxRecDepth 100000
def unvb : Value → Option UInt8
 | .int .u8 z => if 0 ≤ z ∧ z < 256 then some (UInt8.ofNat z.toNat) else none
 | _ => none
def unvbs : List Value → Option (List UInt8)
 | [] => some []
 | v :: r => match unvb v, unvbs r with
  | some c, some l => some (c :: l)
  | _, _ => none
def unpg : Value → Option (List UInt8)
 | .agg a => unvbs a.toList
 | _ => none
theorem unvb_vb (c : UInt8) : unvb (vb c) = some c := by
 have h : c.toNat < 256 := c.toNat_lt
 simp [unvb, vb]
 omega
theorem unvbs_vbs : ∀ l : List UInt8, unvbs (vbs l) = some l
 | [] => rfl
 | c :: l => by
  have ih := unvbs_vbs l
  show (match unvb (vb c), unvbs (vbs l) with | some c, some l => some (c :: l) | _, _ => none) = _
  rw [unvb_vb, ih]
theorem unvb_inv {v : Value} {c : UInt8} (h : unvb v = some c) : v = vb c := by
 unfold unvb at h
 split at h
 ·rename_i z
  split at h
  ·rename_i hz
   cases h
   unfold vb
   congr 1
   have : (UInt8.ofNat z.toNat).toNat = z.toNat := by rw [UInt8.toNat_ofNat']; omega
   rw [this]
   omega
  ·cases h
 ·cases h
theorem unvbs_inv : ∀ {vs : List Value} {l : List UInt8}, unvbs vs = some l → vs = vbs l
 | [], l, h => by cases h; rfl
 | v :: r, l, h => by
  unfold unvbs at h
  split at h
  ·rename_i c m h1 h2
   cases h
   rw [unvb_inv h1, unvbs_inv h2]
   rfl
  ·cases h
theorem unpg_pg (l : List UInt8) : unpg (pg l) = some l := unvbs_vbs l
theorem unpg_inv {v : Value} {l : List UInt8} (h : unpg v = some l) : v = pg l := by
 unfold unpg at h
 split at h
 ·rename_i a
  unfold pg
  rw [← unvbs_inv h]
 ·cases h
/-- How a page reads as an element of a map. -/
def pgR (v : Value) : Option (DataW Unit × List MemPlace) := (unpg v).map fun l => (.lit (.string l), [])
theorem pgR_pg (l : List UInt8) : pgR (pg l) = some (.lit (.string l), []) := by unfold pgR; rw [unpg_pg]; rfl
theorem pgR_inv {v : Value} {x : DataW Unit × List MemPlace} (h : pgR v = some x) : ∃ l, v = pg l ∧ x = (.lit (.string l), []) := by
 unfold pgR at h
 cases hu : unpg v with
 | none => rw [hu] at h; cases h
 | some l => rw [hu] at h; cases h; exact ⟨l, unpg_inv hu, rfl⟩
/-- Block b of w is a map from int to pages that reads as f, with n entries. -/
def Pm (w : World) (b : Nat) (f : Int → Option (List UInt8)) (n : Nat) : Prop :=
 ∃ D : DataW Unit, w.ownsMap Tryz.prog 3 pgR b n D ∧ Maps.size D = n ∧ ∀ i : Int, (Lit.int .i64 i).wf = true → Maps.has D (.int .i64 i) = (f i).isSome ∧ ∀ s, f i = some s → ∀ z, D.atKey (.int .i64 i) z = .lit (.string s)
section
variable {w : World} {b n : Nat} {f : Int → Option (List UInt8)}
theorem und_pk : Tryz.prog.underlying 3 = some (.int .i64) := Tryz.underlying3
theorem und_pm : Tryz.prog.underlying 82 = some (.map 3 126) := Tryz.underlying82
theorem Pm.lt (h : Pm w b f n) : b < w.heap.size := by
 obtain ⟨D, h1, -⟩ := h
 exact h1.lt
theorem Pm.made (w : World) : Pm (w.alloc (.map #[] 0)) w.heap.size (fun _ => none) 0 :=
 ⟨.map [], World.ownsMap_made w _ _ _, rfl, fun i _ => ⟨rfl, fun s hs => by cases hs⟩⟩
theorem Pm.moved {Q : Nat → Prop} {w' : World} (h : Pm w b f n) (hm : Moved Q w w') (hQ : ¬ Q b) : Pm w' b f n := by
 obtain ⟨D, ⟨es, clock, hb, F, hs, rfl⟩, h2⟩ := h
 refine ⟨_, ⟨es, clock, ?_, F, hs, rfl⟩, h2⟩
 have hlt : b < w.heap.size := (Array.getElem?_eq_some_iff.1 hb).1
 exact (hm.block b hlt hQ).trans hb
/-- 'x, is := m[i]'. -/
theorem Pm.look (h : Pm w b f n) {i : Int} (hi : (Lit.int .i64 i).wf = true) :
 (Instr.lookup 82 (.map (some b)) (.int .i64 i) true).run Tryz.prog w = .ok (.tuple #[pg ((f i).getD (zeros 504)), .bool (f i).isSome]) w := by
 obtain ⟨D, h1, h2, h3⟩ := h
 obtain ⟨q1, q2⟩ := h3 i hi
 obtain ⟨v, ps, hr, hv⟩ := h1.look_ok (int_keyed und_pk) und_pm (pg_zero w) (pgR_pg (zeros 504)) (keyOf_int_mk und_pk hi)
 obtain ⟨s, rfl, hs⟩ := pgR_inv hv
 rw [hr, q1]
 have e1 : s = (f i).getD (zeros 504) := by
  simp only [Prod.mk.injEq] at hs
  cases hf : f i with
  | none =>
   rw [hf] at q1
   rw [Maps.atKey_of_not_has (by simpa using q1)] at hs
   have h4 := hs.1
   simp only [DataW.lit.injEq, Lit.string.injEq] at h4
   exact h4.symm
  | some x =>
   rw [q2 x hf] at hs
   have h4 := hs.1
   simp only [DataW.lit.injEq, Lit.string.injEq] at h4
   exact h4.symm
 rw [e1]
/-- 'm[i] = s'. -/
theorem Pm.store (h : Pm w b f n) {i : Int} (hi : (Lit.int .i64 i).wf = true) (s : List UInt8) (hn : n < maxLen) :
 ∃ w', (Instr.mapUpdate 82 (.map (some b)) (.int .i64 i) (pg s)).run Tryz.prog w = .ok () w' ∧ Pm w' b (fun j => if j = i then some s else f j) (if (f i).isSome then n else n + 1) ∧ Moved (· = b) w w' := by
 obtain ⟨D, h1, h2, h3⟩ := h
 have hkl : WideAt.IsKeyLit (Lit.int .i64 i) := by trivial
 obtain ⟨w', r1, r2, r3⟩ := h1.store (int_keyed und_pk) und_pm hn (keyOf_int_mk und_pk hi) (pgR_pg s)
 refine ⟨w', r1, ⟨D.put (.int .i64 i) (.lit (.string s)), ?_, ?_, fun j hj => ?_⟩, turned_moved r3⟩
 ·have := owns_fit r2
  rw [Maps.size_put (h1.tidy (int_keyed und_pk)), (h3 i hi).1, h2] at this
  exact this
 ·rw [Maps.size_put (h1.tidy (int_keyed und_pk)), (h3 i hi).1, h2]
 ·by_cases hji : j = i
  ·subst hji
   simp only [if_true]
   refine ⟨Maps.has_put_same h1.isMap hkl _, fun x hx z => ?_⟩
   cases hx
   exact Maps.atKey_put_same h1.isMap hkl _ z
  ·simp only [if_neg hji]
   refine ⟨(Maps.has_put_other (lit_ne hji) _).trans (h3 j hj).1, fun x hx z => ?_⟩
   exact (Maps.atKey_put_other (lit_ne hji) _ z).trans ((h3 j hj).2 x hx z)
/-- 'delete(m, i)'. -/
theorem Pm.drop (h : Pm w b f n) {i : Int} (hi : (Lit.int .i64 i).wf = true) (ty : TypeId) :
 ∃ w', (Builtin.delete_ #[82, 3] ty #[.map (some b), .int .i64 i]).run Tryz.prog w = .ok (.tuple #[]) w' ∧ Pm w' b (fun j => if j = i then none else f j) (if (f i).isSome then n - 1 else n) ∧ Moved (· = b) w w' := by
 obtain ⟨D, h1, h2, h3⟩ := h
 obtain ⟨w', r1, r2, r3⟩ := h1.drop (int_keyed und_pk) und_pm (keyOf_int_mk und_pk hi) ty
 have hsz : Maps.size (D.del (.int .i64 i)) = if (f i).isSome then n - 1 else n := by
  have := Maps.size_del (k := .int .i64 i) (h1.tidy (int_keyed und_pk))
  rw [(h3 i hi).1, h2] at this
  split <;> simp_all <;> omega
 refine ⟨w', r1, ⟨D.del (.int .i64 i), ?_, hsz, fun j hj => ?_⟩, turned_moved r3⟩
 ·have := owns_fit r2
  rwa [hsz] at this
 ·by_cases hji : j = i
  ·subst hji
   simp only [if_true]
   exact ⟨Maps.has_del_same, fun x hx => by cases hx⟩
  ·simp only [if_neg hji]
   refine ⟨(Maps.has_del_other (lit_ne hji)).trans (h3 j hj).1, fun x hx z => ?_⟩
   exact (Maps.atKey_del_other (lit_ne hji) z).trans ((h3 j hj).2 x hx z)
end
end Go.Proofs.YtbpdapcmaioeiaaGreat
namespace Go.Proofs.YtbpdapcmaioeiaaGreat
open Go.RowKit Go.Maps
set_option maxRecDepth 100000
def ints (L : List Int) : List Value := L.map (Value.int .i64)
theorem ints_length (L : List Int) : (ints L).length = L.length := by simp [ints]
/-- The block g is a row of numbers (and what stands behind). -/
def IRow (w : World) (g : Nat) (L : List Int) : Prop := ∃ cur : Array Value, Blk w g cur 3 ∧ cur.toList.take L.length = ints L
theorem IRow.lt {w : World} {g : Nat} {L : List Int} (h : IRow w g L) : g < w.heap.size := by
 obtain ⟨cur, h1, -⟩ := h
 exact h1.lt
theorem IRow.cell {w : World} {g : Nat} {L : List Int} (h : IRow w g L) (j : Nat) (hj : j < L.length) : w.cell? ⟨g, j, none⟩ = some (.int .i64 L[j]) := by
 obtain ⟨cur, h1, h2⟩ := h
 rw [h1.cell, ← Array.getElem?_toList]
 have e : (cur.toList.take L.length)[j]? = cur.toList[j]? := by rw [List.getElem?_take, if_pos hj]
 rw [← e, h2]
 simp [ints, hj]
theorem IRow.frozen {w : World} {g : Nat} {L : List Int} (h : IRow w g L) (j : Nat) : w.frozen? ⟨g, j, none⟩ = false := by
 obtain ⟨cur, h1, -⟩ := h
 exact h1.frozen j
theorem IRow.set {w : World} {g : Nat} {L : List Int} (h : IRow w g L) (j : Nat) (b : Int) : IRow (w.setCell ⟨g, j, none⟩ (.int .i64 b)) g (L.set j b) := by
 obtain ⟨cur, h1, h2⟩ := h
 refine ⟨_, h1.set j (.int .i64 b), ?_⟩
 rw [List.length_set, Array.toList_setIfInBounds, List.take_set, h2]
 simp [ints, List.map_set]
theorem IRow.moved {P : Nat → Prop} {w w' : World} {g : Nat} {L : List Int} (h : IRow w g L) (hm : Moved P w w') (hP : ¬ P g) : IRow w' g L := by
 obtain ⟨cur, h1, h2⟩ := h
 exact ⟨cur, h1.moved hm hP, h2⟩
/-- A state of the pages but for their bytes. -/
structure Stt where
 root : Int
 next : List Int
/-- A transaction: as it was at Begin, what was put, of how many pages. -/
structure Tx where
 was : Stt
 f : Int → Option (List UInt8)
 n : Nat
structure PgAt (w : World) (Q : Nat → Prop) (r p gn cn : Nat) (S : Stt) (wr : Int) (vw mv : Value) : Prop where
 top : Blk w p #[.pointer (some ⟨r, 0, none⟩), .int .i64 S.root, .slice (some ⟨gn, 0, none⟩) S.next.length cn, .int .i64 wr, vw, mv] 84
 row : IRow w gn S.next
 cap : S.next.length ≤ cn
 max : cn ≤ maxLen
 qp : Q p
 qn : Q gn
 ne : gn ≠ p
structure TxAt (w : World) (Q : Nat → Prop) (p gn : Nat) (t : Tx) (gw cw b : Nat) : Prop where
 row : IRow w gw t.was.next
 cap : t.was.next.length ≤ cw
 max : cw ≤ maxLen
 map : Pm w b t.f t.n
 qw : Q gw
 qb : Q b
 w1 : gw ≠ p
 w2 : gw ≠ gn
 b1 : b ≠ p
 b2 : b ≠ gn
 b3 : b ≠ gw
/-- The pager at p, of the disk at r, has the state S, and T under way; its blocks are of Q. -/
def Pg (w : World) (Q : Nat → Prop) (r p : Nat) (S : Stt) : Option Tx → Prop
 | none => ∃ gn cn, PgAt w Q r p gn cn S 0 (.slice none 0 0) (.map none)
 | some t => ∃ gn cn gw cw b, PgAt w Q r p gn cn S t.was.root (.slice (some ⟨gw, 0, none⟩) t.was.next.length cw) (.map (some b)) ∧ TxAt w Q p gn t gw cw b
theorem PgAt.moved {P Q : Nat → Prop} {w w' : World} {r p gn cn : Nat} {S : Stt} {wr : Int} {vw mv : Value} (h : PgAt w Q r p gn cn S wr vw mv) (hm : Moved P w w') (hP : ∀ k, Q k → ¬ P k) : PgAt w' Q r p gn cn S wr vw mv :=
 ⟨h.top.moved hm (hP _ h.qp), h.row.moved hm (hP _ h.qn), h.cap, h.max, h.qp, h.qn, h.ne⟩
theorem TxAt.moved {P Q : Nat → Prop} {w w' : World} {p gn gw cw b : Nat} {t : Tx} (h : TxAt w Q p gn t gw cw b) (hm : Moved P w w') (hP : ∀ k, Q k → ¬ P k) : TxAt w' Q p gn t gw cw b :=
 ⟨h.row.moved hm (hP _ h.qw), h.cap, h.max, h.map.moved hm (hP _ h.qb), h.qw, h.qb, h.w1, h.w2, h.b1, h.b2, h.b3⟩
theorem Pg.moved {P Q : Nat → Prop} {w w' : World} {r p : Nat} {S : Stt} {T : Option Tx} (h : Pg w Q r p S T) (hm : Moved P w w') (hP : ∀ k, Q k → ¬ P k) : Pg w' Q r p S T := by
 cases T with
 | none => obtain ⟨gn, cn, h⟩ := h; exact ⟨gn, cn, h.moved hm hP⟩
 | some t => obtain ⟨gn, cn, gw, cw, b, h, k⟩ := h; exact ⟨gn, cn, gw, cw, b, h.moved hm hP, k.moved hm hP⟩
theorem Pg.below {Q : Nat → Prop} {w w' : World} {r p : Nat} {S : Stt} {T : Option Tx} (h : Pg w Q r p S T) (hb : Below w.heap.size w w') : Pg w' Q r p S T :=
 h.moved (Moved.of_below hb (fun _ => False)) (fun _ _ h => h)
theorem Pg.shrink {Q : Nat → Prop} {w : World} {r p : Nat} {S : Stt} {T : Option Tx} (h : Pg w Q r p S T) : Pg w (fun k => Q k ∧ k < w.heap.size) r p S T := by
 cases T with
 | none => obtain ⟨gn, cn, h⟩ := h; exact ⟨gn, cn, h.top, h.row, h.cap, h.max, ⟨h.qp, h.top.lt⟩, ⟨h.qn, h.row.lt⟩, h.ne⟩
 | some t =>
  obtain ⟨gn, cn, gw, cw, b, h, k⟩ := h
  exact ⟨gn, cn, gw, cw, b, ⟨h.top, h.row, h.cap, h.max, ⟨h.qp, h.top.lt⟩, ⟨h.qn, h.row.lt⟩, h.ne⟩, ⟨k.row, k.cap, k.max, k.map, ⟨k.qw, k.row.lt⟩, ⟨k.qb, k.map.lt⟩, k.w1, k.w2, k.b1, k.b2, k.b3⟩⟩
/-- From w to w' the pager at p came to be S, T: only its own blocks and new ones have turned. -/
def PgTo (w : World) (Q : Nat → Prop) (w' : World) (r p : Nat) (S : Stt) (T : Option Tx) : Prop := ∃ Q', Pg w' Q' r p S T ∧ Moved Q w w' ∧ ∀ k, Q' k → Q k ∨ w.heap.size ≤ k
theorem PgTo.refl {w : World} {Q : Nat → Prop} {r p : Nat} {S : Stt} {T : Option Tx} (h : Pg w Q r p S T) : PgTo w Q w r p S T := ⟨Q, h, Moved.refl _ _, fun _ h => .inl h⟩
/-- What every cell of the pager holds. -/
theorem Pg.cells {Q : Nat → Prop} {w : World} {r p : Nat} {S : Stt} {T : Option Tx} (h : Pg w Q r p S T) :
 ∃ gn cn wr vw mv, PgAt w Q r p gn cn S wr vw mv ∧ ((T = none ∧ mv = .map none) ∨ ∃ t b, T = some t ∧ mv = .map (some b) ∧ Pm w b t.f t.n) := by
 cases T with
 | none => obtain ⟨gn, cn, h⟩ := h; exact ⟨gn, cn, _, _, _, h, .inl ⟨rfl, rfl⟩⟩
 | some t => obtain ⟨gn, cn, gw, cw, b, h, k⟩ := h; exact ⟨gn, cn, _, _, _, h, .inr ⟨t, b, rfl, rfl, k.map⟩⟩
theorem PgAt.cells {Q : Nat → Prop} {w : World} {r p gn cn : Nat} {S : Stt} {wr : Int} {vw mv : Value} (h : PgAt w Q r p gn cn S wr vw mv) :
 w.cell? ⟨p, 0, none⟩ = some (.pointer (some ⟨r, 0, none⟩)) ∧ w.cell? ⟨p, 1, none⟩ = some (.int .i64 S.root) ∧ w.cell? ⟨p, 2, none⟩ = some (.slice (some ⟨gn, 0, none⟩) S.next.length cn) ∧ w.cell? ⟨p, 3, none⟩ = some (.int .i64 wr) ∧ w.cell? ⟨p, 4, none⟩ = some vw ∧ w.cell? ⟨p, 5, none⟩ = some mv :=
 ⟨by rw [h.top.cell]; rfl, by rw [h.top.cell]; rfl, by rw [h.top.cell]; rfl, by rw [h.top.cell]; rfl, by rw [h.top.cell]; rfl, by rw [h.top.cell]; rfl⟩
theorem eqlM (w : World) (r : Option Nat) : (binOp .eql 82 (.map r) (.map none)).run Tryz.prog w = .ok (.bool r.isNone) w := run_eql_map_nil w _ _ _ r Tryz.underlying82
theorem neqM (w : World) (r : Option Nat) : (binOp .neq 82 (.map r) (.map none)).run Tryz.prog w = .ok (.bool (!r.isNone)) w := run_neq_map_nil w _ _ _ r Tryz.underlying82
theorem closed_any {w : World} {Q : Nat → Prop} {r p : Nat} {S : Stt} {T : Option Tx} (h : Pg w Q r p S T) :
 Calls Tryz.prog 48 #[.pointer (some ⟨p, 0, none⟩)] w fun e w' => e = .returned (.int .i64 (if T.isSome then 0 else 12)) ∧ w' = w := by
 obtain ⟨gn, cn, wr, vw, mv, h, hT⟩ := h.cells
 obtain ⟨-, -, -, -, -, c5⟩ := h.cells
 clear h
 rcases hT with ⟨rfl, rfl⟩ | ⟨t, b, rfl, rfl, -⟩
 ·simp only [Option.isSome_none, Bool.false_eq_true, if_false]
  go_enter Tryz.func48, Tryz.ntmps48
  have hk := eqlM
  go_wp2_with fail
  go_ret
  exact ⟨rfl, rfl⟩
 ·simp only [Option.isSome_some, if_true]
  go_enter Tryz.func48, Tryz.ntmps48
  have hk := eqlM
  go_wp2_with fail
  go_ret
  exact ⟨rfl, rfl⟩
/-- What 'absent' answers. -/
def absentOf (S : Stt) (i : Int) : Int := if 0 ≤ i ∧ i < S.next.length ∧ S.next.getD i.toNat 0 = 0 then 0 else 1
theorem absent_any {w : World} {Q : Nat → Prop} {r p : Nat} {S : Stt} {T : Option Tx} (h : Pg w Q r p S T) (i : Int) :
 Calls Tryz.prog 152 #[.pointer (some ⟨p, 0, none⟩), .int .i64 i] w fun e w' => e = .returned (.int .i64 (absentOf S i)) ∧ w' = w := by
 obtain ⟨gn, cn, wr, vw, mv, h, -⟩ := h.cells
 obtain ⟨-, -, c2, -⟩ := h.cells
 obtain ⟨n, hn⟩ : ∃ n, n = S.next.length := ⟨_, rfl⟩
 have hmx := h.max
 unfold maxLen at hmx
 have hcp := h.cap
 by_cases h0 : i < 0
 ·have e : absentOf S i = 1 := if_neg (by omega)
  rw [e]
  rw [← hn] at c2
  clear h hn e
  go_enter Tryz.func152, Tryz.ntmps152
  go_wp2_with fail
  go_ret
  exact ⟨rfl, rfl⟩
 obtain ⟨k, rfl⟩ : ∃ k : Nat, i = k := ⟨i.toNat, by omega⟩
 by_cases h1 : S.next.length ≤ k
 ·have e : absentOf S k = 1 := if_neg (by omega)
  rw [e]
  rw [← hn] at c2 h1 hcp
  clear h hn e
  have h1' : ¬ (k : Int) < n := by omega
  go_enter Tryz.func152, Tryz.ntmps152
  go_wp2_with fail
  go_ret
  exact ⟨rfl, rfl⟩
 have hk : k < S.next.length := by omega
 have ck := h.row.cell k hk
 obtain ⟨x, hx⟩ : ∃ x, x = S.next[k] := ⟨_, rfl⟩
 rw [← hx] at ck
 have e : absentOf S k = if x = 0 then 0 else 1 := by
  unfold absentOf
  rw [hx]
  simp [List.getD, hk]
 rw [e]
 rw [← hn] at c2 h1 hcp hk
 clear h hn e hx h1
 have hk' : (k : Int) < n := by omega
 by_cases hx : x = 0
 ·rw [if_pos hx]
  have hx' : (x != 0) = false := by simp [hx]
  go_enter Tryz.func152, Tryz.ntmps152
  go_wp2_with fail
  go_ret
  exact ⟨rfl, rfl⟩
 ·rw [if_neg hx]
  have hx' : (x != 0) = true := by simp [hx]
  go_enter Tryz.func152, Tryz.ntmps152
  go_wp2_with fail
  go_ret
  exact ⟨rfl, rfl⟩
/-- What 'fault' answers. -/
def pfaultOf (S : Stt) (T : Option Tx) (i : Int) : Int := if T.isSome then absentOf S i else 12
theorem pfault_any {w : World} {Q : Nat → Prop} {r p : Nat} {S : Stt} {T : Option Tx} (h : Pg w Q r p S T) (i : Int) :
 Calls Tryz.prog 129 #[.pointer (some ⟨p, 0, none⟩), .int .i64 i] w fun e w' => e = .returned (.int .i64 (pfaultOf S T i)) ∧ w' = w := by
 have hc := closed_any h
 have ha := absent_any h i
 cases hT : T.isSome
 ·rw [hT] at hc
  have e : pfaultOf S T i = 12 := by unfold pfaultOf; rw [hT]; rfl
  rw [e]
  simp only [Bool.false_eq_true, if_false] at hc
  clear h e hT ha
  go_enter Tryz.func129, Tryz.ntmps129
  go_wp2_with (first | (refine hc.mono ?_; rintro e w' ⟨rfl, rfl⟩) | fail)
  go_ret
  exact ⟨rfl, rfl⟩
 ·rw [hT] at hc
  have e : pfaultOf S T i = absentOf S i := by unfold pfaultOf; rw [hT]; rfl
  rw [e]
  simp only [if_true] at hc
  obtain ⟨a, ha0⟩ : ∃ a, a = absentOf S i := ⟨_, rfl⟩
  rw [← ha0] at ha ⊢
  clear h e hT ha0
  go_enter Tryz.func129, Tryz.ntmps129
  go_wp2_with (first | (refine hc.mono ?_; rintro e w' ⟨rfl, rfl⟩) | (refine ha.mono ?_; rintro e w' ⟨rfl, rfl⟩) | fail)
  go_ret
  exact ⟨rfl, rfl⟩
end Go.Proofs.YtbpdapcmaioeiaaGreat
namespace Go.Proofs.YtbpdapcmaioeiaaGreat
open Go.RowKit Go.Maps
set_option maxRecDepth 100000
/-- What SetRoot answers. -/
def setRootOf (T : Option Tx) (i : Int) : Int := if T.isSome then (if 0 ≤ i then 0 else 1) else 12
theorem setroot_any {w : World} {Q : Nat → Prop} {r p : Nat} {S : Stt} {T : Option Tx} (h : Pg w Q r p S T) (i : Int) :
 Calls Tryz.prog 14 #[.pointer (some ⟨p, 0, none⟩), .int .i64 i] w fun e w' => e = .returned (.int .i64 (setRootOf T i)) ∧ PgTo w Q w' r p (if setRootOf T i = 0 then { S with root := i } else S) T := by
 have hc := closed_any h
 have H := Lib.hid (PgTo.refl h)
 cases T with
 | none =>
  have e : setRootOf none i = 12 := rfl
  rw [e, if_neg (by decide)]
  simp only [Option.isSome_none, Bool.false_eq_true, if_false] at hc
  clear h e
  go_enter Tryz.func14, Tryz.ntmps14
  go_wp2_with fail
  refine wp_scope_jumps 0 (fun a' w' => ∃ u0 u1 u2 u3 u4 u6 u7 u8 u9 u10 u11 u12 u13 u14 u15 u16 u17 : Value, a' = { tmps := #[u0, u1, u2, u3, u4, .int .i64 12, u6, u7, u8, u9, u10, u11, u12, u13, u14, u15, u16, u17], defers := [] } ∧ w' = w) (fun _ _ => 0) rfl ?_ ?_
  ·go_wp2_with (first | (refine hc.mono ?_; rintro e w' ⟨rfl, rfl⟩) | fail)
   go_step3
   exact ⟨rfl, ⟨_, _, _, _, _, _, _, _, _, _, _, _, _, _, _, _, _, rfl, rfl⟩⟩
  ·rintro a' w' ⟨u0, u1, u2, u3, u4, u6, u7, u8, u9, u10, u11, u12, u13, u14, u15, u16, u17, rfl, rfl⟩
   go_wp2
   simp only [Exit.jump]
   go_ret
   exact ⟨rfl, H.out⟩
 | some t =>
  by_cases hi : 0 ≤ i
  ·have e : setRootOf (some t) i = 0 := by unfold setRootOf; rw [if_pos hi]; rfl
   rw [e, if_pos rfl]
   simp only [Option.isSome_some, if_true] at hc
   obtain ⟨gn, cn, gw, cw, b, h, k⟩ := h
   have f1 := h.top.frozen 1
   obtain ⟨c0, c1, c2, c3, c4, c5⟩ := h.cells
   have hm : Moved Q w (w.setCell ⟨p, 1, none⟩ (.int .i64 i)) := (Moved.refl Q w).setCell ⟨p, 1, none⟩ _ (.inl h.qp)
   have hmp : Moved (· = p) w (w.setCell ⟨p, 1, none⟩ (.int .i64 i)) := (Moved.refl (· = p) w).setCell ⟨p, 1, none⟩ _ (.inl rfl)
   have H : Hid (PgTo w Q (w.setCell ⟨p, 1, none⟩ (.int .i64 i)) r p { S with root := i } (some t)) :=
    Lib.hid ⟨Q, ⟨gn, cn, gw, cw, b, ⟨h.top.set 1 _, h.row.moved hmp h.ne, h.cap, h.max, h.qp, h.qn, h.ne⟩, ⟨k.row.moved hmp k.w1, k.cap, k.max, k.map.moved hmp k.b1, k.qw, k.qb, k.w1, k.w2, k.b1, k.b2, k.b3⟩⟩, hm, fun _ h => .inl h⟩
   clear h k hm hmp e
   go_enter Tryz.func14, Tryz.ntmps14
   go_wp2_with fail
   go_step3
   go_wp2_with (first | (refine hc.mono ?_; rintro e w' ⟨rfl, rfl⟩) | fail)
   go_step3
   go_wp2
   rw [Exit.noGoto_ret]
   go_ret
   exact ⟨rfl, H.out⟩
  ·have e : setRootOf (some t) i = 1 := by unfold setRootOf; rw [if_neg hi]; rfl
   rw [e, if_neg (by decide)]
   simp only [Option.isSome_some, if_true] at hc
   clear h e
   go_enter Tryz.func14, Tryz.ntmps14
   go_wp2_with fail
   refine wp_scope_jumps 0 (fun a' w' => ∃ u0 u1 u2 u3 u4 u6 u7 u8 u9 u10 u11 u12 u13 u14 u15 u16 u17 : Value, a' = { tmps := #[u0, u1, u2, u3, u4, .int .i64 1, u6, u7, u8, u9, u10, u11, u12, u13, u14, u15, u16, u17], defers := [] } ∧ w' = w) (fun _ _ => 0) rfl ?_ ?_
   ·go_wp2_with (first | (refine hc.mono ?_; rintro e w' ⟨rfl, rfl⟩) | fail)
    go_step3
    exact ⟨rfl, ⟨_, _, _, _, _, _, _, _, _, _, _, _, _, _, _, _, _, rfl, rfl⟩⟩
   ·rintro a' w' ⟨u0, u1, u2, u3, u4, u6, u7, u8, u9, u10, u11, u12, u13, u14, u15, u16, u17, rfl, rfl⟩
    go_wp2
    simp only [Exit.jump]
    go_ret
    exact ⟨rfl, H.out⟩
end Go.Proofs.YtbpdapcmaioeiaaGreat
namespace Go.Proofs.YtbpdapcmaioeiaaGreat
open Go.RowKit Go.Maps
set_option maxRecDepth 100000
/-- What Put answers. -/
def putOf (S : Stt) (T : Option Tx) (i : Int) (l : List UInt8) : Int := if pfaultOf S T i ≠ 0 then pfaultOf S T i else if 504 < l.length then 5 else 0
def Tx.put (t : Tx) (i : Int) (l : List UInt8) : Tx := { t with f := fun j => if j = i then some l else t.f j, n := if (t.f i).isSome then t.n else t.n + 1 }
theorem put_bad {w : World} {Q : Nat → Prop} {r p : Nat} {S : Stt} {T : Option Tx} (h : Pg w Q r p S T) (i : Int) (v : Value) (l : List UInt8) (hv : Bs w v l) (hbad : putOf S T i l ≠ 0) :
 Calls Tryz.prog 113 #[.pointer (some ⟨p, 0, none⟩), .int .i64 i, v] w fun e w' => e = .returned (.int .i64 (putOf S T i l)) ∧ w' = w := by
 have hf := pfault_any h i
 by_cases h0 : pfaultOf S T i = 0
 ·have hlen : 504 < l.length := by
   by_cases h5 : 504 < l.length
   ·exact h5
   ·exact absurd (by unfold putOf; rw [if_neg (fun h => h h0), if_neg h5]) hbad
  have e : putOf S T i l = 5 := by unfold putOf; rw [if_neg (fun h => h h0), if_pos hlen]
  rw [e]
  rw [h0] at hf
  obtain ⟨ao, cap, rfl, hc1, hc2, -⟩ := hv
  obtain ⟨m, hm⟩ : ∃ m, m = l.length := ⟨_, rfl⟩
  rw [← hm] at hlen ⊢
  have hlen' : (504 : Int) < m := by omega
  clear h e hbad h0 hc1 hm
  go_enter Tryz.func113, Tryz.ntmps113
  go_wp2_with fail
  refine wp_scope_jumps 0 (fun a' w' => ∃ u0 u1 u2 u3 u4 u5 u6 u8 u9 u10 u11 u12 u13 u14 u15 u16 u17 u18 u19 u20 u21 u22 u23 : Value, a' = { tmps := #[u0, u1, u2, u3, u4, u5, u6, .int .i64 5, u8, u9, u10, u11, u12, u13, u14, u15, u16, u17, u18, u19, u20, u21, u22, u23], defers := [] } ∧ w' = w) (fun _ _ => 0) rfl ?_ ?_
  ·go_wp2_with (first | (refine hf.mono ?_; rintro e w' ⟨rfl, rfl⟩) | fail)
   go_step3
   exact ⟨rfl, ⟨_, _, _, _, _, _, _, _, _, _, _, _, _, _, _, _, _, _, _, _, _, _, _, rfl, rfl⟩⟩
  ·rintro a' w' ⟨u0, u1, u2, u3, u4, u5, u6, u8, u9, u10, u11, u12, u13, u14, u15, u16, u17, u18, u19, u20, u21, u22, u23, rfl, rfl⟩
   go_wp2
   simp only [Exit.jump]
   go_ret
   exact ⟨rfl, rfl⟩
 ·have e : putOf S T i l = pfaultOf S T i := by unfold putOf; rw [if_pos h0]
  rw [e]
  obtain ⟨f, hF⟩ : ∃ f, f = pfaultOf S T i := ⟨_, rfl⟩
  rw [← hF] at h0 hf ⊢
  have hb : (f != 0) = true := by simpa using h0
  clear h e hF hbad h0 hv
  go_enter Tryz.func113, Tryz.ntmps113
  go_wp2_with fail
  refine wp_scope_jumps 0 (fun a' w' => ∃ u0 u1 u2 u3 u4 u5 u6 u8 u9 u10 u11 u12 u13 u14 u15 u16 u17 u18 u19 u20 u21 u22 u23 : Value, a' = { tmps := #[u0, u1, u2, u3, u4, u5, u6, .int .i64 f, u8, u9, u10, u11, u12, u13, u14, u15, u16, u17, u18, u19, u20, u21, u22, u23], defers := [] } ∧ w' = w) (fun _ _ => 0) rfl ?_ ?_
  ·go_wp2_with (first | (refine hf.mono ?_; rintro e w' ⟨rfl, rfl⟩) | fail)
   go_step3
   exact ⟨rfl, ⟨_, _, _, _, _, _, _, _, _, _, _, _, _, _, _, _, _, _, _, _, _, _, _, rfl, rfl⟩⟩
  ·rintro a' w' ⟨u0, u1, u2, u3, u4, u5, u6, u8, u9, u10, u11, u12, u13, u14, u15, u16, u17, u18, u19, u20, u21, u22, u23, rfl, rfl⟩
   go_wp2
   simp only [Exit.jump]
   go_ret
   exact ⟨rfl, rfl⟩
theorem put_good {w : World} {Q : Nat → Prop} {r p : Nat} {S : Stt} {t : Tx} (h : Pg w Q r p S (some t)) (i : Int) (hi : (Lit.int .i64 i).wf = true) (v : Value) (l : List UInt8) (hv : Bs w v l) (hl : l.length ≤ 504) (h0 : absentOf S i = 0) (hn : t.n < 1000000) :
 Calls Tryz.prog 113 #[.pointer (some ⟨p, 0, none⟩), .int .i64 i, v] w fun e w' => e = .returned (.int .i64 0) ∧ PgTo w Q w' r p S (some (t.put i (page l))) := by
 have hf := pfault_any h i
 have e0 : pfaultOf S (some t) i = 0 := h0
 rw [e0] at hf
 have hp := paged_any v l w.drew hv
 rw [pageOf_short hl] at hp
 obtain ⟨ao, cap, rfl, hc1, hc2, -⟩ := hv
 obtain ⟨m, hm⟩ : ∃ m, m = l.length := ⟨_, rfl⟩
 rw [← hm] at hl hp ⊢
 have hl' : ¬ (504 : Int) < m := by omega
 obtain ⟨gn, cn, gw, cw, b, h, k⟩ := h
 have hpl := h.top.lt
 obtain ⟨-, -, -, -, -, c5⟩ := h.cells
 have HH := Lib.hid h
 have HK := Lib.hid k
 have HI := Lib.hid hi
 have HN := Lib.hid hn
 have HP := Lib.hid hp
 have HPL := Lib.hid hpl
 have HC5 := Lib.hid c5
 obtain ⟨R, hR⟩ : ∃ R, R = pg (page l) := ⟨_, rfl⟩
 rw [← hR] at HP
 have HR := Lib.hid hR
 clear h k hi hn hp hpl e0 h0 hc1 hm hl hR
 go_enter Tryz.func113, Tryz.ntmps113
 go_wp2_with fail
 go_step3
 go_wp2_with (first | (refine hf.mono ?_; rintro e w' ⟨rfl, he⟩; replace he := he.symm; subst he) | fail)
 refine wp_region_any (by kernel_rfl) ?_
 change wpAny _ _ _ _ _ _ _ (World.drew _)
 refine wpAny_of_held (S := fun (w' : World) => w'.cell? ⟨p, 5, none⟩ = some (.map (some b))) _ _ _ _ ?_
 have hS : (fun (w' : World) => w'.cell? ⟨p, 5, none⟩ = some (.map (some b))) _ := c5
 try simp only [Act.put, List.setIfInBounds_toArray, List.set_cons_zero, List.set_cons_succ]
 refine wpAnyH_take (i := 0) (oi := ⟨some 16, _, _, _, _, _⟩) (v := ?_) rfl (by kernel_rfl) (by kernel_rfl) (by kernel_rfl) (fun _ _ _ h => h) (Or.inl ⟨by simp only [Region.wanted], ?_⟩) hS ?_
 rotate_left
 ·intro wz hSw
  clear hSw
  go_simp
  first | done | with_reducible rfl
 try simp only [Act.put, List.setIfInBounds_toArray, List.set_cons_zero, List.set_cons_succ]
 refine wpAnyH_take (i := 1) (oi := ⟨some 17, _, _, _, _, _⟩) (v := ?_) rfl (by kernel_rfl) (by kernel_rfl) (by kernel_rfl) (fun _ _ _ h => h) (Or.inl ⟨by simp only [Region.wanted], ?_⟩) hS ?_
 rotate_left
 ·intro wz hSw
  clear hSw
  go_simp
  first | done | with_reducible rfl
 try simp only [Act.put, List.setIfInBounds_toArray, List.set_cons_zero, List.set_cons_succ]
 refine wpAnyH_take (i := 2) (oi := ⟨some 18, _, _, _, _, _⟩) (v := ?_) rfl (by kernel_rfl) (by kernel_rfl) (by kernel_rfl) (fun _ _ _ h => h) (Or.inl ⟨by simp only [Region.wanted], ?_⟩) hS ?_
 rotate_left
 ·intro wz hSw
  clear hSw
  go_simp
  first | done | with_reducible rfl
 try simp only [Act.put, List.setIfInBounds_toArray, List.set_cons_zero, List.set_cons_succ]
 refine wpAnyH_take (i := 3) (oi := ⟨some 19, _, _, _, _, _⟩) (v := ?_) rfl (by kernel_rfl) (by kernel_rfl) (by kernel_rfl) (fun _ _ _ h => h) (Or.inl ⟨by simp only [Region.wanted], ?_⟩) hS ?_
 rotate_left
 ·intro wz hSw
  (try dsimp only at hSw)
  (try go_split_ands)
  go_simp
  first | done | with_reducible rfl
 try simp only [Act.put, List.setIfInBounds_toArray, List.set_cons_zero, List.set_cons_succ]
 refine wpAnyH_take (i := 4) (oi := ⟨some 20, _, _, _, _, _⟩) (v := ?_) rfl (by kernel_rfl) (by kernel_rfl) (by kernel_rfl) (fun _ _ _ h => h) (Or.inl ⟨by simp only [Region.wanted], ?_⟩) hS ?_
 rotate_left
 ·intro wz hSw
  clear hSw
  go_simp
  first | done | with_reducible rfl
 try simp only [Act.put, List.setIfInBounds_toArray, List.set_cons_zero, List.set_cons_succ]
 refine wpAnyH_take (i := 5) (oi := ⟨some 21, _, _, _, _, _⟩) (v := ?_) rfl (by kernel_rfl) (by kernel_rfl) (by kernel_rfl) (fun _ _ _ h => h) (Or.inl ⟨by simp only [Region.wanted], ?_⟩) hS ?_
 rotate_left
 ·intro wz hSw
  clear hSw
  go_simp
  first | done | with_reducible rfl
 try simp only [Act.put, List.setIfInBounds_toArray, List.set_cons_zero, List.set_cons_succ]
 refine wpAnyH_ready (rs := [6]) (by kernel_rfl) (by simp) ?_
 refine AllReadyH.cons (o := ⟨some 22, _, _, _, _, _⟩) rfl (fun K hK => ?_) AllReadyH.nil
 go_simp
 refine HP.out.mono ?_
 rintro e w1 ⟨rfl, hb1⟩
 have HB1 := Lib.hid hb1
 go_simp
 refine hK.out _ _ ((World.cell?_of_block (a := ⟨p, 5, none⟩) (HB1.out.block p HPL.out)).trans HC5.out) (fun hS => ?_)
 clear hK K
 try simp only [Act.put, List.setIfInBounds_toArray, List.set_cons_zero, List.set_cons_succ]
 have hmv : Moved (fun _ => False) w w1 := (Moved.refl _ w).drew.trans (Moved.of_below HB1.out (fun _ => False)) (fun _ h => False.elim h)
 obtain ⟨w2, hup, him, htu⟩ := (HK.out.map.moved hmv (fun h => h)).store HI.out (page l) (by have := HN.out; simp [maxLen]; omega)
 rw [← HR.out] at hup
 have HIM := Lib.hid him
 have HTU := Lib.hid htu
 have HMV := Lib.hid hmv
 clear him htu hmv hb1
 refine wpAnyH_ready (rs := [7]) (by kernel_rfl) (by simp) ?_
 refine AllReadyH.cons (o := ⟨none, _, _, _, _, _⟩) rfl (fun K hK => ?_) AllReadyH.nil
 go_simp
 refine hK.out _ _ ((World.cell?_of_block (a := ⟨p, 5, none⟩) (HTU.out.block p (Nat.lt_of_lt_of_le HPL.out HMV.out.size) (fun e => HK.out.b1 e.symm))).trans hS) (fun hS => ?_)
 clear hK K
 try simp only [Act.put, List.setIfInBounds_toArray, List.set_cons_zero, List.set_cons_succ]
 refine wpAnyH_done (by kernel_rfl) ?_ _
 go_wp2
 go_step3
 go_wp2
 rw [Exit.noGoto_ret]
 go_ret
 have hmb : Moved (· = b) w w2 := (HMV.out.mono (fun _ h => False.elim h)).trans HTU.out (fun _ h => .inl h)
 refine ⟨rfl, fun k => Q k, ⟨gn, cn, gw, cw, b, ⟨HH.out.top.moved hmb (fun e => HK.out.b1 e.symm), HH.out.row.moved hmb (fun e => HK.out.b2 e.symm), HH.out.cap, HH.out.max, HH.out.qp, HH.out.qn, HH.out.ne⟩,
  ⟨HK.out.row.moved hmb (fun e => HK.out.b3 e.symm), HK.out.cap, HK.out.max, HIM.out, HK.out.qw, HK.out.qb, HK.out.w1, HK.out.w2, HK.out.b1, HK.out.b2, HK.out.b3⟩⟩, hmb.mono (fun j hj => by rw [hj]; exact HK.out.qb), fun _ h => .inl h⟩
end Go.Proofs.YtbpdapcmaioeiaaGreat
