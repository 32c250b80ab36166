/- Ends4; Page; PMap; PgSt; PgEnd; PgPut -/
import Derived.Test.YtpfjbcfnpfgidaaDoorGe
import Derived.Deep.WholeRow
import Derived.Maps.OwnSet
import Derived.Maps.StringElems
import Derived.Maps.Views
import Derived.Maps.Own
namespace Go.Proofs.YtpfjbcfnpfgidaaDoor
open Go.RowKit
set_option maxRecDepth 100000
section
end
section
end
section
section
variable {w0 w : World} {X : Nat → Prop} {r x : Nat} {A B : Ab}
end
end
section
theorem Mx.trans {w0 a b c : World} {X : Nat → Prop} (h : Mx w0 X a b) (k : Mx w0 X b c) : Mx w0 X a c := Moved.trans h k (fun _ hj => .inl hj)
end
section
end
end Go.Proofs.YtpfjbcfnpfgidaaDoor
namespace Go.Proofs.YtpfjbcfnpfgidaaDoor
open Go.RowKit Go.Maps
set_option maxRecDepth 100000
/-- A page as a value. -/
def pg (l : List UInt8) : Value := .agg (vbs l).toArray
theorem Tryd.infoPg : (Tryd.prog.info? 60).map (fun i => (i.zero, i.size)) = some (some (.agg (vbs (zeros 504)).toArray), 504) := by kernel_rfl
theorem pg_zero (w : World) : (zeroValue 60).run Tryd.prog w = .ok (.agg (vbs (zeros 504)).toArray) w := (zero_of_info Tryd.infoPg).1 w
theorem pg_size {l : List UInt8} (h : l.length = 504) : (Tryd.prog.info? 60).map (·.size) = some (vbs l).toArray.size := by
  rw [(zero_of_info Tryd.infoPg).2, List.size_toArray, vbs_length, h]
theorem vbs_all (l : List UInt8) : (vbs l).toArray.all (·.oneCell') = true := by
  rw [Array.all_eq_true_iff_forall_mem]
  intro v hv
  exact vbs_oneCell l v (by simpa using hv)
/-- b, cut or with noughts behind, as a page. -/
def pageOf (l : List UInt8) : List UInt8 := page (l.take 504)
theorem pageOf_length (l : List UInt8) : (pageOf l).length = 504 := by
  unfold pageOf page
  rw [List.length_append, List.length_take, zeros_length]
  omega
theorem pageOf_short {l : List UInt8} (h : l.length ≤ 504) : pageOf l = page l := by unfold pageOf; rw [List.take_of_length_le h]
/-- 'x' out of a variable of a page. -/
theorem wpList_pload {ops : Array Oper} {rest : List Oper} {o : Oper} {a : Act} {w : World} {Q : Exit → Act → World → Prop} (hgd : o.guard = none) (x : Operand) (ho : o.op = .load 60 x)
    (g : Nat) (hx : a.eval x = .pointer (some ⟨g, 0, none⟩)) (t : TypeId) (l : List UInt8) (hg : Blk w g (vbs l).toArray t) (hl : l.length = 504)
    (h : wpList Tryd.prog ops Q rest (a.put o.dst (pg l)) w) : wpList Tryd.prog ops Q (o :: rest) a w :=
  wpList_load_row hgd _ x ho g hx t _ (0, 0) _ hg Tryd.underlying60 rfl (pg_size hl) h
/-- 'x = y' into a variable of a page. -/
theorem wpList_pstore {ops : Array Oper} {rest : List Oper} {o : Oper} {a : Act} {w : World} {Q : Exit → Act → World → Prop} (hgd : o.guard = none) (x y : Operand) (ho : o.op = .store 60 x y)
    (g : Nat) (l m : List UInt8) (hx : a.eval x = .pointer (some ⟨g, 0, none⟩)) (hy : a.eval y = pg l) (t : TypeId) (hg : Blk w g (vbs m).toArray t) (hm : m.length = 504) (hl : l.length = 504)
    (h : ∀ w', Blk w' g (vbs l).toArray t → w.grownBy w' (some g) → wpList Tryd.prog ops Q rest (a.put o.dst undef) w') : wpList Tryd.prog ops Q (o :: rest) a w :=
  wpList_store_row hgd _ x y ho g _ hx hy t _ hg (pg_size hl) (by simp [vbs_length, hm, hl]) (vbs_all l)
    (h _ (setRow_heap w g _ _ _ _ hg) ⟨rfl, rfl, rfl, by simp [World.setRow], fun k _ hk => setRow_other w g k _ (fun e => hk (by simp [e]))⟩)
/-- copy(p[:], b), p a new page. -/
theorem wpList_copy_page {w : World} {ops : Array Oper} {rest : List Oper} {o : Oper} {a : Act} {Q : Exit → Act → World → Prop} (hgd : o.guard = none) (d x : Operand)
    (ho : o.op = .call { callee := .builtin .copy, args := #[d, x], argTypes := #[65, 65] }) (g : Nat) (t : TypeId) (v : Value) (l : List UInt8)
    (hd : a.eval d = .slice (some ⟨g, 0, none⟩) 504 504) (hx : a.eval x = v) (hb : Bs w v l) (hg : Blk w g (vbs (zeros 504)).toArray t)
    (h : ∀ n w', Blk w' g (vbs (pageOf l)).toArray t → w.grownBy w' (some g) → wpList Tryd.prog ops Q rest (a.put o.dst (goInt n)) w') : wpList Tryd.prog ops Q (o :: rest) a w := by
  have hsz : (Tryd.prog.info? 5).map (·.size) = some 1 := by kernel_rfl
  obtain ⟨ao, cap, rfl, h1, h2, h3, h4⟩ := hb
  by_cases h0 : l.length = 0
  · obtain rfl : l = [] := List.eq_nil_of_length_eq_zero h0
    refine wpList_copy_nothing hgd d x _ _ ho 5 Tryd.underlying65 hsz _ _ _ _ _ _ hd hx (by simp) ?_
    exact h 0 w hg (World.grownBy.refl _ _)
  · cases ao with
    | none => have := h3 rfl; omega
    | some ad =>
      have hml : (l.take 504).length = min l.length 504 := by rw [List.length_take]; omega
      refine wpList_copy_own hgd d x _ _ ho 5 Tryd.underlying65 hsz g 0 504 504 ad l.length cap hd hx _ t hg (vbs (l.take 504)) (by rw [vbs_length]; exact hml) (fun j u hu => h4 ad rfl j u ?_) (by rw [vbs_length, List.size_toArray, vbs_length, zeros_length, hml]; omega) (vbs_oneCell _) ?_
      · unfold vbs at hu ⊢
        rw [List.map_take, List.getElem?_take] at hu
        split at hu
        · exact hu
        · cases hu
      · have e : splice (vbs (zeros 504)) 0 (vbs (l.take 504)) = vbs (pageOf l) := by
          unfold splice pageOf page
          rw [List.take_zero, List.nil_append, Nat.zero_add, vbs_length, vbs_append]
          congr 1
          unfold vbs
          rw [← List.map_drop, zeros_drop]
        unfold splice at e
        rw [e, vbs_length]
        exact h _ _ (setRow_heap w g _ _ _ _ hg) ⟨rfl, rfl, rfl, by simp [World.setRow], fun k _ hk => setRow_other w g k _ (fun e => hk (by simp [e]))⟩
theorem pg_results {fn : Func} {p : Tmp} (h : fn.results = #[.cell p 60]) (tmps : Array Value) (w : World) (g : Nat) (t : TypeId) (l : List UInt8)
    (hp : tmps.getD p undef = .pointer (some ⟨g, 0, none⟩)) (hg : Blk w g (vbs l).toArray t) (hl : l.length = 504) : (results fn tmps).run Tryd.prog w = .ok (pg l) w :=
  results_cell_row h tmps w g t _ (0, 0) _ hp hg Tryd.underlying60 rfl (pg_size hl)
theorem paged_any (v : Value) (l : List UInt8) (w : World) (hb : Bs w v l) :
    Calls Tryd.prog 30 #[v] w fun e w' => e = .returned (pg (pageOf l)) ∧ Below w.heap.size w w' := by
  have hz := pg_zero
  have hpl := pageOf_length l
  obtain ⟨Z, hZ⟩ : ∃ Z, Z = (vbs (zeros 504)).toArray := ⟨_, rfl⟩
  rw [← hZ] at hz
  obtain ⟨o, ho⟩ : ∃ o : Obj, o = .cells Z 60 := ⟨_, rfl⟩
  have hal1 : Below w.heap.size w (w.alloc o) := (Below.refl _ w).alloc (Nat.le_refl _) o
  have hal : Below w.heap.size w ((w.alloc o).alloc o) := hal1.alloc hal1.size o
  have hbs : Bs ((w.alloc o).alloc o) v l := hb.below hal
  have h1 : Blk ((w.alloc o).alloc o) (w.heap.size + 1) (vbs (zeros 504)).toArray 60 := by
    rw [ho, hZ]; exact heap_alloc2_new w _ _
  have h2 : Blk ((w.alloc o).alloc o) w.heap.size (vbs (zeros 504)).toArray 60 := by
    rw [ho, hZ]; exact heap_alloc2_old w _ _
  have HB := Lib.hid hbs
  have H1 := Lib.hid h1
  have H2 := Lib.hid h2
  have HA := Lib.hid hal
  subst ho
  clear hb hbs h1 h2 hal hal1 hZ
  go_enter Tryd.func30, Tryd.ntmps30
  go_wp2_with (first
    | (with_reducible refine wpList_copy_page rfl _ _ rfl _ 60 v l rfl rfl HB.out H1.out ?_; intro n w2 hb2 hg2)
    | (with_reducible refine wpList_pload rfl _ rfl _ rfl 60 (pageOf l) hb2 hpl ?_)
    | (with_reducible refine wpList_pstore rfl _ _ rfl w.heap.size (pageOf l) (zeros 504) rfl rfl 60 ?_ (zeros_length _) hpl ?_) | fail)
  · exact grown_keep hg2 H2.out (fun e => by have := Option.some.inj e; omega)
  intro w3 hb3 hg3
  go_wp2_with fail
  refine bodyPost_ret (pg_results rfl _ _ w.heap.size 60 (pageOf l) rfl hb3 hpl) rfl ?_
  exact ⟨rfl, (HA.out.grown hg2 HA.out.size (fun q hq => by have := Option.some.inj hq; omega)).grown hg3 (Nat.le_trans HA.out.size hg2.size) (fun q hq => by have := Option.some.inj hq; omega)⟩
end Go.Proofs.YtpfjbcfnpfgidaaDoor
namespace Go.Proofs.YtpfjbcfnpfgidaaDoor
open Go.RowKit Go.Maps
set_option maxRecDepth 100000
def unvb : Value → Option UInt8
  | .int .u8 z => if 0 ≤ z ∧ z < 256 then some (UInt8.ofNat z.toNat) else none
  | _ => none
def unvbs : List Value → Option (List UInt8)
  | [] => some []
  | v :: r => match unvb v, unvbs r with
    | some c, some l => some (c :: l)
    | _, _ => none
def unpg : Value → Option (List UInt8)
  | .agg a => unvbs a.toList
  | _ => none
/-- How a page reads as an element of a map. -/
def pgR (v : Value) : Option (DataW Unit × List MemPlace) := (unpg v).map fun l => (.lit (.string l), [])
/-- Block b of w is a map from int to pages that reads as f, with n entries. -/
def Pm (w : World) (b : Nat) (f : Int → Option (List UInt8)) (n : Nat) : Prop :=
  ∃ D : DataW Unit, w.ownsMap Tryd.prog 3 pgR b n D ∧ Maps.size D = n ∧ ∀ i : Int, (Lit.int .i64 i).wf = true → Maps.has D (.int .i64 i) = (f i).isSome ∧ ∀ s, f i = some s → ∀ z, D.atKey (.int .i64 i) z = .lit (.string s)
section
variable {w : World} {b n : Nat} {f : Int → Option (List UInt8)}
theorem Pm.lt (h : Pm w b f n) : b < w.heap.size := by
  obtain ⟨D, h1, -⟩ := h
  exact h1.lt
theorem Pm.made (w : World) : Pm (w.alloc (.map #[] 0)) w.heap.size (fun _ => none) 0 :=
  ⟨.map [], World.ownsMap_made w _ _ _, rfl, fun i _ => ⟨rfl, fun s hs => by cases hs⟩⟩
theorem Pm.moved {Q : Nat → Prop} {w' : World} (h : Pm w b f n) (hm : Moved Q w w') (hQ : ¬ Q b) : Pm w' b f n := by
  obtain ⟨D, ⟨es, clock, hb, F, hs, rfl⟩, h2⟩ := h
  refine ⟨_, ⟨es, clock, ?_, F, hs, rfl⟩, h2⟩
  have hlt : b < w.heap.size := (Array.getElem?_eq_some_iff.1 hb).1
  exact (hm.block b hlt hQ).trans hb
end
end Go.Proofs.YtpfjbcfnpfgidaaDoor
namespace Go.Proofs.YtpfjbcfnpfgidaaDoor
open Go.RowKit Go.Maps
set_option maxRecDepth 100000
def ints (L : List Int) : List Value := L.map (Value.int .i64)
theorem ints_length (L : List Int) : (ints L).length = L.length := by simp [ints]
/-- The block g is a row of numbers (and what stands behind). -/
def IRow (w : World) (g : Nat) (L : List Int) : Prop := ∃ cur : Array Value, Blk w g cur 3 ∧ cur.toList.take L.length = ints L
theorem IRow.lt {w : World} {g : Nat} {L : List Int} (h : IRow w g L) : g < w.heap.size := by
  obtain ⟨cur, h1, -⟩ := h
  exact h1.lt
theorem IRow.cell {w : World} {g : Nat} {L : List Int} (h : IRow w g L) (j : Nat) (hj : j < L.length) : w.cell? ⟨g, j, none⟩ = some (.int .i64 L[j]) := by
  obtain ⟨cur, h1, h2⟩ := h
  rw [h1.cell, ← Array.getElem?_toList]
  have e : (cur.toList.take L.length)[j]? = cur.toList[j]? := by rw [List.getElem?_take, if_pos hj]
  rw [← e, h2]
  simp [ints, hj]
theorem IRow.frozen {w : World} {g : Nat} {L : List Int} (h : IRow w g L) (j : Nat) : w.frozen? ⟨g, j, none⟩ = false := by
  obtain ⟨cur, h1, -⟩ := h
  exact h1.frozen j
theorem IRow.set {w : World} {g : Nat} {L : List Int} (h : IRow w g L) (j : Nat) (b : Int) : IRow (w.setCell ⟨g, j, none⟩ (.int .i64 b)) g (L.set j b) := by
  obtain ⟨cur, h1, h2⟩ := h
  refine ⟨_, h1.set j (.int .i64 b), ?_⟩
  rw [List.length_set, Array.toList_setIfInBounds, List.take_set, h2]
  simp [ints, List.map_set]
theorem IRow.moved {P : Nat → Prop} {w w' : World} {g : Nat} {L : List Int} (h : IRow w g L) (hm : Moved P w w') (hP : ¬ P g) : IRow w' g L := by
  obtain ⟨cur, h1, h2⟩ := h
  exact ⟨cur, h1.moved hm hP, h2⟩
/-- A state of the pages but for their bytes. -/
structure Stt where
  root : Int
  next : List Int
/-- A transaction: as it was at Begin, what was put, of how many pages. -/
structure Tx where
  was : Stt
  f : Int → Option (List UInt8)
  n : Nat
structure PgAt (w : World) (Q : Nat → Prop) (r p gn cn : Nat) (S : Stt) (wr : Int) (vw mv : Value) : Prop where
  top : Blk w p #[.pointer (some ⟨r, 0, none⟩), .int .i64 S.root, .slice (some ⟨gn, 0, none⟩) S.next.length cn, .int .i64 wr, vw, mv] 49
  row : IRow w gn S.next
  cap : S.next.length ≤ cn
  max : cn ≤ maxLen
  qp : Q p
  qn : Q gn
  ne : gn ≠ p
structure TxAt (w : World) (Q : Nat → Prop) (p gn : Nat) (t : Tx) (gw cw b : Nat) : Prop where
  row : IRow w gw t.was.next
  cap : t.was.next.length ≤ cw
  max : cw ≤ maxLen
  map : Pm w b t.f t.n
  qw : Q gw
  qb : Q b
  w1 : gw ≠ p
  w2 : gw ≠ gn
  b1 : b ≠ p
  b2 : b ≠ gn
  b3 : b ≠ gw
/-- The pager at p, of the disk at r, has the state S, and T under way; its blocks are of Q. -/
def Pg (w : World) (Q : Nat → Prop) (r p : Nat) (S : Stt) : Option Tx → Prop
  | none => ∃ gn cn, PgAt w Q r p gn cn S 0 (.slice none 0 0) (.map none)
  | some t => ∃ gn cn gw cw b, PgAt w Q r p gn cn S t.was.root (.slice (some ⟨gw, 0, none⟩) t.was.next.length cw) (.map (some b)) ∧ TxAt w Q p gn t gw cw b
theorem PgAt.moved {P Q : Nat → Prop} {w w' : World} {r p gn cn : Nat} {S : Stt} {wr : Int} {vw mv : Value} (h : PgAt w Q r p gn cn S wr vw mv) (hm : Moved P w w') (hP : ∀ k, Q k → ¬ P k) : PgAt w' Q r p gn cn S wr vw mv :=
  ⟨h.top.moved hm (hP _ h.qp), h.row.moved hm (hP _ h.qn), h.cap, h.max, h.qp, h.qn, h.ne⟩
theorem TxAt.moved {P Q : Nat → Prop} {w w' : World} {p gn gw cw b : Nat} {t : Tx} (h : TxAt w Q p gn t gw cw b) (hm : Moved P w w') (hP : ∀ k, Q k → ¬ P k) : TxAt w' Q p gn t gw cw b :=
  ⟨h.row.moved hm (hP _ h.qw), h.cap, h.max, h.map.moved hm (hP _ h.qb), h.qw, h.qb, h.w1, h.w2, h.b1, h.b2, h.b3⟩
theorem Pg.moved {P Q : Nat → Prop} {w w' : World} {r p : Nat} {S : Stt} {T : Option Tx} (h : Pg w Q r p S T) (hm : Moved P w w') (hP : ∀ k, Q k → ¬ P k) : Pg w' Q r p S T := by
  cases T with
  | none => obtain ⟨gn, cn, h⟩ := h; exact ⟨gn, cn, h.moved hm hP⟩
  | some t => obtain ⟨gn, cn, gw, cw, b, h, k⟩ := h; exact ⟨gn, cn, gw, cw, b, h.moved hm hP, k.moved hm hP⟩
theorem PgAt.mono {Q Q' : Nat → Prop} {w : World} {r p gn cn : Nat} {S : Stt} {wr : Int} {vw mv : Value} (h : PgAt w Q r p gn cn S wr vw mv) (hQ : ∀ k, Q k → Q' k) : PgAt w Q' r p gn cn S wr vw mv :=
  ⟨h.top, h.row, h.cap, h.max, hQ _ h.qp, hQ _ h.qn, h.ne⟩
theorem TxAt.mono {Q Q' : Nat → Prop} {w : World} {p gn gw cw b : Nat} {t : Tx} (h : TxAt w Q p gn t gw cw b) (hQ : ∀ k, Q k → Q' k) : TxAt w Q' p gn t gw cw b :=
  ⟨h.row, h.cap, h.max, h.map, hQ _ h.qw, hQ _ h.qb, h.w1, h.w2, h.b1, h.b2, h.b3⟩
theorem Pg.mono {Q Q' : Nat → Prop} {w : World} {r p : Nat} {S : Stt} {T : Option Tx} (h : Pg w Q r p S T) (hQ : ∀ k, Q k → Q' k) : Pg w Q' r p S T := by
  cases T with
  | none => obtain ⟨gn, cn, h⟩ := h; exact ⟨gn, cn, h.mono hQ⟩
  | some t => obtain ⟨gn, cn, gw, cw, b, h, k⟩ := h; exact ⟨gn, cn, gw, cw, b, h.mono hQ, k.mono hQ⟩
theorem Pg.below {Q : Nat → Prop} {w w' : World} {r p : Nat} {S : Stt} {T : Option Tx} (h : Pg w Q r p S T) (hb : Below w.heap.size w w') : Pg w' Q r p S T :=
  h.moved (Moved.of_below hb (fun _ => False)) (fun _ _ h => h)
theorem Pg.shrink {Q : Nat → Prop} {w : World} {r p : Nat} {S : Stt} {T : Option Tx} (h : Pg w Q r p S T) : Pg w (fun k => Q k ∧ k < w.heap.size) r p S T := by
  cases T with
  | none => obtain ⟨gn, cn, h⟩ := h; exact ⟨gn, cn, h.top, h.row, h.cap, h.max, ⟨h.qp, h.top.lt⟩, ⟨h.qn, h.row.lt⟩, h.ne⟩
  | some t =>
    obtain ⟨gn, cn, gw, cw, b, h, k⟩ := h
    exact ⟨gn, cn, gw, cw, b, ⟨h.top, h.row, h.cap, h.max, ⟨h.qp, h.top.lt⟩, ⟨h.qn, h.row.lt⟩, h.ne⟩, ⟨k.row, k.cap, k.max, k.map, ⟨k.qw, k.row.lt⟩, ⟨k.qb, k.map.lt⟩, k.w1, k.w2, k.b1, k.b2, k.b3⟩⟩
/-- From w to w' the pager at p came to be S, T: only its own blocks and new ones have turned. -/
def PgTo (w : World) (Q : Nat → Prop) (w' : World) (r p : Nat) (S : Stt) (T : Option Tx) : Prop := ∃ Q', Pg w' Q' r p S T ∧ Moved Q w w' ∧ ∀ k, Q' k → Q k ∨ w.heap.size ≤ k
theorem PgTo.refl {w : World} {Q : Nat → Prop} {r p : Nat} {S : Stt} {T : Option Tx} (h : Pg w Q r p S T) : PgTo w Q w r p S T := ⟨Q, h, Moved.refl _ _, fun _ h => .inl h⟩
/-- What every cell of the pager holds. -/
theorem Pg.cells {Q : Nat → Prop} {w : World} {r p : Nat} {S : Stt} {T : Option Tx} (h : Pg w Q r p S T) :
    ∃ gn cn wr vw mv, PgAt w Q r p gn cn S wr vw mv ∧ ((T = none ∧ mv = .map none) ∨ ∃ t b, T = some t ∧ mv = .map (some b) ∧ Pm w b t.f t.n) := by
  cases T with
  | none => obtain ⟨gn, cn, h⟩ := h; exact ⟨gn, cn, _, _, _, h, .inl ⟨rfl, rfl⟩⟩
  | some t => obtain ⟨gn, cn, gw, cw, b, h, k⟩ := h; exact ⟨gn, cn, _, _, _, h, .inr ⟨t, b, rfl, rfl, k.map⟩⟩
theorem PgAt.cells {Q : Nat → Prop} {w : World} {r p gn cn : Nat} {S : Stt} {wr : Int} {vw mv : Value} (h : PgAt w Q r p gn cn S wr vw mv) :
    w.cell? ⟨p, 0, none⟩ = some (.pointer (some ⟨r, 0, none⟩)) ∧ w.cell? ⟨p, 1, none⟩ = some (.int .i64 S.root) ∧ w.cell? ⟨p, 2, none⟩ = some (.slice (some ⟨gn, 0, none⟩) S.next.length cn) ∧ w.cell? ⟨p, 3, none⟩ = some (.int .i64 wr) ∧ w.cell? ⟨p, 4, none⟩ = some vw ∧ w.cell? ⟨p, 5, none⟩ = some mv :=
  ⟨by rw [h.top.cell]; rfl, by rw [h.top.cell]; rfl, by rw [h.top.cell]; rfl, by rw [h.top.cell]; rfl, by rw [h.top.cell]; rfl, by rw [h.top.cell]; rfl⟩
theorem neqM (w : World) (r : Option Nat) : (binOp .neq 47 (.map r) (.map none)).run Tryd.prog w = .ok (.bool (!r.isNone)) w := run_neq_map_nil w _ _ _ r Tryd.underlying47
end Go.Proofs.YtpfjbcfnpfgidaaDoor
namespace Go.Proofs.YtpfjbcfnpfgidaaDoor
open Go.RowKit Go.Maps
set_option maxRecDepth 100000
theorem PgTo.trans {w w1 w2 : World} {Q : Nat → Prop} {r p : Nat} {S S' : Stt} {T T' : Option Tx} (h : PgTo w Q w1 r p S T) (k : ∀ Q1, Pg w1 Q1 r p S T → PgTo w1 Q1 w2 r p S' T') : PgTo w Q w2 r p S' T' := by
  obtain ⟨Q1, g1, g2, g3⟩ := h
  obtain ⟨Q2, k1, k2, k3⟩ := k Q1 g1
  refine ⟨Q2, k1, g2.trans k2 g3, fun j hj => ?_⟩
  rcases k3 j hj with h | h
  · exact g3 j h
  · exact .inr (Nat.le_trans g2.size h)
end Go.Proofs.YtpfjbcfnpfgidaaDoor
namespace Go.Proofs.YtpfjbcfnpfgidaaDoor
open Go.RowKit Go.Maps
set_option maxRecDepth 100000
def Tx.put (t : Tx) (i : Int) (l : List UInt8) : Tx := { t with f := fun j => if j = i then some l else t.f j, n := if (t.f i).isSome then t.n else t.n + 1 }
end Go.Proofs.YtpfjbcfnpfgidaaDoor
