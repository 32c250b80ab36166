/- What a call may have written: the blocks of a realm, and new ones; blocks known whole. -/
import Derived.Test.YtkhdahipnfloeaaOps
namespace Go.Proofs.Ytkhdahipnfloeaa
open Go.RowKit
set_option maxRecDepth 100000

/-- A block of cells, known whole. -/
def Blk (w : World) (b : Nat) (cur : Array Value) (t : TypeId) : Prop := w.heap[b]? = some (.cells cur t (0, 0))
theorem Blk.out {w : World} {b : Nat} {cur : Array Value} {t : TypeId} (h : Blk w b cur t) : w.heap[b]? = some (.cells cur t (0, 0)) := h
theorem Blk.lt {w : World} {b : Nat} {cur : Array Value} {t : TypeId} (h : Blk w b cur t) : b < w.heap.size := (Array.getElem?_eq_some_iff.1 h).1
theorem Blk.cell {w : World} {b : Nat} {cur : Array Value} {t : TypeId} (h : Blk w b cur t) (j : Nat) : w.cell? ⟨b, j, none⟩ = cur[j]? := cell_of_row w b j cur t (0, 0) h
theorem Blk.frozen {w : World} {b : Nat} {cur : Array Value} {t : TypeId} (h : Blk w b cur t) (j : Nat) : w.frozen? ⟨b, j, none⟩ = false := frozen_of_row w b j cur t h
theorem Blk.set {w : World} {b : Nat} {cur : Array Value} {t : TypeId} (h : Blk w b cur t) (j : Nat) (u : Value) : Blk (w.setCell ⟨b, j, none⟩ u) b (cur.setIfInBounds j u) t :=
  heap_setCell_same w b j cur t u h
theorem Blk.other {w : World} {b : Nat} {cur : Array Value} {t : TypeId} (h : Blk w b cur t) (a : Addr) (u : Value) (hne : b ≠ a.block) : Blk (w.setCell a u) b cur t :=
  (Below.heap_setCell w a u b hne).trans h
theorem Blk.drew {w : World} {b : Nat} {cur : Array Value} {t : TypeId} (h : Blk w b cur t) : Blk w.drew b cur t := h
theorem Blk.alloc {w : World} {b : Nat} {cur : Array Value} {t : TypeId} (h : Blk w b cur t) (o : Obj) : Blk (w.alloc o) b cur t :=
  (Below.heap_alloc w o b h.lt).trans h
theorem Blk.new (w : World) (cur : Array Value) (t : TypeId) : Blk (w.alloc (.cells cur t)) w.heap.size cur t := heap_alloc_new w _

/-- w' is w with new blocks, and with writes to blocks of P alone. -/
structure Moved (P : Nat → Prop) (w w' : World) : Prop where
  os : w'.os = w.os
  tape : w'.tape = w.tape
  output : w'.output = w.output
  size : w.heap.size ≤ w'.heap.size
  block : ∀ k, k < w.heap.size → ¬ P k → w'.heap[k]? = w.heap[k]?

theorem Moved.refl (P : Nat → Prop) (w : World) : Moved P w w := ⟨rfl, rfl, rfl, Nat.le_refl _, fun _ _ _ => rfl⟩
theorem Moved.trans {P P' : Nat → Prop} {a b c : World} (h : Moved P a b) (k : Moved P' b c) (hP : ∀ j, P' j → P j ∨ a.heap.size ≤ j) : Moved P a c :=
  ⟨k.os.trans h.os, k.tape.trans h.tape, k.output.trans h.output, Nat.le_trans h.size k.size, fun j hj hn =>
    (k.block j (Nat.lt_of_lt_of_le hj h.size) (fun hp => (hP j hp).elim hn (fun hs => by omega))).trans (h.block j hj hn)⟩
theorem Moved.mono {P P' : Nat → Prop} {a b : World} (h : Moved P a b) (hP : ∀ j, P j → P' j) : Moved P' a b := ⟨h.os, h.tape, h.output, h.size, fun j hj hn => h.block j hj (fun hp => hn (hP j hp))⟩
theorem Moved.setCell {P : Nat → Prop} {a b : World} (h : Moved P a b) (p : Addr) (u : Value) (hp : P p.block ∨ a.heap.size ≤ p.block) : Moved P a (b.setCell p u) :=
  h.trans (P' := fun j => j = p.block) ⟨rfl, rfl, rfl, by simp [World.setCell], fun k _ hk => Below.heap_setCell _ _ _ _ hk⟩ (fun j hj => by subst hj; exact hp)
theorem Moved.drew {P : Nat → Prop} {a b : World} (h : Moved P a b) : Moved P a b.drew := ⟨h.os, h.tape, h.output, h.size, h.block⟩
theorem Moved.alloc {P : Nat → Prop} {a b : World} (h : Moved P a b) (o : Obj) : Moved P a (b.alloc o) :=
  h.trans (P' := fun _ => False) ⟨rfl, rfl, rfl, by simp, fun k hk _ => Below.heap_alloc _ _ _ hk⟩ (fun _ hj => hj.elim)
theorem Moved.grown {P : Nat → Prop} {a b c : World} {row : Option Nat} (h : Moved P a b) (hg : b.grownBy c row) (hr : ∀ k, row = some k → P k ∨ a.heap.size ≤ k) : Moved P a c :=
  h.trans (P' := fun j => row = some j) ⟨hg.os, hg.tape, hg.output, hg.size, fun k hk hne => hg.block k hk (fun e => hne e.symm)⟩ hr
theorem Moved.below {P : Nat → Prop} {B : Nat} {a b : World} (h : Moved P a b) (hP : ∀ j, P j → B ≤ j) (hB : B ≤ a.heap.size) : Below B a b :=
  ⟨h.os, h.tape, h.output, h.size, fun k hk => h.block k (by omega) (fun hp => by have := hP k hp; omega)⟩
theorem Moved.of_below {a b : World} (h : Below a.heap.size a b) (P : Nat → Prop) : Moved P a b := ⟨h.os, h.tape, h.output, h.size, fun k hk _ => h.block k hk⟩
theorem Moved.grownBy {P : Nat → Prop} {a b : World} (h : Moved P a b) (hP : ∀ j, ¬ P j) : a.grownBy b none := ⟨h.os, h.tape, h.output, h.size, fun k hk _ => h.block k hk (hP k)⟩

theorem Blk.moved {P : Nat → Prop} {w w' : World} {b : Nat} {cur : Array Value} {t : TypeId} (h : Blk w b cur t) (hm : Moved P w w') (hP : ¬ P b) : Blk w' b cur t := (hm.block b h.lt hP).trans h

theorem owns_moved {P : Nat → Prop} {w w' : World} {base : Nat} {e : TypeId} {size : Nat} {v : Value} {n : Nat} {xs : List Value} (h : w.ownsRow base e size v n xs) (hm : Moved P w w') (hP : ∀ k, v.ownBlock = some k → ¬ P k) : w'.ownsRow base e size v n xs := by
  refine ⟨h.1, ?_⟩
  rcases h.2 with hn | ⟨g, cap, cur, rfl, hb, hgg, rest⟩
  · exact .inl hn
  · exact .inr ⟨g, cap, cur, rfl, hb, (hm.block g (Array.getElem?_eq_some_iff.1 hgg).1 (hP g rfl)).trans hgg, rest⟩

theorem Bs.moved {P : Nat → Prop} {w w' : World} {v : Value} {l : List UInt8} (h : Bs w v l) (hm : Moved P w w') (hP : ∀ k, v.ownBlock = some k → ¬ P k) : Bs w' v l := by
  obtain ⟨ao, cap, rfl, h1, h2, h3, h4⟩ := h
  refine ⟨ao, cap, rfl, h1, h2, h3, fun ad had j u hu => ?_⟩
  have hc := h4 ad had j u hu
  subst had
  have hlt := World.block_lt_of_cell? w _ hc
  rw [block_add] at hlt
  rw [World.cell?_of_block (w := w) (hm.block _ (by rw [block_add]; exact hlt) (by rw [block_add]; exact hP _ rfl))]
  exact hc
theorem Bs.drew {w : World} {v : Value} {l : List UInt8} (h : Bs w v l) : Bs w.drew v l := h
end Go.Proofs.Ytkhdahipnfloeaa
