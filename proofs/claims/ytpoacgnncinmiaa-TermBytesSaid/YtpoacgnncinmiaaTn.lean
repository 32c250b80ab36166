/- Terms: blocks that hold a term. -/
import Derived.Test.YtpoacgnncinmiaaTb
namespace Go.Proofs.Ytpoacgnncinmiaa
open Go.RowKit
set_option maxRecDepth 100000

/-- A term in a block; one that may be written. -/
def Box (W : World) (b : Nat) (x : Tm) : Prop := W.cell? ⟨b, 0, none⟩ = some (.int .i64 x.k) ∧ W.cell? ⟨b, 1, none⟩ = some (.string x.s) ∧ W.cell? ⟨b, 2, none⟩ = some (.string x.l) ∧ W.cell? ⟨b, 3, none⟩ = some (.string x.t)
theorem Box.lt {W : World} {b : Nat} {x : Tm} (h : Box W b x) : b < W.heap.size := World.block_lt_of_cell? W _ h.1
theorem Box.below {W W' : World} {b : Nat} {x : Tm} (h : Box W b x) (hb : Below W.heap.size W W') : Box W' b x :=
  ⟨(hb.cell (p := ⟨b, 0, none⟩) h.lt).trans h.1, (hb.cell (p := ⟨b, 1, none⟩) h.lt).trans h.2.1, (hb.cell (p := ⟨b, 2, none⟩) h.lt).trans h.2.2.1, (hb.cell (p := ⟨b, 3, none⟩) h.lt).trans h.2.2.2⟩
def Mine (W : World) (b : Nat) (x : Tm) : Prop := Box W b x ∧ W.frozen? ⟨b, 0, none⟩ = false ∧ W.frozen? ⟨b, 1, none⟩ = false ∧ W.frozen? ⟨b, 2, none⟩ = false ∧ W.frozen? ⟨b, 3, none⟩ = false
theorem Mine.below {W W' : World} {b : Nat} {x : Tm} (h : Mine W b x) (hb : Below W.heap.size W W') : Mine W' b x :=
  ⟨h.1.below hb, (hb.frozen (p := ⟨b, 0, none⟩) h.1.lt).trans h.2.1, (hb.frozen (p := ⟨b, 1, none⟩) h.1.lt).trans h.2.2.1, (hb.frozen (p := ⟨b, 2, none⟩) h.1.lt).trans h.2.2.2.1, (hb.frozen (p := ⟨b, 3, none⟩) h.1.lt).trans h.2.2.2.2⟩
theorem Mine.new (W : World) : Mine (W.alloc (.cells #[.int .i64 0, .string ⟨#[]⟩, .string ⟨#[]⟩, .string ⟨#[]⟩] 23)) W.heap.size ⟨0, ⟨#[]⟩, ⟨#[]⟩, ⟨#[]⟩⟩ := by
  refine ⟨⟨?_, ?_, ?_, ?_⟩, ?_, ?_, ?_, ?_⟩ <;> simp
/-- x stored in block p. -/
def stored (W : World) (p : Nat) (x : Tm) : World := (((W.setCell ⟨p, 0, none⟩ (.int .i64 x.k)).setCell ⟨p, 1, none⟩ (.string x.s)).setCell ⟨p, 2, none⟩ (.string x.l)).setCell ⟨p, 3, none⟩ (.string x.t)
theorem cell_of_set {W : World} {a b : Addr} {v u : Value} (h : W.cell? b = some u) : (W.setCell a v).cell? b = some (if a = b then v else u) := by
  by_cases e : a = b
  · subst e; rw [if_pos rfl]; exact World.cell?_setCell_same W _ _ h
  · rw [if_neg e]; exact (World.cell?_setCell_other W _ _ _ e).trans h
theorem Mine.set {W : World} {p : Nat} {z : Tm} (h : Mine W p z) (x : Tm) : Mine ((((W.setCell ⟨p, 0, none⟩ (.int .i64 x.k)).setCell ⟨p, 1, none⟩ (.string x.s)).setCell ⟨p, 2, none⟩ (.string x.l)).setCell ⟨p, 3, none⟩ (.string x.t)) p x := by
  obtain ⟨⟨c0, c1, c2, c3⟩, f0, f1, f2, f3⟩ := h
  refine ⟨⟨?_, ?_, ?_, ?_⟩, ?_, ?_, ?_, ?_⟩
  · rw [cell_of_set (cell_of_set (cell_of_set (cell_of_set c0)))]; simp
  · rw [cell_of_set (cell_of_set (cell_of_set (cell_of_set c1)))]; simp
  · rw [cell_of_set (cell_of_set (cell_of_set (cell_of_set c2)))]; simp
  · rw [cell_of_set (cell_of_set (cell_of_set (cell_of_set c3)))]; simp
  all_goals (rw [World.frozen?_setCell, World.frozen?_setCell, World.frozen?_setCell, World.frozen?_setCell]; assumption)
theorem Box.other {W : World} {p q : Nat} {x y : Tm} (h : Box W q y) (hne : p ≠ q) : Box ((((W.setCell ⟨p, 0, none⟩ (.int .i64 x.k)).setCell ⟨p, 1, none⟩ (.string x.s)).setCell ⟨p, 2, none⟩ (.string x.l)).setCell ⟨p, 3, none⟩ (.string x.t)) q y := by
  obtain ⟨c0, c1, c2, c3⟩ := h
  refine ⟨?_, ?_, ?_, ?_⟩
  · rw [cell_of_set (cell_of_set (cell_of_set (cell_of_set c0)))]; simp
  · rw [cell_of_set (cell_of_set (cell_of_set (cell_of_set c1)))]; simp
  · rw [cell_of_set (cell_of_set (cell_of_set (cell_of_set c2)))]; simp
  · rw [cell_of_set (cell_of_set (cell_of_set (cell_of_set c3)))]; simp
theorem Mine.other {W : World} {p q : Nat} {x y : Tm} (h : Mine W q y) (hne : p ≠ q) : Mine ((((W.setCell ⟨p, 0, none⟩ (.int .i64 x.k)).setCell ⟨p, 1, none⟩ (.string x.s)).setCell ⟨p, 2, none⟩ (.string x.l)).setCell ⟨p, 3, none⟩ (.string x.t)) q y := by
  refine ⟨h.1.other hne, ?_, ?_, ?_, ?_⟩
  all_goals rw [World.frozen?_setCell, World.frozen?_setCell, World.frozen?_setCell, World.frozen?_setCell]
  · exact h.2.1
  · exact h.2.2.1
  · exact h.2.2.2.1
  · exact h.2.2.2.2
theorem Mine.belowSet {W : World} {p B : Nat} {z : Tm} (_ : Mine W p z) (x : Tm) (hB : B + 2 ≤ p) : Below B W ((((W.setCell ⟨p, 0, none⟩ (.int .i64 x.k)).setCell ⟨p, 1, none⟩ (.string x.s)).setCell ⟨p, 2, none⟩ (.string x.l)).setCell ⟨p, 3, none⟩ (.string x.t)) :=
  ((((Below.refl _ _).setCell (by show B ≤ p; omega) _).setCell (by show B ≤ p; omega) _).setCell (by show B ≤ p; omega) _).setCell (by show B ≤ p; omega) _
end Go.Proofs.Ytpoacgnncinmiaa
