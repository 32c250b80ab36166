/- Pb; B5a -/
import Derived.Test.YtbkokckpjmbjhaaDoorGk
namespace Go.Proofs.YtbkokckpjmbjhaaDoor
open Go.RowKit Go.Maps
set_option maxRecDepth 100000
set_option linter.unusedVariables false
section
variable {w0 w w' : World} {X : Nat → Prop} {r p N M c : Nat} {G : Lg} {H : Option Lg}
end
section
variable {w0 w w' : World} {X : Nat → Prop} {r p N M c : Nat} {G : Lg} {H : Option Lg}
end
section
variable {w0 w w' : World} {X : Nat → Prop} {r p N M c : Nat} {G : Lg} {H : Option Lg}
end
end Go.Proofs.YtbkokckpjmbjhaaDoor
namespace Go.Proofs.YtbkokckpjmbjhaaDoor
open Go.RowKit Go.Maps
set_option maxRecDepth 100000
set_option linter.unusedVariables false
theorem tx_length (s : ByteArray) : (tx s).length = 2 + min s.size 65535 := by
  have : s.data.toList.length = s.size := by rw [Array.length_toList]; rfl
  unfold tx
  rw [List.length_append, le_length, List.length_take, this]
  omega
/-- A reader whose block, and its bytes' block, are of E. -/
def Rds (E : Nat → Prop) (w : World) (r : Nat) (l : List UInt8) (e : Int) : Prop := Rd w r l e ∧ E r ∧ ∃ sv, w.cell? ⟨r, 0, none⟩ = some sv ∧ ∀ q, sv.ownBlock = some q → E q
theorem Rds.lt {E : Nat → Prop} {w : World} {r : Nat} {l : List UInt8} {e : Int} (h : Rds E w r l e) : r < w.heap.size := h.1.lt
theorem Rds.grown {E : Nat → Prop} {w w' : World} {r : Nat} {l : List UInt8} {e : Int} {row : Option Nat} (h : Rds E w r l e) (hg : w.grownBy w' row) (hs : ∀ q, row = some q → ¬ E q) : Rds E w' r l e := by
  obtain ⟨h1, hE, sv, h2, h3⟩ := h
  have hr : row ≠ some r := fun e => hs r e hE
  have hb := hg.block r h1.lt (Ne.symm hr)
  refine ⟨h1.grown hg hr (fun sv' h => ?_), hE, sv, by rw [World.cell?_of_block (w := w) hb]; exact h2, h3⟩
  rw [h2] at h
  cases h
  cases row with
  | none => exact .inl rfl
  | some q => exact .inr (fun e => hs q rfl (h3 q e))
theorem Rds.below {E : Nat → Prop} {w w' : World} {r : Nat} {l : List UInt8} {e : Int} (h : Rds E w r l e) (hb : Below w.heap.size w w') : Rds E w' r l e :=
  h.grown (Below.grownBy hb) (fun q h => by cases h)
theorem Rds.drew {E : Nat → Prop} {w : World} {r : Nat} {l : List UInt8} {e : Int} (h : Rds E w r l e) : Rds E w.drew r l e := h
theorem Rds.fails {E : Nat → Prop} {w : World} {r : Nat} {l : List UInt8} {e : Int} (h : Rds E w r l e) (x : Int) : Rds E (w.setCell ⟨r, 1, none⟩ (.int .i64 x)) r l x ∧ w.grownBy (w.setCell ⟨r, 1, none⟩ (.int .i64 x)) (some r) := by
  obtain ⟨h1, hE, sv, h2, h3⟩ := h
  exact ⟨⟨(h1.fails x).1, hE, sv, (World.cell?_setCell_other w _ _ _ (by simp)).trans h2, h3⟩, (h1.fails x).2⟩
theorem Rds.lefts {E : Nat → Prop} {w : World} {r : Nat} {l m : List UInt8} {e : Int} (h : Rds E w r l e) (v : Value) (hv : Bs w v m) (hne : v.ownBlock ≠ some r) (hq : ∀ q, v.ownBlock = some q → E q) : Rds E (w.setCell ⟨r, 0, none⟩ v) r m e ∧ w.grownBy (w.setCell ⟨r, 0, none⟩ v) (some r) := by
  obtain ⟨h1, hE, sv, h2, h3⟩ := h
  exact ⟨⟨(h1.lefts v hv hne).1, hE, v, World.cell?_setCell_same w _ _ h2, hq⟩, (h1.lefts v hv hne).2⟩
end Go.Proofs.YtbkokckpjmbjhaaDoor
