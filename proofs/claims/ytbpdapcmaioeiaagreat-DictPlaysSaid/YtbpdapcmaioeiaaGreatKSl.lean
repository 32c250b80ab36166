/- Sl -/
import Derived.Test.YtbpdapcmaioeiaaGreatKGa
import Derived.Lib.BufferWrite
import Derived.Deep.AppendLies
import Derived.Deep.RegionLaw
import Derived.Laws.CopyOwn
import Derived.Laws.ResultCell
import Derived.Deep.Grids
import Derived.Deep.Slices
import Derived.ProofKit
import Derived.Lib.AppendZeros
import Derived.Maps.OwnSet
import Derived.Maps.StringElems
import Derived.Maps.Views
import Derived.Maps.Own
import Derived.Deep.WholeRow
import Derived.WalkArith
import Derived.Deep.DeepMust
import Derived.ChangeKeysEq
import Derived.Defers
import Derived.Laws.EntriesVeiled
import Derived.ChangeMaps5
import Derived.OpenShut
namespace Go.Proofs.YtbpdapcmaioeiaaGreat
open Go.RowKit
set_option maxRecDepth 100000
set_option linter.unusedVariables false
/-- A slice of numbers that reads as l, wherever it lies. -/
def Nl (w : World) (v : Value) (l : List Int) : Prop :=
 ∃ ao cap, v = .slice ao l.length cap ∧ l.length ≤ cap ∧ cap ≤ maxLen ∧ (ao = none → cap = 0) ∧ ∀ ad, ao = some ad → ∀ j u, (l.map (Value.int .i64))[j]? = some u → w.cell? (ad.add j) = some u
theorem Nl.at {w : World} {v : Value} {l : List Int} (h : Nl w v l) (hl : 0 < l.length) :
 ∃ b off cap, v = .slice (some ⟨b, off, none⟩) l.length cap ∧ l.length ≤ cap ∧ cap ≤ maxLen ∧ ∀ j (hj : j < l.length), w.cell? ⟨b, off + j, none⟩ = some (.int .i64 l[j]) := by
 obtain ⟨ao, cap, rfl, h1, h2, h3, h4⟩ := h
 cases ao with
 | none => have := h3 rfl; omega
 | some ad =>
  obtain ⟨b, off, spot⟩ := ad
  have key : ∀ j (hj : j < l.length), w.cell? ((⟨b, off, spot⟩ : Addr).add j) = some (.int .i64 l[j]) := fun j hj => h4 _ rfl j _ (by simp [hj])
  have hs : spot = none := by simpa [Addr.add] using World.cell?_spot (key 0 hl)
  subst hs
  refine ⟨b, off, cap, rfl, h1, h2, fun j hj => ?_⟩
  have := key j hj
  rwa [Addr.add_lit] at this
theorem Nl.of_row {w : World} {a : Option Addr} {len cap : Nat} {zs : List Int}
 (h : (a = none ∧ len = 0 ∧ cap = 0 ∧ zs = []) ∨ ∃ x, a = some x ∧ len ≤ cap ∧ cap ≤ maxLen ∧ zs.length = cap ∧ (∀ i, i < zs.length → w.cell? (x.add i) = some (.int .i64 (zs.getD i 0))) ∧ ∀ n ∈ zs, (Lit.int .i64 n).wf = true) :
 ∃ l : List Int, l.length = len ∧ Nl w (.slice a len cap) l := by
 rcases h with ⟨rfl, rfl, rfl, rfl⟩ | ⟨x, rfl, hl, hm, hz, hc, hw⟩
 ·exact ⟨[], rfl, none, 0, rfl, by simp, by simp [maxLen], fun _ => rfl, fun ad h => by cases h⟩
 ·have hlen : (zs.take len).length = len := by simp; omega
  refine ⟨zs.take len, hlen, some x, cap, by rw [hlen], by omega, hm, (fun h => by cases h), fun ad had j u hu => ?_⟩
  cases had
  have hj : j < len := by
   have := (List.getElem?_eq_some_iff.1 hu).1
   rw [List.length_map, hlen] at this; exact this
  rw [hc j (by omega)]
  have hjz : j < zs.length := by omega
  simp [hj, hjz] at hu
  rw [← hu]
  simp [List.getD, hjz]
theorem Nl.below {w w' : World} {v : Value} {l : List Int} (h : Nl w v l) (hb : Below w.heap.size w w') : Nl w' v l := by
 obtain ⟨ao, cap, e, h1, h2, h3, h4⟩ := h
 exact ⟨ao, cap, e, h1, h2, h3, fun ad had j u hu => (hb.cell (World.block_lt_of_cell? _ _ (h4 ad had j u hu))).trans (h4 ad had j u hu)⟩
/-- A slice of bools that reads as l, wherever it lies. -/
def Bl (w : World) (v : Value) (l : List Bool) : Prop :=
 ∃ ao cap, v = .slice ao l.length cap ∧ l.length ≤ cap ∧ cap ≤ maxLen ∧ (ao = none → cap = 0) ∧ ∀ ad, ao = some ad → ∀ j u, (l.map Value.bool)[j]? = some u → w.cell? (ad.add j) = some u
theorem Bl.nil (w : World) : Bl w (.slice none 0 0) [] := ⟨none, 0, rfl, by simp, by simp [maxLen], fun _ => rfl, fun ad h => by cases h⟩
theorem Bl.moved {P : Nat → Prop} {w w' : World} {v : Value} {l : List Bool} (h : Bl w v l) (hm : Moved P w w') (hP : 0 < l.length → ∀ k, v.ownBlock = some k → ¬ P k) : Bl w' v l := by
 obtain ⟨ao, cap, rfl, h1, h2, h3, h4⟩ := h
 refine ⟨ao, cap, rfl, h1, h2, h3, fun ad had j u hu => ?_⟩
 have hc := h4 ad had j u hu
 subst had
 have hlt := World.block_lt_of_cell? w _ hc
 rw [block_add] at hlt
 have h0 : 0 < l.length := by
  have := (List.getElem?_eq_some_iff.1 hu).1
  rw [List.length_map] at this; omega
 rw [World.cell?_of_block (w := w) (hm.block _ (by rw [block_add]; exact hlt) (by rw [block_add]; exact hP h0 _ rfl))]
 exact hc
theorem Bl.at {w : World} {v : Value} {l : List Bool} (h : Bl w v l) (hl : 0 < l.length) :
 ∃ b off cap, v = .slice (some ⟨b, off, none⟩) l.length cap ∧ l.length ≤ cap ∧ cap ≤ maxLen ∧ ∀ j (hj : j < l.length), w.cell? ⟨b, off + j, none⟩ = some (.bool l[j]) := by
 obtain ⟨ao, cap, rfl, h1, h2, h3, h4⟩ := h
 cases ao with
 | none => have := h3 rfl; omega
 | some ad =>
  obtain ⟨b, off, spot⟩ := ad
  have key : ∀ j (hj : j < l.length), w.cell? ((⟨b, off, spot⟩ : Addr).add j) = some (.bool l[j]) := fun j hj => h4 _ rfl j _ (by simp [hj])
  have hs : spot = none := by simpa [Addr.add] using World.cell?_spot (key 0 hl)
  subst hs
  refine ⟨b, off, cap, rfl, h1, h2, fun j hj => ?_⟩
  have := key j hj
  rwa [Addr.add_lit] at this
theorem Bl.of_row {w : World} {a : Option Addr} {len cap : Nat}
 (h : (a = none ∧ len = 0 ∧ cap = 0) ∨ ∃ (x : Addr) (B : Nat → Bool), a = some x ∧ len ≤ cap ∧ cap ≤ maxLen ∧ ∀ i, i < cap → w.cell? (x.add i) = some (.bool (B i))) :
 ∃ l : List Bool, l.length = len ∧ Bl w (.slice a len cap) l := by
 rcases h with ⟨rfl, rfl, rfl⟩ | ⟨x, B, rfl, hl, hm, hc⟩
 ·exact ⟨[], rfl, Bl.nil w⟩
 ·have hlen : ((List.range len).map B).length = len := by simp
  refine ⟨(List.range len).map B, hlen, some x, cap, by rw [hlen], by omega, hm, (fun h => by cases h), fun ad had j u hu => ?_⟩
  cases had
  have hj : j < len := by
   have := (List.getElem?_eq_some_iff.1 hu).1
   simpa using this
  rw [hc j (by omega)]
  simp [hj] at hu
  rw [hu]
theorem Bl.below {w w' : World} {v : Value} {l : List Bool} (h : Bl w v l) (hb : Below w.heap.size w w') : Bl w' v l := by
 refine h.moved (Moved.of_below hb (fun _ => False)) (fun _ _ _ h => h)
end Go.Proofs.YtbpdapcmaioeiaaGreat
