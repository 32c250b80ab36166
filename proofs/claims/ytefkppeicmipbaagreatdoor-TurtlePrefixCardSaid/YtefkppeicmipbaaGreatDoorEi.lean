/- Rows of numbers, read. -/
import Derived.Test.YtefkppeicmipbaaGreatDoorUx
import Derived.ChangeMaps5
import Derived.OpenShut
import Derived.Deep.AppendLies
import Derived.Deep.LoopGhost
namespace Go.Proofs.YtefkppeicmipbaaGreatDoor
open Go.RowKit
set_option maxRecDepth 100000
set_option linter.unusedVariables false
/-- A slice of numbers that reads as l, wherever it lies. -/
def Nl (w : World) (v : Value) (l : List Int) : Prop :=
  ∃ ao cap, v = .slice ao l.length cap ∧ l.length ≤ cap ∧ cap ≤ maxLen ∧ (ao = none → cap = 0) ∧ ∀ ad, ao = some ad → ∀ j u, (l.map (Value.int .i64))[j]? = some u → w.cell? (ad.add j) = some u
theorem Nl.at {w : World} {v : Value} {l : List Int} (h : Nl w v l) (hl : 0 < l.length) :
    ∃ b off cap, v = .slice (some ⟨b, off, none⟩) l.length cap ∧ l.length ≤ cap ∧ cap ≤ maxLen ∧ ∀ j (hj : j < l.length), w.cell? ⟨b, off + j, none⟩ = some (.int .i64 l[j]) := by
  obtain ⟨ao, cap, rfl, h1, h2, h3, h4⟩ := h
  cases ao with
  | none => have := h3 rfl; omega
  | some ad =>
    obtain ⟨b, off, spot⟩ := ad
    have key : ∀ j (hj : j < l.length), w.cell? ((⟨b, off, spot⟩ : Addr).add j) = some (.int .i64 l[j]) := fun j hj => h4 _ rfl j _ (by simp [hj])
    have hs : spot = none := by simpa [Addr.add] using World.cell?_spot (key 0 hl)
    subst hs
    refine ⟨b, off, cap, rfl, h1, h2, fun j hj => ?_⟩
    have := key j hj
    rwa [Addr.add_lit] at this
theorem Nl.of_row {w : World} {a : Option Addr} {len cap : Nat} {zs : List Int}
    (h : (a = none ∧ len = 0 ∧ cap = 0 ∧ zs = []) ∨ ∃ x, a = some x ∧ len ≤ cap ∧ cap ≤ maxLen ∧ zs.length = cap ∧ (∀ i, i < zs.length → w.cell? (x.add i) = some (.int .i64 (zs.getD i 0))) ∧ ∀ n ∈ zs, (Lit.int .i64 n).wf = true) :
    ∃ l : List Int, l.length = len ∧ Nl w (.slice a len cap) l := by
  rcases h with ⟨rfl, rfl, rfl, rfl⟩ | ⟨x, rfl, hl, hm, hz, hc, hw⟩
  · exact ⟨[], rfl, none, 0, rfl, by simp, by simp [maxLen], fun _ => rfl, fun ad h => by cases h⟩
  · have hlen : (zs.take len).length = len := by simp; omega
    refine ⟨zs.take len, hlen, some x, cap, by rw [hlen], by omega, hm, (fun h => by cases h), fun ad had j u hu => ?_⟩
    cases had
    have hj : j < len := by
      have := (List.getElem?_eq_some_iff.1 hu).1
      rw [List.length_map, hlen] at this; exact this
    rw [hc j (by omega)]
    have hjz : j < zs.length := by omega
    simp [hj, hjz] at hu
    rw [← hu]
    simp [List.getD, hjz]
theorem Nl.below {w w' : World} {v : Value} {l : List Int} (h : Nl w v l) (hb : Below w.heap.size w w') : Nl w' v l := by
  obtain ⟨ao, cap, e, h1, h2, h3, h4⟩ := h
  exact ⟨ao, cap, e, h1, h2, h3, fun ad had j u hu => (hb.cell (World.block_lt_of_cell? _ _ (h4 ad had j u hu))).trans (h4 ad had j u hu)⟩
end Go.Proofs.YtefkppeicmipbaaGreatDoor
/- Triples as text: TurtlePrefix' documents. -/
namespace Go.Proofs.YtefkppeicmipbaaGreatDoor
open Go.RowKit Go.Shelf
set_option maxRecDepth 1000000
set_option linter.unusedVariables false
/-- The six lines, their tokens. -/
def pfT : Nat → List UInt8
  | 0 => [64, 112, 114, 101, 102, 105, 120, 32, 120, 58, 32, 60, 104, 116, 116, 112, 58, 47, 47, 97, 47, 62, 32, 46, 10]
  | 1 => [64, 112, 114, 101, 102, 105, 120, 32, 120, 58, 32, 60, 104, 116, 116, 112, 58, 47, 47, 98, 47, 99, 35, 62, 32, 46, 10]
  | 2 => [64, 112, 114, 101, 102, 105, 120, 32, 120, 58, 32, 60, 100, 58, 62, 32, 46, 10]
  | 3 => [60, 115, 58, 115, 62, 32, 60, 112, 58, 112, 62, 32, 120, 58, 97, 32, 46, 10]
  | 4 => [60, 115, 58, 115, 62, 32, 60, 112, 58, 112, 62, 32, 120, 58, 32, 46, 10]
  | _ => [60, 115, 58, 115, 62, 32, 60, 112, 58, 112, 62, 32, 120, 58, 98, 46, 99, 45, 100, 32, 46, 10]
def pfK : Nat → List Tok
  | 0 => [(6, [112, 114, 101, 102, 105, 120]), (2, [120, 58]), (1, [104, 116, 116, 112, 58, 47, 47, 97, 47]), (9, [46])]
  | 1 => [(6, [112, 114, 101, 102, 105, 120]), (2, [120, 58]), (1, [104, 116, 116, 112, 58, 47, 47, 98, 47, 99, 35]), (9, [46])]
  | 2 => [(6, [112, 114, 101, 102, 105, 120]), (2, [120, 58]), (1, [100, 58]), (9, [46])]
  | 3 => [(1, [115, 58, 115]), (1, [112, 58, 112]), (2, [120, 58, 97]), (9, [46])]
  | 4 => [(1, [115, 58, 115]), (1, [112, 58, 112]), (2, [120, 58]), (9, [46])]
  | _ => [(1, [115, 58, 115]), (1, [112, 58, 112]), (2, [120, 58, 98, 46, 99, 45, 100]), (9, [46])]
def pfR : Nat → ByteArray
  | 0 => bl [104, 116, 116, 112, 58, 47, 47, 97, 47]
  | 1 => bl [104, 116, 116, 112, 58, 47, 47, 98, 47, 99, 35]
  | _ => bl [100, 58]
def pfS : Nat → ByteArray
  | 3 => bl [97]
  | 4 => bl []
  | _ => bl [98, 46, 99, 45, 100]
def mapsP (X : List Tok) (o : Option (List Tok)) : Option (List Tok) := X.foldr (fun t o => o.map fun k => t :: k) o
theorem mapsP_some (Y : List Tok) : ∀ X, mapsP X (some Y) = some (X ++ Y)
  | [] => rfl
  | x :: X => by
    show (mapsP X (some Y)).map _ = _
    rw [mapsP_some Y X]; rfl
theorem pf_tok0 (n : Nat) (q : List UInt8) : tokL (n + 4 + 1) (pfT 0 ++ q) = mapsP (pfK 0) (tokL (n + 1) q) := by kernel_rfl
theorem pf_tok1 (n : Nat) (q : List UInt8) : tokL (n + 4 + 1) (pfT 1 ++ q) = mapsP (pfK 1) (tokL (n + 1) q) := by kernel_rfl
theorem pf_tok2 (n : Nat) (q : List UInt8) : tokL (n + 4 + 1) (pfT 2 ++ q) = mapsP (pfK 2) (tokL (n + 1) q) := by kernel_rfl
theorem pf_tok3 (n : Nat) (q : List UInt8) : tokL (n + 4 + 1) (pfT 3 ++ q) = mapsP (pfK 3) (tokL (n + 1) q) := by kernel_rfl
theorem pf_tok4 (n : Nat) (q : List UInt8) : tokL (n + 4 + 1) (pfT 4 ++ q) = mapsP (pfK 4) (tokL (n + 1) q) := by kernel_rfl
theorem pf_tok5 (n : Nat) (q : List UInt8) : tokL (n + 4 + 1) (pfT 5 ++ q) = mapsP (pfK 5) (tokL (n + 1) q) := by kernel_rfl
def pfB (k : Nat) (r : List (List UInt8 × ByteArray)) : List (List UInt8 × ByteArray) := ([120, 58], pfR k) :: r
def pfX (k j : Nat) : Tri3 := (named (bl [115, 58, 115]), named (bl [112, 58, 112]), named (pfR j ++ pfS k))
theorem pf_bind0 (G m : Nat) (K : List Tok) (r : List (List UInt8 × ByteArray)) (n : Int) (told : List Tri3) : docP gB (G + 12) (m + 1) ⟨pfK 0 ++ K, ⟨#[]⟩, r, n, 0, told, 0⟩ = docP gB (G + 12) m ⟨K, ⟨#[]⟩, pfB 0 r, n, 0, told, 0⟩ := by kernel_rfl
theorem pf_bind1 (G m : Nat) (K : List Tok) (r : List (List UInt8 × ByteArray)) (n : Int) (told : List Tri3) : docP gB (G + 12) (m + 1) ⟨pfK 1 ++ K, ⟨#[]⟩, r, n, 0, told, 0⟩ = docP gB (G + 12) m ⟨K, ⟨#[]⟩, pfB 1 r, n, 0, told, 0⟩ := by kernel_rfl
theorem pf_bind2 (G m : Nat) (K : List Tok) (r : List (List UInt8 × ByteArray)) (n : Int) (told : List Tri3) : docP gB (G + 12) (m + 1) ⟨pfK 2 ++ K, ⟨#[]⟩, r, n, 0, told, 0⟩ = docP gB (G + 12) m ⟨K, ⟨#[]⟩, pfB 2 r, n, 0, told, 0⟩ := by kernel_rfl
theorem pf_none3 (G m : Nat) (K : List Tok) (n : Int) (told : List Tri3) : (docP gB (G + 12) (m + 2) ⟨pfK 3 ++ K, ⟨#[]⟩, [], n, 0, told, 0⟩).e = 11 := by kernel_rfl
theorem pf_none4 (G m : Nat) (K : List Tok) (n : Int) (told : List Tri3) : (docP gB (G + 12) (m + 2) ⟨pfK 4 ++ K, ⟨#[]⟩, [], n, 0, told, 0⟩).e = 11 := by kernel_rfl
theorem pf_none5 (G m : Nat) (K : List Tok) (n : Int) (told : List Tri3) : (docP gB (G + 12) (m + 2) ⟨pfK 5 ++ K, ⟨#[]⟩, [], n, 0, told, 0⟩).e = 11 := by kernel_rfl
theorem pf_use30 (G m : Nat) (K : List Tok) (r : List (List UInt8 × ByteArray)) (n : Int) (told : List Tri3) (h : told.length < 12) : docP gB (G + 12) (m + 1) ⟨pfK 3 ++ K, ⟨#[]⟩, pfB 0 r, n, 0, told, 0⟩ = docP gB (G + 12) m ⟨K, ⟨#[]⟩, pfB 0 r, n, 0, told ++ [pfX 3 0], 0⟩ := by
  match told, h with
  | [], _ => show _ = _; kernel_rfl
  | [t0], _ => show _ = _; kernel_rfl
  | [t0, t1], _ => show _ = _; kernel_rfl
  | [t0, t1, t2], _ => show _ = _; kernel_rfl
  | [t0, t1, t2, t3], _ => show _ = _; kernel_rfl
  | [t0, t1, t2, t3, t4], _ => show _ = _; kernel_rfl
  | [t0, t1, t2, t3, t4, t5], _ => show _ = _; kernel_rfl
  | [t0, t1, t2, t3, t4, t5, t6], _ => show _ = _; kernel_rfl
  | [t0, t1, t2, t3, t4, t5, t6, t7], _ => show _ = _; kernel_rfl
  | [t0, t1, t2, t3, t4, t5, t6, t7, t8], _ => show _ = _; kernel_rfl
  | [t0, t1, t2, t3, t4, t5, t6, t7, t8, t9], _ => show _ = _; kernel_rfl
  | [t0, t1, t2, t3, t4, t5, t6, t7, t8, t9, t10], _ => show _ = _; kernel_rfl
  | t0 :: t1 :: t2 :: t3 :: t4 :: t5 :: t6 :: t7 :: t8 :: t9 :: t10 :: t11 :: r, h => exact absurd h (by simp only [List.length_cons]; omega)
theorem pf_use31 (G m : Nat) (K : List Tok) (r : List (List UInt8 × ByteArray)) (n : Int) (told : List Tri3) (h : told.length < 12) : docP gB (G + 12) (m + 1) ⟨pfK 3 ++ K, ⟨#[]⟩, pfB 1 r, n, 0, told, 0⟩ = docP gB (G + 12) m ⟨K, ⟨#[]⟩, pfB 1 r, n, 0, told ++ [pfX 3 1], 0⟩ := by
  match told, h with
  | [], _ => show _ = _; kernel_rfl
  | [t0], _ => show _ = _; kernel_rfl
  | [t0, t1], _ => show _ = _; kernel_rfl
  | [t0, t1, t2], _ => show _ = _; kernel_rfl
  | [t0, t1, t2, t3], _ => show _ = _; kernel_rfl
  | [t0, t1, t2, t3, t4], _ => show _ = _; kernel_rfl
  | [t0, t1, t2, t3, t4, t5], _ => show _ = _; kernel_rfl
  | [t0, t1, t2, t3, t4, t5, t6], _ => show _ = _; kernel_rfl
  | [t0, t1, t2, t3, t4, t5, t6, t7], _ => show _ = _; kernel_rfl
  | [t0, t1, t2, t3, t4, t5, t6, t7, t8], _ => show _ = _; kernel_rfl
  | [t0, t1, t2, t3, t4, t5, t6, t7, t8, t9], _ => show _ = _; kernel_rfl
  | [t0, t1, t2, t3, t4, t5, t6, t7, t8, t9, t10], _ => show _ = _; kernel_rfl
  | t0 :: t1 :: t2 :: t3 :: t4 :: t5 :: t6 :: t7 :: t8 :: t9 :: t10 :: t11 :: r, h => exact absurd h (by simp only [List.length_cons]; omega)
theorem pf_use32 (G m : Nat) (K : List Tok) (r : List (List UInt8 × ByteArray)) (n : Int) (told : List Tri3) (h : told.length < 12) : docP gB (G + 12) (m + 1) ⟨pfK 3 ++ K, ⟨#[]⟩, pfB 2 r, n, 0, told, 0⟩ = docP gB (G + 12) m ⟨K, ⟨#[]⟩, pfB 2 r, n, 0, told ++ [pfX 3 2], 0⟩ := by
  match told, h with
  | [], _ => show _ = _; kernel_rfl
  | [t0], _ => show _ = _; kernel_rfl
  | [t0, t1], _ => show _ = _; kernel_rfl
  | [t0, t1, t2], _ => show _ = _; kernel_rfl
  | [t0, t1, t2, t3], _ => show _ = _; kernel_rfl
  | [t0, t1, t2, t3, t4], _ => show _ = _; kernel_rfl
  | [t0, t1, t2, t3, t4, t5], _ => show _ = _; kernel_rfl
  | [t0, t1, t2, t3, t4, t5, t6], _ => show _ = _; kernel_rfl
  | [t0, t1, t2, t3, t4, t5, t6, t7], _ => show _ = _; kernel_rfl
  | [t0, t1, t2, t3, t4, t5, t6, t7, t8], _ => show _ = _; kernel_rfl
  | [t0, t1, t2, t3, t4, t5, t6, t7, t8, t9], _ => show _ = _; kernel_rfl
  | [t0, t1, t2, t3, t4, t5, t6, t7, t8, t9, t10], _ => show _ = _; kernel_rfl
  | t0 :: t1 :: t2 :: t3 :: t4 :: t5 :: t6 :: t7 :: t8 :: t9 :: t10 :: t11 :: r, h => exact absurd h (by simp only [List.length_cons]; omega)
theorem pf_use40 (G m : Nat) (K : List Tok) (r : List (List UInt8 × ByteArray)) (n : Int) (told : List Tri3) (h : told.length < 12) : docP gB (G + 12) (m + 1) ⟨pfK 4 ++ K, ⟨#[]⟩, pfB 0 r, n, 0, told, 0⟩ = docP gB (G + 12) m ⟨K, ⟨#[]⟩, pfB 0 r, n, 0, told ++ [pfX 4 0], 0⟩ := by
  match told, h with
  | [], _ => show _ = _; kernel_rfl
  | [t0], _ => show _ = _; kernel_rfl
  | [t0, t1], _ => show _ = _; kernel_rfl
  | [t0, t1, t2], _ => show _ = _; kernel_rfl
  | [t0, t1, t2, t3], _ => show _ = _; kernel_rfl
  | [t0, t1, t2, t3, t4], _ => show _ = _; kernel_rfl
  | [t0, t1, t2, t3, t4, t5], _ => show _ = _; kernel_rfl
  | [t0, t1, t2, t3, t4, t5, t6], _ => show _ = _; kernel_rfl
  | [t0, t1, t2, t3, t4, t5, t6, t7], _ => show _ = _; kernel_rfl
  | [t0, t1, t2, t3, t4, t5, t6, t7, t8], _ => show _ = _; kernel_rfl
  | [t0, t1, t2, t3, t4, t5, t6, t7, t8, t9], _ => show _ = _; kernel_rfl
  | [t0, t1, t2, t3, t4, t5, t6, t7, t8, t9, t10], _ => show _ = _; kernel_rfl
  | t0 :: t1 :: t2 :: t3 :: t4 :: t5 :: t6 :: t7 :: t8 :: t9 :: t10 :: t11 :: r, h => exact absurd h (by simp only [List.length_cons]; omega)
theorem pf_use41 (G m : Nat) (K : List Tok) (r : List (List UInt8 × ByteArray)) (n : Int) (told : List Tri3) (h : told.length < 12) : docP gB (G + 12) (m + 1) ⟨pfK 4 ++ K, ⟨#[]⟩, pfB 1 r, n, 0, told, 0⟩ = docP gB (G + 12) m ⟨K, ⟨#[]⟩, pfB 1 r, n, 0, told ++ [pfX 4 1], 0⟩ := by
  match told, h with
  | [], _ => show _ = _; kernel_rfl
  | [t0], _ => show _ = _; kernel_rfl
  | [t0, t1], _ => show _ = _; kernel_rfl
  | [t0, t1, t2], _ => show _ = _; kernel_rfl
  | [t0, t1, t2, t3], _ => show _ = _; kernel_rfl
  | [t0, t1, t2, t3, t4], _ => show _ = _; kernel_rfl
  | [t0, t1, t2, t3, t4, t5], _ => show _ = _; kernel_rfl
  | [t0, t1, t2, t3, t4, t5, t6], _ => show _ = _; kernel_rfl
  | [t0, t1, t2, t3, t4, t5, t6, t7], _ => show _ = _; kernel_rfl
  | [t0, t1, t2, t3, t4, t5, t6, t7, t8], _ => show _ = _; kernel_rfl
  | [t0, t1, t2, t3, t4, t5, t6, t7, t8, t9], _ => show _ = _; kernel_rfl
  | [t0, t1, t2, t3, t4, t5, t6, t7, t8, t9, t10], _ => show _ = _; kernel_rfl
  | t0 :: t1 :: t2 :: t3 :: t4 :: t5 :: t6 :: t7 :: t8 :: t9 :: t10 :: t11 :: r, h => exact absurd h (by simp only [List.length_cons]; omega)
theorem pf_use42 (G m : Nat) (K : List Tok) (r : List (List UInt8 × ByteArray)) (n : Int) (told : List Tri3) (h : told.length < 12) : docP gB (G + 12) (m + 1) ⟨pfK 4 ++ K, ⟨#[]⟩, pfB 2 r, n, 0, told, 0⟩ = docP gB (G + 12) m ⟨K, ⟨#[]⟩, pfB 2 r, n, 0, told ++ [pfX 4 2], 0⟩ := by
  match told, h with
  | [], _ => show _ = _; kernel_rfl
  | [t0], _ => show _ = _; kernel_rfl
  | [t0, t1], _ => show _ = _; kernel_rfl
  | [t0, t1, t2], _ => show _ = _; kernel_rfl
  | [t0, t1, t2, t3], _ => show _ = _; kernel_rfl
  | [t0, t1, t2, t3, t4], _ => show _ = _; kernel_rfl
  | [t0, t1, t2, t3, t4, t5], _ => show _ = _; kernel_rfl
  | [t0, t1, t2, t3, t4, t5, t6], _ => show _ = _; kernel_rfl
  | [t0, t1, t2, t3, t4, t5, t6, t7], _ => show _ = _; kernel_rfl
  | [t0, t1, t2, t3, t4, t5, t6, t7, t8], _ => show _ = _; kernel_rfl
  | [t0, t1, t2, t3, t4, t5, t6, t7, t8, t9], _ => show _ = _; kernel_rfl
  | [t0, t1, t2, t3, t4, t5, t6, t7, t8, t9, t10], _ => show _ = _; kernel_rfl
  | t0 :: t1 :: t2 :: t3 :: t4 :: t5 :: t6 :: t7 :: t8 :: t9 :: t10 :: t11 :: r, h => exact absurd h (by simp only [List.length_cons]; omega)
theorem pf_use50 (G m : Nat) (K : List Tok) (r : List (List UInt8 × ByteArray)) (n : Int) (told : List Tri3) (h : told.length < 12) : docP gB (G + 12) (m + 1) ⟨pfK 5 ++ K, ⟨#[]⟩, pfB 0 r, n, 0, told, 0⟩ = docP gB (G + 12) m ⟨K, ⟨#[]⟩, pfB 0 r, n, 0, told ++ [pfX 5 0], 0⟩ := by
  match told, h with
  | [], _ => show _ = _; kernel_rfl
  | [t0], _ => show _ = _; kernel_rfl
  | [t0, t1], _ => show _ = _; kernel_rfl
  | [t0, t1, t2], _ => show _ = _; kernel_rfl
  | [t0, t1, t2, t3], _ => show _ = _; kernel_rfl
  | [t0, t1, t2, t3, t4], _ => show _ = _; kernel_rfl
  | [t0, t1, t2, t3, t4, t5], _ => show _ = _; kernel_rfl
  | [t0, t1, t2, t3, t4, t5, t6], _ => show _ = _; kernel_rfl
  | [t0, t1, t2, t3, t4, t5, t6, t7], _ => show _ = _; kernel_rfl
  | [t0, t1, t2, t3, t4, t5, t6, t7, t8], _ => show _ = _; kernel_rfl
  | [t0, t1, t2, t3, t4, t5, t6, t7, t8, t9], _ => show _ = _; kernel_rfl
  | [t0, t1, t2, t3, t4, t5, t6, t7, t8, t9, t10], _ => show _ = _; kernel_rfl
  | t0 :: t1 :: t2 :: t3 :: t4 :: t5 :: t6 :: t7 :: t8 :: t9 :: t10 :: t11 :: r, h => exact absurd h (by simp only [List.length_cons]; omega)
theorem pf_use51 (G m : Nat) (K : List Tok) (r : List (List UInt8 × ByteArray)) (n : Int) (told : List Tri3) (h : told.length < 12) : docP gB (G + 12) (m + 1) ⟨pfK 5 ++ K, ⟨#[]⟩, pfB 1 r, n, 0, told, 0⟩ = docP gB (G + 12) m ⟨K, ⟨#[]⟩, pfB 1 r, n, 0, told ++ [pfX 5 1], 0⟩ := by
  match told, h with
  | [], _ => show _ = _; kernel_rfl
  | [t0], _ => show _ = _; kernel_rfl
  | [t0, t1], _ => show _ = _; kernel_rfl
  | [t0, t1, t2], _ => show _ = _; kernel_rfl
  | [t0, t1, t2, t3], _ => show _ = _; kernel_rfl
  | [t0, t1, t2, t3, t4], _ => show _ = _; kernel_rfl
  | [t0, t1, t2, t3, t4, t5], _ => show _ = _; kernel_rfl
  | [t0, t1, t2, t3, t4, t5, t6], _ => show _ = _; kernel_rfl
  | [t0, t1, t2, t3, t4, t5, t6, t7], _ => show _ = _; kernel_rfl
  | [t0, t1, t2, t3, t4, t5, t6, t7, t8], _ => show _ = _; kernel_rfl
  | [t0, t1, t2, t3, t4, t5, t6, t7, t8, t9], _ => show _ = _; kernel_rfl
  | [t0, t1, t2, t3, t4, t5, t6, t7, t8, t9, t10], _ => show _ = _; kernel_rfl
  | t0 :: t1 :: t2 :: t3 :: t4 :: t5 :: t6 :: t7 :: t8 :: t9 :: t10 :: t11 :: r, h => exact absurd h (by simp only [List.length_cons]; omega)
theorem pf_use52 (G m : Nat) (K : List Tok) (r : List (List UInt8 × ByteArray)) (n : Int) (told : List Tri3) (h : told.length < 12) : docP gB (G + 12) (m + 1) ⟨pfK 5 ++ K, ⟨#[]⟩, pfB 2 r, n, 0, told, 0⟩ = docP gB (G + 12) m ⟨K, ⟨#[]⟩, pfB 2 r, n, 0, told ++ [pfX 5 2], 0⟩ := by
  match told, h with
  | [], _ => show _ = _; kernel_rfl
  | [t0], _ => show _ = _; kernel_rfl
  | [t0, t1], _ => show _ = _; kernel_rfl
  | [t0, t1, t2], _ => show _ = _; kernel_rfl
  | [t0, t1, t2, t3], _ => show _ = _; kernel_rfl
  | [t0, t1, t2, t3, t4], _ => show _ = _; kernel_rfl
  | [t0, t1, t2, t3, t4, t5], _ => show _ = _; kernel_rfl
  | [t0, t1, t2, t3, t4, t5, t6], _ => show _ = _; kernel_rfl
  | [t0, t1, t2, t3, t4, t5, t6, t7], _ => show _ = _; kernel_rfl
  | [t0, t1, t2, t3, t4, t5, t6, t7, t8], _ => show _ = _; kernel_rfl
  | [t0, t1, t2, t3, t4, t5, t6, t7, t8, t9], _ => show _ = _; kernel_rfl
  | [t0, t1, t2, t3, t4, t5, t6, t7, t8, t9, t10], _ => show _ = _; kernel_rfl
  | t0 :: t1 :: t2 :: t3 :: t4 :: t5 :: t6 :: t7 :: t8 :: t9 :: t10 :: t11 :: r, h => exact absurd h (by simp only [List.length_cons]; omega)
theorem pf_none (k G m : Nat) (h : 3 ≤ k) (h2 : k < 6) (K : List Tok) (n : Int) (told : List Tri3) : (docP gB (G + 12) (m + 2) ⟨pfK k ++ K, ⟨#[]⟩, [], n, 0, told, 0⟩).e = 11 := by
  match k, h, h2 with
  | 3, _, _ => exact pf_none3 ..
  | 4, _, _ => exact pf_none4 ..
  | 5, _, _ => exact pf_none5 ..
theorem pf_bind (k G m : Nat) (h : k < 3) (K : List Tok) (r : List (List UInt8 × ByteArray)) (n : Int) (told : List Tri3) : docP gB (G + 12) (m + 1) ⟨pfK k ++ K, ⟨#[]⟩, r, n, 0, told, 0⟩ = docP gB (G + 12) m ⟨K, ⟨#[]⟩, pfB k r, n, 0, told, 0⟩ := by
  match k, h with
  | 0, _ => exact pf_bind0 ..
  | 1, _ => exact pf_bind1 ..
  | 2, _ => exact pf_bind2 ..
theorem pf_use (k j G m : Nat) (h : 3 ≤ k) (h2 : k < 6) (h3 : j < 3) (K : List Tok) (r : List (List UInt8 × ByteArray)) (n : Int) (told : List Tri3) (ht : told.length < 12) : docP gB (G + 12) (m + 1) ⟨pfK k ++ K, ⟨#[]⟩, pfB j r, n, 0, told, 0⟩ = docP gB (G + 12) m ⟨K, ⟨#[]⟩, pfB j r, n, 0, told ++ [pfX k j], 0⟩ := by
  match k, h, h2, j, h3 with
  | 3, _, _, 0, _ => exact pf_use30 _ _ _ _ _ _ ht
  | 3, _, _, 1, _ => exact pf_use31 _ _ _ _ _ _ ht
  | 3, _, _, 2, _ => exact pf_use32 _ _ _ _ _ _ ht
  | 4, _, _, 0, _ => exact pf_use40 _ _ _ _ _ _ ht
  | 4, _, _, 1, _ => exact pf_use41 _ _ _ _ _ _ ht
  | 4, _, _, 2, _ => exact pf_use42 _ _ _ _ _ _ ht
  | 5, _, _, 0, _ => exact pf_use50 _ _ _ _ _ _ ht
  | 5, _, _, 1, _ => exact pf_use51 _ _ _ _ _ _ ht
  | 5, _, _, 2, _ => exact pf_use52 _ _ _ _ _ _ ht
theorem pf_tok (k : Nat) (h : k < 6) (n : Nat) (q : List UInt8) : tokL (n + 4 + 1) (pfT k ++ q) = mapsP (pfK k) (tokL (n + 1) q) := by
  match k, h with
  | 0, _ => exact pf_tok0 ..
  | 1, _ => exact pf_tok1 ..
  | 2, _ => exact pf_tok2 ..
  | 3, _ => exact pf_tok3 ..
  | 4, _ => exact pf_tok4 ..
  | 5, _ => exact pf_tok5 ..
theorem pfT_len (k : Nat) : 16 ≤ (pfT k).length ∧ (pfT k).length ≤ 30 := by
  unfold pfT
  split <;> decide
theorem pf_toks : ∀ ks : List Nat, (∀ k ∈ ks, k < 6) → tokL ((ks.flatMap pfT).length + 1) (ks.flatMap pfT) = some (ks.flatMap pfK)
  | [], _ => by rfl
  | k :: ks, h => by
    have ih := pf_toks ks (fun x hx => h x (by simp [hx]))
    have hk := pfT_len k
    rw [List.flatMap_cons, List.flatMap_cons, tok_fuel _ ((ks.flatMap pfT).length + (pfT k).length + 4 + 1) _ (by omega) (by rw [List.length_append]; omega), pf_tok k (h k (by simp)), tok_fuel _ ((ks.flatMap pfT).length + 1) (ks.flatMap pfT) (by omega) (by omega), ih, mapsP_some]
theorem pf_tokens (ks : List Nat) (h : ∀ k ∈ ks, k < 6) (hl : ks.length ≤ 12) : tokensL (ks.flatMap pfT) = (ks.flatMap pfK, 0) := by
  have hlen : ∀ ks : List Nat, (ks.flatMap pfT).length ≤ 30 * ks.length := by
    intro ks
    induction ks with
    | nil => simp
    | cons k ks ih =>
      have := pfT_len k
      rw [List.flatMap_cons, List.length_append, List.length_cons]
      omega
  have := hlen ks
  unfold tokensL
  rw [if_neg (by omega), pf_toks ks h]
/-- What the lines behind an '@prefix' tell. -/
def pfG : Nat → List Nat → List Tri3
  | _, [] => []
  | j, k :: ks => if k < 3 then pfG k ks else pfX k j :: pfG j ks
theorem pf_run (G : Nat) : ∀ (ks : List Nat) (m j : Nat) (r : List (List UInt8 × ByteArray)) (n : Int) (told : List Tri3), (∀ k ∈ ks, k < 6) → j < 3 → ks.length ≤ m → told.length + ks.length ≤ 12 →
    ∃ r', docP gB (G + 12) (m + 1) ⟨ks.flatMap pfK, ⟨#[]⟩, pfB j r, n, 0, told, 0⟩ = ⟨[], ⟨#[]⟩, r', n, 0, told ++ pfG j ks, 0⟩
  | [], m, j, r, n, told, _, _, _, _ => ⟨_, by rw [pfG, List.append_nil]; rfl⟩
  | k :: ks, m, j, r, n, told, h, hj, hm, ht => by
    rw [List.length_cons] at hm ht
    have hk := h k (by simp)
    have hks : ∀ x ∈ ks, x < 6 := fun x hx => h x (by simp [hx])
    obtain ⟨m, rfl⟩ : ∃ q, m = q + 1 := ⟨m - 1, by omega⟩
    rw [List.flatMap_cons, pfG]
    by_cases h3 : k < 3
    · rw [if_pos h3, pf_bind k G (m + 1) h3]
      exact pf_run G ks m k _ n told hks h3 (by omega) (by omega)
    · rw [if_neg h3, pf_use k j G (m + 1) (by omega) hk hj _ _ _ _ (by omega)]
      obtain ⟨r', hr⟩ := pf_run G ks m j r n (told ++ [pfX k j]) hks hj (by omega) (by rw [List.length_append]; simp; omega)
      exact ⟨r', by rw [hr, List.append_assoc]; rfl⟩
theorem pfK_len (ks : List Nat) : (ks.flatMap pfK).length = 4 * ks.length := by
  induction ks with
  | nil => rfl
  | cons k ks ih =>
    have : (pfK k).length = 4 := by unfold pfK; split <;> rfl
    rw [List.flatMap_cons, List.length_append, ih, List.length_cons, this]
    omega
theorem pf_doc (k : Nat) (ks : List Nat) (h : ∀ x ∈ k :: ks, x < 6) (hk : k < 3) (hl : ks.length ≤ 11) : turtleL ⟨#[]⟩ gB ((k :: ks).flatMap pfT) = (pfG k ks, 0) := by
  unfold turtleL
  rw [pf_tokens (k :: ks) h (by rw [List.length_cons]; omega)]
  dsimp only
  rw [if_neg (by decide), pfK_len, List.flatMap_cons, List.length_cons, pf_bind k (6 * (4 * (ks.length + 1))) _ hk]
  obtain ⟨r', hr⟩ := pf_run (6 * (4 * (ks.length + 1))) ks (4 * (ks.length + 1) - 1) k [] 0 [] (fun x hx => h x (by simp [hx])) hk (by omega) (by simp; omega)
  rw [show 4 * (ks.length + 1) - 1 + 1 = 4 * (ks.length + 1) by omega] at hr
  rw [hr]
  rfl
theorem pf_bad (k : Nat) (h : 3 ≤ k) (h2 : k < 6) : (turtleL ⟨#[]⟩ gB (pfT k)).2 = 11 := by
  match k, h, h2 with
  | 3, _, _ => decide +kernel
  | 4, _, _ => decide +kernel
  | 5, _, _ => decide +kernel
theorem pf_nil : turtleL ⟨#[]⟩ gB [] = ([], 0) := by kernel_rfl
end Go.Proofs.YtefkppeicmipbaaGreatDoor
/- Triples as text: TurtleLabels' documents. -/
namespace Go.Proofs.YtefkppeicmipbaaGreatDoor
open Go.RowKit Go.Shelf
set_option maxRecDepth 1000000
set_option linter.unusedVariables false
def labU : Nat → List UInt8
  | 0 => [49]
  | 1 => [91, 93]
  | 2 => [91, 32, 60, 113, 58, 113, 62, 32, 91, 93, 32, 93]
  | 3 => [40, 49, 32, 50, 41]
  | _ => [34, 97, 34]
def labN : Nat → Nat
  | 0 => 1
  | 1 => 2
  | 2 => 3
  | 3 => 3
  | _ => 1
/-- The document, and how many blanks it has. -/
def labD (m : Nat) : Nat → List UInt8
  | 0 => []
  | n + 1 => ((labD m n ++ [91, 93, 32, 60, 112, 58, 112, 62, 32]) ++ labU ((n + m) % 5)) ++ [32, 46, 10]
def labC (m : Nat) : Nat → Nat
  | 0 => 0
  | n + 1 => labC m n + labN ((n + m) % 5)
def labG : Bool → ByteArray
  | true => ⟨#[122, 122, 95]⟩
  | false => ⟨#[103]⟩
/-- The subjects and objects, in their order. -/
def subs : List Tri3 → List Tm
  | [] => []
  | x :: r => x.1 :: x.2.2 :: subs r
def sameB (a b : ByteArray) : Bool := a.data.toList == b.data.toList
theorem sameB_iff {a b : ByteArray} : sameB a b = true ↔ a = b := by
  unfold sameB
  rw [beq_iff_eq]
  exact ⟨fun h => ba_ext h, fun h => by rw [h]⟩
/-- Is s among the first j? -/
def anyN (sn : List ByteArray) (s : ByteArray) : Nat → Bool
  | 0 => false
  | j + 1 => anyN sn s j || sameB (sn.getD j ⟨#[]⟩) s
def seenS (sn : List ByteArray) (t : Tm) : List ByteArray := if t.k = 2 then (if anyN sn t.s sn.length then sn else sn ++ [t.s]) else sn
def seenQ (T : List Tm) : Nat → List ByteArray
  | 0 => []
  | q + 1 => match T[q]? with
    | some t => seenS (seenQ T q) t
    | none => seenQ T q
def seenA : List Tm → List ByteArray → List ByteArray
  | [], sn => sn
  | t :: r, sn => seenA r (seenS sn t)
theorem seenQ_app (T U : List Tm) : ∀ q, q ≤ T.length → seenQ (T ++ U) q = seenQ T q
  | 0, _ => rfl
  | q + 1, h => by
    rw [seenQ, seenQ, List.getElem?_append_left (by omega), seenQ_app T U q (by omega)]
theorem seenA_eq : ∀ (U T : List Tm), seenA U (seenQ T T.length) = seenQ (T ++ U) (T ++ U).length
  | [], T => by rw [List.append_nil]; rfl
  | t :: r, T => by
    have ih := seenA_eq r (T ++ [t])
    rw [List.append_assoc] at ih
    rw [seenA, show T ++ t :: r = T ++ ([t] ++ r) from rfl, ← ih]
    congr 1
    rw [show (T ++ [t]).length = T.length + 1 by simp, seenQ, List.getElem?_append_right (Nat.le_refl _), Nat.sub_self, seenQ_app T [t] _ (Nat.le_refl _)]
    rfl
theorem seenQ_len (T : List Tm) : ∀ q, (seenQ T q).length ≤ q
  | 0 => Nat.le_refl _
  | q + 1 => by
    have ih := seenQ_len T q
    rw [seenQ]
    split
    · unfold seenS
      split
      · split
        · omega
        · rw [List.length_append]; simp; omega
      · omega
    · omega
def prefOk (g : ByteArray) (t : Tm) : Bool := t.k != 2 || (decide (g.data.toList.length < t.s.data.toList.length) && t.s.data.toList.take g.data.toList.length == g.data.toList)
def labOk (b : Bool) (m n : Nat) : Bool := match turtleL ⟨#[]⟩ (labG b) (labD m n) with
  | (l, e) => e == 0 && ((subs l).all (prefOk (labG b)) && ((seenA (subs l) []).length == labC m n && decide (l.length ≤ 1000)))
theorem lab_all : ∀ (b : Bool) (m : Fin 5) (n : Fin 9), labOk b m.val (n.val + 1) = true := by decide +kernel
theorem lab_facts (b : Bool) (m n : Nat) (hm : m < 5) (hn : n < 9) : ∃ l : List Tri3, turtleL ⟨#[]⟩ (labG b) (labD m (n + 1)) = (l, 0) ∧ (∀ t ∈ subs l, prefOk (labG b) t = true) ∧ (seenQ (subs l) (subs l).length).length = labC m (n + 1) ∧ l.length ≤ 1000 := by
  have h := lab_all b ⟨m, hm⟩ ⟨n, hn⟩
  unfold labOk at h
  dsimp only at h
  generalize turtleL ⟨#[]⟩ (labG b) (labD m (n + 1)) = R at h ⊢
  obtain ⟨l, e⟩ := R
  dsimp only at h
  simp only [Bool.and_eq_true, beq_iff_eq, decide_eq_true_eq, List.all_eq_true] at h
  obtain ⟨rfl, h1, h2, h3⟩ := h
  have k := seenA_eq (subs l) []
  rw [List.nil_append] at k
  exact ⟨l, rfl, h1, by rw [← k]; exact h2, h3⟩
theorem subs_len : ∀ l : List Tri3, (subs l).length = 2 * l.length
  | [] => rfl
  | x :: r => by rw [subs, List.length_cons, List.length_cons, subs_len r, List.length_cons]; omega
theorem subs_even : ∀ (l : List Tri3) (i : Nat) (h : i < l.length), (subs l)[2 * i]? = some l[i].1
  | x :: r, 0, _ => rfl
  | x :: r, i + 1, h => by
    have := subs_even r i (by simpa using h)
    rw [subs, show 2 * (i + 1) = 2 * i + 1 + 1 by omega, List.getElem?_cons_succ, List.getElem?_cons_succ, this]
    rfl
theorem subs_odd : ∀ (l : List Tri3) (i : Nat) (h : i < l.length), (subs l)[2 * i + 1]? = some l[i].2.2
  | x :: r, 0, _ => rfl
  | x :: r, i + 1, h => by
    have := subs_odd r i (by simpa using h)
    rw [subs, show 2 * (i + 1) + 1 = 2 * i + 1 + 1 + 1 by omega, List.getElem?_cons_succ, List.getElem?_cons_succ, this]
    rfl
theorem labU_len (k : Nat) : (labU k).length ≤ 12 := by
  unfold labU
  split <;> decide
theorem labD_len (m n : Nat) : (labD m n).length ≤ 24 * n := by
  induction n with
  | zero => exact Nat.le_refl _
  | succ n ih =>
    have := labU_len ((n + m) % 5)
    simp only [labD, List.length_append, List.length_cons, List.length_nil]
    omega
theorem labC_le (m n : Nat) : labC m n ≤ 3 * n := by
  induction n with
  | zero => exact Nat.le_refl _
  | succ n ih =>
    have : labN ((n + m) % 5) ≤ 3 := by unfold labN; split <;> decide
    rw [labC]
    omega
end Go.Proofs.YtefkppeicmipbaaGreatDoor
/- Rows of strings of the call's own; Same of a row with itself. -/
namespace Go.Proofs.YtefkppeicmipbaaGreatDoor
open Go.RowKit Go.Shelf
set_option maxRecDepth 100000
set_option linter.unusedVariables false
set_option linter.unusedSimpArgs false
def strs2 (l : List ByteArray) : List Value := l.map Value.string
def OwS (w : World) (base : Nat) (v : Value) (l : List ByteArray) : Prop := w.ownsRow base 9 1 v l.length (strs2 l)
theorem OwS.nil (w : World) (base : Nat) : OwS w base (.slice none 0 0) [] := World.ownsRow_nil _ _ _ _
theorem OwS.lt {w : World} {base : Nat} {v : Value} {l : List ByteArray} (h : OwS w base v l) : ∀ q, v.ownBlock = some q → base ≤ q ∧ q < w.heap.size := World.ownsRow.lt h
theorem OwS.form {w : World} {base : Nat} {v : Value} {l : List ByteArray} (h : OwS w base v l) : ∃ ao cap, v = .slice ao l.length cap ∧ l.length ≤ cap ∧ cap ≤ 9223372036854775807 := owns_form h
theorem OwS.moved {P : Nat → Prop} {w w' : World} {base : Nat} {v : Value} {l : List ByteArray} (h : OwS w base v l) (hm : Moved P w w') (hP : ∀ q, v.ownBlock = some q → ¬ P q) : OwS w' base v l := owns_moved h hm hP
theorem OwS.below {w w' : World} {base : Nat} {v : Value} {l : List ByteArray} (h : OwS w base v l) (hb : Below w.heap.size w w') : OwS w' base v l := h.moved (Moved.of_below hb (fun _ => False)) (fun _ _ h => h)
theorem OwS.at1 {w : World} {base : Nat} {ao : Option Addr} {n cap : Nat} {l : List ByteArray} (h : OwS w base (.slice ao n cap) l) (hl : 0 < l.length) :
    ∃ g, ao = some ⟨g, 0, none⟩ ∧ base ≤ g ∧ g < w.heap.size ∧ ∀ j, j < l.length → w.cell? ⟨g, j, none⟩ = some (.string (l.getD j ⟨#[]⟩)) := by
  rcases h.2 with ⟨h1, h2⟩ | ⟨g, cap', cur, h1, h2, h3, k⟩
  · omega
  · cases h1
    have hc := h.cells (g := g) rfl
    refine ⟨g, rfl, (h.lt g rfl).1, (h.lt g rfl).2, fun j hj => ?_⟩
    have d1 := hc j (.string (l.getD j ⟨#[]⟩)) (by
      unfold strs2
      rw [List.getElem?_map, List.getElem?_eq_getElem hj]
      simp [hj])
    rw [Addr.add_mid, Nat.zero_add] at d1
    exact d1
theorem Tryz.infoStrG : (Tryz.prog.info? 9).map (fun i => (i.zero, i.size, i.bytes)) = some (some (.string ⟨#[]⟩), 1, 16) := by kernel_rfl
theorem wpList_append_st {w : World} {ops : Array Oper} {rest : List Oper} {o : Oper} {a : Act} {Q : Exit → Act → World → Prop} (hgd : o.guard = none) (s x : Operand)
    (ho : o.op = .call { callee := .builtin .append, args := #[s, x], argTypes := #[24, 24] }) (base : Nat) (hbase : base ≤ w.heap.size)
    (v : Value) (l : List ByteArray) (hs : a.eval s = v) (hown : OwS w base v l) (g0 : Nat) (hx : a.eval x = .slice (some ⟨g0, 0, none⟩) 1 1) (e : ByteArray) (hg : Blk w g0 #[.string e] 9) (n : Nat) (hn : n = l.length + 1) (hl : n ≤ 1000000)
    (h : ∀ ao cap w', OwS w' base (.slice ao n cap) (l ++ [e]) → n ≤ cap → cap ≤ 9223372036854775807 → w.grownBy w' v.ownBlock → (∀ q, (Value.slice ao n cap).ownBlock = some q → v.ownBlock = some q ∨ w.heap.size ≤ q) → wpList Tryz.prog ops Q rest (a.put o.dst (.slice ao n cap)) w') :
    wpList Tryz.prog ops Q (o :: rest) a w := by
  obtain ⟨i0, hi, hz0, hz1, hz2⟩ := info_parts Tryz.infoStrG
  refine wpList_append_lies w hgd s x _ ho base 9 i0 _ 1 16 Tryz.underlying24 hi hz0 hz1 hz2 rfl (by decide) v l.length (strs2 l) hs hown ⟨g0, 0, none⟩ 1 1 [.string e] hx rfl ?_ ?_ (by decide) (by simp [maxLen]; omega) (by omega) hbase _ rfl ?_
  · intro j u hj
    rw [show (⟨g0, 0, none⟩ : Addr).add j = ⟨g0, j, none⟩ from by unfold Addr.add; split <;> simp_all, hg.cell]
    simpa using hj
  · intro u hu
    simp at hu
    rcases hu with rfl
    rfl
  · intro g cap w' k1 k2 k3 k4
    subst hn
    obtain ⟨aox, capx, ex, hx1, hx2⟩ := owns_form k1
    simp only [Value.slice.injEq] at ex
    obtain ⟨-, -, rfl⟩ := ex
    refine h _ _ w' ?_ hx1 hx2 k2 (fun q hq => ?_)
    · unfold OwS
      rw [List.length_append]
      simpa [strs2] using k1
    · have : g = q := Option.some.inj hq
      subst this
      rcases k3 with k3 | k3
      · exact .inl k3
      · exact .inr (by omega)
def eqB9 (x y : Tm) : Bool := x.k == y.k && (x.s.toList == y.s.toList && (x.l.toList == y.l.toList && x.t.toList == y.t.toList))
theorem eqB9_self (x : Tm) : eqB9 x x = true := by unfold eqB9; simp
theorem equal_trm (k k2 : Int) (s s2 l l2 t t2 : ByteArray) (w : World) : (Op.equalIn 9999 33 (.agg #[.int .i64 k, .string s, .string l, .string t]) (.agg #[.int .i64 k2, .string s2, .string l2, .string t2])).run Tryz.prog w = .ok (eqB9 ⟨k, s, l, t⟩ ⟨k2, s2, l2, t2⟩) w := by
  unfold eqB9
  dsimp only
  cases h1 : k == k2 <;> cases h2 : s.toList == s2.toList <;> cases h3 : l.toList == l2.toList <;> cases h4 : t.toList == t2.toList
  all_goals go_simp
theorem equal_tri (x y : Tri3) (w : World) : (Op.equalIn 10000 35 (tri x.1 x.2.1 x.2.2) (tri y.1 y.2.1 y.2.2)).run Tryz.prog w = .ok (eqB9 x.1 y.1 && (eqB9 x.2.1 y.2.1 && eqB9 x.2.2 y.2.2)) w := by
  obtain ⟨⟨x1k, x1s, x1l, x1t⟩, ⟨x2k, x2s, x2l, x2t⟩, ⟨x3k, x3s, x3l, x3t⟩⟩ := x
  obtain ⟨⟨y1k, y1s, y1l, y1t⟩, ⟨y2k, y2s, y2l, y2t⟩, ⟨y3k, y3s, y3l, y3t⟩⟩ := y
  obtain ⟨i, hi⟩ : ∃ i, Tryz.prog.info? 33 = some i := Option.isSome_iff_exists.1 (by kernel_rfl)
  have hc : Tryz.prog.cellsOf 33 = 4 := by kernel_rfl
  unfold tri
  dsimp only
  rw [run_equalIn_array w 9999 _ _ Tryz.underlying35 hi, hc, show List.range 3 = [0, 1, 2] from rfl]
  have h1 := equal_trm x1k y1k x1s y1s x1l y1l x1t y1t w
  have h2 := equal_trm x2k y2k x2s y2s x2l y2l x2t y2t w
  have h3 := equal_trm x3k y3k x3s y3s x3l y3l x3t y3t w
  generalize eqB9 _ _ = b1 at h1 ⊢
  generalize eqB9 _ _ = b2 at h2 ⊢
  generalize eqB9 _ _ = b3 at h3 ⊢
  have px0 : (part 33 #[.int .i64 x1k, .string x1s, .string x1l, .string x1t, .int .i64 x2k, .string x2s, .string x2l, .string x2t, .int .i64 x3k, .string x3s, .string x3l, .string x3t] 0).run Tryz.prog w = .ok (.agg #[.int .i64 x1k, .string x1s, .string x1l, .string x1t]) w := by go_simp
  have px1 : (part 33 #[.int .i64 x1k, .string x1s, .string x1l, .string x1t, .int .i64 x2k, .string x2s, .string x2l, .string x2t, .int .i64 x3k, .string x3s, .string x3l, .string x3t] 4).run Tryz.prog w = .ok (.agg #[.int .i64 x2k, .string x2s, .string x2l, .string x2t]) w := by go_simp
  have px2 : (part 33 #[.int .i64 x1k, .string x1s, .string x1l, .string x1t, .int .i64 x2k, .string x2s, .string x2l, .string x2t, .int .i64 x3k, .string x3s, .string x3l, .string x3t] 8).run Tryz.prog w = .ok (.agg #[.int .i64 x3k, .string x3s, .string x3l, .string x3t]) w := by go_simp
  have py0 : (part 33 #[.int .i64 y1k, .string y1s, .string y1l, .string y1t, .int .i64 y2k, .string y2s, .string y2l, .string y2t, .int .i64 y3k, .string y3s, .string y3l, .string y3t] 0).run Tryz.prog w = .ok (.agg #[.int .i64 y1k, .string y1s, .string y1l, .string y1t]) w := by go_simp
  have py1 : (part 33 #[.int .i64 y1k, .string y1s, .string y1l, .string y1t, .int .i64 y2k, .string y2s, .string y2l, .string y2t, .int .i64 y3k, .string y3s, .string y3l, .string y3t] 4).run Tryz.prog w = .ok (.agg #[.int .i64 y2k, .string y2s, .string y2l, .string y2t]) w := by go_simp
  have py2 : (part 33 #[.int .i64 y1k, .string y1s, .string y1l, .string y1t, .int .i64 y2k, .string y2s, .string y2l, .string y2t, .int .i64 y3k, .string y3s, .string y3l, .string y3t] 8).run Tryz.prog w = .ok (.agg #[.int .i64 y3k, .string y3s, .string y3l, .string y3t]) w := by go_simp
  simp only [Op.eqItems, Nat.zero_mul, Nat.one_mul, Nat.reduceMul, Sem.run_bind, px0, py0, Result.andThen_ok, h1]
  cases b1 <;> cases b2 <;> cases b3 <;> simp [h2, h3, Sem.run_bind, px1, px2, py1, py2, Result.andThen_ok]
theorem eq3_self (x : Tri3) : (eqB9 x.1 x.1 && (eqB9 x.2.1 x.2.1 && eqB9 x.2.2 x.2.2)) = true := by simp [eqB9_self]
set_option maxHeartbeats 8000000 in
theorem same12_any {w : World} {g cap : Nat} {l : List Tri3} (h : ∀ j t, l[j]? = some t → ∀ i v, (rcells1 t)[i]? = some v → w.cell? ⟨g, 12 * j + i, none⟩ = some v) (hl : l.length ≤ 1000000) :
    Calls Tryz.prog 8 #[.slice (some ⟨g, 0, none⟩) l.length cap, .slice (some ⟨g, 0, none⟩) l.length cap] w fun e w' => e = .returned (.bool true) ∧ Below w.heap.size w w' := by
  obtain ⟨n, hn⟩ : ∃ n, n = l.length := ⟨_, rfl⟩
  rw [← hn] at hl ⊢
  have HN := Lib.hid hn
  have HE1 := Lib.hid h
  have hni : (n : Int) ≤ 1000000 := by omega
  clear hn h
  go_enter Tryz.func8, Tryz.ntmps8
  go_wp2_with fail
  go_loopg [5] n (fun g s5 wx => ∃ i : Nat, i + g = n ∧ s5 = .int .i64 i ∧ ∃ m, wx = w.drewN m)
  case atStart => exact ⟨0, by omega, rfl, 0, rfl⟩
  case round =>
    obtain ⟨i, hig, rfl, m, rfl⟩ := hrel
    cases gk with
    | zero =>
      obtain rfl : i = n := by omega
      have hn : ¬ ((i : Int) < i) := by omega
      go_wp2_with fail
      go_ret
      exact ⟨rfl, ⟨rfl, rfl, rfl, Nat.le_refl _, fun _ _ => rfl⟩⟩
    | succ gg =>
      have hi : i < n := by omega
      have hil : i < l.length := by rw [← HN.out]; exact hi
      have hii : (i : Int) < n := by omega
      obtain ⟨x, hx⟩ : ∃ x, x = l[i] := ⟨_, rfl⟩
      have hA := HE1.out i x (by rw [hx]; exact List.getElem?_eq_getElem hil)
      rw [Nat.mul_comm 12 i] at hA
      have heq := fun w => equal_tri x x w
      rw [eq3_self] at heq
      obtain ⟨⟨x1k, x1s, x1l, x1t⟩, ⟨x2k, x2s, x2l, x2t⟩, ⟨x3k, x3s, x3l, x3t⟩⟩ := x
      have c0 : w.cell? ⟨g, i * 12, none⟩ = some (.int .i64 x1k) := hA 0 _ rfl
      have c1 := hA 1 _ rfl
      have c2 := hA 2 _ rfl
      have c3 := hA 3 _ rfl
      have c4 := hA 4 _ rfl
      have c5 := hA 5 _ rfl
      have c6 := hA 6 _ rfl
      have c7 := hA 7 _ rfl
      have c8 := hA 8 _ rfl
      have c9 := hA 9 _ rfl
      have c10 := hA 10 _ rfl
      have c11 := hA 11 _ rfl
      unfold tri at heq
      dsimp only at c1 c2 c3 c4 c5 c6 c7 c8 c9 c10 c11 heq
      clear hx hA
      go_wp2_with fail
      go_quiet (fail)
      go_wp2_with fail
      go_roundg gg
      case measure => omega
      case rel => exact ⟨i + 1, by omega, by go_num, _, by first | rfl | (simp; rfl)⟩
end Go.Proofs.YtefkppeicmipbaaGreatDoor
/- The walk of TurtleLabels. -/
namespace Go.Proofs.YtefkppeicmipbaaGreatDoor
open Go.RowKit Go.Shelf
set_option maxRecDepth 100000
set_option linter.unusedVariables false
set_option linter.unusedSimpArgs false
theorem ba_apl2 (a b : List UInt8) : (⟨a.toArray⟩ : ByteArray) ++ ⟨b.toArray⟩ = ⟨(a ++ b).toArray⟩ := by
  apply ba_ext
  rw [ByteArray.data_append]
  simp
theorem ba_len3 (l : List UInt8) : (⟨l.toArray⟩ : ByteArray).size = l.length := by show l.toArray.size = _; simp
theorem lab_grow (m k : Nat) : (((⟨(labD m k).toArray⟩ : ByteArray) ++ ⟨#[91, 93, 32, 60, 112, 58, 112, 62, 32]⟩) ++ ⟨(labU ((k + m) % 5)).toArray⟩) ++ ⟨#[32, 46, 10]⟩ = ⟨(labD m (k + 1)).toArray⟩ := by
  rw [show (⟨#[91, 93, 32, 60, 112, 58, 112, 62, 32]⟩ : ByteArray) = ⟨([91, 93, 32, 60, 112, 58, 112, 62, 32] : List UInt8).toArray⟩ from rfl, show (⟨#[32, 46, 10]⟩ : ByteArray) = ⟨([32, 46, 10] : List UInt8).toArray⟩ from rfl, ba_apl2, ba_apl2, ba_apl2]; rfl
def labV : Array Value := #[.string ⟨#[49]⟩, .string ⟨#[91, 93]⟩, .string ⟨#[91, 32, 60, 113, 58, 113, 62, 32, 91, 93, 32, 93]⟩, .string ⟨#[40, 49, 32, 50, 41]⟩, .string ⟨#[34, 97, 34]⟩]
def labW : Array Value := #[.int .i64 1, .int .i64 2, .int .i64 3, .int .i64 3, .int .i64 1]
theorem labV_at (k : Nat) (h : k < 5) : labV.toList[k]'h = .string ⟨(labU k).toArray⟩ := by
  match k, h with
  | 0, _ => rfl
  | 1, _ => rfl
  | 2, _ => rfl
  | 3, _ => rfl
  | 4, _ => rfl
theorem labW_at (k : Nat) (h : k < 5) : labW.toList[k]'h = .int .i64 ((labN k : Nat) : Int) := by
  match k, h with
  | 0, _ => rfl
  | 1, _ => rfl
  | 2, _ => rfl
  | 3, _ => rfl
  | 4, _ => rfl
end Go.Proofs.YtefkppeicmipbaaGreatDoor
/- Triples as text: TurtlePrefix' words, from the end. -/
namespace Go.Proofs.YtefkppeicmipbaaGreatDoor
open Go.RowKit Go.Shelf
set_option maxRecDepth 100000
set_option linter.unusedVariables false
def ksOf (l : List Int) : List Nat := (l.take 12).map (fun x => (x % 6).toNat)
def lastB : Option Nat → ByteArray
  | none => ⟨#[]⟩
  | some j => pfR j
def pfN (p : Option Nat × List ByteArray) (k : Nat) : Option Nat × List ByteArray := if k < 3 then (some k, p.2) else (p.1, p.2 ++ [lastB p.1 ++ pfS k])
def pfZ (ks : List Nat) (i : Nat) : Option Nat × List ByteArray := (ks.take i).foldl pfN (none, [])
theorem pfZ_succ (ks : List Nat) (i k : Nat) (h : ks[i]? = some k) : pfZ ks (i + 1) = pfN (pfZ ks i) k := by
  unfold pfZ
  rw [List.take_add_one, h, List.foldl_append]
  rfl
theorem pfD_succ (ks : List Nat) (i k : Nat) (h : ks[i]? = some k) : (ks.take (i + 1)).flatMap pfT = (ks.take i).flatMap pfT ++ pfT k := by
  rw [List.take_add_one, h, List.flatMap_append]
  simp
theorem pfG_fold : ∀ (ks : List Nat) (j : Nat) (W : List ByteArray), (ks.foldl pfN (some j, W)).2 = W ++ (pfG j ks).map (fun t => t.2.2.s)
  | [], j, W => by simp [pfG]
  | k :: ks, j, W => by
    rw [List.foldl_cons, pfG]
    by_cases h : k < 3
    · rw [if_pos h, show pfN (some j, W) k = (some k, W) from if_pos h, pfG_fold ks k W]
    · rw [if_neg h, show pfN (some j, W) k = (some j, W ++ [pfR j ++ pfS k]) from if_neg h, pfG_fold ks j, List.append_assoc]
      rfl
theorem pfG_named : ∀ (ks : List Nat) (j : Nat), ∀ t ∈ pfG j ks, t.2.2 = named t.2.2.s
  | [], j, t, h => by cases h
  | k :: ks, j, t, h => by
    rw [pfG] at h
    split at h
    · exact pfG_named ks k t h
    · rcases List.mem_cons.1 h with rfl | h
      · rfl
      · exact pfG_named ks j t h
theorem pfG_len : ∀ (ks : List Nat) (j : Nat), (pfG j ks).length ≤ ks.length
  | [], j => Nat.le_refl _
  | k :: ks, j => by
    rw [pfG]
    split
    · have := pfG_len ks k; rw [List.length_cons]; omega
    · have := pfG_len ks j; rw [List.length_cons, List.length_cons]; omega
theorem ksOf_lt (l : List Int) : ∀ k ∈ ksOf l, k < 6 := by
  intro k h
  unfold ksOf at h
  obtain ⟨x, -, rfl⟩ := List.mem_map.1 h
  omega
theorem ksOf_len (l : List Int) : (ksOf l).length = min 12 l.length := by unfold ksOf; rw [List.length_map, List.length_take]
theorem ksOf_at (l : List Int) (i : Nat) (h : i < l.length) (h2 : i < 12) : (ksOf l)[i]? = some (l[i] % 6).toNat := by
  unfold ksOf
  rw [List.getElem?_map, List.getElem?_take_of_lt h2, List.getElem?_eq_getElem h]
  rfl
theorem pf_at {k0 : Nat} {ks : List Nat} (hk : k0 < 3) (W : List ByteArray) : (pfZ (k0 :: ks) (k0 :: ks).length).2 = (pfG k0 ks).map (fun t => t.2.2.s) := by
  unfold pfZ
  rw [List.take_length, List.foldl_cons, show pfN (none, []) k0 = (some k0, []) from if_pos hk, pfG_fold]
  rfl
theorem pf_growA (k : Nat) (h : k < 3) (T : List UInt8) : (((⟨T.toArray⟩ : ByteArray) ++ ⟨#[64, 112, 114, 101, 102, 105, 120, 32, 120, 58, 32, 60]⟩) ++ pfR k) ++ ⟨#[62, 32, 46, 10]⟩ = ⟨(T ++ pfT k).toArray⟩ := by
  match k, h with
  | 0, _ => apply ba_ext; simp [pfR, pfT, bl]
  | 1, _ => apply ba_ext; simp [pfR, pfT, bl]
  | 2, _ => apply ba_ext; simp [pfR, pfT, bl]
theorem pf_growB (q : Nat) (h : q < 3) (T : List UInt8) : (((⟨T.toArray⟩ : ByteArray) ++ ⟨#[60, 115, 58, 115, 62, 32, 60, 112, 58, 112, 62, 32, 120, 58]⟩) ++ pfS (q + 3)) ++ ⟨#[32, 46, 10]⟩ = ⟨(T ++ pfT (q + 3)).toArray⟩ := by
  match q, h with
  | 0, _ => apply ba_ext; simp [pfS, pfT, bl]
  | 1, _ => apply ba_ext; simp [pfS, pfT, bl]
  | 2, _ => apply ba_ext; simp [pfS, pfT, bl]
def pfV : Array Value := #[.string ⟨#[104, 116, 116, 112, 58, 47, 47, 97, 47]⟩, .string ⟨#[104, 116, 116, 112, 58, 47, 47, 98, 47, 99, 35]⟩, .string ⟨#[100, 58]⟩]
def pfU : Array Value := #[.string ⟨#[97]⟩, .string ⟨#[]⟩, .string ⟨#[98, 46, 99, 45, 100]⟩]
theorem pfV_at (k : Nat) (h : k < 3) : pfV.toList[k]'h = .string (pfR k) := by
  match k, h with
  | 0, _ => rfl
  | 1, _ => rfl
  | 2, _ => rfl
theorem pfU_at (q : Nat) (h : q < 3) : pfU.toList[q]'h = .string (pfS (q + 3)) := by
  match q, h with
  | 0, _ => rfl
  | 1, _ => rfl
  | 2, _ => rfl
theorem pfR_size (k : Nat) : 0 < (pfR k).size ∧ (pfR k).size ≤ 12 := by unfold pfR; split <;> decide
theorem pfS_size (k : Nat) : (pfS k).size ≤ 5 := by unfold pfS; split <;> decide
end Go.Proofs.YtefkppeicmipbaaGreatDoor
/- The walk of TurtlePrefix. -/
namespace Go.Proofs.YtefkppeicmipbaaGreatDoor
open Go.RowKit Go.Shelf
set_option maxRecDepth 100000
set_option linter.unusedVariables false
set_option linter.unusedSimpArgs false
theorem pfD_len (ks : List Nat) : (ks.flatMap pfT).length ≤ 30 * ks.length := by
  induction ks with
  | nil => simp
  | cons k ks ih =>
    have := pfT_len k
    rw [List.flatMap_cons, List.length_append, List.length_cons]
    omega
theorem pf_end (ks : List Nat) (i : Nat) (lo : Option Nat) (W : List ByteArray) (hi : i = ks.length) (hZ : (lo, W) = pfZ ks i) (hs : (i = 0 ∧ lo = none) ∨ ((∃ j, j < 3 ∧ lo = some j) ∧ ∃ k0 r, ks = k0 :: r ∧ k0 < 3)) (h6 : ∀ k ∈ ks, k < 6) (h12 : ks.length ≤ 12) :
    ∃ RL : List Tri3, turtleL ⟨#[]⟩ gB (ks.flatMap pfT) = (RL, 0) ∧ W = RL.map (fun t => t.2.2.s) ∧ ∀ t ∈ RL, t.2.2 = named t.2.2.s := by
  subst hi
  rcases hs with ⟨h0, -⟩ | ⟨-, k0, r, rfl, hk⟩
  · have h1 : ks = [] := List.eq_nil_of_length_eq_zero h0
    subst h1
    exact ⟨[], pf_nil, (congrArg Prod.snd hZ).trans rfl, fun t h => by cases h⟩
  · exact ⟨pfG k0 r, pf_doc k0 r h6 hk (by rw [List.length_cons] at h12; omega), (congrArg Prod.snd hZ).trans (pf_at hk W), pfG_named r k0⟩
set_option maxHeartbeats 16000000 in
theorem tprefix_walk (ns : Value) (l : List Int) (w : World) (h0 : Nl w ns l) (hL : LexAt w) :
    Calls Tryz.prog 4 #[ns] w fun e w' => e = .returned (.bool true) ∧ Below w.heap.size w w' := by
  have HK := Lib.hid (known12_any w hL)
  have HLA := Lib.hid (fun w' (hb : Below w.heap.size w w') => hL.below hb)
  have HP := Lib.hid (fun a (ha : a.size ≤ 2000) w (h : LexAt w) => parse12 a ⟨#[]⟩ gB (Nat.le_trans ha (by decide)) (by decide) (by decide) w h)
  have HNL := Lib.hid h0
  obtain ⟨ao0, cap0, rfl, hc0, hc1, -, -⟩ := h0
  obtain ⟨ks, hks⟩ : ∃ ks, ks = ksOf l := ⟨_, rfl⟩
  have HK6 := Lib.hid (ksOf_lt l)
  have hkl := ksOf_len l
  rw [← hks] at HK6 hkl
  have HKA := Lib.hid (ksOf_at l)
  rw [← hks] at HKA
  obtain ⟨N, hN⟩ : ∃ N, N = l.length := ⟨_, rfl⟩
  rw [← hN] at hkl hc0 ⊢
  have HNN := Lib.hid hN
  have HKL := Lib.hid hkl
  have hNi : (N : Int) ≤ 9223372036854775807 := by have : cap0 ≤ 9223372036854775807 := hc1; omega
  have hN0 : (0 : Int) ≤ N := by omega
  have HKS := Lib.hid hks
  clear hL hks hkl hN hc0 hc1
  go_enter Tryz.func4, Tryz.ntmps4
  go_wp2_with fail
  refine HK.out.mono ?_
  rintro e w1 ⟨rfl, hb1⟩
  have HB1 := Lib.hid hb1
  clear hb1
  go_wp2_with fail
  go_loopw [3, 4, 5, 6] (fun s3 s4 s5 s6 wx => ∃ i : Nat, i ≤ N ∧ i ≤ 12 ∧ s6 = .int .i64 (i : Int) ∧ s3 = .string ⟨((ks.take i).flatMap pfT).toArray⟩ ∧ OwS wx w1.heap.size s4 (pfZ ks i).2 ∧ s5 = .string (lastB (pfZ ks i).1) ∧ Below w1.heap.size w1 wx ∧ (pfZ ks i).2.length ≤ i ∧ ((i = 0 ∧ (pfZ ks i).1 = none) ∨ ((∃ j, j < 3 ∧ (pfZ ks i).1 = some j) ∧ ∃ k0 r, ks = k0 :: r ∧ k0 < 3))) (fun _ _ _ i _ => 40 - (intOf i).toNat)
  case atStart => exact ⟨0, by omega, by omega, rfl, rfl, OwS.nil _ _, rfl, Below.refl _ _, Nat.le_refl _, .inl ⟨rfl, rfl⟩⟩
  case round =>
    obtain ⟨i, hi, hi12, rfl, rfl, hos, rfl, hbw, hwl, hst⟩ := hrel
    obtain ⟨⟨lo, W⟩, hZ0⟩ : ∃ p, p = pfZ ks i := ⟨_, rfl⟩
    rw [← hZ0] at hos hst hwl ⊢
    dsimp only at hos hst hwl ⊢
    have HZ := Lib.hid hZ0
    clear hZ0
    have HOS := Lib.hid hos
    have HBW := Lib.hid hbw
    have HST := Lib.hid hst
    have HWL := Lib.hid hwl
    obtain ⟨ao4, cap4, rfl, hc2, hc3⟩ := hos.form
    have hii : (i : Int) ≤ N := by omega
    have hi0 : (0 : Int) ≤ i := by omega
    have hi12i : (i : Int) ≤ 12 := by omega
    have HI := Lib.hid (And.intro hi hi12)
    clear hos hst hwl
    by_cases hin : (i : Int) < N ∧ (i : Int) < 12
    · obtain ⟨hin, hil⟩ := hin
      have hil2 : i < l.length := by have := HNN.out; omega
      obtain ⟨bb, off, cap', he, -, -, hcell⟩ := HNL.out.at (by omega)
      have hcl := hcell i hil2
      have hkk := HKA.out i hil2 (by omega)
      obtain ⟨x, hx⟩ : ∃ x, x = l[i] := ⟨_, rfl⟩
      rw [← hx] at hcl hkk
      simp only [Value.slice.injEq] at he
      obtain ⟨rfl, -, rfl⟩ := he
      have hbb := World.block_lt_of_cell? w _ hcl
-- @@
      have hbb1 : bb < w1.heap.size := Nat.lt_of_lt_of_le hbb HB1.out.size
      have cl := (HBW.out.cell (p := ⟨bb, off + i, none⟩) hbb1).trans ((HB1.out.cell (p := ⟨bb, off + i, none⟩) hbb).trans hcl)
      obtain ⟨k, hk⟩ : ∃ k : Nat, k = (x % 6).toNat := ⟨_, rfl⟩
      have hk6 : k < 6 := by omega
      have hxk : x % 6 = (k : Int) := by omega
      rw [← hk] at hkk
      have hsz := pfZ_succ ks i k hkk
      rw [← HZ.out] at hsz
      have hsd := pfD_succ ks i k hkk
      obtain ⟨X, hX⟩ : ∃ X : ByteArray, X = ⟨((ks.take i).flatMap pfT).toArray⟩ := ⟨_, rfl⟩
      have hxs : X.size ≤ 400 := by
        rw [hX, ba_len3]
        have := pfD_len (ks.take i)
        have := List.length_take_le i ks
        omega
      have hxk2 : ∀ w, Calls Tryz.prog 6 #[.int .i64 x, .int .i64 6] w fun e w' => e = .returned (.int .i64 (k : Int)) ∧ w' = w := fun w => by rw [← hxk]; exact within12_eq x 6 (by omega) (by omega) w
      have HXK := Lib.hid hxk2
      have hw1r : w1.heap.size ≤ wr.heap.size := HBW.out.size
      have HW1R := Lib.hid hw1r
      by_cases hk3 : k < 3
      · have hgr := pf_growA k hk3 ((ks.take i).flatMap pfT)
        rw [← hX, ← hsd] at hgr
        have hba := pfV_at k hk3
        have hzs := pfR_size k
        obtain ⟨Z, hZ⟩ : ∃ Z : ByteArray, Z = pfR k := ⟨_, rfl⟩
        rw [← hZ] at hgr hba hzs
        unfold pfV at hba
        rw [← hX]
        have HG := Lib.hid hgr
        have HSZ := Lib.hid hsz
        have HZZ := Lib.hid hZ
        have hk3i : (k : Int) < 3 := by omega
        have hk0i : (0 : Int) ≤ k := by omega
        have HKK := Lib.hid hk3
        have HK0 := Lib.hid hkk
        have hzz := hzs.2
        clear hx hgr hsz hZ hX hsd hkk hk hcl hcell hbb hbb1 hxk2 hxk hzs hw1r
        go_wp2_with fail
        refine (HXK.out _).mono ?_
        rintro e w2 ⟨rfl, hw⟩
        subst hw
        go_wp2_with (first | rw [hba] | fail)
        go_roundw
        case rel =>
          have h1 := HSZ.out
          rw [show pfN (lo, W) k = (some k, W) from if_pos HKK.out] at h1
          refine ⟨i + 1, by have := HI.out; omega, by have := HI.out; omega, by go_num, by rw [HG.out], ?_, by rw [h1, HZZ.out]; rfl, HBW.out.alloc HW1R.out _, by rw [h1]; exact Nat.le_succ_of_le HWL.out, .inr ⟨⟨k, HKK.out, by rw [h1]⟩, ?_⟩⟩
          · rw [h1]
            exact HOS.out.below ((Below.refl _ _).alloc (Nat.le_refl _) _)
          · rcases HST.out with ⟨rfl, -⟩ | ⟨-, h⟩
            · have := HK0.out
              cases ks with
              | nil => cases this
              | cons a r =>
                cases this
                exact ⟨_, _, rfl, HKK.out⟩
            · exact h
        case measure => simp [intOf]; omega
      · obtain ⟨q, rfl⟩ : ∃ q, k = q + 3 := ⟨k - 3, by omega⟩
        have hq3 : q < 3 := by omega
        have hgr := pf_growB q hq3 ((ks.take i).flatMap pfT)
        rw [← hX] at hgr
        have hba := pfU_at q hq3
        have hzs := pfS_size (q + 3)
        obtain ⟨Z, hZ⟩ : ∃ Z : ByteArray, Z = pfS (q + 3) := ⟨_, rfl⟩
        rw [← hZ] at hgr hba hzs
        unfold pfU at hba
        rw [← hX]
        have hqc : ((q + 3 : Nat) : Int) = (q : Int) + 3 := by omega
        rw [hqc] at HXK
        have hq0i : (0 : Int) ≤ q := by omega
        have hq3i : (q : Int) < 3 := by omega
        cases lo with
        | none =>
          have hi00 : i = 0 := by
            rcases HST.out with ⟨h, -⟩ | ⟨⟨j, -, h⟩, -⟩
            · exact h
            · cases h
          have hdoc0 : ((((X ++ ⟨#[60, 115, 58, 115, 62, 32, 60, 112, 58, 112, 62, 32, 120, 58]⟩) ++ Z) ++ ⟨#[32, 46, 10]⟩) : ByteArray).data.toList = pfT (q + 3) := by rw [hgr, hi00]; simp
          have hdoc : turtleL ⟨#[]⟩ gB ((((X ++ ⟨#[60, 115, 58, 115, 62, 32, 60, 112, 58, 112, 62, 32, 120, 58]⟩) ++ Z) ++ ⟨#[32, 46, 10]⟩) : ByteArray).data.toList = turtleL ⟨#[]⟩ gB (pfT (q + 3)) := by rw [hdoc0]
          clear hdoc0
          have hbad := pf_bad (q + 3) (by omega) hk6
          rw [← hdoc] at hbad
          have HPP := Lib.hid (fun hs => HP.out (((X ++ ⟨#[60, 115, 58, 115, 62, 32, 60, 112, 58, 112, 62, 32, 120, 58]⟩) ++ Z) ++ ⟨#[32, 46, 10]⟩) hs)
          generalize turtleL ⟨#[]⟩ gB _ = R at HPP hbad
          obtain ⟨RL, RE⟩ := R
          dsimp only at hbad
          subst hbad
          unfold gB at HPP
          have hsz2 : (((X ++ ⟨#[60, 115, 58, 115, 62, 32, 60, 112, 58, 112, 62, 32, 120, 58]⟩) ++ Z) ++ ⟨#[32, 46, 10]⟩ : ByteArray).size ≤ 2000 := by
            rw [ByteArray.size_append, ByteArray.size_append, ByteArray.size_append]
            have h1 : (⟨#[60, 115, 58, 115, 62, 32, 60, 112, 58, 112, 62, 32, 120, 58]⟩ : ByteArray).size = 14 := rfl
            have h2 : (⟨#[32, 46, 10]⟩ : ByteArray).size = 3 := rfl
            omega
          have HS2 := Lib.hid hsz2
          have HBA := Lib.hid (HB1.out.trans (HBW.out.mono HB1.out.size))
          unfold lastB
          clear hx hcell hgr hdoc hsz2 hsz hZ hX hsd hkk hk hk3 hcl hbb hbb1 hxk2 hxk hqc hk6 hi00
          go_wp2_with fail
          refine (HXK.out _).mono ?_
          rintro e w2 ⟨rfl, hw⟩
          subst hw
          go_wp2_with (first | rw [hba] | fail)
          refine (HPP.out HS2.out _ (HLA.out _ (HBA.out.alloc (Nat.le_trans HB1.out.size HW1R.out) _))).mono ?_
          intro e w5 h
          unfold TurTo at h
          dsimp only at h
          obtain ⟨ao, cap, rfl, hb, ho⟩ := h
          have HB5 := Lib.hid ((HBA.out.alloc (Nat.le_trans HB1.out.size HW1R.out) _).trans (hb.mono (HBA.out.alloc (Nat.le_trans HB1.out.size HW1R.out) _).size))
          clear hb ho
          go_wp2_with fail
          go_ret
          exact ⟨rfl, HB5.out⟩
        | some j =>
          rw [← hsd] at hgr
          obtain ⟨A, hA⟩ : ∃ A : ByteArray, A = lastB (some j) := ⟨_, rfl⟩
          have hA1 : 0 < A.size ∧ A.size ≤ 12 := by rw [hA]; exact pfR_size j
          have hA12 := hA1.2
          have hA0 : 0 < A.size := hA1.1
          have hAe : ¬ A = ⟨#[]⟩ := by intro e; rw [e] at hA0; exact absurd hA0 (by decide)
          have hAl : ¬ A.toList = [] := by
            rw [Lib.toList_data]
            intro e
            apply hAe
            apply ba_ext
            rw [e]
          have hAb : (A.toList == []) = false := by simpa using hAl
          rw [← hA]
          have HG := Lib.hid hgr
          have HSZ := Lib.hid hsz
          have HAZ := Lib.hid (And.intro hA hZ)
          have hWL : W.length ≤ 12 := by have := HWL.out; have := HI.out; omega
          clear hx hcell hgr hsz hZ hX hsd hkk hk hcl hbb hbb1 hxk2 hxk hqc hk6 hA hA1
          go_wp2_with fail
          refine (HXK.out _).mono ?_
          rintro e w2 ⟨rfl, hw⟩
          subst hw
          go_upto_if 51 with (rw [hba])
          have hbq := (Below.refl w2.heap.size w2).alloc (Nat.le_refl _) (.cells #[.string ⟨#[97]⟩, .string ⟨#[]⟩, .string ⟨#[98, 46, 99, 45, 100]⟩] 9)
          generalize World.alloc w2 _ = wq at hbq ⊢
          have HOQ := Lib.hid ((HOS.out.below hbq).below ((Below.refl wq.heap.size wq).alloc (Nat.le_refl _) (.cells #[.string ⟨#[97]⟩, .string ⟨#[]⟩, .string ⟨#[98, 46, 99, 45, 100]⟩] 9)))
          have hbr := (HBW.out.trans (hbq.mono HW1R.out)).alloc (Nat.le_trans HW1R.out hbq.size) (.cells #[.string ⟨#[97]⟩, .string ⟨#[]⟩, .string ⟨#[98, 46, 99, 45, 100]⟩] 9)
          have HBR := Lib.hid hbr
          have hle : w1.heap.size ≤ wq.heap.size := Nat.le_trans HW1R.out hbq.size
          have HLE := Lib.hid (show w1.heap.size ≤ (wq.alloc (.cells #[.string ⟨#[97]⟩, .string ⟨#[]⟩, .string ⟨#[98, 46, 99, 45, 100]⟩] 9)).heap.size from by simp; omega)
          have hblk := Blk.new (wq.alloc (.cells #[.string ⟨#[97]⟩, .string ⟨#[]⟩, .string ⟨#[98, 46, 99, 45, 100]⟩] 9)) #[.string (A ++ Z)] 9
          rw [show (wq.alloc (.cells #[.string ⟨#[97]⟩, .string ⟨#[]⟩, .string ⟨#[98, 46, 99, 45, 100]⟩] 9)).heap.size = wq.heap.size + 1 by simp] at hblk
          have HBK := Lib.hid hblk
          clear hbq hbr hblk hle
          go_wp2_with (first | rw [hba] | (at_builtin; refine wpList_append_st rfl _ _ rfl w1.heap.size (Nat.le_trans HLE.out ((Below.refl _ _).alloc (Nat.le_refl _) _).size) (.slice ao4 W.length cap4) W rfl (HOQ.out.below ((Below.refl _ _).alloc (Nat.le_refl _) _)) (wq.heap.size + 1) rfl (A ++ Z) HBK.out (W.length + 1) rfl (by omega) ?_; intro ao3 cap3 w7 ho7 hh1 hh2 hg7 hq7))
          have HO7 := Lib.hid ho7
          have hbx := (HBR.out.alloc HLE.out (.cells #[.string (A ++ Z)] 9)).grown hg7 (Nat.le_trans HLE.out ((Below.refl _ _).alloc (Nat.le_refl _) _).size) (fun q2 hq2 => (HOQ.out.lt q2 hq2).1)
          have HBX := Lib.hid hbx
          clear ho7 hg7 hq7 hbx hh1 hh2
          go_roundw
          case rel =>
            have h1 := HSZ.out
            rw [show pfN (some j, W) (q + 3) = (some j, W ++ [lastB (some j) ++ pfS (q + 3)]) from if_neg (by omega), ← HAZ.out.1, ← HAZ.out.2] at h1
            refine ⟨i + 1, by have := HI.out; omega, by have := HI.out; omega, by go_num, by rw [HG.out], ?_, by rw [h1, HAZ.out.1], HBX.out, ?_, .inr ⟨?_, ?_⟩⟩
            · rw [h1]; exact HO7.out
            · rw [h1]; show (W ++ [A ++ Z]).length ≤ i + 1; rw [List.length_append]; have := HWL.out; simp; omega
            · rcases HST.out with ⟨-, h⟩ | ⟨⟨j2, h2, h3⟩, -⟩
              · cases h
              · exact ⟨j2, h2, by rw [h1]; exact h3⟩
            · rcases HST.out with ⟨-, h⟩ | ⟨-, h⟩
              · cases h
              · exact h
          case measure => simp [intOf]; omega
    · by_cases hiN : (i : Int) < N
      · have hi12n : ¬ (i : Int) < 12 := fun h => hin ⟨hiN, h⟩
        have hik : i = ks.length := by have := HKL.out; omega
        have hend := pf_end ks i lo W hik HZ.out HST.out HK6.out (by have := HKL.out; omega)
        obtain ⟨RL, hdoc, hW, hnm⟩ := hend
        obtain ⟨X, hX⟩ : ∃ X : ByteArray, X = ⟨((ks.take i).flatMap pfT).toArray⟩ := ⟨_, rfl⟩
        have hxs : X.size ≤ 2000 := by
          rw [hX, ba_len3]
          have := pfD_len (ks.take i)
          have := List.length_take_le i ks
          have := HI.out
          omega
        rw [← hX]
        have hQ : ∀ w (h : LexAt w), Calls Tryz.prog 7 #[.string X, .string ⟨#[]⟩, .string ⟨#[103]⟩] w (TurTo (RL, 0) w) := by
          intro w h
          have := HP.out X hxs w h
          have e : X.data.toList = ks.flatMap pfT := by rw [hX, hik, List.take_length]
          rw [e, hdoc] at this
          exact this
        have HQ := Lib.hid hQ
        have HBA := Lib.hid (HB1.out.trans (HBW.out.mono HB1.out.size))
        have HNM := Lib.hid hnm
        have hWL : W.length = RL.length := by rw [hW, List.length_map]
        rw [hWL]
        have hM12 : RL.length ≤ 12 := by have := HWL.out; have := HI.out; omega
        have HWW := Lib.hid hW
        have HWN := Lib.hid hWL
        clear hX hQ hik hdoc hW hnm hWL
        go_wp2_with fail
        refine (HQ.out _ (HLA.out _ HBA.out)).mono ?_
        intro e w5 h
        unfold TurTo at h
        dsimp only at h
        obtain ⟨ao, cap, rfl, hb, ho⟩ := h
        have HO := Lib.hid ho
        have HOS5 := Lib.hid (HOS.out.below hb)
        have HB5 := Lib.hid (HBA.out.trans (hb.mono HBA.out.size))
        obtain ⟨M, hM⟩ : ∃ M, M = RL.length := ⟨_, rfl⟩
        rw [← hM] at hM12 ⊢
        have HM := Lib.hid hM
        have hMi : (M : Int) ≤ 12 := by omega
        have hM0 : (0 : Int) ≤ M := by omega
        clear hb ho hM
        go_wp2_with fail
        go_loopw [12] (fun s12 wx => ∃ j : Nat, j ≤ M ∧ s12 = .int .i64 (j : Int) ∧ ∃ q, wx = w5.drewN q) (fun i _ => 40 - (intOf i).toNat)
        case atStart => exact ⟨0, by omega, rfl, 0, rfl⟩
        case round =>
          obtain ⟨j, hj, rfl, qd, rfl⟩ := hrel
          have hji : (j : Int) ≤ M := by omega
          have hj0 : (0 : Int) ≤ j := by omega
          by_cases hjM : (j : Int) < M
          · have hjn : j < RL.length := by have := HM.out; omega
            obtain ⟨g, hg0, hg1, hg2, hg3⟩ := HO.out.at12 (by omega)
            have hr := hg3 j (RL[j]'hjn) (List.getElem?_eq_getElem hjn)
            rw [Nat.mul_comm 12 j] at hr
            have c0 := hr 8 _ rfl
            have c1 := hr 9 _ rfl
            have c2 := hr 10 _ rfl
            have c3 := hr 11 _ rfl
            have hnt := HNM.out (RL[j]'hjn) (List.getElem_mem hjn)
            obtain ⟨g4, hh0, hh1, hh2, hh3⟩ := HOS5.out.at1 (by rw [HWN.out]; omega)
            have cw := hh3 j (by rw [HWN.out]; exact hjn)
            have hws : W.getD j ⟨#[]⟩ = (RL[j]'hjn).2.2.s := by rw [HWW.out]; simp [hjn]
            rw [hws] at cw
            rw [hnt] at c0 c1 c2 c3
            unfold named nobT at c0 c1 c2 c3
            dsimp only at c0 c1 c2 c3
            obtain ⟨SV, hSV⟩ : ∃ s, s = (RL[j]'hjn).2.2.s := ⟨_, rfl⟩
            rw [← hSV] at c1 cw
            subst hg0
            subst hh0
            have hj3 : j + 1 ≤ M := by omega
            have HJ3 := Lib.hid hj3
            clear hr hnt hws hSV hg3 hh3 hjn hj hj3
            go_wp2_with fail
            go_quiet (fail)
            go_wp2_with fail
            go_roundw
            case rel => exact ⟨j + 1, HJ3.out, by go_num, _, by first | rfl | (simp; rfl)⟩
            case measure => simp [intOf]; omega
          · have hjM2 : j = M := by omega
            clear hj
            go_wp2_with fail
            go_ret
            exact ⟨rfl, HB5.out.trans (⟨rfl, rfl, rfl, Nat.le_refl _, fun _ _ => rfl⟩ : Below w.heap.size w5 (w5.drewN qd))⟩
      · clear hin
        have hik : i = ks.length := by have := HKL.out; omega
        have hend := pf_end ks i lo W hik HZ.out HST.out HK6.out (by have := HKL.out; omega)
        obtain ⟨RL, hdoc, hW, hnm⟩ := hend
        obtain ⟨X, hX⟩ : ∃ X : ByteArray, X = ⟨((ks.take i).flatMap pfT).toArray⟩ := ⟨_, rfl⟩
        have hxs : X.size ≤ 2000 := by
          rw [hX, ba_len3]
          have := pfD_len (ks.take i)
          have := List.length_take_le i ks
          have := HI.out
          omega
        rw [← hX]
        have hQ : ∀ w (h : LexAt w), Calls Tryz.prog 7 #[.string X, .string ⟨#[]⟩, .string ⟨#[103]⟩] w (TurTo (RL, 0) w) := by
          intro w h
          have := HP.out X hxs w h
          have e : X.data.toList = ks.flatMap pfT := by rw [hX, hik, List.take_length]
          rw [e, hdoc] at this
          exact this
        have HQ := Lib.hid hQ
        have HBA := Lib.hid (HB1.out.trans (HBW.out.mono HB1.out.size))
        have HNM := Lib.hid hnm
        have hWL : W.length = RL.length := by rw [hW, List.length_map]
        rw [hWL]
        have hM12 : RL.length ≤ 12 := by have := HWL.out; have := HI.out; omega
        have HWW := Lib.hid hW
        have HWN := Lib.hid hWL
        clear hX hQ hik hdoc hW hnm hWL
        go_wp2_with fail
        refine (HQ.out _ (HLA.out _ HBA.out)).mono ?_
        intro e w5 h
        unfold TurTo at h
        dsimp only at h
        obtain ⟨ao, cap, rfl, hb, ho⟩ := h
        have HO := Lib.hid ho
        have HOS5 := Lib.hid (HOS.out.below hb)
        have HB5 := Lib.hid (HBA.out.trans (hb.mono HBA.out.size))
        obtain ⟨M, hM⟩ : ∃ M, M = RL.length := ⟨_, rfl⟩
        rw [← hM] at hM12 ⊢
        have HM := Lib.hid hM
        have hMi : (M : Int) ≤ 12 := by omega
        have hM0 : (0 : Int) ≤ M := by omega
        clear hb ho hM
        go_wp2_with fail
        go_loopw [12] (fun s12 wx => ∃ j : Nat, j ≤ M ∧ s12 = .int .i64 (j : Int) ∧ ∃ q, wx = w5.drewN q) (fun i _ => 40 - (intOf i).toNat)
        case atStart => exact ⟨0, by omega, rfl, 0, rfl⟩
        case round =>
          obtain ⟨j, hj, rfl, qd, rfl⟩ := hrel
          have hji : (j : Int) ≤ M := by omega
          have hj0 : (0 : Int) ≤ j := by omega
          by_cases hjM : (j : Int) < M
          · have hjn : j < RL.length := by have := HM.out; omega
            obtain ⟨g, hg0, hg1, hg2, hg3⟩ := HO.out.at12 (by omega)
            have hr := hg3 j (RL[j]'hjn) (List.getElem?_eq_getElem hjn)
            rw [Nat.mul_comm 12 j] at hr
            have c0 := hr 8 _ rfl
            have c1 := hr 9 _ rfl
            have c2 := hr 10 _ rfl
            have c3 := hr 11 _ rfl
            have hnt := HNM.out (RL[j]'hjn) (List.getElem_mem hjn)
            obtain ⟨g4, hh0, hh1, hh2, hh3⟩ := HOS5.out.at1 (by rw [HWN.out]; omega)
            have cw := hh3 j (by rw [HWN.out]; exact hjn)
            have hws : W.getD j ⟨#[]⟩ = (RL[j]'hjn).2.2.s := by rw [HWW.out]; simp [hjn]
            rw [hws] at cw
            rw [hnt] at c0 c1 c2 c3
            unfold named nobT at c0 c1 c2 c3
            dsimp only at c0 c1 c2 c3
            obtain ⟨SV, hSV⟩ : ∃ s, s = (RL[j]'hjn).2.2.s := ⟨_, rfl⟩
            rw [← hSV] at c1 cw
            subst hg0
            subst hh0
            have hj3 : j + 1 ≤ M := by omega
            have HJ3 := Lib.hid hj3
            clear hr hnt hws hSV hg3 hh3 hjn hj hj3
            go_wp2_with fail
            go_quiet (fail)
            go_wp2_with fail
            go_roundw
            case rel => exact ⟨j + 1, HJ3.out, by go_num, _, by first | rfl | (simp; rfl)⟩
            case measure => simp [intOf]; omega
          · have hjM2 : j = M := by omega
            clear hj
            go_wp2_with fail
            go_ret
            exact ⟨rfl, HB5.out.trans (⟨rfl, rfl, rfl, Nat.le_refl _, fun _ _ => rfl⟩ : Below w.heap.size w5 (w5.drewN qd))⟩
end Go.Proofs.YtefkppeicmipbaaGreatDoor
