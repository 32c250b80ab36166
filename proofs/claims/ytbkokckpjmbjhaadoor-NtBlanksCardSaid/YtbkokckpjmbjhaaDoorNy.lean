/- Sound triples fit; how long their texts are. -/
import Derived.Test.YtbkokckpjmbjhaaDoorTq
import Derived.Test.YtbkokckpjmbjhaaDoorNq
import Derived.Test.YtbkokckpjmbjhaaDoorNt
import Derived.Test.YtbkokckpjmbjhaaDoorNu
namespace Go.Proofs.YtbkokckpjmbjhaaDoor
open Go.RowKit Go.Shelf
set_option maxRecDepth 100000
set_option linter.unusedVariables false
/-- A sound triple. -/
structure Gd (y : Tri3) : Prop where
  fit : fitsT y.1 y.2.1 y.2.2 = 0
  g1 : y.1.Good
  g2 : y.2.1.Good
  g3 : y.2.2.Good
theorem text_len (x : Tm) (h : x.Good) : (textL x).length ≤ 1000 := by
  have h1 := h.s
  have h2 := h.l
  have h3 := h.t
  rw [Lib.size_eq] at h1 h2 h3
  have hq := quos_length x.s.data.toList
  unfold textL
  split
  · simp only [List.length_cons, List.length_append, List.length_nil]; omega
  split
  · simp only [List.length_cons]; omega
  · unfold quoL tagL
    split
    · split
      · simp only [List.length_cons, List.length_append, List.length_nil]; omega
      · simp only [List.length_cons, List.length_append, List.length_nil]; omega
    · simp only [List.length_cons, List.length_append, List.length_nil]; omega
theorem lit_good : Tm.Good ⟨2, ⟨#[108, 105, 116]⟩, nob, nob⟩ := ⟨.inr (.inl ⟨rfl, rfl, rfl⟩), by decide, by decide, by decide, by
  unfold checkOf
  rw [if_neg (by decide), if_neg (by decide), if_neg (by decide), if_pos rfl, bar_nob]
  have : labB ⟨#[108, 105, 116]⟩ = true := by
    unfold labB
    rw [emp_false (by decide)]
    decide
  dsimp only
  rw [this]
  rfl⟩
theorem pred_good (q : Nat) (hq : q < 3) : Tm.Good ⟨1, ⟨#[112, 58, UInt8.ofNat (97 + q)]⟩, nob, nob⟩ := ⟨.inl ⟨rfl, rfl, rfl⟩, by show (3 : Nat) ≤ 60; decide, Nat.zero_le _, Nat.zero_le _, by
  unfold checkOf
  rw [if_neg (by show ¬ ((1 : Int) < 1 ∨ (3 : Int) < 1); decide), if_neg (by show ¬ (60 < 3 ∨ 60 < 0 ∨ 8 < 0); decide), if_pos rfl, bar_nob]
  have : refB ⟨#[112, 58, UInt8.ofNat (97 + q)]⟩ = true := by
    unfold refB
    rw [emp_false (by show 0 < 3; decide)]
    match q, hq with
    | 0, _ => decide
    | 1, _ => decide
    | 2, _ => decide
  dsimp only
  rw [this]
  rfl⟩
theorem good9_gd (x : Tri3) : Gd (good9 x) := by
  have a1 := good_good x.1
  have a2 := good_good x.2.1
  have a3 := good_good x.2.2
  have b1 : (good9 x).1.Good := by
    unfold good9; dsimp only
    split
    · exact lit_good
    · exact a1
  have b2 : (good9 x).2.1.Good := by
    unfold good9; dsimp only
    split
    · exact a2
    · exact pred_good _ (Nat.mod_lt _ (by decide))
  have b3 : (good9 x).2.2.Good := a3
  have k1 : (good9 x).1.k ≠ 3 := by
    unfold good9; dsimp only
    split
    · decide
    · next h => exact h
  have k2 : (good9 x).2.1.k = 1 := by
    unfold good9; dsimp only
    split
    · next h => exact h
    · rfl
  refine ⟨?_, b1, b2, b3⟩
  unfold fitsT
  rw [if_neg (by rw [b1.c]; decide), if_neg (by rw [b2.c]; decide), if_neg (by rw [b3.c]; decide), if_neg (by rw [k2]; omega)]
theorem Tm.Good.ok {x : Tm} (h : x.Good) : x.Ok := by
  have h1 := h.s
  have h2 := h.l
  have h3 := h.t
  refine ⟨?_, by unfold maxLen; omega, by unfold maxLen; omega, by unfold maxLen; omega⟩
  rcases h.k with ⟨e, -⟩ | ⟨e, -⟩ | ⟨e, -⟩ <;> rw [e] <;> decide
theorem Gd.ok {y : Tri3} (h : Gd y) : Tri3.Ok y := ⟨h.g1.ok, h.g2.ok, h.g3.ok⟩
end Go.Proofs.YtbkokckpjmbjhaaDoor
