/- Signs: a text's bytes, plain. -/
import Derived.Test.YtefkppeicmipbaaGreatDoorLd
namespace Go.Proofs.YtefkppeicmipbaaGreatDoor
open Go.RowKit Go.Shelf
set_option maxRecDepth 100000
set_option linter.unusedVariables false
set_option linter.unusedSimpArgs false
/-- From a byte on; b: a backslash is ahead of it. -/
def textB (q : UInt8) (b : Bool) (l : List UInt8) : Option (List UInt8 × List UInt8) :=
  if b = true then match l with
    | [] => none
    | d :: r' => match unL d with
      | none => none
      | some x => (textL11 q r').map fun p => (x :: p.1, p.2)
  else textL11 q l
/-- acc has been told of the first i bytes. -/
def TRel (q : UInt8) (l : List UInt8) (i : Nat) (b : Bool) (acc : List UInt8) : Prop := textL11 q l = (textB q b (l.drop i)).map fun p => (acc ++ p.1, p.2)
theorem TRel.start (q : UInt8) (l : List UInt8) : TRel q l 0 false [] := by
  unfold TRel textB
  rw [List.drop_zero]
  simp
theorem drop_at {l : List UInt8} {i : Nat} (h : i < l.length) : l.drop i = l[i] :: l.drop (i + 1) := List.drop_eq_getElem_cons h
theorem TRel.off {q : UInt8} {l : List UInt8} {i : Nat} {b : Bool} {acc : List UInt8} (h : TRel q l i b acc) (hi : l.length ≤ i) : textL11 q l = none := by
  rw [h, List.drop_eq_nil_of_le hi]
  cases b <;> rfl
theorem TRel.mark {q : UInt8} {l : List UInt8} {i : Nat} {acc : List UInt8} (h : TRel q l i false acc) (hi : i < l.length) (hc : l[i] = q) : textL11 q l = some (acc, l.drop (i + 1)) := by
  rw [h, drop_at hi, hc]
  unfold textB
  rw [if_neg (by decide)]
  unfold textL11
  rw [if_pos rfl]
  simp
theorem TRel.feed {q : UInt8} {l : List UInt8} {i : Nat} {b : Bool} {acc : List UInt8} (h : TRel q l i b acc) (hi : i < l.length) (hc : l[i] = 10) (hq : q ≠ 10) : textL11 q l = none := by
  rw [h, drop_at hi, hc]
  cases b
  · unfold textB
    rw [if_neg (by decide)]
    unfold textL11
    rw [if_neg (Ne.symm hq), if_pos rfl]
    rfl
  · simp [textB, unL]
theorem TRel.bad {q : UInt8} {l : List UInt8} {i : Nat} {acc : List UInt8} (h : TRel q l i true acc) (hi : i < l.length) (hc : unL l[i] = none) : textL11 q l = none := by
  rw [h, drop_at hi]
  simp [textB, hc]
theorem TRel.back {q : UInt8} {l : List UInt8} {i : Nat} {acc : List UInt8} (h : TRel q l i false acc) (hi : i < l.length) (hc : l[i] = 92) (hq : q ≠ 92) : TRel q l (i + 1) true acc := by
  unfold TRel at h ⊢
  rw [h, drop_at hi, hc]
  conv => lhs; arg 2; unfold textB; rw [if_neg (by decide)]; unfold textL11
  rw [if_neg (Ne.symm hq), if_neg (by decide), if_pos rfl]
  unfold textB
  rw [if_pos rfl]
  cases l.drop (i + 1) with
  | nil => rfl
  | cons d r =>
    dsimp only
    cases unL d <;> rfl
theorem TRel.meant {q : UInt8} {l : List UInt8} {i : Nat} {acc : List UInt8} (h : TRel q l i true acc) (hi : i < l.length) (x : UInt8) (hc : unL l[i] = some x) : TRel q l (i + 1) false (acc ++ [x]) := by
  unfold TRel at h ⊢
  rw [h, drop_at hi]
  conv => lhs; arg 2; unfold textB
  rw [if_pos rfl]
  simp only [hc]
  unfold textB
  rw [if_neg (by decide), Option.map_map]
  congr 1
  funext p
  simp
theorem TRel.plain {q : UInt8} {l : List UInt8} {i : Nat} {acc : List UInt8} (h : TRel q l i false acc) (hi : i < l.length) (h1 : l[i] ≠ q) (h2 : l[i] ≠ 10) (h3 : l[i] ≠ 92) : TRel q l (i + 1) false (acc ++ [l[i]]) := by
  unfold TRel at h ⊢
  rw [h, drop_at hi]
  conv => lhs; arg 2; unfold textB; rw [if_neg (by decide)]; unfold textL11
  rw [if_neg h1, if_neg h2, if_neg h3]
  unfold textB
  rw [if_neg (by decide), Option.map_map]
  congr 1
  funext p
  simp
/-- High bytes stand for themselves. -/
theorem TRel.high {q : UInt8} {l : List UInt8} (hq : q.toNat < 128) : ∀ (k : Nat) {i : Nat} {acc : List UInt8}, TRel q l i false acc → i + k ≤ l.length → (∀ j (hj : j < l.length), i ≤ j → j < i + k → 128 ≤ l[j].toNat) → TRel q l (i + k) false (acc ++ (l.drop i).take k)
  | 0, i, acc, h, _, _ => by simpa using h
  | k + 1, i, acc, h, hk, hh => by
    have hi : i < l.length := by omega
    have h0 := hh i hi (Nat.le_refl _) (by omega)
    have h1 := h.plain hi (fun e => by rw [e] at h0; omega) (fun e => by rw [e] at h0; simp at h0) (fun e => by rw [e] at h0; simp at h0)
    have h2 := TRel.high hq k h1 (by omega) (fun j hj a b => hh j hj (by omega) (by omega))
    rw [drop_at hi, List.take_succ_cons]
    rw [List.append_assoc] at h2
    rw [show i + (k + 1) = i + 1 + k by omega]
    exact h2
theorem un_high (c : UInt8) (h : 128 ≤ c.toNat) : unL c = none := by
  unfold unL
  repeat' split
  all_goals first | rfl | (rename_i e; subst e; simp at h)
/-- Where a letter stands among those behind a backslash, it is meant to be the byte at that place. -/
theorem un_at (c : UInt8) (h : c.toNat < 128) : unL c = if 0 ≤ runeAt [116, 110, 114, 34, 39, 92] c.toNat then ([9, 10, 13, 34, 39, 92] : List UInt8)[(runeAt [116, 110, 114, 34, 39, 92] c.toNat).toNat]? else none := by
  have key : ∀ n, n < 128 → unL n.toUInt8 = if 0 ≤ runeAt [116, 110, 114, 34, 39, 92] n then ([9, 10, 13, 34, 39, 92] : List UInt8)[(runeAt [116, 110, 114, 34, 39, 92] n).toNat]? else none := by decide
  have := key c.toNat h
  rw [show c.toNat.toUInt8 = c by simp] at this
  exact this
theorem rune_lt (c : Nat) : runeAt [116, 110, 114, 34, 39, 92] c < 6 ∧ -1 ≤ runeAt [116, 110, 114, 34, 39, 92] c := by
  unfold runeAt
  split
  · have := indexByte_lt [116, 110, 114, 34, 39, 92] c.toUInt8
    simpa using this
  · decide
end Go.Proofs.YtefkppeicmipbaaGreatDoor
