/- Lines of triples, plain: what package nt reads. -/
import Derived.Test.YtbkokckpjmbjhaaDoorTv
import Derived.Lib.SlTrimSet
import Derived.Lib.IndexMore
import Derived.Shelf.GgClosure.StringsTrimFunc
import Derived.Laws.RangeAny
import Derived.Laws.RangeString
namespace Go.Proofs.YtbkokckpjmbjhaaDoor
open Go.RowKit
set_option maxRecDepth 100000
set_option linter.unusedVariables false
/-- Without blanks at its front. -/
def skipL (l : List UInt8) : List UInt8 := Lib.trimLeftS l [32, 9]
/-- Is there nothing more, but a remark? -/
def overL (l : List UInt8) : Bool := match skipL l with
  | [] => true
  | c :: _ => c == 35
/-- What is ahead of the first such byte, and behind it. -/
def cutL (c : UInt8) (l : List UInt8) : Option (List UInt8 × List UInt8) := if 0 ≤ Lib.indexByte l c then some (l.take (Lib.indexByte l c).toNat, l.drop ((Lib.indexByte l c).toNat + 1)) else none
def nameB (c : UInt8) : Bool := decide (97 ≤ c.toNat ∧ c.toNat ≤ 122) || decide (65 ≤ c.toNat ∧ c.toNat ≤ 90) || decide (48 ≤ c.toNat ∧ c.toNat ≤ 57) || decide (c.toNat = 95)
def spokB (c : UInt8) : Bool := decide (97 ≤ c.toNat ∧ c.toNat ≤ 122) || decide (c.toNat = 45)
def meantL (c : UInt8) : Option UInt8 := if c = 116 then some 9 else if c = 110 then some 10 else if c = 114 then some 13 else if c = 34 ∨ c = 92 then some c else none
def quotL : List UInt8 → Option (List UInt8 × List UInt8)
  | [] => none
  | c :: r => if c = 34 then some ([], r) else if c = 92 then match r with
    | [] => none
    | d :: r' => match meantL d with
      | none => none
      | some x => (quotL r').map fun q => (x :: q.1, q.2)
    else (quotL r).map fun q => (c :: q.1, q.2)
def litL (l : List UInt8) : Option (Tm × List UInt8) := match quotL l with
  | none => none
  | some (t, r) => if Lib.hasPrefix r [64] then some (⟨3, ⟨t.toArray⟩, ⟨((r.drop 1).takeWhile spokB).toArray⟩, ⟨#[]⟩⟩, (r.drop 1).dropWhile spokB)
    else if Lib.hasPrefix r [94, 94, 60] then (cutL 62 (r.drop 3)).map fun q => (⟨3, ⟨t.toArray⟩, ⟨#[]⟩, ⟨q.1.toArray⟩⟩, q.2)
    else some (⟨3, ⟨t.toArray⟩, ⟨#[]⟩, ⟨#[]⟩⟩, r)
def wordL (l : List UInt8) : Option (Tm × List UInt8) :=
  if Lib.hasPrefix l [60] then (cutL 62 (l.drop 1)).map fun q => (⟨1, ⟨q.1.toArray⟩, ⟨#[]⟩, ⟨#[]⟩⟩, q.2)
  else if Lib.hasPrefix l [95, 58] then some (⟨2, ⟨((l.drop 2).takeWhile nameB).toArray⟩, ⟨#[]⟩, ⟨#[]⟩⟩, (l.drop 2).dropWhile nameB)
  else if Lib.hasPrefix l [34] then litL (l.drop 1)
  else none
/-- What is left behind a row of bytes that may be, by runes. -/
theorem idx_from (pb : UInt8 → Bool) (p : Nat → Bool) (hp : ∀ c : UInt8, c.toNat < 128 → p c.toNat = pb c) (hb : ∀ c : UInt8, 128 ≤ c.toNat → pb c = false) (hn : ∀ n, 128 ≤ n → p n = false) (s : ByteArray) :
    ∀ (f pos : Nat), pos ≤ s.size → s.size ≤ f + pos → Lib.idxFuncFrom p false s f pos = if (s.data.toList.drop pos).dropWhile pb = [] then -1 else ((pos + ((s.data.toList.drop pos).takeWhile pb).length : Nat) : Int)
  | 0, pos, h1, h2 => by
    have : s.data.toList.drop pos = [] := List.drop_eq_nil_of_le (by rw [← Lib.size_eq]; omega)
    rw [this]; rfl
  | f + 1, pos, h1, h2 => by
    unfold Lib.idxFuncFrom
    by_cases h : pos < s.size
    · rw [if_pos h]
      have hl : pos < s.data.toList.length := by rw [← Lib.size_eq]; exact h
      have hd : s.data.toList.drop pos = s[pos] :: s.data.toList.drop (pos + 1) := by
        rw [List.drop_eq_getElem_cons hl]; rfl
      rw [hd]
      by_cases ha : (s[pos]).toNat < 128
      · rw [decode_ascii s pos h ha]
        dsimp only
        rw [hp _ ha]
        cases hq : pb s[pos] with
        | false =>
          rw [List.takeWhile_cons, List.dropWhile_cons, hq]
          simp
        | true =>
          rw [if_neg (by simp), idx_from pb p hp hb hn s f (pos + 1) (by omega) (by omega), List.takeWhile_cons, List.dropWhile_cons, hq]
          simp only [if_true, List.length_cons]
          split
          · rfl
          · congr 1; omega
      · have hh := decode_high s pos h (by omega)
        rw [hn _ hh.1, if_pos rfl, List.takeWhile_cons, List.dropWhile_cons, hb _ (by omega)]
        simp
    · rw [if_neg h]
      have : s.data.toList.drop pos = [] := List.drop_eq_nil_of_le (by rw [← Lib.size_eq]; omega)
      rw [this]; rfl
theorem trim_func (pb : UInt8 → Bool) (p : Nat → Bool) (hp : ∀ c : UInt8, c.toNat < 128 → p c.toNat = pb c) (hb : ∀ c : UInt8, 128 ≤ c.toNat → pb c = false) (hn : ∀ n, 128 ≤ n → p n = false) (s : ByteArray) : Lib.trimLeftF p s = ⟨(s.data.toList.dropWhile pb).toArray⟩ := by
  have h := idx_from pb p hp hb hn s s.size 0 (Nat.zero_le _) (by omega)
  rw [List.drop_zero] at h
  unfold Lib.trimLeftF Lib.idxFunc
  rw [h]
  by_cases he : s.data.toList.dropWhile pb = []
  · rw [if_pos he, if_pos rfl, he]
  · rw [if_neg he, if_neg (by omega)]
    have e : s.data.toList.dropWhile pb = s.data.toList.drop (s.data.toList.takeWhile pb).length := by
      conv => rhs; rw [← List.takeWhile_append_dropWhile (p := pb) (l := s.data.toList)]
      rw [List.takeWhile_append_dropWhile]
      exact (List.drop_left (l₁ := s.data.toList.takeWhile pb) (l₂ := s.data.toList.dropWhile pb)).symm.trans (by rw [List.takeWhile_append_dropWhile])
    rw [e]
    apply ba_ext
    rw [Nat.zero_add, Int.toNat_natCast, ← Lib.toList_data, Lib.extract_toList]
    rw [List.take_of_length_le]
    rw [List.length_drop, ← Lib.size_eq]; omega
end Go.Proofs.YtbkokckpjmbjhaaDoor
