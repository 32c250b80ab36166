/- References: the document's small functions on texts. -/
import Derived.Test.YtefkppeicmipbaaGreatDoorGa
import Derived.Test.YtefkppeicmipbaaGreatDoorKa
import Derived.Deep.LoopGhost
import Derived.Deep.QuietTactic
import Derived.BigQuiet
namespace Go.Proofs.YtefkppeicmipbaaGreatDoor
open Go.RowKit
set_option maxRecDepth 100000
set_option linter.unusedVariables false
theorem ba_extK {a b : ByteArray} (h : a.data.toList = b.data.toList) : a = b := by
  obtain ⟨⟨x⟩⟩ := a
  obtain ⟨⟨y⟩⟩ := b
  simp only at h
  rw [h]
theorem draws_tK (w : World) (n : Nat) : Below w.heap.size w (w.drewN n) := ⟨rfl, rfl, rfl, Nat.le_refl _, fun _ _ => rfl⟩
theorem drop_atK {l : List UInt8} {i : Nat} (h : i < l.length) : l.drop i = l[i] :: l.drop (i + 1) := List.drop_eq_getElem_cons h
theorem u8_beq (x y : UInt8) : (((x.toNat : Nat) : Int) == ((y.toNat : Nat) : Int)) = (x == y) := by
  by_cases h : x = y
  · subst h; simp
  · have h1 : ¬ ((x.toNat : Nat) : Int) = ((y.toNat : Nat) : Int) := fun e => h (UInt8.toNat_inj.1 (by omega))
    rw [beq_eq_false_iff_ne.2 h1, beq_eq_false_iff_ne.2 h]
theorem cut_snoc (x : List UInt8) (c : UInt8) : cutLK (x ++ [c]) = if c = 47 then x else cutLK x := by
  unfold cutLK
  rw [List.reverse_append, List.reverse_cons, List.reverse_nil, List.nil_append, List.singleton_append, List.dropWhile_cons]
  by_cases h : c = 47
  · subst h; simp
  · rw [if_pos (by simpa using h), if_neg h]
theorem take_snoc {l : List UInt8} {i : Nat} (h : i < l.length) : l.take (i + 1) = l.take i ++ [l[i]] := by
  rw [List.take_add_one, List.getElem?_eq_getElem h]; rfl
theorem cut_nil : cutLK [] = [] := rfl
theorem beq_prefix (s p : ByteArray) (h : p.size ≤ s.size) : ((s.extract 0 p.size).toList == p.toList) = Lib.hasPrefix s.data.toList p.data.toList := by
  rw [Lib.extract_toList, Lib.toList_data, List.drop_zero, Nat.sub_zero, Lib.size_eq]
  unfold Lib.hasPrefix
  by_cases hp : p.data.toList <+: s.data.toList
  · rw [List.isPrefixOf_iff_prefix.2 hp]
    obtain ⟨t, ht⟩ := hp
    rw [← ht, List.take_left]
    simp
  · have h1 : ¬ (p.data.toList.isPrefixOf s.data.toList = true) := fun e => hp (List.isPrefixOf_iff_prefix.1 e)
    rw [Bool.not_eq_true] at h1
    rw [h1]
    exact beq_eq_false_iff_ne.2 fun e => hp ⟨_, (congrArg (· ++ s.data.toList.drop p.data.toList.length) e).symm.trans (List.take_append_drop _ _)⟩
end Go.Proofs.YtefkppeicmipbaaGreatDoor
