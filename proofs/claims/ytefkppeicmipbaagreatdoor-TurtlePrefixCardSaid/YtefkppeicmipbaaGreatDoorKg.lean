/- References: the document's path without dots. -/
import Derived.Test.YtefkppeicmipbaaGreatDoorKf
namespace Go.Proofs.YtefkppeicmipbaaGreatDoor
open Go.RowKit Go.Shelf
set_option maxRecDepth 100000
set_option linter.unusedVariables false
theorem rdot_rel {D acc l o s : List UInt8} (hne : ¬ l = []) (hq : D = dotF l.length acc l) (hd : rstep acc l = (o, s)) : D = dotF s.length o s ∧ o.length + s.length ≤ acc.length + l.length ∧ s.length < l.length :=
  dot_rel hne hq ((rstep_eq acc l hne).symm.trans hd)
theorem ext_fromK (s : ByteArray) (k : Nat) : (s.extract k s.size).data.toList = s.data.toList.drop k := by
  rw [← Lib.toList_data, Lib.extract_toList, List.take_of_length_le (by rw [List.length_drop, ← Lib.size_eq]; omega)]
theorem ext_toK (s : ByteArray) (k : Nat) : (s.extract 0 k).data.toList = s.data.toList.take k := by
  rw [← Lib.toList_data, Lib.extract_toList, List.drop_zero, Nat.sub_zero]
theorem ext_to' {s q : ByteArray} {k : Nat} (h : s.extract 0 k = q) : q.data.toList = s.data.toList.take k := by rw [← h, ext_toK]
theorem ext_from' {s q : ByteArray} {k : Nat} (h : s.extract k s.size = q) : q.data.toList = s.data.toList.drop k := by rw [← h, ext_fromK]
theorem pre_len {l p : List UInt8} (h : Lib.hasPrefix l p = true) : p.length ≤ l.length := by
  unfold Lib.hasPrefix at h
  exact (List.isPrefixOf_iff_prefix.1 h).length_le
theorem drew_more {w wr : World} (h : ∃ n, wr = w.drewN n) (m : Nat) : ∃ n, wr.drewN m = w.drewN n := by
  obtain ⟨n, rfl⟩ := h
  exact ⟨n + m, by simp⟩
def DRel (D : List UInt8) (c o : ByteArray) (c' o' : ByteArray) : Prop := D = dotF c'.size o'.data.toList c'.data.toList ∧ o'.size + c'.size ≤ o.size + c.size ∧ c'.size < c.size
theorem drel_of {D l : List UInt8} {c o c' o' : ByteArray} (hl : l = c.data.toList) (hne : ¬ l = []) (hq : D = dotF c.size o.data.toList l) (hd : rstep o.data.toList l = (o'.data.toList, c'.data.toList)) : DRel D c o c' o' := by
  rw [Lib.size_eq, ← hl] at hq
  have h := rdot_rel hne hq hd
  unfold DRel
  rw [Lib.size_eq c', Lib.size_eq o', Lib.size_eq c, Lib.size_eq o, ← hl]
  exact h
end Go.Proofs.YtefkppeicmipbaaGreatDoor
