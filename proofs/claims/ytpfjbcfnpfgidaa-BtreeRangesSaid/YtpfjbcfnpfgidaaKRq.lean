/- Rq -/
import Derived.Test.YtpfjbcfnpfgidaaKRk
import Derived.SliceStrings
namespace Go.Proofs.Ytpfjbcfnpfgidaa
open Go.RowKit Go.Maps Go.ChangeShapes
theorem strings_open {H : Type} {enc : TypeId × Value → H} {W : World} {fuel : Nat} {ao : Option Addr} {len cap : Nat} {y : DataW H × List MemPlace}
 (h : DataW.trod enc Try.prog W 0 (fun _ => true) true fuel 22 [.slice ao len cap] = some y) : ∃ l : List ByteArray, l.length = len ∧ Ss W (.slice ao len cap) l := by
 rcases open_strings Try.underlying22 Try.underlying9 (by kernel_rfl) h with ⟨hcs, _⟩ | ⟨a, len', cap', ss, hcs, -, hl, hm, hs, -, hcell, hsz⟩
 ·simp only [List.cons.injEq, and_true, Value.slice.injEq] at hcs
  obtain ⟨rfl, rfl, rfl⟩ := hcs
  exact ⟨[], rfl, Ss.nil9 _⟩
 ·simp only [List.cons.injEq, and_true, Value.slice.injEq] at hcs
  obtain ⟨rfl, rfl, rfl⟩ := hcs
  simp only [if_true] at hs
  have hlen : (ss.take len).length = len := by rw [List.length_take]; omega
  obtain ⟨b, off, spot⟩ := a
  refine ⟨ss.take len, hlen, some ⟨b, off, spot⟩, cap, by rw [hlen], by omega, hm, ?_, ?_⟩
  ·intro e; simp at e
  intro ad e j u hu
  obtain rfl : Addr.mk b off spot = ad := by simpa using e
  unfold Go.Proofs.Ytpfjbcfnpfgidaa.strs at hu
  rw [List.getElem?_map] at hu
  have hj : j < len := by
   rcases Nat.lt_or_ge j len with h | h
   ·exact h
   ·rw [List.getElem?_eq_none (by omega)] at hu; simp at hu
  rw [List.getElem?_take_of_lt hj, List.getElem?_eq_getElem (by omega)] at hu
  simp only [Option.map_some, Option.some.injEq] at hu
  subst hu
  rw [hcell j (by omega), List.getD_eq_getElem?_getD, List.getElem?_eq_getElem (by omega)]
  rfl
end Go.Proofs.Ytpfjbcfnpfgidaa
