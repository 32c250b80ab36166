/- References: the document's own Split. -/
import Derived.Test.YtefkppeicmipbaaGreatDoorKh
namespace Go.Proofs.YtefkppeicmipbaaGreatDoor
open Go.RowKit Go.Shelf
set_option maxRecDepth 100000
set_option linter.unusedVariables false
theorem no_query {l : List UInt8} (h : Lib.hasPrefix (restL [63, 35] l) [63] = false) : frontL [35] (restL [63, 35] l) = [] ∧ restL [35] (restL [63, 35] l) = restL [63, 35] l := by
  rw [pre_oneK] at h
  have h2 := of_decide_eq_false h
  cases hr : restL [63, 35] l with
  | nil => exact ⟨rfl, rfl⟩
  | cons c r =>
    have h3 := rest_head _ _ hr
    rw [hr, List.head?_cons] at h2
    have hc : c = 35 := by
      rw [List.contains_iff_mem] at h3
      simp only [List.mem_cons, List.not_mem_nil, or_false] at h3
      rcases h3 with e | e
      · exact absurd (by rw [e]) h2
      · exact e
    subst hc
    rw [front_cons, rest_cons]
    exact ⟨rfl, rfl⟩
theorem front_some {m l : List UInt8} {c : UInt8} (h : (restL m l).head? = some c) : ∃ h : (frontL m l).length < l.length, l[(frontL m l).length] = c := by
  have h0 := front_rest m l
  cases hr : restL m l with
  | nil => rw [hr] at h; cases h
  | cons d r =>
    rw [hr] at h
    cases h
    have h1 := front_len m l
    rw [hr, List.length_cons] at h1
    refine ⟨by omega, ?_⟩
    rw [hr] at h0
    have h2 : l[(frontL m l).length]? = some c := by
      conv => lhs; rw [← h0]
      rw [h0]
      have : (frontL m l ++ c :: r)[(frontL m l).length]? = some c := by simp
      rw [h0] at this
      exact this
    rw [List.getElem?_eq_getElem (by omega)] at h2
    exact Option.some.inj h2
end Go.Proofs.YtefkppeicmipbaaGreatDoor
