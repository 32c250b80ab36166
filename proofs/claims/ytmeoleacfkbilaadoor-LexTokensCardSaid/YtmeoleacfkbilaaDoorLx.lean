/- Signs: the laid condition. -/
import Derived.Test.YtmeoleacfkbilaaDoorRows
import Derived.Test.YtmeoleacfkbilaaDoorLm
import Derived.Lib.LaidU8
import Derived.LaidMore
import Derived.LaidLaws
import Derived.MakeChecks
import Derived.WalkKit
import Derived.ProofKit
import Derived.OpenShut
import Derived.ShutString
import Derived.ChangeOld
namespace Go.Proofs.YtmeoleacfkbilaaDoor
open Go.Shelf
open Go.ChangeShapes Go.WideShapes Go.ChangeAt Go.RowKit
set_option linter.unusedVariables false
set_option maxRecDepth 100000
theorem gSig : Tryd.prog.globalNamed "triad/lex.signs" = some 0 := by kernel_rfl
theorem tSig : (Tryd.prog.globals[0]?).map (·.type) = some 56 := by kernel_rfl
theorem sig_of_reads {W : World} (h : Lib.VarReads Tryd.prog W "triad/lex.signs" Rows.laid_triad_lex_signs) : SigAt W := by
  obtain ⟨g0, t0, cs0, f0, p0, hg0, ht0, hv0, hd0⟩ := h
  obtain rfl := Option.some.inj (gSig.symm.trans hg0)
  obtain rfl := Option.some.inj (tSig.symm.trans ht0)
  obtain ⟨xs, m, rfl, hx, hlen, hn, hel⟩ := DataW.trod_array Tryd.underlying56 hd0
  have c1 : Tryd.prog.cellsOf 9 = 1 := by kernel_rfl
  rw [c1] at hel
  have hcell := World.var?_cell hg0 hv0
  have hx1 : (Rows.laid_triad_lex_signs : DataW Unit) = .agg (xs.map fun x => x.1) := by
    have := congrArg (fun x => x.1) hx
    exact this
  have hx2 : (signs11.map fun y => (DataW.lit (.string y) : DataW Unit)) = xs.map fun x => x.1 := by
    have e : (Rows.laid_triad_lex_signs : DataW Unit) = .agg (signs11.map fun y => DataW.lit (.string y)) := rfl
    rw [e] at hx1
    exact DataW.agg.inj hx1
  have key : ∀ j v, sigVals[j]? = some v → W.cell? ⟨0, 0 + j, none⟩ = some v := by
    intro j v hj
    unfold sigVals at hj
    rw [List.getElem?_map] at hj
    obtain ⟨y, hy, rfl⟩ := Option.map_eq_some_iff.1 hj
    have hj26 : j < 26 := (List.getElem?_eq_some_iff.1 hy).1
    have h2 := congrArg (fun l => l[j]?) hx2
    try dsimp only at h2
    rw [List.getElem?_map, List.getElem?_map, hy] at h2
    obtain ⟨x, hxj, hxe⟩ := Option.map_eq_some_iff.1 h2.symm
    have ht := hel j hj26
    rw [hxj] at ht
    obtain ⟨s, hs, hse, -⟩ := DataW.trod_string Tryd.underlying9 ht
    rw [hse] at hxe
    have hsy : s.data.toList = y := by simpa using hxe
    have hsb : s = ⟨y.toArray⟩ := ba_ext hsy
    have q : cs0.toList[j]? = some (.string s) := by
      have := congrArg (fun l => l[0]?) hs
      try dsimp only at this
      rw [List.getElem?_take_of_lt (by decide), List.getElem?_drop] at this
      simpa using this
    rw [Array.getElem?_toList] at q
    rw [Nat.zero_add, hcell, q, hsb]
  exact ⟨World.block_lt_of_cell? W _ (key 0 _ rfl), key⟩
theorem lex_of_laid {W : World} (h : laidMetH Tryd.prog [("unicode/utf8.acceptRanges", Rows.laid_unicode_utf8_acceptRanges), ("triad/lex.signs", Rows.laid_triad_lex_signs), ("unicode/utf8.first", Rows.laid_unicode_utf8_first)] W) : LexAt W := by
  rw [MakeChecks.laidMetH_plain _ _ _ (by kernel_rfl)] at h
  have e1 : (Rows.laid_unicode_utf8_first : DataW Unit) = Lib.firstData := by kernel_rfl
  have e2 : (Rows.laid_unicode_utf8_acceptRanges : DataW Unit) = Lib.acceptData := by kernel_rfl
  have h1 := Lib.laidMet.reads h (n := "unicode/utf8.first") (.tail _ (.tail _ (.head _)))
  have h2 := Lib.laidMet.reads h (n := "unicode/utf8.acceptRanges") (.head _)
  have h3 := Lib.laidMet.reads h (n := "triad/lex.signs") (.tail _ (.head _))
  rw [e1] at h1
  rw [e2] at h2
  exact ⟨utf8Tabs_of_reads (ρ := Tryd.lays197_ren) { Tryd.lays197 with } ⟨by kernel_rfl, by kernel_rfl, by kernel_rfl, by kernel_rfl, by kernel_rfl, by kernel_rfl, by kernel_rfl⟩ h1 h2, sig_of_reads h3⟩
end Go.Proofs.YtmeoleacfkbilaaDoor
