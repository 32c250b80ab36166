/- The laid condition gives PowAt. -/
import Derived.Test.YtecomfhbdonkbaaGreatDoorRows
import Derived.Test.YtecomfhbdonkbaaGreatDoorEd
import Derived.LaidMore
import Derived.LaidLaws
import Derived.MakeChecks
import Derived.WalkKit
import Derived.ProofKit
import Derived.OpenShut
import Derived.ChangeOld
import Derived.Lib.LaidU8
namespace Go.Proofs.YtecomfhbdonkbaaGreatDoor
open Go.Shelf
open Go.ChangeShapes Go.WideShapes Go.ChangeAt Go.RowKit
set_option linter.unusedVariables false
set_option maxRecDepth 100000
theorem trod_float {H : Type} {enc : TypeId × Value → H} {P : Program} {w : World} {base : Nat} {spare : Nat → Bool} {held : Bool} {fuel : Nat} {t : TypeId} {cs : List Value} {x : DataW H × List MemPlace} {k : FloatKind}
    (ht : P.underlying t = some (.float k)) (h : DataW.trod enc P w base spare held fuel t cs = some x) : ∃ n, cs = [.float k n] ∧ x = (.lit (.float k n), []) := by
  cases fuel with
  | zero => simp [DataW.trod] at h
  | succ n =>
    unfold DataW.trod at h
    rw [ht] at h
    split at h <;> simp_all
    all_goals (try (obtain ⟨⟨rfl, -⟩, h⟩ := h; exact ⟨_, ⟨rfl, rfl⟩, h.symm⟩))
/-- floats laid in a package variable that is an array of them. -/
theorem floats_of_reads {W : World} {name : String} {g : Nat} {ta : TypeId} {N : Nat} (L : List Nat) (hL : L.length = N)
    (hg : Tryz.prog.globalNamed name = some g) (ht : (Tryz.prog.globals[g]?).map (·.type) = some ta) (hu : Tryz.prog.underlying ta = some (.array N 86))
    (h : Lib.VarReads Tryz.prog W name (.agg (L.map fun b => DataW.lit (.float .f64 b)) : DataW Unit)) :
    ∀ j b, L[j]? = some b → W.cell? ⟨g, 0 + j, none⟩ = some (.float .f64 b) := by
  obtain ⟨g0, t0, cs0, f0, p0, hg0, ht0, hv0, hd0⟩ := h
  obtain rfl := Option.some.inj (hg.symm.trans hg0)
  obtain rfl := Option.some.inj (ht.symm.trans ht0)
  obtain ⟨xs, m, rfl, hx, hlen, hn, hel⟩ := DataW.trod_array hu hd0
  have c1 : Tryz.prog.cellsOf 86 = 1 := by kernel_rfl
  rw [c1] at hel
  have hcell := World.var?_cell hg0 hv0
  have hx1 := congrArg (fun x => x.1) hx
  have hx2 : (L.map fun b => (DataW.lit (.float .f64 b) : DataW Unit)) = xs.map fun x => x.1 := DataW.agg.inj hx1
  intro j b hj
  have hjN : j < N := by rw [← hL]; exact (List.getElem?_eq_some_iff.1 hj).1
  have h2 := congrArg (fun l => l[j]?) hx2
  try dsimp only at h2
  rw [List.getElem?_map, List.getElem?_map, hj] at h2
  obtain ⟨x, hxj, hxe⟩ := Option.map_eq_some_iff.1 h2.symm
  have ht := hel j hjN
  rw [hxj] at ht
  obtain ⟨s, hs, hse⟩ := trod_float (k := .f64) Tryz.underlying86 ht
  rw [hse] at hxe
  have hsb : s = b := by simpa using hxe
  have q : cs0.toList[j]? = some (.float .f64 s) := by
    have := congrArg (fun l => l[0]?) hs
    try dsimp only at this
    rw [List.getElem?_take_of_lt (by decide), List.getElem?_drop] at this
    simpa using this
  rw [Array.getElem?_toList] at q
  rw [Nat.zero_add, hcell, q, hsb]
def posL : List Nat := [4607182418800017408, 5085611494797045271, 5564284217833028085, 6043257259031049059, 6521906365687930162, 7000496887210966211, 7479368607221621995, 7958223736346011545, 8436737289693151036, 8915514139102383430]
theorem pow_reads {W : World} (h : Lib.VarReads Tryz.prog W "math.pow10tab" Rows.laid_math_pow10tab) : ∀ k, k ≤ 6 → W.cell? ⟨3, k, none⟩ = some (.float .f64 (powW k)) := by
  obtain ⟨L, hL, e, hp⟩ : ∃ L : List Nat, L.length = 32 ∧ (Rows.laid_math_pow10tab : DataW Unit) = .agg (L.map fun b => DataW.lit (.float .f64 b)) ∧ ∀ k, k ≤ 6 → L[k]? = some (powW k) :=
    ⟨[4607182418800017408, 4621819117588971520, 4636737291354636288, 4652007308841189376, 4666723172467343360, 4681608360884174848, 4696837146684686336, 4711630319722168320, 4726483295884279808, 4741671816366391296, 4756540486875873280, 4771362005757984768, 4786511204640096256, 4801453603149578240, 4816244402031689728, 4831355200913801216, 4846369599423283200, 4861130398305394688, 4876203697187506176, 4891288408196988160, 4906019910204099648, 4921056587992461136, 4936209963552724370, 4950912855330343670, 4965913770331839924, 4981134201117475473, 4995809153217856309, 5010775143622804482, 5026061058026967681, 5040708725286295329, 5055640609639927018, 5070927765361438756], rfl, rfl, fun k hk => by
      rcases (show k = 0 ∨ k = 1 ∨ k = 2 ∨ k = 3 ∨ k = 4 ∨ k = 5 ∨ k = 6 by omega) with rfl | rfl | rfl | rfl | rfl | rfl | rfl <;> rfl⟩
  rw [e] at h
  have := floats_of_reads (g := 3) (ta := 164) L hL (by kernel_rfl) (by kernel_rfl) Tryz.underlying164 h
  exact fun k hk => by simpa using this k _ (hp k hk)
theorem pos_reads {W : World} (h : Lib.VarReads Tryz.prog W "math.pow10postab32" Rows.laid_math_pow10postab32) : W.cell? ⟨2, 0, none⟩ = some (.float .f64 4607182418800017408) := by
  have e : (Rows.laid_math_pow10postab32 : DataW Unit) = .agg (posL.map fun b => DataW.lit (.float .f64 b)) := rfl
  rw [e] at h
  exact floats_of_reads (g := 2) (ta := 163) posL rfl (by kernel_rfl) (by kernel_rfl) Tryz.underlying163 h 0 _ rfl
theorem pow_of_laid {W : World} (h : laidMetH Tryz.prog [("unicode/utf8.acceptRanges", Rows.laid_unicode_utf8_acceptRanges), ("math.pow10tab", Rows.laid_math_pow10tab), ("math.pow10postab32", Rows.laid_math_pow10postab32), ("math.pow10negtab32", Rows.laid_math_pow10negtab32), ("unicode/utf8.first", Rows.laid_unicode_utf8_first)] W) : PowAt W := by
  rw [MakeChecks.laidMetH_plain _ _ _ (by kernel_rfl)] at h
  have h1 := pow_reads (Lib.laidMet.reads h (n := "math.pow10tab") (.tail _ (.head _)))
  have h2 := pos_reads (Lib.laidMet.reads h (n := "math.pow10postab32") (.tail _ (.tail _ (.head _))))
  exact ⟨⟨World.block_lt_of_cell? W _ h2, World.block_lt_of_cell? W _ (h1 0 (by decide))⟩, h2, h1⟩
end Go.Proofs.YtecomfhbdonkbaaGreatDoor
