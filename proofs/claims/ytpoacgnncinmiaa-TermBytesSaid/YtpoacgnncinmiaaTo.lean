/- Terms: a term that came in. -/
import Derived.Test.YtpoacgnncinmiaaTb
import Derived.ChangeMaps5
import Derived.Lib.SmallJoins
import Derived.OpenShut
namespace Go.Proofs.Ytpoacgnncinmiaa
open Go.RowKit Go.ChangeShapes Go.WideShapes
set_option maxRecDepth 100000

theorem byte_open {n : Int} (h : (Lit.int .u8 n).wf = true) : ∃ c : UInt8, n = (c.toNat : Int) := by
  have hr : 0 ≤ n ∧ n ≤ 255 := by simpa [Lit.wf, IntKind.min, IntKind.max, IntKind.signed, IntKind.bits] using h
  refine ⟨UInt8.ofNat n.toNat, ?_⟩
  rw [UInt8.toNat_ofNat_of_lt' (by simp [UInt8.size]; omega)]
  omega
theorem open_term {H : Type} {enc : TypeId × Value → H} {w : World} {base : Nat} {sp : Nat → Bool} {held : Bool} {r : Reach} {b0 : Nat} {v : Value} {d : DataW H} {ps : List MemPlace}
    (hv : Value.okWide Try.prog w r b0 23 v) (h : DataW.Trod enc Try.prog w base sp held 23 v d ps) : ∃ x : Tm, v = x.val ∧ ps = [] ∧ x.Ok := by
  obtain ⟨u0, u1, u2, u3, y0, y1, y2, y3, n, rfl, -, rfl, g0, g1, g2, g3⟩ := Go.Joins.open_agg4 Try.underlying23 (by kernel_rfl) (by kernel_rfl) hv h
  obtain ⟨k, e0, rfl, hk⟩ := DataW.trod_int Try.underlying3 g0
  obtain ⟨s, e1, rfl, hs⟩ := DataW.trod_string Try.underlying9 g1
  obtain ⟨l, e2, rfl, hl⟩ := DataW.trod_string Try.underlying9 g2
  obtain ⟨t, e3, rfl, ht⟩ := DataW.trod_string Try.underlying9 g3
  simp only [List.cons.injEq, and_true] at e0 e1 e2 e3
  subst e0 e1 e2 e3
  exact ⟨⟨k, s, l, t⟩, rfl, rfl, ⟨hk, hs, hl, ht⟩⟩
end Go.Proofs.Ytpoacgnncinmiaa
