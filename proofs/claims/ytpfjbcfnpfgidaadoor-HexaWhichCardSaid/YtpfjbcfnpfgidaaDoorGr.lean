/- B5s -/
import Derived.Test.YtpfjbcfnpfgidaaDoorGl
import Derived.Laws.Cover1
namespace Go.Proofs.YtpfjbcfnpfgidaaDoor
open Go.RowKit Go.Maps
set_option maxRecDepth 100000
set_option linter.unusedVariables false
end Go.Proofs.YtpfjbcfnpfgidaaDoor
namespace Go.Proofs.YtpfjbcfnpfgidaaDoor
open Go.RowKit Go.Maps
set_option maxRecDepth 100000
set_option linter.unusedVariables false
end Go.Proofs.YtpfjbcfnpfgidaaDoor
namespace Go.Proofs.YtpfjbcfnpfgidaaDoor
open Go.RowKit Go.Maps
set_option maxRecDepth 100000
set_option linter.unusedVariables false
end Go.Proofs.YtpfjbcfnpfgidaaDoor
namespace Go.Proofs.YtpfjbcfnpfgidaaDoor
open Go.RowKit Go.Maps
set_option maxRecDepth 100000
set_option linter.unusedVariables false
def NoX5 : Nat → Prop := fun _ => False
theorem nox5_lt (w : World) : ∀ k, NoX5 k → k < w.heap.size := fun _ h => h.elim
theorem open5_any (w0 w : World) (hb : Below w0.heap.size w0 w) : Calls Tryd.prog 8 #[] w fun e w' => ∃ r p, e = .returned (.pointer (some ⟨p, 0, none⟩)) ∧ Pb w0 w' NoX5 r p 1199 0 0 (Lg.new 1199) (some (Lg.new 1199)) := by
  have HB := Lib.hid hb
  clear hb
  go_enter Tryd.func8, Tryd.ntmps8
  go_wp2_with fail
  refine (nd_new (w0 := w0) (X := NoX5) 1600 1600 rfl (by omega) (by omega) HB.out (nox5_lt w)).mono ?_
  rintro e w1 ⟨r, rfl, h1, -⟩
  have H1 := Lib.hid h1
  clear h1
  go_wp2_with fail
  refine (ndb_open (N := 1199) H1.out (by omega) (by omega)).mono ?_
  rintro e w2 ⟨p, rfl, h2, -⟩
  have H2 := Lib.hid h2
  clear h2
  go_wp2_with fail
  refine (pb_begin H2.out).mono ?_
  rintro e w3 ⟨rfl, h3, -⟩
  have H3 := Lib.hid h3
  clear h3
  go_wp2_with fail
  go_ret
  exact ⟨r, p, rfl, H3.out⟩
end Go.Proofs.YtpfjbcfnpfgidaaDoor
