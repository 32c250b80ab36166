/- The reference's orders. -/
import Derived.Test.YtpfjbcfnpfgidaaDoorDd
import Derived.Deep.WholeRow
namespace Go.Proofs.YtpfjbcfnpfgidaaDoor
open Go.RowKit
set_option maxRecDepth 100000
set_option linter.unusedVariables false
set_option linter.unusedSimpArgs false
theorem results_cell {fn : Func} {p : Tmp} {ty : TypeId} {tmps : Array Value} {a : Addr} {P : Program} {w : World} {v : Value} (h : fn.results = #[.cell p ty]) (hp : tmps.getD p undef = .pointer (some a)) (hl : (loadVar ty a).run P w = .ok v w) : (results fn tmps).run P w = .ok v w := by
  have hp' : (tmps[p]?.getD undef) = .pointer (some a) := by rw [← hp]; simp
  simp [results, h, hp', asAddr, Result.andThen, hl]
def ordV : Array Value := #[.int .i64 0, .int .i64 1, .int .i64 2, .int .i64 0, .int .i64 2, .int .i64 1, .int .i64 1, .int .i64 0, .int .i64 2, .int .i64 1, .int .i64 2, .int .i64 0, .int .i64 2, .int .i64 0, .int .i64 1, .int .i64 2, .int .i64 1, .int .i64 0]
set_option maxHeartbeats 4000000 in
theorem orders_any (w : World) :
    Calls Tryd.prog 7 #[] w fun e w' => e = .returned (.agg ordV) ∧ Below w.heap.size w w' := by
  have hbw : Below w.heap.size w (w.alloc (.cells ordV 25)) := (Below.refl _ w).alloc (Nat.le_refl _) _
  have hsc := run_storeCells_new (P := Tryd.prog) w 25 #[.int .i64 0, .int .i64 0, .int .i64 0, .int .i64 0, .int .i64 0, .int .i64 0, .int .i64 0, .int .i64 0, .int .i64 0, .int .i64 0, .int .i64 0, .int .i64 0, .int .i64 0, .int .i64 0, .int .i64 0, .int .i64 0, .int .i64 0, .int .i64 0] #[.int .i64 0, .int .i64 1, .int .i64 2, .int .i64 0, .int .i64 2, .int .i64 1, .int .i64 1, .int .i64 0, .int .i64 2, .int .i64 1, .int .i64 2, .int .i64 0, .int .i64 2, .int .i64 0, .int .i64 1, .int .i64 2, .int .i64 1, .int .i64 0] (by kernel_rfl) rfl (by kernel_rfl)
  have hlc := run_loadVar_new (P := Tryd.prog) w 25 ordV 6 22 Tryd.underlying25 (by kernel_rfl)
  dsimp only at hsc
  go_enter Tryd.func7, Tryd.ntmps7
  go_wp2_with fail
  clear hsc
  exact bodyPost_ret (v := .agg ordV) (results_cell (p := 0) (ty := 25) (a := ⟨w.heap.size, 0, none⟩) (by kernel_rfl) rfl hlc) rfl ⟨rfl, hbw⟩
end Go.Proofs.YtpfjbcfnpfgidaaDoor
