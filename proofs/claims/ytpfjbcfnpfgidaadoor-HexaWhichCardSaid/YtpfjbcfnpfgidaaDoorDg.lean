/- What the law asks ahead. -/
import Derived.Test.YtpfjbcfnpfgidaaDoorDd
namespace Go.Proofs.YtpfjbcfnpfgidaaDoor
open Go.RowKit
set_option maxRecDepth 100000
set_option linter.unusedVariables false
set_option linter.unusedSimpArgs false
theorem which_050 : whichK 0 5 0 = 2 := by unfold whichK; simp [aheadB_eq]
set_option maxHeartbeats 4000000 in
theorem known8_any (w : World) (ho : OrdAt w) :
    Calls Tryd.prog 4 #[] w fun e w' => e = .returned (.bool true) ∧ Below w.heap.size w w' := by
  have HW := Lib.hid (fun u (hu : OrdAt u) => which_any 0 5 0 u hu)
  rw [which_050] at HW
  unfold tri at HW
  go_enter Tryd.func4, Tryd.ntmps4
  go_wp2_with fail
  refine (HW.out _ ho).mono ?_
  rintro en w2 ⟨rfl, hb2⟩
  go_wp2_with fail
  refine (open5_any w w2 hb2).mono ?_
  rintro en w3 ⟨r, p, rfl, h3⟩
  have hb3 := h3.below
  clear h3
  go_wp2_with fail
  go_ret
  exact ⟨rfl, hb3⟩
/-- The law's last look: zeros behind all others. -/
theorem which_range (a b c : Int) : 0 ≤ whichK a b c ∧ whichK a b c ≤ 5 := by
  unfold whichK
  split
  · omega
  · split
    · omega
    · split
      · omega
      · split
        · omega
        · split <;> omega
end Go.Proofs.YtpfjbcfnpfgidaaDoor
