/- The walk of HexaWhich. -/
import Derived.Test.YtpfjbcfnpfgidaaDoorDfzzn
import Derived.Test.YtpfjbcfnpfgidaaDoorDg
namespace Go.Proofs.YtpfjbcfnpfgidaaDoor
open Go.RowKit
set_option maxRecDepth 100000
set_option linter.unusedVariables false
set_option linter.unusedSimpArgs false
set_option maxHeartbeats 16000000 in
theorem hw_zzn (c : Int) (hc : (c == 0) = false) (w : World) (ho : OrdAt w) :
    Calls Tryd.prog 3 #[tri 0 0 c] w fun e w' => e = .returned (.bool true) ∧ Below w.heap.size w w' := by
  have hK : whichK (0) (0) (c) = 4 := by
    unfold whichK
    simp [aheadB_eq, show ¬ c = 0 by simpa using hc]
  have HW := Lib.hid (fun u (hu : OrdAt u) => which_any (0) (0) (c) u hu)
  rw [hK] at HW
  have HR := Lib.hid (fun u => rw_zzn c hc u)
  have hO := Lib.hid (fun w => orders_any w)
  unfold ordV at hO
  unfold tri at HW HR ⊢
  have hal : Below w.heap.size w (w.alloc (.cells #[.int .i64 (0), .int .i64 (0), .int .i64 (c)] 22)) := (Below.refl _ w).alloc (Nat.le_refl _) _
  have ho1 := ho.below hal
  have hB := Blk.new w #[.int .i64 (0), .int .i64 (0), .int .i64 (c)] 22
  go_enter Tryd.func3, Tryd.ntmps3
  go_wp2_with fail
  generalize World.alloc w _ = w1 at hal ho1 hB ⊢
  refine (known8_any w1 ho1).mono ?_
  rintro en w2 ⟨rfl, hb2⟩
  have ho2 := ho1.below hb2
  have hB2 : Blk w2 w.heap.size _ _ := (hb2.block _ hB.lt).trans hB
  have hal2 := hal.trans (hb2.mono hal.size)
  clear hal ho1 hB hb2
  have d0 : w2.cell? ⟨w.heap.size, 0, none⟩ = some (.int .i64 (0)) := by rw [hB2.cell]; rfl
  have d1 : w2.cell? ⟨w.heap.size, 1, none⟩ = some (.int .i64 (0)) := by rw [hB2.cell]; rfl
  have d2 : w2.cell? ⟨w.heap.size, 2, none⟩ = some (.int .i64 (c)) := by rw [hB2.cell]; rfl
  go_wp2_with fail
  refine (HW.out _ ho2).mono ?_
  rintro en w3 ⟨rfl, hb3⟩
  have hB3 : Blk w3 w.heap.size _ _ := (hb3.block _ hB2.lt).trans hB2
  have hal3 := hal2.trans (hb3.mono hal2.size)
  clear d0 d1 d2 hal2 ho2 hB2 hb3
  have d0 : w3.cell? ⟨w.heap.size, 0, none⟩ = some (.int .i64 (0)) := by rw [hB3.cell]; rfl
  have d1 : w3.cell? ⟨w.heap.size, 1, none⟩ = some (.int .i64 (0)) := by rw [hB3.cell]; rfl
  have d2 : w3.cell? ⟨w.heap.size, 2, none⟩ = some (.int .i64 (c)) := by rw [hB3.cell]; rfl
  go_wp2_with fail
  refine (HR.out _).mono ?_
  rintro en w4 ⟨rfl, hb4⟩
  have hB4 : Blk w4 w.heap.size _ _ := (hb4.block _ hB3.lt).trans hB3
  have hal4 := hal3.trans (hb4.mono hal3.size)
  clear d0 d1 d2 hal3 hB3 hb4
  go_wp2_with fail
  refine (hO.out _).mono ?_
  rintro en w5 ⟨rfl, hb5⟩
  have hB5 : Blk w5 w.heap.size _ _ := (hb5.block _ hB4.lt).trans hB4
  have hal5 := hal4.trans (hb5.mono hal4.size)
  clear hal4 hB4 hb5
  have hix : ∀ w, (Instr.index 25 (.agg #[.int .i64 0, .int .i64 1, .int .i64 2, .int .i64 0, .int .i64 2, .int .i64 1, .int .i64 1, .int .i64 0, .int .i64 2, .int .i64 1, .int .i64 2, .int .i64 0, .int .i64 2, .int .i64 0, .int .i64 1, .int .i64 2, .int .i64 1, .int .i64 0]) (.int .i64 4)).run Tryd.prog w = .ok (.agg #[.int .i64 2, .int .i64 0, .int .i64 1]) w := fun _ => by kernel_rfl
  go_wp2_with fail
  clear hix
  have hB6 := hB5.alloc (.cells #[.int .i64 2, .int .i64 0, .int .i64 1] 22)
  have hC6 := Blk.new w5 #[.int .i64 2, .int .i64 0, .int .i64 1] 22
  have hal6 := hal5.alloc hal5.size (.cells #[.int .i64 2, .int .i64 0, .int .i64 1] 22)
  obtain ⟨x, hx⟩ : ∃ x, x = w5.heap.size := ⟨_, rfl⟩
  rw [← hx] at hC6 ⊢
  generalize World.alloc w5 _ = w6 at hB6 hC6 hal6 ⊢
  have d0 : w6.cell? ⟨w.heap.size, 0, none⟩ = some (.int .i64 (0)) := by rw [hB6.cell]; rfl
  have d1 : w6.cell? ⟨w.heap.size, 1, none⟩ = some (.int .i64 (0)) := by rw [hB6.cell]; rfl
  have d2 : w6.cell? ⟨w.heap.size, 2, none⟩ = some (.int .i64 (c)) := by rw [hB6.cell]; rfl
  have c0 : w6.cell? ⟨x, 0, none⟩ = some (.int .i64 2) := by rw [hC6.cell]; rfl
  have c1 : w6.cell? ⟨x, 1, none⟩ = some (.int .i64 0) := by rw [hC6.cell]; rfl
  have c2 : w6.cell? ⟨x, 2, none⟩ = some (.int .i64 1) := by rw [hC6.cell]; rfl
  clear hB5 hal5 hB6 hC6 hx
  go_loopw [5, 6] (fun op i wr => wr = w6 ∧ ((i = .int .i64 0 ∧ op = .bool false) ∨ (i = .int .i64 1 ∧ op = .bool false) ∨ (i = .int .i64 2 ∧ op = .bool true) ∨ (i = .int .i64 3 ∧ op = .bool true))) (fun _ i _ => 3 - (intOf i).toNat)
  case atStart => exact ⟨rfl, .inl ⟨rfl, rfl⟩⟩
  case round =>
    obtain ⟨rfl, hi⟩ := hrel
    rcases hi with ⟨rfl, rfl⟩ | ⟨rfl, rfl⟩ | ⟨rfl, rfl⟩ | ⟨rfl, rfl⟩
    · go_wp2_with fail
      go_roundw
      case rel => exact ⟨by trivial, .inr (.inl ⟨rfl, rfl⟩)⟩
      case measure => simp [intOf]
    · go_wp2_with fail
      go_roundw
      case rel => exact ⟨by trivial, .inr (.inr (.inl ⟨rfl, rfl⟩))⟩
      case measure => simp [intOf]
    · go_wp2_with fail
      go_roundw
      case rel => exact ⟨by trivial, .inr (.inr (.inr (⟨rfl, rfl⟩)))⟩
      case measure => simp [intOf]
    · go_wp2_with fail
      go_ret
      exact ⟨rfl, hal6⟩
end Go.Proofs.YtpfjbcfnpfgidaaDoor
