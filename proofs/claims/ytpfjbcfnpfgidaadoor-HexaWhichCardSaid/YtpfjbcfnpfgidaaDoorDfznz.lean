/- The reference's choice of an order. -/
import Derived.Test.YtpfjbcfnpfgidaaDoorDe
namespace Go.Proofs.YtpfjbcfnpfgidaaDoor
open Go.RowKit
set_option maxRecDepth 100000
set_option linter.unusedVariables false
set_option linter.unusedSimpArgs false
set_option maxHeartbeats 16000000 in
theorem rw_znz (b : Int) (hb : (b == 0) = false) (w : World) :
    Calls Tryd.prog 6 #[tri 0 b 0] w fun e w' => e = .returned (.int .i64 2) ∧ Below w.heap.size w w' := by
  unfold tri
  have hsc := fun w => run_storeCells_new (P := Tryd.prog) w 25 #[.int .i64 0, .int .i64 0, .int .i64 0, .int .i64 0, .int .i64 0, .int .i64 0, .int .i64 0, .int .i64 0, .int .i64 0, .int .i64 0, .int .i64 0, .int .i64 0, .int .i64 0, .int .i64 0, .int .i64 0, .int .i64 0, .int .i64 0, .int .i64 0] #[.int .i64 0, .int .i64 1, .int .i64 2, .int .i64 0, .int .i64 2, .int .i64 1, .int .i64 1, .int .i64 0, .int .i64 2, .int .i64 1, .int .i64 2, .int .i64 0, .int .i64 2, .int .i64 0, .int .i64 1, .int .i64 2, .int .i64 1, .int .i64 0] (by kernel_rfl) rfl (by kernel_rfl)
  dsimp only at hsc
  have hO := Lib.hid (fun w => orders_any w)
  unfold ordV at hO
  have hal : Below w.heap.size w (w.alloc (.cells #[.int .i64 (0), .int .i64 (b), .int .i64 (0)] 22)) := (Below.refl _ w).alloc (Nat.le_refl _) _
  have hB := Blk.new w #[.int .i64 (0), .int .i64 (b), .int .i64 (0)] 22
  go_enter Tryd.func6, Tryd.ntmps6
  go_wp2_with fail
  refine (hO.out _).mono ?_
  rintro en w3 ⟨rfl, hb3⟩
  have hB3 : Blk w3 w.heap.size _ _ := (hb3.block _ hB.lt).trans hB
  have hal3 : Below w.heap.size w w3 := hal.trans (hb3.mono hal.size)
  clear hB hal hb3
  go_wp2_with fail
  clear hsc
  obtain ⟨x, hx⟩ : ∃ x, x = w3.heap.size := ⟨_, rfl⟩
  have hO1 := Blk.new w3 ordV 25
  unfold ordV at hO1
  have hT1 := hB3.alloc (.cells #[.int .i64 0, .int .i64 1, .int .i64 2, .int .i64 0, .int .i64 2, .int .i64 1, .int .i64 1, .int .i64 0, .int .i64 2, .int .i64 1, .int .i64 2, .int .i64 0, .int .i64 2, .int .i64 0, .int .i64 1, .int .i64 2, .int .i64 1, .int .i64 0] 25)
  have hal5 := hal3.alloc hal3.size (.cells #[.int .i64 0, .int .i64 1, .int .i64 2, .int .i64 0, .int .i64 2, .int .i64 1, .int .i64 1, .int .i64 0, .int .i64 2, .int .i64 1, .int .i64 2, .int .i64 0, .int .i64 2, .int .i64 0, .int .i64 1, .int .i64 2, .int .i64 1, .int .i64 0] 25)
  rw [← hx] at hO1 ⊢
  generalize World.alloc w3 _ = w5 at hO1 hT1 hal5 ⊢
  have c0 : w5.cell? ⟨x, 0, none⟩ = some (.int .i64 0) := by rw [hO1.cell]; rfl
  have c1 : w5.cell? ⟨x, 1, none⟩ = some (.int .i64 1) := by rw [hO1.cell]; rfl
  have c2 : w5.cell? ⟨x, 2, none⟩ = some (.int .i64 2) := by rw [hO1.cell]; rfl
  have c3 : w5.cell? ⟨x, 3, none⟩ = some (.int .i64 0) := by rw [hO1.cell]; rfl
  have c4 : w5.cell? ⟨x, 4, none⟩ = some (.int .i64 2) := by rw [hO1.cell]; rfl
  have c5 : w5.cell? ⟨x, 5, none⟩ = some (.int .i64 1) := by rw [hO1.cell]; rfl
  have c6 : w5.cell? ⟨x, 6, none⟩ = some (.int .i64 1) := by rw [hO1.cell]; rfl
  have c7 : w5.cell? ⟨x, 7, none⟩ = some (.int .i64 0) := by rw [hO1.cell]; rfl
  have c8 : w5.cell? ⟨x, 8, none⟩ = some (.int .i64 2) := by rw [hO1.cell]; rfl
  have c9 : w5.cell? ⟨x, 9, none⟩ = some (.int .i64 1) := by rw [hO1.cell]; rfl
  have c10 : w5.cell? ⟨x, 10, none⟩ = some (.int .i64 2) := by rw [hO1.cell]; rfl
  have c11 : w5.cell? ⟨x, 11, none⟩ = some (.int .i64 0) := by rw [hO1.cell]; rfl
  have c12 : w5.cell? ⟨x, 12, none⟩ = some (.int .i64 2) := by rw [hO1.cell]; rfl
  have c13 : w5.cell? ⟨x, 13, none⟩ = some (.int .i64 0) := by rw [hO1.cell]; rfl
  have c14 : w5.cell? ⟨x, 14, none⟩ = some (.int .i64 1) := by rw [hO1.cell]; rfl
  have c15 : w5.cell? ⟨x, 15, none⟩ = some (.int .i64 2) := by rw [hO1.cell]; rfl
  have c16 : w5.cell? ⟨x, 16, none⟩ = some (.int .i64 1) := by rw [hO1.cell]; rfl
  have c17 : w5.cell? ⟨x, 17, none⟩ = some (.int .i64 0) := by rw [hO1.cell]; rfl
  have d0 : w5.cell? ⟨w.heap.size, 0, none⟩ = some (.int .i64 (0)) := by rw [hT1.cell]; rfl
  have d1 : w5.cell? ⟨w.heap.size, 1, none⟩ = some (.int .i64 (b)) := by rw [hT1.cell]; rfl
  have d2 : w5.cell? ⟨w.heap.size, 2, none⟩ = some (.int .i64 (0)) := by rw [hT1.cell]; rfl
  clear hO1 hT1 hB3 hal3 hx hO
  go_loopw [4] (fun k wr => wr = w5 ∧ (k = .int .i64 0 ∨ k = .int .i64 1 ∨ k = .int .i64 2)) (fun k _ => 6 - (intOf k).toNat)
  case atStart => exact ⟨rfl, .inl rfl⟩
  case round =>
    obtain ⟨rfl, hk⟩ := hrel
    rcases hk with rfl | rfl | rfl
    · go_wp2_with fail
      go_loopw [5, 6, 7] (fun op fi i wq => wq = wr ∧ ((i = .int .i64 0 ∧ op = .bool false ∧ fi = .bool true) ∨ (i = .int .i64 1 ∧ op = .bool true ∧ fi = .bool true) ∨ (i = .int .i64 2 ∧ op = .bool true ∧ fi = .bool false) ∨ (i = .int .i64 3 ∧ op = .bool true ∧ fi = .bool false))) (fun _ _ i _ => 3 - (intOf i).toNat)
      case atStart => exact ⟨rfl, .inl ⟨rfl, rfl, rfl⟩⟩
      case round =>
        obtain ⟨rfl, hi⟩ := hrel
        rcases hi with ⟨rfl, rfl, rfl⟩ | ⟨rfl, rfl, rfl⟩ | ⟨rfl, rfl, rfl⟩ | ⟨rfl, rfl, rfl⟩
        · go_wp2_with fail
          go_roundw
          case rel => exact ⟨by trivial, .inr (.inl ⟨rfl, rfl, rfl⟩)⟩
          case measure => simp [intOf]
        · go_wp2_with fail
          go_roundw
          case rel => exact ⟨by trivial, .inr (.inr (.inl ⟨rfl, rfl, rfl⟩))⟩
          case measure => simp [intOf]
        · go_wp2_with fail
          go_roundw
          case rel => exact ⟨by trivial, .inr (.inr (.inr (⟨rfl, rfl, rfl⟩)))⟩
          case measure => simp [intOf]
        · go_wp2_with fail
          go_roundw
          case rel => exact ⟨by trivial, .inr (.inl rfl)⟩
          case measure => simp [intOf]
    · go_wp2_with fail
      go_loopw [5, 6, 7] (fun op fi i wq => wq = wr ∧ ((i = .int .i64 0 ∧ op = .bool false ∧ fi = .bool true) ∨ (i = .int .i64 1 ∧ op = .bool true ∧ fi = .bool true) ∨ (i = .int .i64 2 ∧ op = .bool true ∧ fi = .bool true) ∨ (i = .int .i64 3 ∧ op = .bool true ∧ fi = .bool false))) (fun _ _ i _ => 3 - (intOf i).toNat)
      case atStart => exact ⟨rfl, .inl ⟨rfl, rfl, rfl⟩⟩
      case round =>
        obtain ⟨rfl, hi⟩ := hrel
        rcases hi with ⟨rfl, rfl, rfl⟩ | ⟨rfl, rfl, rfl⟩ | ⟨rfl, rfl, rfl⟩ | ⟨rfl, rfl, rfl⟩
        · go_wp2_with fail
          go_roundw
          case rel => exact ⟨by trivial, .inr (.inl ⟨rfl, rfl, rfl⟩)⟩
          case measure => simp [intOf]
        · go_wp2_with fail
          go_roundw
          case rel => exact ⟨by trivial, .inr (.inr (.inl ⟨rfl, rfl, rfl⟩))⟩
          case measure => simp [intOf]
        · go_wp2_with fail
          go_roundw
          case rel => exact ⟨by trivial, .inr (.inr (.inr (⟨rfl, rfl, rfl⟩)))⟩
          case measure => simp [intOf]
        · go_wp2_with fail
          go_roundw
          case rel => exact ⟨by trivial, .inr (.inr (rfl))⟩
          case measure => simp [intOf]
    · go_wp2_with fail
      go_loopw [5, 6, 7] (fun op fi i wq => wq = wr ∧ ((i = .int .i64 0 ∧ op = .bool false ∧ fi = .bool true) ∨ (i = .int .i64 1 ∧ op = .bool false ∧ fi = .bool true) ∨ (i = .int .i64 2 ∧ op = .bool true ∧ fi = .bool true) ∨ (i = .int .i64 3 ∧ op = .bool true ∧ fi = .bool true))) (fun _ _ i _ => 3 - (intOf i).toNat)
      case atStart => exact ⟨rfl, .inl ⟨rfl, rfl, rfl⟩⟩
      case round =>
        obtain ⟨rfl, hi⟩ := hrel
        rcases hi with ⟨rfl, rfl, rfl⟩ | ⟨rfl, rfl, rfl⟩ | ⟨rfl, rfl, rfl⟩ | ⟨rfl, rfl, rfl⟩
        · go_wp2_with fail
          go_roundw
          case rel => exact ⟨by trivial, .inr (.inl ⟨rfl, rfl, rfl⟩)⟩
          case measure => simp [intOf]
        · go_wp2_with fail
          go_roundw
          case rel => exact ⟨by trivial, .inr (.inr (.inl ⟨rfl, rfl, rfl⟩))⟩
          case measure => simp [intOf]
        · go_wp2_with fail
          go_roundw
          case rel => exact ⟨by trivial, .inr (.inr (.inr (⟨rfl, rfl, rfl⟩)))⟩
          case measure => simp [intOf]
        · go_wp2_with fail
          go_ret
          exact ⟨rfl, hal5⟩
end Go.Proofs.YtpfjbcfnpfgidaaDoor
