/- Three numbers: how many are given, how they stand in an order. -/
import Derived.Test.YtpfjbcfnpfgidaaDoorGr
namespace Go.Proofs.YtpfjbcfnpfgidaaDoor
open Go.RowKit
set_option maxRecDepth 100000
set_option linter.unusedVariables false
def tri (a b c : Int) : Value := .agg #[.int .i64 a, .int .i64 b, .int .i64 c]
def nzN (x : Int) : Nat := if x = 0 then 0 else 1
def cnt (a b c : Int) : Nat → Nat
  | 0 => 0
  | 1 => nzN a
  | 2 => nzN a + nzN b
  | _ => nzN a + nzN b + nzN c
set_option maxHeartbeats 4000000 in
theorem given_any (a b c : Int) (w : World) :
    Calls Tryd.prog 14 #[tri a b c] w fun e w' => e = .returned (.int .i64 (cnt a b c 3 : Nat)) ∧ Below w.heap.size w w' := by
  unfold tri
  have hb : Below w.heap.size w (w.alloc (.cells #[.int .i64 a, .int .i64 b, .int .i64 c] 22)) := (Below.refl _ w).alloc (Nat.le_refl _) _
  go_enter Tryd.func14, Tryd.ntmps14
  go_wp2_with fail
  generalize World.alloc w _ = w1 at hb ⊢
  go_loopw [3, 7] (fun m i wr => wr = w1 ∧ ((i = .int .i64 0 ∧ m = .int .i64 (cnt a b c 0 : Nat)) ∨ (i = .int .i64 1 ∧ m = .int .i64 (cnt a b c 1 : Nat)) ∨ (i = .int .i64 2 ∧ m = .int .i64 (cnt a b c 2 : Nat)) ∨ (i = .int .i64 3 ∧ m = .int .i64 (cnt a b c 3 : Nat)))) (fun _ i _ => 3 - (intOf i).toNat)
  case atStart => exact ⟨rfl, .inl ⟨rfl, rfl⟩⟩
  case round =>
    obtain ⟨rfl, hi⟩ := hrel
    have i0 : ∀ x y z : Int, ∀ w, (Instr.index 22 (.agg #[.int .i64 x, .int .i64 y, .int .i64 z]) (.int .i64 0)).run Tryd.prog w = .ok (.int .i64 x) w := fun _ _ _ _ => by kernel_rfl
    have i1 : ∀ x y z : Int, ∀ w, (Instr.index 22 (.agg #[.int .i64 x, .int .i64 y, .int .i64 z]) (.int .i64 1)).run Tryd.prog w = .ok (.int .i64 y) w := fun _ _ _ _ => by kernel_rfl
    have i2 : ∀ x y z : Int, ∀ w, (Instr.index 22 (.agg #[.int .i64 x, .int .i64 y, .int .i64 z]) (.int .i64 2)).run Tryd.prog w = .ok (.int .i64 z) w := fun _ _ _ _ => by kernel_rfl
    rcases hi with ⟨rfl, rfl⟩ | ⟨rfl, rfl⟩ | ⟨rfl, rfl⟩ | ⟨rfl, rfl⟩
    · by_cases h0 : a = 0
      · subst h0
        go_wp2_with fail
        go_roundw
        case rel => exact ⟨by trivial, .inr (.inl ⟨rfl, rfl⟩)⟩
        case measure => simp [intOf]
      · have h0' : (a == 0) = false := by simpa using h0
        obtain ⟨m, hm⟩ : ∃ m : Nat, m = cnt a b c 0 := ⟨_, rfl⟩
        have hm1 : m ≤ 0 := by rw [hm]; exact Nat.le_refl _
        rw [← hm]
        go_wp2_with fail
        go_roundw
        case rel => exact ⟨by trivial, .inr (.inl ⟨rfl, by simp [cnt, nzN, h0]⟩)⟩
        case measure => simp [intOf]
    · by_cases h0 : b = 0
      · subst h0
        go_wp2_with fail
        go_roundw
        case rel => exact ⟨by trivial, .inr (.inr (.inl ⟨rfl, by simp [cnt, nzN]⟩))⟩
        case measure => simp [intOf]
      · have h0' : (b == 0) = false := by simpa using h0
        have hle : nzN a ≤ 1 := by unfold nzN; split <;> omega
        obtain ⟨m, hm⟩ : ∃ m : Nat, m = cnt a b c 1 := ⟨_, rfl⟩
        have hm1 : m ≤ 1 := by rw [hm]; exact hle
        rw [← hm]
        go_wp2_with fail
        go_roundw
        case rel => exact ⟨by trivial, .inr (.inr (.inl ⟨rfl, by simp [cnt, nzN, h0]⟩))⟩
        case measure => simp [intOf]
    · have hle : nzN a + nzN b ≤ 2 := by unfold nzN; split <;> split <;> omega
      obtain ⟨m, hm⟩ : ∃ m : Nat, m = cnt a b c 2 := ⟨_, rfl⟩
      have hm1 : m ≤ 2 := by rw [hm]; exact hle
      rw [← hm]
      by_cases h0 : c = 0
      · subst h0
        go_wp2_with fail
        go_roundw
        case rel => exact ⟨by trivial, .inr (.inr (.inr ⟨rfl, by rw [hm]; simp [cnt, nzN]⟩))⟩
        case measure => simp [intOf]
      · have h0' : (c == 0) = false := by simpa using h0
        go_wp2_with fail
        go_roundw
        case rel => exact ⟨by trivial, .inr (.inr (.inr ⟨rfl, by simp [cnt, nzN, h0]⟩))⟩
        case measure => simp [intOf]
    · go_wp2_with fail
      go_ret
      exact ⟨rfl, hb⟩

end Go.Proofs.YtpfjbcfnpfgidaaDoor
