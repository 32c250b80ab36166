/- triadref13: ten. -/
import Derived.Test.YtodhklapikfpoaaDoorProg
import Derived.Test.YtodhklapikfpoaaDoorFc
import Derived.WalkKit
import Derived.WalkSpells
import Derived.Deep.QuietTactic
import Derived.RegionTactic
import Derived.WalkLawsBesides
import Derived.IntWalk
import Derived.Below
import Derived.Lib.Hide
namespace Go.Proofs.YtodhklapikfpoaaDoor
open Go.RowKit
set_option maxRecDepth 100000
set_option linter.unusedVariables false
set_option linter.unusedSimpArgs false

/-- how often, and what is left, plainly. -/
theorem ten_end {r n D L : Nat} (hL : L < n) (h : D * n + L = 10 * r) : D = 10 * r / n ∧ L = 10 * r % n := by
  rw [← h, Nat.mul_comm D n]
  have h0 : 0 < n := by omega
  constructor
  · rw [Nat.mul_add_div h0, Nat.div_eq_of_lt hL, Nat.add_zero]
  · rw [Nat.mul_add_mod, Nat.mod_eq_of_lt hL]

theorem ten_any (r n D0 L0 : Nat) (w : World) (hD0 : D0 = 10 * r / n) (hL0 : L0 = 10 * r % n) (hr : r < n) (hn : n ≤ 9223372036854775807) : Calls Tryd.prog 32 #[.int .i64 (r : Int), .int .i64 (n : Int)] w fun e w' =>
    e = .returned (.tuple #[.int .i64 (D0 : Int), .int .i64 (L0 : Int)]) ∧ w = w' := by
  obtain ⟨k, hk⟩ : ∃ k, k = n - r := ⟨_, rfl⟩
  have e1 : (n : Int) - (r : Int) = (k : Int) := by omega
  have HK := Lib.hid hk
  have H0 := Lib.hid (And.intro hD0 hL0)
  clear hk hD0 hL0
  go_enter Tryd.func32, Tryd.ntmps32
  go_wp2_with fail
  go_loop [6, 7, 8] (fun d l i => ∃ D L I : Nat, d = .int .i64 (D : Int) ∧ l = .int .i64 (L : Int) ∧ i = .int .i64 (I : Int) ∧ I ≤ 10 ∧ D ≤ I ∧ L < n ∧ D * n + L = I * r) (fun _ _ i => 10 - (intOf i).toNat)
  case atStart => exact ⟨0, 0, 0, rfl, rfl, rfl, by omega, by omega, by omega, by omega⟩
  case round =>
    obtain ⟨D, L, I, rfl, rfl, rfl, hI, hD, hL, hE⟩ := hrel
    have HE := Lib.hid hE
    clear hE
    by_cases hlt : I < 10
    · have hlti : (I : Int) < 10 := by omega
      by_cases hg : k ≤ L
      · have hgi : (k : Int) ≤ (L : Int) := by omega
        obtain ⟨L2, hL2⟩ : ∃ x, x = L - k := ⟨_, rfl⟩
        have e2 : (L : Int) - (k : Int) = (L2 : Int) := by omega
        have HL2 := Lib.hid hL2
        clear hL2
        go_wp2_with fail
        go_round
        case rel =>
          refine ⟨D + 1, L2, I + 1, by go_num, rfl, by go_num, by omega, by omega, ?_, ?_⟩
          · have := HL2.out; have := HK.out; omega
          · have := HL2.out; have := HK.out; have := HE.out
            rw [Nat.add_mul, Nat.add_mul]; omega
        case measure => simp [intOf]; omega
      · have hgi : ¬ (k : Int) ≤ (L : Int) := by omega
        obtain ⟨L2, hL2⟩ : ∃ x, x = L + r := ⟨_, rfl⟩
        have e2 : (L : Int) + (r : Int) = (L2 : Int) := by omega
        have hb : (L2 : Int) ≤ 9223372036854775807 := by have := HK.out; omega
        have HL2 := Lib.hid hL2
        clear hL2
        go_wp2_with fail
        go_round
        case rel =>
          refine ⟨D, L2, I + 1, rfl, rfl, by go_num, by omega, by omega, ?_, ?_⟩
          · have := HL2.out; have := HK.out; omega
          · have := HL2.out; have := HK.out; have := HE.out
            rw [Nat.add_mul]; omega
        case measure => simp [intOf]; omega
    · have hlti : ¬ (I : Int) < 10 := by omega
      have HQ := Lib.hid (ten_end hL (show D * n + L = 10 * r by rw [HE.out]; congr 1; omega))
      go_wp2_with fail
      go_ret2
      exact ⟨by rw [H0.out.1, H0.out.2, ← HQ.out.1, ← HQ.out.2]; rfl, rfl⟩
end Go.Proofs.YtodhklapikfpoaaDoor
