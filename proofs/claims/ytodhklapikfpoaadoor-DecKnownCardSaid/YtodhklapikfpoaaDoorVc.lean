/- Div64, where the quotient is below a million: the walk. -/
import Derived.Test.YtodhklapikfpoaaDoorVb
import Derived.WalkKit
import Derived.WalkSpells
import Derived.RegionTactic
import Derived.WalkLawsBesides
import Derived.IntWalk
import Derived.Below
import Derived.Deep.CutBlock
import Derived.Deep.DeepCutAuto
import Derived.Deep.QuietTactic
import Derived.Laws.Bits64
import Derived.Laws.BitsLemmas
import Derived.Laws.BitsAllLaws
namespace Go.Proofs.YtodhklapikfpoaaDoor
open Go.RowKit
set_option maxRecDepth 100000
set_option linter.unusedVariables false
set_option linter.unusedSimpArgs false

set_option maxHeartbeats 2000000 in
theorem div64_some (hi lo y s Y un32 y1 y0 V u1 u0 U K q0 P r0 Q : Nat) (w : World) (hhi : 1 ≤ hi) (hhy : hi < y) (hlo : lo ≤ 18446744073709551615) (hyB : y ≤ 9223372036854775807)
    (hs : 64 - (Lib.bitLen y : Int) = (s : Int)) (hs1 : 1 ≤ s) (hs2 : s ≤ 63)
    (e1 : IntKind.u64.wrap ((y : Int) * 2 ^ s) = (Y : Int)) (e2 : (Y : Int) / 4294967296 = (y1 : Int)) (e3 : bits .and .u64 (Y : Int) 4294967295 = (y0 : Int))
    (e4 : bits .or .u64 (IntKind.u64.wrap ((hi : Int) * 2 ^ s)) ((lo : Int) / 2 ^ (64 - s)) = (un32 : Int))
    (e5 : IntKind.u64.wrap ((lo : Int) * 2 ^ s) = (V : Int)) (e6 : (V : Int) / 4294967296 = (u1 : Int)) (e7 : bits .and .u64 (V : Int) 4294967295 = (u0 : Int))
    (hy1 : 1 ≤ y1) (hy1b : y1 ≤ 4294967295) (hy0 : y0 ≤ 4294967295) (hu1 : u1 ≤ 4294967295) (hu0 : u0 ≤ 4294967295) (hun : un32 ≤ 1000000)
    (e8 : (un32 : Int) / (y1 : Int) = 0) (e9b : 4294967296 * (un32 : Int) = (K : Int)) (e9a : (un32 : Int) * 4294967296 = (K : Int)) (e9c : (K : Int) + (u1 : Int) = (U : Int)) (e10 : (U : Int) / (y1 : Int) = (q0 : Int)) (e11 : (q0 : Int) * (y1 : Int) = (P : Int)) (e12 : (U : Int) - (P : Int) = (r0 : Int))
    (hq0 : q0 ≤ 4000000) (hr0 : r0 ≤ 4294967295) (hP : P ≤ U) (hU : U ≤ 9223372036854775807)
    (hX : Hid (U = q0 * y1 + r0 ∧ U * 4294967296 + u0 < (q0 + 1) * (y1 * 4294967296 + y0) ∧ Q = (U * 4294967296 + u0) / (y1 * 4294967296 + y0))) :
    Calls Tryd.prog 28 #[.int .u64 (hi : Int), .int .u64 (lo : Int), .int .u64 (y : Int)] w fun e w' => (∃ r, e = .returned (.tuple #[.int .u64 (Q : Int), .int .u64 r])) ∧ w = w' := by
  have HS := Lib.hid hs
  have hh0 : ¬ (hi : Int) = 0 := by omega
  have hyn : ¬ (y : Int) = 0 := by omega
  have hy1n : ¬ (y1 : Int) = 0 := by omega
  have hle : ¬ (y : Int) ≤ (hi : Int) := by omega
  clear hs
  go_enter Tryd.func28, Tryd.ntmps28
  go_wp2_with fail
  (with_reducible refine (lz64_any (y : Int) _ (by omega) (by omega)).mono ?_)
  rintro e w' ⟨rfl, rfl⟩
  rw [Int.toNat_natCast, HS.out]
  go_wp2_with fail
  have t1 : ¬ (U : Int) < 0 := by omega
  go_loop [15, 16] (fun q r => q = .int .u64 0 ∧ r = .int .u64 (un32 : Int)) (fun _ _ => 0)
  case atStart => exact ⟨rfl, rfl⟩
  case round =>
    obtain ⟨rfl, rfl⟩ := hrel
    go_wp2_with fail
    go_loop [18, 16] (fun q r => ∃ A R : Nat, q = .int .u64 (A : Int) ∧ r = .int .u64 (R : Int) ∧ A ≤ 4000000 ∧ R ≤ 4294967295 ∧ U = A * y1 + R ∧ U * 4294967296 + u0 < (A + 1) * (y1 * 4294967296 + y0)) (fun q _ => (intOf q).toNat)
    case atStart => exact ⟨q0, r0, rfl, rfl, hq0, hr0, hX.out.1, hX.out.2.1⟩
    case round =>
      obtain ⟨A, R, rfl, rfl, hA, hR, hE, hL⟩ := hrel
      rename w' = w' => hwx
      clear hwx
      clear e2 e3 e4 e5 e6 e7 e8 e9a e9b e9c e10 e11 e12 hq0 hr0 hP t1 hhi hhy hh0 hyn hle hun hy1n
      clear hlo hyB
      have HE := Lib.hid hE
      have HL := Lib.hid hL
      clear hE hL
      obtain ⟨T, hT⟩ : ∃ T, T = A * y0 := ⟨_, rfl⟩
      have f1 : (A : Int) * (y0 : Int) = (T : Int) := by rw [hT]; exact (Int.natCast_mul A y0).symm
      have hTb : T ≤ 17179869180000000 := by rw [hT]; exact Nat.le_trans (Nat.mul_le_mul hA hy0) (by decide)
      obtain ⟨RR, hRR⟩ : ∃ x, x = 4294967296 * R := ⟨_, rfl⟩
      have f2 : 4294967296 * (R : Int) = (RR : Int) := by omega
      obtain ⟨S, hS⟩ : ∃ x, x = RR + u0 := ⟨_, rfl⟩
      have f3 : (RR : Int) + (u0 : Int) = (S : Int) := by omega
      have hSb : S ≤ 18446744073709551615 := by omega
      have hRb : RR ≤ 18446744073709551615 := by omega
      have gT : (T : Int) ≤ 17179869180000000 := by omega
      have gS : (S : Int) ≤ 18446744073709551615 := by omega
      have gR : (RR : Int) ≤ 18446744073709551615 := by omega
      clear hTb hSb hRb
      have HT := Lib.hid hT
      have HRR := Lib.hid (And.intro hRR hS)
      clear hT hRR hS
      have hAi : ¬ (4294967296 : Int) ≤ (A : Int) := by omega
      by_cases ht : S < T
      · have hti : (S : Int) < (T : Int) := by omega
        obtain ⟨k1, k2, k3⟩ := kn_step (b := 4294967296) (l := u0) (y0 := y0) HE.out (by rw [← HRR.out.1, ← HRR.out.2, ← HT.out]; exact ht)
        obtain ⟨A2, hA2⟩ : ∃ x, x = A - 1 := ⟨_, rfl⟩
        obtain ⟨R2, hR2⟩ : ∃ x, x = R + y1 := ⟨_, rfl⟩
        rw [← hA2] at k2 k3
        rw [← hR2] at k2
        have f4 : (A : Int) - 1 = (A2 : Int) := by omega
        have f5 : (R : Int) + (y1 : Int) = (R2 : Int) := by omega
        have hR2b : R2 ≤ 8589934592 := by omega
        have hA2b : A2 < A := by omega
        have HK := Lib.hid (And.intro k2 k3)
        clear k1 k2 k3 hA2 hR2
        by_cases hb : R2 ≤ 4294967295
        · have hbi : ¬ 4294967296 ≤ (R2 : Int) := by omega
          go_wp2_with fail
          go_round
          case rel => exact ⟨A2, R2, rfl, rfl, by omega, hb, HK.out.1, HK.out.2⟩
          case measure => simp [intOf]; omega
        · have hbi : 4294967296 ≤ (R2 : Int) := by omega
          have HQ := Lib.hid (show Q = A2 by
            rw [hX.out.2.2]
            refine kn_end HK.out.1 HK.out.2 ?_
            have := Nat.mul_le_mul (show A2 ≤ 4294967296 by omega) hy0
            omega)
          go_wp2_with fail
          go_ret2
          exact ⟨⟨_, by rw [HQ.out]; rfl⟩, rfl⟩
      · have hti : ¬ (S : Int) < (T : Int) := by omega
        have HQ := Lib.hid (show Q = A by
          rw [hX.out.2.2]
          refine kn_end HE.out HL.out ?_
          rw [← HRR.out.1, ← HRR.out.2, ← HT.out]
          exact ht)
        go_wp2_with fail
        go_ret2
        exact ⟨⟨_, by rw [HQ.out]; rfl⟩, rfl⟩
end Go.Proofs.YtodhklapikfpoaaDoor
