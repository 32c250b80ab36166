/- triadlaw13: known, within, Good, Word. -/
import Derived.Test.YtdlfoinpjbcodaaDoorSn
import Derived.OpenShut
namespace Go.Proofs.YtdlfoinpjbcodaaDoor
open Go.RowKit Go.Shelf Flo
set_option maxRecDepth 100000
set_option linter.unusedVariables false
set_option linter.unusedSimpArgs false

theorem equal_dec (m s m2 s2 : Int) (w : World) : (Op.equalIn 10000 43 (.agg #[.int .i64 m, .int .i64 s]) (.agg #[.int .i64 m2, .int .i64 s2])).run Tryd.prog w = .ok (m == m2 && s == s2) w := by
  cases h1 : m == m2 <;> cases h2 : s == s2
  all_goals go_simp

/-- a decimal of raw numbers. -/
def goodP (m s : Int) : Int × Nat := nrm (m.tmod 1000000000000000) (s % 7).toNat
theorem nrm_good : ∀ (k : Nat) (n : Int), n.natAbs ≤ 999999999999999 → k ≤ 6 → GoodD (nrm n k).1 ((nrm n k).2 : Int)
  | 0, n, h, hk => ⟨by show _ ≤ n; omega, by show n ≤ _; omega, by show (0 : Int) ≤ ((0 : Nat) : Int); decide, by show ((0 : Nat) : Int) ≤ 6; decide, .inl rfl⟩
  | k + 1, n, h, hk => by
    by_cases hd : n % 10 = 0
    · rw [nrm_go (k + 1) (by omega) hd]
      exact nrm_good k (n / 10) (by omega) (by omega)
    · rw [nrm_stay _ _ hd]
      exact ⟨by omega, by omega, by omega, by omega, .inr hd⟩
theorem good_good (m s : Int) : GoodD (goodP m s).1 ((goodP m s).2 : Int) := by
  refine nrm_good _ _ ?_ (by omega)
  have h1 := Int.natAbs_tmod m 1000000000000000
  have h2 := Nat.mod_lt m.natAbs (show 0 < (1000000000000000 : Int).natAbs by decide)
  omega

theorem piece_at (w : World) (k : Nat) (hk : k < 12) : ∃ Y : ByteArray, (w.alloc (.cells #[.string ⟨#[48]⟩, .string ⟨#[49]⟩, .string ⟨#[53]⟩, .string ⟨#[57]⟩, .string ⟨#[48, 48]⟩, .string ⟨#[46]⟩, .string ⟨#[45]⟩, .string ⟨#[43]⟩, .string ⟨#[49, 50, 51, 52, 53, 54]⟩, .string ⟨#[57, 57, 57]⟩, .string ⟨#[120]⟩, .string ⟨#[]⟩] 9)).cell? ⟨w.heap.size, k, none⟩ = some (.string Y) ∧ Y.size ≤ 6 := by
  have : k = 0 ∨ k = 1 ∨ k = 2 ∨ k = 3 ∨ k = 4 ∨ k = 5 ∨ k = 6 ∨ k = 7 ∨ k = 8 ∨ k = 9 ∨ k = 10 ∨ k = 11 := by omega
  rcases this with rfl | rfl | rfl | rfl | rfl | rfl | rfl | rfl | rfl | rfl | rfl | rfl
  all_goals
    refine ⟨_, by simp; rfl, ?_⟩
    decide

end Go.Proofs.YtdlfoinpjbcodaaDoor
