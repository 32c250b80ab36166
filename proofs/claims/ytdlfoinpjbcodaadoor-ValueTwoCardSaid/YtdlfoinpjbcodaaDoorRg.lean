/- triadref13: above, whole, Neg. -/
import Derived.Test.YtdlfoinpjbcodaaDoorRf
namespace Go.Proofs.YtdlfoinpjbcodaaDoor
open Go.RowKit Go.Shelf Flo
set_option maxRecDepth 100000
set_option linter.unusedVariables false
set_option linter.unusedSimpArgs false

theorem equal_wid (m s m2 s2 : Int) (w : World) : (Op.equalIn 10000 58 (.agg #[.int .i64 m, .int .i64 s]) (.agg #[.int .i64 m2, .int .i64 s2])).run Tryd.prog w = .ok (m == m2 && s == s2) w := by
  cases h1 : m == m2 <;> cases h2 : s == s2
  all_goals go_simp

theorem above_any (w : World) (A B : Nat) : Calls Tryd.prog 34 #[wid A, wid B] w fun e w' => e = .returned (.int .i64 (cmpI (A : Int) (B : Int))) ∧ Below w.heap.size w w' := by
  obtain ⟨R, hR⟩ : ∃ R, R = cmpI (A : Int) (B : Int) := ⟨_, rfl⟩
  rw [← hR]
  have hc : (A < B ∧ R = -1) ∨ (A = B ∧ R = 0) ∨ (B < A ∧ R = 1) := by
    rw [hR]; unfold cmpI
    rcases Nat.lt_trichotomy A B with h | h | h
    · exact .inl ⟨h, if_pos (by omega)⟩
    · exact .inr (.inl ⟨h, by rw [if_neg (by omega), if_neg (by omega)]⟩)
    · exact .inr (.inr ⟨h, by rw [if_neg (by omega), if_pos (by omega)]⟩)
  obtain ⟨a1, ha1⟩ : ∃ a, a = ((A / 1000000000 : Nat) : Int) := ⟨_, rfl⟩
  obtain ⟨a0, ha0⟩ : ∃ a, a = ((A % 1000000000 : Nat) : Int) := ⟨_, rfl⟩
  obtain ⟨b1, hb1⟩ : ∃ a, a = ((B / 1000000000 : Nat) : Int) := ⟨_, rfl⟩
  obtain ⟨b0, hb0⟩ : ∃ a, a = ((B % 1000000000 : Nat) : Int) := ⟨_, rfl⟩
  have h1 : (a1 < b1 ∧ R = -1) ∨ (a1 = b1 ∧ a0 < b0 ∧ R = -1) ∨ (a1 = b1 ∧ a0 = b0 ∧ R = 0) ∨ (b1 < a1 ∧ R = 1) ∨ (a1 = b1 ∧ b0 < a0 ∧ R = 1) := by omega
  unfold wid
  rw [← ha1, ← ha0, ← hb1, ← hb0]
  have hE := fun w => equal_wid a1 a0 b1 b0 w
  clear ha1 ha0 hb1 hb0 hc hR
  have HB := Lib.hid (boxes2 w a1 a0 b1 b0 58 58)
  rcases h1 with ⟨h, rfl⟩ | ⟨h, h', rfl⟩ | ⟨rfl, rfl, rfl⟩ | ⟨h, rfl⟩ | ⟨h, h', rfl⟩
  · go_enter Tryd.func34, Tryd.ntmps34
    go_wp2
    go_ret
    exact ⟨rfl, HB.out.2.2⟩
  · subst h
    go_enter Tryd.func34, Tryd.ntmps34
    go_wp2
    go_ret
    exact ⟨rfl, HB.out.2.2⟩
  · have g : ¬ a0 < a0 := by omega
    have g2 : ¬ a1 < a1 := by omega
    go_enter Tryd.func34, Tryd.ntmps34
    go_wp2
    go_ret
    exact ⟨rfl, HB.out.2.2⟩
  · have g : ¬ a1 < b1 := by omega
    have g2 : (a1 == b1) = false := by simp; omega
    have g3 : (a1 != b1) = true := by simp; omega
    go_enter Tryd.func34, Tryd.ntmps34
    go_wp2
    go_ret
    exact ⟨rfl, HB.out.2.2⟩
  · subst h
    have g : ¬ a0 < b0 := by omega
    have g0 : ¬ a1 < a1 := by omega
    have g2 : (a0 == b0) = false := by simp; omega
    go_enter Tryd.func34, Tryd.ntmps34
    go_wp2
    go_ret
    exact ⟨rfl, HB.out.2.2⟩

theorem nrm_idem : ∀ (k : Nat) (n : Int), nrm (nrm n k).1 (nrm n k).2 = nrm n k
  | 0, n => rfl
  | k + 1, n => by
    by_cases h : n % 10 = 0
    · rw [nrm_go (k + 1) (by omega) h]
      exact nrm_idem k (n / 10)
    · rw [nrm_stay _ _ h]
      exact nrm_stay _ _ h
theorem nrm_neg : ∀ (k : Nat) (n : Int), nrm (-n) k = (-(nrm n k).1, (nrm n k).2)
  | 0, n => rfl
  | k + 1, n => by
    by_cases h : n % 10 = 0
    · rw [nrm_go (k + 1) (by omega) h, nrm_go (k + 1) (by omega) (show -n % 10 = 0 by omega)]
      rw [show -n / 10 = -(n / 10) by omega]
      exact nrm_neg k (n / 10)
    · rw [nrm_stay _ _ h, nrm_stay _ _ (show ¬ -n % 10 = 0 by omega)]

/-- not too great for a wide number. -/
def Under21 (N : Nat) : Prop := N ≤ 3000000000000000000000

end Go.Proofs.YtdlfoinpjbcodaaDoor
