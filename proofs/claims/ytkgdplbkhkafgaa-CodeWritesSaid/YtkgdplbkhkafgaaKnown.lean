/- What triadlaw1.known and within do. -/
import Derived.Test.YtkgdplbkhkafgaaPuts
namespace Go.Proofs.Ytkgdplbkhkafgaa
open Go.RowKit

theorem le_m2 : le (-2) 8 = [254, 255, 255, 255, 255, 255, 255, 255] := by decide

theorem tx_ab : tx ⟨#[97, 98]⟩ = [2, 0, 97, 98] := by decide

theorem known_any (w : World) : Calls Try.prog 11 #[] w fun e w' => e = .returned (.bool true) ∧ Below w.heap.size w w' := by
  go_enter Try.func11, Try.ntmps11
  go_wp2_with fail
  refine (int_any _ [] _ (by simp) _ (Bs.nil _)).mono ?_
  rintro e w1 ⟨v1, rfl, ho1, hb1⟩
  have hs1 := hb1.size
  obtain ⟨g, cap, rfl, h1, h2, h3, h4, h5⟩ := ho1.at (by simp [le_length])
  have ho := ho1.bs
  clear ho1 ho
  simp only [List.nil_append, le_m2] at h5 h1 ⊢
  have c0 : w1.cell? ⟨g, 0, none⟩ = some (.int .u8 254) := h5 0 (by simp)
  have c7 : w1.cell? ⟨g, 7, none⟩ = some (.int .u8 255) := h5 7 (by simp)
  clear h5
  go_wp2_with fail
  refine (text_any _ [] _ (by simp) _ (Bs.nil _)).mono ?_
  rintro e w2 ⟨v2, rfl, ho2, hb2⟩
  obtain ⟨g2, cap2, rfl, -⟩ := ho2.at (by simp [tx_ab])
  clear ho2 c0 c7 h1 h2 h3 h4
  simp only [List.nil_append, tx_ab]
  go_wp2
  go_ret
  exact ⟨rfl, hb1.trans (hb2.mono hs1)⟩

theorem ret_int {k : IntKind} {a b : Int} (h : a = b) : Ending.returned (.int k a) = .returned (.int k b) := by rw [h]

theorem within_any (x n : Int) (hn : 0 < n) (hn' : n ≤ 1000000) (hx : (Lit.int .i64 x).wf = true) (w : World) :
    Calls Try.prog 20 #[.int .i64 x, .int .i64 n] w fun e w' => e = .returned (.int .i64 (x % n)) ∧ w = w' := by
  have hr : -9223372036854775808 ≤ x ∧ x ≤ 9223372036854775807 := by
    simpa [Lit.wf, IntKind.min, IntKind.max, IntKind.signed, IntKind.bits] using hx
  have hne : (n == 0) = false := beq_eq_false_iff_ne.2 (by omega)
  have h2 := Int.emod_nonneg x (show n ≠ 0 by omega)
  have h3 := Int.emod_lt_of_pos x hn
  have hT : x.tmod n = x % n ∨ x.tmod n = x % n - n := by
    rw [Int.tmod_eq_emod]
    split <;> omega
  have HT := Lib.hid hT
  clear hT
  by_cases h0 : 0 ≤ x
  · go_enter Try.func20, Try.ntmps20
    go_wp2
    go_ret
    exact ⟨rfl, rfl⟩
  · go_enter Try.func20, Try.ntmps20
    go_wp2
    all_goals
      go_ret
      have hT := HT.out
      exact ⟨ret_int (by first | omega | (simp only [wrap64]; omega)), rfl⟩
end Go.Proofs.Ytkgdplbkhkafgaa
