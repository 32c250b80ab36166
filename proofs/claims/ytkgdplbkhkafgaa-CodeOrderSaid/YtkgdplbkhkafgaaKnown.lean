/- What triadlaw1.known and within do. -/
import Derived.Test.YtkgdplbkhkafgaaPuts
namespace Go.Proofs.Ytkgdplbkhkafgaa
open Go.RowKit

theorem le_m2 : le (-2) 8 = [254, 255, 255, 255, 255, 255, 255, 255] := by decide

theorem tx_ab : tx ⟨#[97, 98]⟩ = [2, 0, 97, 98] := by decide

theorem known_any (w : World) : Calls Try.prog 11 #[] w fun e w' => e = .returned (.bool true) ∧ Below w.heap.size w w' := by
  go_enter Try.func11, Try.ntmps11
  go_wp2_with fail
  refine (int_any _ [] _ (by simp) _ (Bs.nil _)).mono ?_
  rintro e w1 ⟨v1, rfl, ho1, hb1⟩
  have hs1 := hb1.size
  obtain ⟨g, cap, rfl, h1, h2, h3, h4, h5⟩ := ho1.at (by simp [le_length])
  have ho := ho1.bs
  clear ho1 ho
  simp only [List.nil_append, le_m2] at h5 h1 ⊢
  have c0 : w1.cell? ⟨g, 0, none⟩ = some (.int .u8 254) := h5 0 (by simp)
  have c7 : w1.cell? ⟨g, 7, none⟩ = some (.int .u8 255) := h5 7 (by simp)
  clear h5
  go_wp2_with fail
  refine (text_any _ [] _ (by simp) _ (Bs.nil _)).mono ?_
  rintro e w2 ⟨v2, rfl, ho2, hb2⟩
  obtain ⟨g2, cap2, rfl, -⟩ := ho2.at (by simp [tx_ab])
  clear ho2 c0 c7 h1 h2 h3 h4
  simp only [List.nil_append, tx_ab]
  go_wp2
  go_ret
  exact ⟨rfl, hb1.trans (hb2.mono hs1)⟩
end Go.Proofs.Ytkgdplbkhkafgaa
