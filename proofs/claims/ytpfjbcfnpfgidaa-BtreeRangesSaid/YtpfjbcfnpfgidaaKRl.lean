/- Rl -/
import Derived.Test.YtpfjbcfnpfgidaaKRi
import Derived.ChangeMaps5
import Derived.Lib.SmallJoins
import Derived.OpenShut
namespace Go.Proofs.Ytpfjbcfnpfgidaa
open Go.RowKit Go.Maps Go.ChangeShapes Go.WideShapes
set_option maxRecDepth 100000
set_option linter.unusedVariables false
theorem takeWhile_all {α : Type} : ∀ l : List α, l.takeWhile (fun _ => true) = l
 | [] => rfl
 | a :: l => by rw [List.takeWhile_cons, if_pos rfl, takeWhile_all l]
theorem lg_free : (Lg.new 1199).free = 1 :: List.range' 2 1197 := new5_free
/-- The tree of one empty leaf, and an empty map. -/
theorem Bo.start {w0 w : World} {r p c : Nat} (h : Pb w0 w NoX5 r p 1199 0 c (Lg.new 1199) (some (leafLg (Lg.new 1199) 1 (List.range' 2 1197)))) :
 Bo w0 (w.alloc (.cells #[.slice none 0 0, .slice none 0 0] 31)) (fun k => NoX5 k ∨ (w.heap.size ≤ k ∧ k < (w.alloc (.cells #[.slice none 0 0, .slice none 0 0] 31)).heap.size)) r p 1199 0 c (Lg.new 1199) (leafLg (Lg.new 1199) 1 (List.range' 2 1197)) (BT.leaf 1 []) 1198 (w.alloc (.cells #[.slice none 0 0, .slice none 0 0] 31)).heap.size w.heap.size (.slice none 0 0) (.slice none 0 0) := by
 have hs := (Side.nil (N := 1199) (by omega)).new lg_free
 have hsz : (w.alloc (.cells #[.slice none 0 0, .slice none 0 0] 31)).heap.size = w.heap.size + 1 := by simp
 refine ⟨h.take ((Below.refl _ w).alloc (Nat.le_refl _) _), hs.at (List.mem_append_right _ (List.mem_singleton.2 rfl)), ?_, ⟨fun y hy => ?_, fun q hq => ?_, ?_, Nat.le_refl _, Moved.refl _ _, fun q hq z hz => ?_⟩, fun q hq => ?_, fun k hk => ?_⟩
 ·have := hs.all
  simpa [BT.Some'.pages] using this
 ·simp only [List.mem_cons, List.not_mem_nil, or_false] at hy
  subst hy
  exact ⟨Blk.new w _ _, by omega⟩
 ·simp only [List.mem_cons, List.not_mem_nil, or_false] at hq
  rcases hq with rfl | rfl <;> exact World.ownsRow_nil _ _ _ _
 ·simp [Value.ownBlock]
 ·simp only [List.mem_cons, List.not_mem_nil, or_false] at hq
  rcases hq with rfl | rfl <;> cases hz
 ·rcases hq with rfl | e | e
  ·exact .inr ⟨Nat.le_refl _, by omega⟩
  ·cases e
  ·cases e
 ·rcases hk with e | e
  ·exact e.elim
  ·exact Nat.le_trans h.below.size e.1
end Go.Proofs.Ytpfjbcfnpfgidaa
