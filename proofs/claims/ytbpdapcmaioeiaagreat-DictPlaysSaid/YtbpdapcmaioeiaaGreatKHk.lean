/- Hk -/
import Derived.Test.YtbpdapcmaioeiaaGreatKGl
import Derived.Laws.Cover1
import Derived.ScopeJumps
namespace Go.Proofs.YtbpdapcmaioeiaaGreat
open Go.RowKit Go.Maps
set_option maxRecDepth 100000
set_option linter.unusedVariables false
/-- New blocks all, writes to one's own: the pager is beside them. -/
theorem Pb.wide {w0 w w' : World} {X P : Nat → Prop} {r p N M c : Nat} {G : Lg} {H : Option Lg} (h : Pb w0 w X r p N M c G H) (hm : Moved P w w') (hP : ∀ k, P k → k < w.heap.size → X k ∧ w0.heap.size ≤ k) :
 Pb w0 w' (fun k => X k ∨ (w.heap.size ≤ k ∧ k < w'.heap.size)) r p N M c G H := by
 obtain ⟨A, K, T, ⟨h1, h2, P', Q, h3, h4, h5, h6⟩, k⟩ := h
 have hs := hm.size
 have h1s := h1.size
 refine ⟨A, K, T, ⟨h1.trans (hm.below (fun k hk => by
  rcases Nat.lt_or_ge k w.heap.size with hlt | hge
  ·exact (hP k hk hlt).2
  ·omega) h1.size), fun k hk => ?_, P', Q, h3.moved hm (fun k hk e => (h5 k hk).2.2 (hP k e (h5 k hk).2.1).1), h4.moved hm (fun k hk e => (h6 k hk).2.2.1 (hP k e (h6 k hk).2.1).1), fun k hk => ?_, fun k hk => ?_⟩, k⟩
 ·rcases hk with e | e
  ·exact Nat.lt_of_lt_of_le (h2 k e) hs
  ·exact e.2
 ·have := h5 k hk
  exact ⟨this.1, by omega, fun e => by rcases e with e | e; exact this.2.2 e; omega⟩
 ·have := h6 k hk
  exact ⟨this.1, by omega, fun e => by rcases e with e | e; exact this.2.2.1 e; omega, this.2.2.2⟩
end Go.Proofs.YtbpdapcmaioeiaaGreat
namespace Go.Proofs.YtbpdapcmaioeiaaGreat
open Go.RowKit Go.Maps
set_option maxRecDepth 100000
set_option linter.unusedVariables false
end Go.Proofs.YtbpdapcmaioeiaaGreat
