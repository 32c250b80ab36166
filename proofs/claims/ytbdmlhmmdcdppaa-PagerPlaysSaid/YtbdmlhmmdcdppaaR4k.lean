/- Both pagers beside blocks of the caller's. -/
import Derived.Test.YtbdmlhmmdcdppaaR4j
namespace Go.Proofs.Ytbdmlhmmdcdppaa
open Go.RowKit Go.Maps
set_option maxRecDepth 100000

/-- As Pr; K: blocks that neither touches. -/
def PrK (w0 w : World) (K : Nat → Prop) (x r p N c : Nat) (S : PS) (T : Option PS) (G : Lg) (H : Option Lg) : Prop :=
  ∃ Q, (∀ k, K k → ¬ Q k ∧ w0.heap.size ≤ k ∧ k < w.heap.size) ∧ Rp w Q x N S T ∧ Ps w0 w (fun k => Q k ∨ K k) r p N c G H ∧ ∀ k, Q k → w0.heap.size ≤ k
section
variable {w0 w w' : World} {K : Nat → Prop} {x r p N c : Nat} {S : PS} {T : Option PS} {G : Lg} {H : Option Lg}

theorem Ps.lt {X : Nat → Prop} (h : Ps w0 w X r p N c G H) (k : Nat) (hk : X k) : k < w.heap.size := by
  obtain ⟨A, K, T, ⟨-, h2, -⟩, -⟩ := h; exact h2 k hk
theorem Pr.took (h : Pr w0 w x r p N c S T G H) (hb : Below w.heap.size w w') : PrK w0 w' (fun k => w.heap.size ≤ k ∧ k < w'.heap.size) x r p N c S T G H := by
  have hs := h.size
  obtain ⟨Q, h1, h2, h3⟩ := h
  exact ⟨Q, fun k hk => ⟨fun e => by have := h2.lt k e; omega, by omega, hk.2⟩, h1.moved (Moved.of_below hb (fun _ => False)) (fun _ _ h => h), h2.take hb, h3⟩
theorem PrK.pr (h : PrK w0 w K x r p N c S T G H) : Pr w0 w x r p N c S T G H := by
  obtain ⟨Q, -, h1, h2, h3⟩ := h; exact ⟨Q, h1, h2.less (fun _ h => .inl h), h3⟩
theorem PrK.grow (h : PrK w0 w K x r p N c S T G H) (hb : Below w.heap.size w w') : PrK w0 w' K x r p N c S T G H := by
  obtain ⟨Q, h0, h1, h2, h3⟩ := h
  have hs := hb.size
  exact ⟨Q, fun k hk => ⟨(h0 k hk).1, (h0 k hk).2.1, Nat.lt_of_lt_of_le (h0 k hk).2.2 hs⟩, h1.moved (Moved.of_below hb (fun _ => False)) (fun _ _ h => h), h2.grow hb, h3⟩
theorem PrK.pager {f : FuncId} {args : Array Value} {R : Ending → Prop} {p' c' : Nat} {G' : Lg} {H' : Option Lg} (h : PrK w0 w K x r p N c S T G H)
    (hc : ∀ X, Ps w0 w X r p N c G H → Calls Try.prog f args w fun e w' => R e ∧ Ps w0 w' X r p' N c' G' H' ∧ Mx w0 X w w') :
    Calls Try.prog f args w fun e w' => R e ∧ PrK w0 w' K x r p' N c' S T G' H' ∧ Mx w0 K w w' := by
  obtain ⟨Q, h0, h1, h2, h3⟩ := h
  refine (hc _ h2).mono ?_
  rintro e w' ⟨hR, g1, g2⟩
  exact ⟨hR, ⟨Q, fun k hk => ⟨(h0 k hk).1, (h0 k hk).2.1, g1.lt k (.inr hk)⟩, h1.moved g2 (fun k hk e => e.2 (.inl hk)), g1, h3⟩, g2.mono (fun k hk => ⟨hk.1, fun e => hk.2 (.inr e)⟩)⟩
theorem PrK.refers {f : FuncId} {args : Array Value} {R : Ending → Prop} {C : PS → Option PS → Prop} (h : PrK w0 w K x r p N c S T G H)
    (hc : ∀ Q, Rp w Q x N S T → Calls Try.prog f args w fun e w' => R e ∧ ∃ S' T', C S' T' ∧ Rp w' (Gr Q w w') x N S' T' ∧ Moved Q w w') :
    Calls Try.prog f args w fun e w' => R e ∧ Mx w0 K w w' ∧ ∃ S' T', C S' T' ∧ PrK w0 w' K x r p N c S' T' G H := by
  obtain ⟨Q, h0, h1, h2, h3⟩ := h
  refine (hc Q h1).mono ?_
  rintro e w' ⟨hR, S', T', hC, g1, g2⟩
  have hs := g2.size
  refine ⟨hR, g2.mono (fun k hk => ⟨h3 k hk, fun e => (h0 k e).1 hk⟩), S', T', hC, Gr Q w w', fun k hk => ⟨fun e => e.elim (h0 k hk).1 (fun e => by have := (h0 k hk).2.2; omega), (h0 k hk).2.1, by have := (h0 k hk).2.2; omega⟩, g1, h2.mvx g2 (fun k hk => ⟨.inl hk, h3 k hk⟩) (fun k hk => ?_), fun k hk => hk.elim (h3 k) (fun e => Nat.le_trans h2.below.size e.1)⟩
  rcases hk with (e | e) | e
  · exact .inl (.inl e)
  · exact .inr e
  · exact .inl (.inr e)
theorem Mx.cell (h : Mx w0 K w w') (a : Addr) (ha : a.block < w.heap.size) (hK : K a.block) : w'.cell? a = w.cell? a := World.cell?_of_block (h.block a.block ha (fun e => e.2 hK))
end
end Go.Proofs.Ytbdmlhmmdcdppaa
