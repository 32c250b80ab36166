/- A slice of slices of bytes that came in, opened. -/
import Derived.Test.YtkhdahipnfloeaaArgP
namespace Go.Proofs.Ytkhdahipnfloeaa
open Go.RowKit Go.ChangeShapes Go.WideShapes
set_option maxRecDepth 100000

/-- A slice of slices of bytes, that read as the rows of l. -/
def Bss (w : World) (v : Value) (l : List (List UInt8)) : Prop :=
  ∃ ao cap, v = .slice ao l.length cap ∧ l.length ≤ cap ∧ cap ≤ maxLen ∧ ∀ k (hk : k < l.length), ∃ b off, ao = some ⟨b, off, none⟩ ∧ ∃ u, w.cell? ⟨b, off + k, none⟩ = some u ∧ Bs w u l[k]
theorem Bss.below {w w' : World} {v : Value} {l : List (List UInt8)} (h : Bss w v l) (hb : Below w.heap.size w w') : Bss w' v l := by
  obtain ⟨ao, cap, e, h1, h2, h3⟩ := h
  refine ⟨ao, cap, e, h1, h2, fun k hk => ?_⟩
  obtain ⟨b, off, e', u, c, hu⟩ := h3 k hk
  exact ⟨b, off, e', u, (hb.cell (World.block_lt_of_cell? _ _ c)).trans c, hu.below hb⟩
theorem Nl.below {w w' : World} {v : Value} {l : List Int} (h : Nl w v l) (hb : Below w.heap.size w w') : Nl w' v l := by
  obtain ⟨ao, cap, e, h1, h2, h3, h4⟩ := h
  exact ⟨ao, cap, e, h1, h2, h3, fun ad had j u hu => (hb.cell (World.block_lt_of_cell? _ _ (h4 ad had j u hu))).trans (h4 ad had j u hu)⟩

theorem rows_open {H : Type} {enc : TypeId × Value → H} {W : World} {fuel : Nat} {ao : Option Addr} {len cap : Nat} {y : DataW H × List MemPlace}
    (h : DataW.trod enc Try.prog W 0 (fun _ => true) true fuel 40 [.slice ao len cap] = some y) : ∃ l : List (List UInt8), l.length = len ∧ Bss W (.slice ao len cap) l := by
  have c1 : Try.prog.cellsOf 41 = 1 := by kernel_rfl
  rcases Go.Deep.open_slice1 Try.underlying40 c1 h with ⟨hcs, _⟩ | ⟨a, len', cap', m, n, V, D, Pl, hcs, -, hl, hm, hmm, -, hx⟩
  · simp only [List.cons.injEq, and_true, Value.slice.injEq] at hcs
    obtain ⟨rfl, rfl, rfl⟩ := hcs
    exact ⟨[], rfl, none, 0, rfl, Nat.le_refl _, by simp [maxLen], fun k hk => by simp at hk⟩
  · simp only [List.cons.injEq, and_true, Value.slice.injEq] at hcs
    obtain ⟨rfl, rfl, rfl⟩ := hcs
    simp only [if_true] at hmm
    subst hmm
    obtain ⟨b, off, spot⟩ := a
    have each : ∀ i, i < len → ∃ q : List UInt8, spot = none ∧ ∃ u, W.cell? ⟨b, off + i, none⟩ = some u ∧ Bs W u q := by
      intro i hi
      obtain ⟨c, ht⟩ := hx i (by omega)
      have hs : spot = none := by
        obtain ⟨c0, -⟩ := hx 0 (by omega)
        simpa [Addr.add] using World.cell?_spot c0
      subst hs
      rw [Addr.add_lit] at c
      obtain ⟨bs, hbs⟩ : ∃ bs, Bs W (V i) bs := by
        rcases open_ints Try.underlying41 Try.underlying5 (by kernel_rfl) ht with ⟨hcs, _⟩ | ⟨x, l, c, zs, hcs, _, hl, hm, hz, _, hc, hwz⟩
        · simp only [List.cons.injEq, and_true] at hcs
          obtain ⟨l, -, h⟩ := Bs.of_row (w := W) (zs := []) (.inl ⟨rfl, rfl, rfl, rfl⟩)
          exact ⟨l, by rw [hcs]; exact h⟩
        · simp only [List.cons.injEq, and_true] at hcs
          obtain ⟨l', -, h⟩ := Bs.of_row (w := W) (.inr ⟨x, rfl, hl, hm, by simpa using hz, hc, hwz⟩)
          exact ⟨l', by rw [hcs]; exact h⟩
      exact ⟨bs, rfl, V i, c, hbs⟩
    obtain ⟨f, hf⟩ := Go.Deep.choose_lt each
    refine ⟨(List.range len).map f, by simp, some ⟨b, off, spot⟩, m, by simp, by simpa using hl, hm, fun k hk => ?_⟩
    have hk' : k < len := by simpa using hk
    obtain ⟨rfl, u, hu, hb⟩ := hf k hk'
    exact ⟨b, off, rfl, u, hu, by simpa using hb⟩
end Go.Proofs.Ytkhdahipnfloeaa
