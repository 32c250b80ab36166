/- What came in, as the walks of CodeBack and CodeReads want it. -/
import Derived.Test.YtkgdplbkhkafgaaInv
namespace Go.Proofs.Ytkgdplbkhkafgaa
open Go.RowKit

/-- A slice of numbers that came in. -/
def Nums (w : World) (ao : Option Addr) (zs : List Int) : Prop :=
  (∀ z ∈ zs, (Lit.int .i64 z).wf = true) ∧ ∀ k, k < zs.length → ∃ b off, ao = some ⟨b, off, none⟩ ∧ b < w.heap.size ∧ w.cell? ⟨b, off + k, none⟩ = some (.int .i64 (zs.getD k 0))
/-- A slice of texts that came in. -/
def Strs (w : World) (ao : Option Addr) (ss : List ByteArray) : Prop :=
  ∀ k, k < ss.length → ∃ b off, ao = some ⟨b, off, none⟩ ∧ b < w.heap.size ∧ w.cell? ⟨b, off + k, none⟩ = some (.string (ss.getD k ByteArray.empty))

theorem Nums.of_row {w : World} {a : Option Addr} {len cap : Nat} {zs : List Int}
    (h : (a = none ∧ len = 0 ∧ cap = 0 ∧ zs = []) ∨ ∃ x, a = some x ∧ len ≤ cap ∧ cap ≤ maxLen ∧ zs.length = cap ∧ (∀ i, i < zs.length → w.cell? (x.add i) = some (.int .i64 (zs.getD i 0))) ∧ ∀ n ∈ zs, (Lit.int .i64 n).wf = true) :
    ∃ l : List Int, l.length = len ∧ len ≤ cap ∧ cap ≤ maxLen ∧ Nums w a l := by
  rcases h with ⟨rfl, rfl, rfl, rfl⟩ | ⟨x, rfl, hl, hm, hz, hc, hw⟩
  · exact ⟨[], rfl, Nat.le_refl _, by simp [maxLen], by simp, fun k hk => by simp at hk⟩
  · have hlen : (zs.take len).length = len := by simp; omega
    refine ⟨zs.take len, hlen, hl, hm, fun z hz => hw z (List.mem_of_mem_take hz), fun k hk => ?_⟩
    rw [hlen] at hk
    have hck := hc k (by omega)
    obtain ⟨b, off, spot⟩ := x
    have hs : spot = none := by
      have h0 := hc 0 (by omega)
      simpa [Addr.add] using World.cell?_spot h0
    subst hs
    have hb := World.block_lt_of_cell? w _ hck
    rw [block_add] at hb
    rw [Addr.add_lit] at hck
    refine ⟨b, off, rfl, hb, ?_⟩
    rw [hck]
    simp [List.getD, hk]

theorem Strs.of_row {w : World} {a : Option Addr} {len cap : Nat} {ss : List ByteArray}
    (h : (a = none ∧ len = 0 ∧ cap = 0 ∧ ss = []) ∨ ∃ x, a = some x ∧ len ≤ cap ∧ cap ≤ maxLen ∧ ss.length = cap ∧ (∀ i, i < ss.length → w.cell? (x.add i) = some (.string (ss.getD i ByteArray.empty))) ∧ ∀ s ∈ ss, s.size ≤ maxLen) :
    ∃ l : List ByteArray, l.length = len ∧ len ≤ cap ∧ cap ≤ maxLen ∧ Strs w a l ∧ ∀ s ∈ l, s.size ≤ maxLen := by
  rcases h with ⟨rfl, rfl, rfl, rfl⟩ | ⟨x, rfl, hl, hm, hz, hc, hw⟩
  · exact ⟨[], rfl, Nat.le_refl _, by simp [maxLen], fun k hk => by simp at hk, by simp⟩
  · have hlen : (ss.take len).length = len := by simp; omega
    refine ⟨ss.take len, hlen, hl, hm, fun k hk => ?_, fun s hs => hw s (List.mem_of_mem_take hs)⟩
    rw [hlen] at hk
    have hck := hc k (by omega)
    obtain ⟨b, off, spot⟩ := x
    have hs : spot = none := by
      have h0 := hc 0 (by omega)
      simpa [Addr.add] using World.cell?_spot h0
    subst hs
    have hb := World.block_lt_of_cell? w _ hck
    rw [block_add] at hb
    rw [Addr.add_lit] at hck
    refine ⟨b, off, rfl, hb, ?_⟩
    rw [hck]
    simp [List.getD, hk]
end Go.Proofs.Ytkgdplbkhkafgaa
