/- What any stage's texts may want of slices and numbers. -/
import Derived.Test.YtkhdahipnfloeaaSt
namespace Go.Proofs.Ytkhdahipnfloeaa
open Go.RowKit
set_option maxRecDepth 100000

theorem Own.word {w : World} {base : Nat} {v : Value} {l : List UInt8} (h : Own w base v l) (hl : l.length = 512) :
    ∃ g cap, v = .slice (some ⟨g, 0, none⟩) 512 cap ∧ 512 ≤ cap ∧ cap ≤ maxLen ∧ base ≤ g ∧ g < w.heap.size ∧ ∀ j (hj : j < l.length), w.cell? ⟨g, j, none⟩ = some (vb l[j]) := by
  obtain ⟨g, cap, hv, h1, h2, h3, h4, h5⟩ := h.at (by omega)
  exact ⟨g, cap, by rw [hv, hl], by omega, h2, h3, h4, h5⟩

def withinOf (a n : Int) : Int := if a.tmod n < 0 then a.tmod n + n else a.tmod n
theorem within_range (a : Int) (n : Int) (hn : 0 < n) : 0 ≤ withinOf a n ∧ withinOf a n < n := by
  unfold withinOf
  have h1 := Int.tmod_lt_of_pos a hn
  have h2 : -n < a.tmod n := Int.lt_tmod_of_pos a hn
  split <;> omega

theorem Bs.made (w : World) (k : Nat) (hk : k ≤ 1099511627776) : Bs (w.alloc (.cells (vbs (zeros k)).toArray 5)) (.slice (some ⟨w.heap.size, 0, none⟩) k k) (zeros k) := by
  have h := ((Blk.new w (vbs (zeros k)).toArray 5).own (base := 0) (Nat.zero_le _) (by rw [zeros_length]; simp [maxLen]; omega)).bs
  rwa [zeros_length] at h
end Go.Proofs.Ytkhdahipnfloeaa
