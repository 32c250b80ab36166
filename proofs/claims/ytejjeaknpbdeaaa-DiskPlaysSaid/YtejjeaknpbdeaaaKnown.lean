/- The example of chapter 2, and within. -/
import Derived.Test.YtejjeaknpbdeaaaSt
namespace Go.Proofs.Ytejjeaknpbdeaaa
open Go.RowKit

theorem Own.word {w : World} {base : Nat} {v : Value} {l : List UInt8} (h : Own w base v l) (hl : l.length = 512) :
    ∃ g cap, v = .slice (some ⟨g, 0, none⟩) 512 cap ∧ 512 ≤ cap ∧ cap ≤ maxLen ∧ base ≤ g ∧ g < w.heap.size ∧ ∀ j (hj : j < l.length), w.cell? ⟨g, j, none⟩ = some (vb l[j]) := by
  obtain ⟨g, cap, hv, h1, h2, h3, h4, h5⟩ := h.at (by omega)
  exact ⟨g, cap, by rw [hv, hl], by omega, h2, h3, h4, h5⟩

theorem k_read : readOf (((Dsk.new 5).write 1 [7]).crash [true]) 1 = 7 :: zeros 511 := rfl
theorem k_fault : faultOf (((Dsk.new 5).write 1 [7]).crash [true]) 1 = 0 := rfl
theorem k_write : writeErr (Dsk.new 5) 1 [7] = 0 := rfl
theorem k_size : ((((Dsk.new 5).write 1 [7]).crash [true]).now.length : Int) = 5 := rfl
theorem k_since : ((Dsk.new 5).write 1 [7]).since.length ≤ 1073741824 := by decide
theorem k_new : sizeOf' 5 = 5 := rfl

theorem known_any (w : World) : Calls Try.prog 8 #[] w fun e w' => e = .returned (.bool true) ∧ Below w.heap.size w w' := by
  go_enter Try.func8, Try.ntmps8
  go_wp2_with fail
  refine (st_new 5 w _ (Below.refl _ _)).mono ?_
  rintro e w1 ⟨r, rfl, h1⟩
  rw [k_new] at h1
  go_wp2_with fail
  refine (st_write r (Dsk.new 5) 1 _ [7] w _ (h1.alloc _) (Bs.one _ 7 _ rfl) (by decide) (by decide) (by decide)).mono ?_
  rw [k_write]
  rintro e w2 ⟨rfl, h2⟩
  have K2 := k_read
  have K3 := k_fault
  have K4 := k_size
  have K5 := k_since
  generalize (Dsk.new 5).write 1 [7] = s2 at h2 K2 K3 K4 K5
  go_wp2_with fail
  refine (st_crash_one r _ true _ w _ h2 K5).mono ?_
  rintro e w3 ⟨rfl, h3⟩
  generalize s2.crash [true] = s3 at h3 K2 K3 K4
  go_wp2_with fail
  refine (st_read r s3 1 w _ h3).mono ?_
  rw [K2, K3]
  rintro e w4 ⟨v, rfl, hv, h4⟩
  obtain ⟨g, cap, rfl, hc1, hc2, -, -, hcell⟩ := hv.word (by simp [zeros_length])
  have hc7 : w4.cell? ⟨g, 0, none⟩ = some (.int .u8 7) := hcell 0 (by simp)
  clear hcell
  have hc2' : cap ≤ 9223372036854775807 := hc2
  clear K2 K3 hv hc2
  go_wp2_with (go_at_call 15; refine (st_size r s3 w _ h4).mono ?_; rw [K4]; rintro e _ ⟨rfl, rfl⟩)
  go_ret
  exact ⟨rfl, h4.below⟩

def withinOf (a n : Int) : Int := if a.tmod n < 0 then a.tmod n + n else a.tmod n
theorem within_range (a : Int) (n : Int) (hn : 0 < n) : 0 ≤ withinOf a n ∧ withinOf a n < n := by
  unfold withinOf
  have h1 := Int.tmod_lt_of_pos a hn
  have h2 : -n < a.tmod n := Int.lt_tmod_of_pos a hn
  split <;> omega
theorem within_any (a n : Int) (hn : 0 < n) (hn2 : n ≤ 4611686018427387904) (w : World) :
    Calls Try.prog 11 #[.int .i64 a, .int .i64 n] w fun e w' => e = .returned (.int .i64 (withinOf a n)) ∧ w' = w := by
  have h1 := Int.tmod_lt_of_pos a hn
  have h2 : -n < a.tmod n := Int.lt_tmod_of_pos a hn
  have hz : (n == 0) = false := by simpa using (by omega : n ≠ 0)
  by_cases h0 : a.tmod n < 0
  · rw [withinOf, if_pos h0]
    go_enter Try.func11, Try.ntmps11
    go_wp2
    go_ret
    exact ⟨rfl, rfl⟩
  · rw [withinOf, if_neg h0]
    go_enter Try.func11, Try.ntmps11
    go_wp2
    go_ret
    exact ⟨rfl, rfl⟩
end Go.Proofs.Ytejjeaknpbdeaaa
