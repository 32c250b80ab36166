/- triadref1's Int (of stage 1's XSpare). -/
import Derived.Test.YtkhdahipnfloeaaKept
namespace Go.Proofs.Ytkhdahipnfloeaa
open Go.RowKit
set_option maxRecDepth 100000

theorem refInt_any (base : Nat) (v : Value) (l : List UInt8) (x : Int) (hl : l.length ≤ 1099511627776) (w : World) (hb : base ≤ w.heap.size) (hown : Own w base v l) :
    Calls Try.prog 41 #[v, .int .i64 x] w fun e w' => ∃ v', e = .returned v' ∧ Spare w w' base v l v' (l ++ le x 8) := by
  go_enter Try.func41, Try.ntmps41
  go_wp2
  go_loopw [0, 5] (fun b i wr => ∃ k : Nat, k ≤ 8 ∧ i = .int .i64 k ∧ Spare w wr base v l b (l ++ le x k)) (fun _ i _ => 8 - (intOf i).toNat)
  case atStart => exact ⟨0, by omega, rfl, by simpa [le] using Spare.start hown⟩
  case round =>
    obtain ⟨k, hk, rfl, hsp⟩ := hrel
    have hsz := hsp.grown.size
    have hll := le_length x k
    by_cases hlt : k < 8
    · have hal : Below wr.heap.size wr (wr.alloc (.cells #[.int .u8 (IntKind.u64.wrap x / 2 ^ (8 * k) % 256)] 5)) := (Below.refl _ _).alloc (Nat.le_refl _) _
      have hst := hsp.below hal
      have hown1 := hst.own
      have HS := Lib.hid hst
      have HE := Lib.hid (shr_byte x k hlt)
      clear hal hst hsp
      go_wp2_with (at_builtin; refine wpList_append_kept rfl _ _ rfl base _ _ rfl hown1 _ _ rfl (Bs.one _ (byteOf (x / 2 ^ (8 * k))) _ ?a1) ?a2 ?a3 ?_)
      case a1 => rw [vb_byteOf, HE.out]
      case a2 => simp only [List.length_append, List.length_cons, List.length_nil]; omega
      case a3 => simp; omega
      intro v' w' ha
      have hs := Spare.step hown HS.out ha
      rw [← le_succ] at hs
      clear ha HS HE hown1
      go_wp2
      go_roundw
      case rel => exact ⟨k + 1, by omega, by go_num, hs⟩
      case measure => simp [intOf]; omega
    · obtain rfl : k = 8 := by omega
      go_wp2
      go_ret
      exact ⟨_, rfl, hsp⟩
end Go.Proofs.Ytkhdahipnfloeaa
