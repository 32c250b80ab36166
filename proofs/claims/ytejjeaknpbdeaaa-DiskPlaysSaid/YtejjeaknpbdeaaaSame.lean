/- Same: sector by sector. -/
import Derived.Test.YtejjeaknpbdeaaaDo
import Derived.BigQuiet
import Derived.Deep.QuietTactic
namespace Go.Proofs.Ytejjeaknpbdeaaa
open Go.RowKit

set_option maxRecDepth 100000 in
set_option maxHeartbeats 4000000 in
theorem same_any (n t : Nat) (s : Dsk) (w0 w : World) (r x : Nat) (h : Pr w0 w (fun _ => False) r x s s) (hfit : Fit s n t) (ht : t ≤ 1000) (hn3 : n ≤ 3000) :
    Calls Try.prog 14 #[.pointer (some ⟨r, 0, none⟩), .pointer (some ⟨x, 0, none⟩)] w fun e w' => e = .returned (.bool true) ∧ Pr w0 w' (fun _ => False) r x s s := by
  have hlen := hfit.len
  have hnl := hfit.nlen
  have hok := hfit.ok
  have hsi : s.since.length ≤ 1073741824 := by have := hfit.since; omega
  have H := Lib.hid h.drew
  obtain ⟨c3, c4⟩ := px_cells h
  obtain ⟨dd, hdd⟩ : ∃ dd, dd = s.dead := ⟨_, rfl⟩
  obtain ⟨oo, hoo⟩ : ∃ oo, oo = (s.ops : Int) := ⟨_, rfl⟩
  rw [← hdd] at c3
  rw [← hoo] at c4
  have HD := Lib.hid hdd
  have HO := Lib.hid hoo
  have hnn : ((n : Int) != n) = false := by simp
  have hddd : (dd != dd) = false := by simp
  have hooo : (oo != oo) = false := by simp
  clear hfit h hdd hoo
  go_enter Try.func14, Try.ntmps14
  go_wp2_with fail
  go_region_held3 (fun w' => w' = w.drew) (first | rfl | assumption)
    (first
      | (go_at_call 15; refine (pd_size H.out).mono ?_; rw [hnl]; rintro e wz ⟨rfl, hwz⟩; replace hwz := hwz.symm; subst hwz)
      | (go_at_call 16; refine (px_size H.out).mono ?_; rw [hlen]; rintro e wz ⟨rfl, hwz⟩; replace hwz := hwz.symm; subst hwz)
      | (go_at_call 22; refine (pd_dead H.out).mono ?_; rw [← HD.out]; rintro e wz ⟨rfl, hwz⟩; replace hwz := hwz.symm; subst hwz)
      | (go_at_call 23; refine (pd_ops H.out).mono ?_; rw [← HO.out]; rintro e wz ⟨rfl, hwz⟩; replace hwz := hwz.symm; subst hwz))
  have HW := H
  clear c3 c4 HD HO hnn hddd hooo H
  generalize w.drew = w1 at HW ⊢
  go_wp2_with fail
  go_loopw [5] (fun i wr => ∃ k : Nat, k ≤ n ∧ i = .int .i64 k ∧ Pr w0 wr (fun _ => False) r x s s) (fun i _ => n - (intOf i).toNat)
  case atStart => exact ⟨0, Nat.zero_le _, rfl, HW.out⟩
  case round =>
    obtain ⟨k, hk, rfl, hP⟩ := hrel
    have hff : (faultOf s k != faultOf s k) = false := by simp
    obtain ⟨ff, hf⟩ : ∃ ff, ff = faultOf s k := ⟨_, rfl⟩
    rw [← hf] at hff
    have HFF := Lib.hid hf
    clear hf
    by_cases hlt : k < n
    · go_wp2_with fail
      refine (px_size hP).mono ?_
      rw [hlen]
      rintro e wz ⟨rfl, hwz⟩
      replace hwz := hwz.symm
      subst hwz
      go_wp2_with fail
      refine (pd_read k hP).mono ?_
      rw [← HFF.out]
      rintro e w10 ⟨v10, rfl, o10, b10, P10⟩
      go_wp2_with fail
      refine (px_read k P10 hok hsi).mono ?_
      rw [← HFF.out]
      rintro e w11 ⟨v11, rfl, o11, b11, P11⟩
      have k10 := run_conv_bytes (o10.below b11).bs
      have k11 := run_conv_bytes o11.bs
      obtain ⟨Y, hY⟩ : ∃ Y : ByteArray, Y = ⟨(readOf s k).toArray⟩ := ⟨_, rfl⟩
      rw [← hY] at k10 k11
      have P12 := Lib.hid P11
      clear hY o10 o11 b10 b11 P10 P11 hP HFF
      go_wp2_with fail
      go_roundw
      case rel => exact ⟨k + 1, by omega, by go_num, P12.out⟩
      case measure => simp [intOf]; omega
    · obtain rfl : k = n := by omega
      go_wp2_with fail
      refine (px_size hP).mono ?_
      rw [hlen]
      rintro e wz ⟨rfl, hwz⟩
      replace hwz := hwz.symm
      subst hwz
      go_wp2_with fail
      go_ret
      exact ⟨rfl, hP⟩
end Go.Proofs.Ytejjeaknpbdeaaa
