/- The walk of the law DiskStops. -/
import Derived.Test.YtejjeaknpbdeaaaKnown
namespace Go.Proofs.Ytejjeaknpbdeaaa
open Go.RowKit

/-- The disk behind k operations, where the power goes at the n-th. -/
structure Went (s : Dsk) (n k : Nat) : Prop where
  len : s.now.length = 3
  ops : s.ops = min k n
  stop : s.stop = n - k
  dead : s.dead = decide (n ≤ k)
  since : s.since.length ≤ k

def wantErr (n k : Nat) : Int := if n ≤ k then 13 else 0

theorem Went.step {s : Dsk} {n k : Nat} (h : Went s n k) (hk : k < n) : s.step.ops = min (k + 1) n ∧ s.step.stop = n - (k + 1) ∧ s.step.dead = decide (n ≤ k + 1) := by
  refine ⟨?_, ?_, ?_⟩
  · show s.ops + 1 = _; rw [h.ops]; omega
  · show s.stop - 1 = _; rw [h.stop]; omega
  · show (s.stop == 1) = _; rw [h.stop, Bool.eq_iff_iff]; simp; omega

theorem Went.sync {s : Dsk} {n k : Nat} (h : Went s n k) : syncErr s = wantErr n (k + 1) ∧ Went s.sync n (k + 1) := by
  by_cases hk : n ≤ k
  · have hd : s.dead = true := by rw [h.dead]; simpa using hk
    have e1 : syncErr s = 13 := by rw [syncErr, hd]; rfl
    have e2 : wantErr n (k + 1) = 13 := if_pos (by omega)
    refine ⟨by rw [e1, e2], ?_⟩
    rw [Dsk.sync, hd]
    exact ⟨h.len, by rw [if_pos rfl, h.ops]; omega, by rw [if_pos rfl, h.stop]; omega, by rw [if_pos rfl, h.dead]; simp; omega, by rw [if_pos rfl]; have := h.since; omega⟩
  · have hd : s.dead = false := by rw [h.dead]; simpa using hk
    obtain ⟨e1, e2, e3⟩ := h.step (by omega)
    refine ⟨?_, ?_⟩
    · rw [syncErr, hd, deadErr, e3, wantErr]
      simp
    · rw [Dsk.sync, hd, e3]
      by_cases hk1 : n ≤ k + 1
      · simp only [hk1, decide_true, if_true, Bool.false_eq_true, if_false]
        exact ⟨h.len, e1, e2, e3, Nat.le_succ_of_le h.since⟩
      · simp only [hk1, decide_false, Bool.false_eq_true, if_false]
        exact ⟨h.len, e1, e2, e3, Nat.zero_le _⟩

theorem Went.write {s : Dsk} {n k : Nat} (h : Went s n k) (l : List UInt8) (hl : l.length ≤ 512) : writeErr s 1 l = wantErr n (k + 1) ∧ Went (s.write 1 l) n (k + 1) := by
  by_cases hk : n ≤ k
  · have hd : s.dead = true := by rw [h.dead]; simpa using hk
    have hf : faultOf s 1 = 13 := by rw [faultOf, hd]; rfl
    obtain ⟨e1, e2⟩ := write_bad l (show faultOf s 1 ≠ 0 by rw [hf]; decide)
    rw [e1, e2, hf, wantErr, if_pos (by omega)]
    exact ⟨rfl, h.len, by rw [h.ops]; omega, by rw [h.stop]; omega, by rw [h.dead]; simp; omega, Nat.le_succ_of_le h.since⟩
  · have hd : s.dead = false := by rw [h.dead]; simpa using hk
    have hf : faultOf s 1 = 0 := by rw [faultOf, hd, h.len]; rfl
    obtain ⟨e1, e2⟩ := write_ok hf hl
    obtain ⟨g1, g2, g3⟩ := h.step (by omega)
    rw [e1, e2]
    refine ⟨?_, ?_, g1, g2, g3, ?_⟩
    · show deadErr _ = _
      rw [deadErr, show (s.put (1 : Int).toNat ⟨l.toArray⟩).step.dead = s.step.dead from rfl, g3, wantErr]
      simp
    · show (s.now.set _ _).length = 3
      rw [List.length_set, h.len]
    · show (s.since ++ [_]).length ≤ k + 1
      rw [List.length_append]
      have := h.since
      simp; omega

theorem stops_walk (x : Int) (ko : Option Addr) (kc : Nat) (ks : List Bool) (w : World) (hv : Bl w (.slice ko ks.length kc) ks) :
    Calls Try.prog 5 #[.int .i64 x, .slice ko ks.length kc] w fun e w' => e = .returned (.bool true) ∧ Below w.heap.size w w' := by
  obtain ⟨m, hm, hm12⟩ : ∃ m : Nat, withinOf x 12 = m ∧ m < 12 := ⟨(withinOf x 12).toNat, by have := within_range x 12 (by decide); omega, by have := within_range x 12 (by decide); omega⟩
  have wx := within_any x 12 (by decide) (by decide)
  rw [hm] at wx
  have hkc : ks.length ≤ kc ∧ kc ≤ 9223372036854775807 := by
    obtain ⟨a, c, e, g1, g2, -⟩ := hv
    simp only [Value.slice.injEq, true_and] at e
    obtain ⟨rfl, rfl⟩ := e
    exact ⟨g1, g2⟩
  obtain ⟨hk1, hk2⟩ := hkc
  have HX := Lib.hid wx
  have hvl : ∀ k, (Value.slice ko ks.length kc).ownBlock = some k → 0 < ks.length → k < w.heap.size := by
    intro k hk h0
    obtain ⟨b, o, c, e, -, -, hc⟩ := hv.at h0
    rw [e] at hk
    simp [Value.ownBlock] at hk
    subst hk
    exact World.block_lt_of_cell? _ _ (hc 0 h0)
  clear wx hm
  go_enter Try.func5, Try.ntmps5
  go_wp2_with fail
  refine (known_any _).mono ?_
  rintro e w1 ⟨rfl, hb1⟩
  go_wp2_with fail
  refine (HX.out _).mono ?_
  rintro e _ ⟨rfl, rfl⟩
  go_wp2_with fail
  refine (st_new 3 w _ hb1).mono ?_
  rintro e w2 ⟨r, rfl, h2⟩
  obtain ⟨n, hn⟩ : ∃ n, n = m + 1 := ⟨_, rfl⟩
  have hn' : (1 : Int) + m = n := by omega
  have hn1 : 1 ≤ n := by omega
  have hn12 : n ≤ 12 := by omega
  rw [hn']
  clear hn hn' hm12 HX
  have h2 : St w w2 r (Dsk.new 3) := h2
  go_wp2_with fail
  refine (st_stop r _ n w _ h2).mono ?_
  rintro e w3 ⟨rfl, h3⟩
  rw [Int.toNat_natCast] at h3
  have hw : Went { Dsk.new 3 with stop := n } n 0 := ⟨rfl, by simp [Dsk.new], rfl, by simp [Dsk.new]; omega, Nat.le_refl _⟩
  generalize ({ Dsk.new 3 with stop := n } : Dsk) = s3 at h3 hw
  go_wp2_with fail
  go_loopw [6] (fun i wr => ∃ (k : Nat) (s : Dsk), k ≤ ks.length ∧ k ≤ 20 ∧ i = .int .i64 k ∧ St w wr r s ∧ Went s n k) (fun i _ => 20 - (intOf i).toNat)
  case atStart => exact ⟨0, s3, Nat.zero_le _, by decide, rfl, h3, hw⟩
  case round =>
    obtain ⟨k, s, hkl, hk20, rfl, hs, hwk⟩ := hrel
    have hso : s.ops ≤ 4611686018427387904 := by rw [hwk.ops]; omega
    have hss : s.stop ≤ 9223372036854775807 := by rw [hwk.stop]; omega
    have hsn : s.since.length ≤ 1073741824 := by have := hwk.since; omega
    by_cases hlt : k < ks.length
    · by_cases hlt2 : k < 20
      · obtain ⟨kb, kf, kc', e, -, -, hkc⟩ := hv.at (by omega)
        simp only [Value.slice.injEq, true_and] at e
        obtain ⟨rfl, rfl⟩ := e
        have hck := hkc k hlt
        have hck := (hs.below.cell (p := ⟨kb, kf + k, none⟩) (by exact World.block_lt_of_cell? _ _ hck)).trans hck
        clear hkc h2 h3 hw hvl hv
        cases hkb : ks[k] with
        | true =>
          rw [hkb] at hck
          clear hkb
          by_cases hc : n ≤ k + 1
          · have hwe : wantErr n (k + 1) = 13 := if_pos hc
            have hc' : (n : Int) ≤ k + 1 := by omega
            have HWE := Lib.hid hwe
            clear hwe
            go_wp2_with fail
            refine (st_sync r s w _ hs hso hss).mono ?_
            have hw' := hwk.sync
            rw [hw'.1, HWE.out]
            replace hw' := hw'.2
            rintro e w5 ⟨rfl, hs'⟩
            generalize s.sync = s' at hs' hw'
            clear HWE hs hwk hso hss hsn
            have hd : s'.dead = true := by rw [hw'.dead]; simpa using hc
            have hop : (s'.ops : Int) = n := by rw [hw'.ops]; omega
            have hf : faultOf s' 0 = 13 := by rw [faultOf, hd]; rfl
            go_wp2_with (first | (go_at_call 22; refine (st_dead r s' w _ hs').mono ?_; rw [hd]; rintro e _ ⟨rfl, rfl⟩) | (go_at_call 23; refine (st_ops r s' w _ hs').mono ?_; rw [hop]; rintro e _ ⟨rfl, rfl⟩))
            all_goals (
              refine (st_read r s' 0 w _ hs').mono ?_
              rw [hf]
              rintro e w6 ⟨v6, rfl, -, h6⟩
              go_wp2_with (go_at_call 22; refine (st_dead r s' w _ h6).mono ?_; rw [hd]; rintro e _ ⟨rfl, rfl⟩)
              go_roundw
              case rel => exact ⟨k + 1, s', by omega, by omega, by go_num, h6, hw'⟩
              case measure => simp [intOf]; omega)
          · have hwe : wantErr n (k + 1) = 0 := if_neg hc
            have hc' : (k : Int) + 1 < n := by omega
            have HWE := Lib.hid hwe
            clear hwe
            go_wp2_with fail
            refine (st_sync r s w _ hs hso hss).mono ?_
            have hw' := hwk.sync
            rw [hw'.1, HWE.out]
            replace hw' := hw'.2
            rintro e w5 ⟨rfl, hs'⟩
            generalize s.sync = s' at hs' hw'
            clear HWE hs hwk hso hss hsn
            have hd : s'.dead = false := by rw [hw'.dead]; simpa using hc
            have hop : (s'.ops : Int) = k + 1 := by rw [hw'.ops]; omega
            have hf : faultOf s' 0 = 0 := by rw [faultOf, hd, hw'.len]; rfl
            go_wp2_with (first | (go_at_call 22; refine (st_dead r s' w _ hs').mono ?_; rw [hd]; rintro e _ ⟨rfl, rfl⟩) | (go_at_call 23; refine (st_ops r s' w _ hs').mono ?_; rw [hop]; rintro e _ ⟨rfl, rfl⟩))
            all_goals (
              refine (st_read r s' 0 w _ hs').mono ?_
              rw [hf]
              rintro e w6 ⟨v6, rfl, -, h6⟩
              go_wp2_with (go_at_call 22; refine (st_dead r s' w _ h6).mono ?_; rw [hd]; rintro e _ ⟨rfl, rfl⟩)
              go_roundw
              case rel => exact ⟨k + 1, s', by omega, by omega, by go_num, h6, hw'⟩
              case measure => simp [intOf]; omega)
        | false =>
          rw [hkb] at hck
          clear hkb
          by_cases hc : n ≤ k + 1
          · have hwe : wantErr n (k + 1) = 13 := if_pos hc
            have hc' : (n : Int) ≤ k + 1 := by omega
            have HWE := Lib.hid hwe
            clear hwe
            go_wp2_with fail
            refine (st_write r s 1 _ [byteOf k] w _ (hs.alloc _) (Bs.one _ (byteOf k) _ ?bo) hso hss hsn).mono ?_
            case bo => rw [vb_byteOf]; congr 1; omega
            have hw' := hwk.write [byteOf k] (by simp)
            rw [hw'.1, HWE.out]
            replace hw' := hw'.2
            rintro e w5 ⟨rfl, hs'⟩
            generalize s.write 1 [byteOf k] = s' at hs' hw'
            clear HWE hs hwk hso hss hsn
            have hd : s'.dead = true := by rw [hw'.dead]; simpa using hc
            have hop : (s'.ops : Int) = n := by rw [hw'.ops]; omega
            have hf : faultOf s' 0 = 13 := by rw [faultOf, hd]; rfl
            go_wp2_with (first | (go_at_call 22; refine (st_dead r s' w _ hs').mono ?_; rw [hd]; rintro e _ ⟨rfl, rfl⟩) | (go_at_call 23; refine (st_ops r s' w _ hs').mono ?_; rw [hop]; rintro e _ ⟨rfl, rfl⟩))
            all_goals (
              refine (st_read r s' 0 w _ hs').mono ?_
              rw [hf]
              rintro e w6 ⟨v6, rfl, -, h6⟩
              go_wp2_with (go_at_call 22; refine (st_dead r s' w _ h6).mono ?_; rw [hd]; rintro e _ ⟨rfl, rfl⟩)
              go_roundw
              case rel => exact ⟨k + 1, s', by omega, by omega, by go_num, h6, hw'⟩
              case measure => simp [intOf]; omega)
          · have hwe : wantErr n (k + 1) = 0 := if_neg hc
            have hc' : (k : Int) + 1 < n := by omega
            have HWE := Lib.hid hwe
            clear hwe
            go_wp2_with fail
            refine (st_write r s 1 _ [byteOf k] w _ (hs.alloc _) (Bs.one _ (byteOf k) _ ?bo) hso hss hsn).mono ?_
            case bo => rw [vb_byteOf]; congr 1; omega
            have hw' := hwk.write [byteOf k] (by simp)
            rw [hw'.1, HWE.out]
            replace hw' := hw'.2
            rintro e w5 ⟨rfl, hs'⟩
            generalize s.write 1 [byteOf k] = s' at hs' hw'
            clear HWE hs hwk hso hss hsn
            have hd : s'.dead = false := by rw [hw'.dead]; simpa using hc
            have hop : (s'.ops : Int) = k + 1 := by rw [hw'.ops]; omega
            have hf : faultOf s' 0 = 0 := by rw [faultOf, hd, hw'.len]; rfl
            go_wp2_with (first | (go_at_call 22; refine (st_dead r s' w _ hs').mono ?_; rw [hd]; rintro e _ ⟨rfl, rfl⟩) | (go_at_call 23; refine (st_ops r s' w _ hs').mono ?_; rw [hop]; rintro e _ ⟨rfl, rfl⟩))
            all_goals (
              refine (st_read r s' 0 w _ hs').mono ?_
              rw [hf]
              rintro e w6 ⟨v6, rfl, -, h6⟩
              go_wp2_with (go_at_call 22; refine (st_dead r s' w _ h6).mono ?_; rw [hd]; rintro e _ ⟨rfl, rfl⟩)
              go_roundw
              case rel => exact ⟨k + 1, s', by omega, by omega, by go_num, h6, hw'⟩
              case measure => simp [intOf]; omega)
      · obtain rfl : k = 20 := by omega
        go_wp2_with fail
        have hnil := Bl.nil wr
        refine (st_crash r s _ [] w _ hs hnil (fun q hq => by simp [Value.ownBlock] at hq) hsn).mono ?_
        rintro e w5 ⟨rfl, h5⟩
        have e1 : (s.crash []).dead = false := rfl
        have e2 : syncErr (s.crash []) = 0 := rfl
        have e3 : (s.crash []).ops ≤ 4611686018427387904 := hso
        have e4 : (s.crash []).stop ≤ 9223372036854775807 := Nat.zero_le _
        generalize s.crash [] = s5 at h5 e1 e2 e3 e4
        go_wp2_with fail
        refine (st_dead r s5 w _ h5).mono ?_
        rw [e1]
        rintro e _ ⟨rfl, rfl⟩
        go_wp2_with fail
        refine (st_sync r s5 w _ h5 e3 e4).mono ?_
        rw [e2]
        rintro e w6 ⟨rfl, h6⟩
        go_wp2_with fail
        go_ret
        exact ⟨rfl, h6.below⟩
    · obtain rfl : k = ks.length := by omega
      go_wp2_with fail
      have hnil := Bl.nil wr
      refine (st_crash r s _ [] w _ hs hnil (fun q hq => by simp [Value.ownBlock] at hq) hsn).mono ?_
      rintro e w5 ⟨rfl, h5⟩
      have e1 : (s.crash []).dead = false := rfl
      have e2 : syncErr (s.crash []) = 0 := rfl
      have e3 : (s.crash []).ops ≤ 4611686018427387904 := hso
      have e4 : (s.crash []).stop ≤ 9223372036854775807 := Nat.zero_le _
      generalize s.crash [] = s5 at h5 e1 e2 e3 e4
      go_wp2_with fail
      refine (st_dead r s5 w _ h5).mono ?_
      rw [e1]
      rintro e _ ⟨rfl, rfl⟩
      go_wp2_with fail
      refine (st_sync r s5 w _ h5 e3 e4).mono ?_
      rw [e2]
      rintro e w6 ⟨rfl, h6⟩
      go_wp2_with fail
      go_ret
      exact ⟨rfl, h6.below⟩
end Go.Proofs.Ytejjeaknpbdeaaa
