/- Terms: triadref6's Check. -/
import Derived.Test.YtpoacgnncinmiaaTb
namespace Go.Proofs.Ytpoacgnncinmiaa
open Go.RowKit
set_option maxRecDepth 100000

set_option maxHeartbeats 4000000 in
theorem sign_any (c : UInt8) (w : World) :
    Calls Try.prog 63 #[.int .u8 c.toNat] w fun e w' => e = .returned (.bool (sgn c)) ∧ w = w' := by
  obtain ⟨n, hn, hlt⟩ := byte_cases c
  unfold sgn
  rw [← hn]
  clear hn
  go_enter Try.func63, Try.ntmps63
  go_wp2
  all_goals
    go_ret
    refine ⟨ret_bool ?_, rfl⟩
    rw [Bool.eq_iff_iff]
    simp
    try omega
set_option maxHeartbeats 4000000 in
theorem word_any (c : UInt8) (w : World) :
    Calls Try.prog 64 #[.int .u8 c.toNat] w fun e w' => e = .returned (.bool (wrd c)) ∧ w = w' := by
  obtain ⟨n, hn, hlt⟩ := byte_cases c
  unfold wrd sml
  rw [← hn]
  clear hn
  go_enter Try.func64, Try.ntmps64
  go_wp2
  all_goals
    go_ret
    refine ⟨ret_bool ?_, rfl⟩
    rw [Bool.eq_iff_iff]
    simp
    try omega

set_option maxHeartbeats 1000000 in
theorem iri_any (s : ByteArray) (hs : s.size ≤ maxLen) (w : World) :
    Calls Try.prog 32 #[.string s] w fun e w' => e = .returned (.bool (refB s)) ∧ w = w' := by
  unfold maxLen at hs
  unfold refB
  obtain ⟨a, ha⟩ : ∃ a, a = s.data.toList.all sgn := ⟨_, rfl⟩
  rw [← ha]
  have HAA := Lib.hid ha
  clear ha
  go_enter Try.func32, Try.ntmps32
  go_wp2
  go_loop [3, 4, 5, 6, 7, 8, 9, 10, 11, 12, 13, 14] (fun i _ _ _ _ _ _ _ _ _ _ _ => ∃ k : Nat, k ≤ s.size ∧ i = .int .i64 k ∧ (s.data.toList.take k).all sgn = true) (fun i _ _ _ _ _ _ _ _ _ _ _ => s.size - (intOf i).toNat)
  case atStart => exact ⟨0, Nat.zero_le _, rfl, rfl⟩
  case round =>
    obtain ⟨k, hk, rfl, hall⟩ := hrel
    have HALL := Lib.hid hall
    clear hall
    by_cases hlt : k < s.size
    · obtain ⟨c, hc⟩ : ∃ c : UInt8, c = s[k] := ⟨_, rfl⟩
      have HC := Lib.hid hc
      obtain ⟨b, hb⟩ : ∃ b, b = sgn c := ⟨_, rfl⟩
      have HB := Lib.hid hb
      have hix : s.data.toList[k]? = some c := by rw [hc]; simp [hlt]; rfl
      have HIX := Lib.hid hix
      clear hc hb hix
      go_wp2_with fail
      simp only [← HC.out]
      refine (sign_any c _).mono ?_
      rintro e w' ⟨rfl, rfl⟩
      rw [← HB.out]
      cases b with
      | false =>
        go_wp2_with fail
        go_ret
        exact ⟨ret_bool (by rw [HAA.out, all_false HIX.out HB.out.symm]; try simp), rfl⟩
      | true =>
        go_wp2_with fail
        go_round
        case rel => exact ⟨k + 1, by omega, by go_num, all_snoc HIX.out HALL.out HB.out.symm⟩
        case measure => simp [intOf]; omega
    · obtain rfl : k = s.size := by omega
      have hall := HALL.out
      rw [List.take_of_length_le (by simp)] at hall
      have HA := Lib.hid hall
      clear hall
      go_wp2_with fail
      all_goals
        go_ret
        exact ⟨ret_bool (by rw [HAA.out, HA.out]; try simp), rfl⟩

set_option maxHeartbeats 1000000 in
theorem words_any (s : ByteArray) (hs : s.size ≤ maxLen) (w : World) :
    Calls Try.prog 33 #[.string s] w fun e w' => e = .returned (.bool (s.data.toList.all wrd)) ∧ w = w' := by
  unfold maxLen at hs
  obtain ⟨a, ha⟩ : ∃ a, a = s.data.toList.all wrd := ⟨_, rfl⟩
  rw [← ha]
  have HAA := Lib.hid ha
  clear ha
  go_enter Try.func33, Try.ntmps33
  go_wp2
  go_loop [3, 4, 5, 6, 7, 8, 9, 10, 11, 12, 13, 14] (fun i _ _ _ _ _ _ _ _ _ _ _ => ∃ k : Nat, k ≤ s.size ∧ i = .int .i64 k ∧ (s.data.toList.take k).all wrd = true) (fun i _ _ _ _ _ _ _ _ _ _ _ => s.size - (intOf i).toNat)
  case atStart => exact ⟨0, Nat.zero_le _, rfl, rfl⟩
  case round =>
    obtain ⟨k, hk, rfl, hall⟩ := hrel
    have HALL := Lib.hid hall
    clear hall
    by_cases hlt : k < s.size
    · obtain ⟨c, hc⟩ : ∃ c : UInt8, c = s[k] := ⟨_, rfl⟩
      have HC := Lib.hid hc
      obtain ⟨b, hb⟩ : ∃ b, b = wrd c := ⟨_, rfl⟩
      have HB := Lib.hid hb
      have hix : s.data.toList[k]? = some c := by rw [hc]; simp [hlt]; rfl
      have HIX := Lib.hid hix
      clear hc hb hix
      go_wp2_with fail
      simp only [← HC.out]
      refine (word_any c _).mono ?_
      rintro e w' ⟨rfl, rfl⟩
      rw [← HB.out]
      cases b with
      | false =>
        go_wp2_with fail
        go_ret
        exact ⟨ret_bool (by rw [HAA.out, all_false HIX.out HB.out.symm]; try simp), rfl⟩
      | true =>
        go_wp2_with fail
        go_round
        case rel => exact ⟨k + 1, by omega, by go_num, all_snoc HIX.out HALL.out HB.out.symm⟩
        case measure => simp [intOf]; omega
    · obtain rfl : k = s.size := by omega
      have hall := HALL.out
      rw [List.take_of_length_le (by simp)] at hall
      have HA := Lib.hid hall
      clear hall
      go_wp2_with fail
      all_goals
        go_ret
        exact ⟨ret_bool (by rw [HAA.out, HA.out]; try simp), rfl⟩

set_option maxHeartbeats 2000000 in
theorem lang_any (s : ByteArray) (hs : s.size ≤ maxLen) (w : World) :
    Calls Try.prog 34 #[.string s] w fun e w' => e = .returned (.bool (lanB s)) ∧ w = w' := by
  unfold maxLen at hs
  obtain ⟨a, ha⟩ : ∃ a, a = lanB s := ⟨_, rfl⟩
  rw [← ha]
  have HAA := Lib.hid ha
  clear ha
  go_enter Try.func34, Try.ntmps34
  go_wp2
  go_loop [3, 4, 5, 6, 7, 8, 9, 10, 11, 12, 13, 14, 15, 16, 17, 18, 19, 20, 21, 22, 23, 24, 25, 26, 27, 28, 29] (fun i _ _ _ _ _ _ _ _ _ _ _ _ _ _ _ _ _ _ _ _ _ _ _ _ _ _ => ∃ k : Nat, k ≤ s.size ∧ i = .int .i64 k ∧ (s.data.toList.take k).all lng = true ∧ (k = 0 ∨ s.data.toList[0]? ≠ some 45)) (fun i _ _ _ _ _ _ _ _ _ _ _ _ _ _ _ _ _ _ _ _ _ _ _ _ _ _ => s.size - (intOf i).toNat)
  case atStart => exact ⟨0, Nat.zero_le _, rfl, rfl, .inl rfl⟩
  case round =>
    obtain ⟨k, hk, rfl, hall, h0⟩ := hrel
    have HALL := Lib.hid hall
    have H0 := Lib.hid h0
    clear hall h0
    by_cases hlt : k < s.size
    · obtain ⟨c, hc⟩ : ∃ c : UInt8, c = s[k] := ⟨_, rfl⟩
      have HC := Lib.hid hc
      have hix : s.data.toList[k]? = some c := by rw [hc]; simp [hlt]; rfl
      have HIX := Lib.hid hix
      obtain ⟨n, hn, hn2⟩ := byte_cases c
      have HN := Lib.hid hn
      have hcn : s[k].toNat = n := by rw [hn, hc]
      clear hc hix
      have bad : lng c = false → a = false := fun h => by rw [HAA.out]; unfold lanB; rw [all_false HIX.out h]; simp
      have BAD := Lib.hid bad
      clear bad
      have hcase : (97 ≤ n ∧ n ≤ 122) ∨ (n = 45 ∧ 0 < k) ∨ (n < 97 ∧ n ≠ 45) ∨ 122 < n ∨ (n = 45 ∧ k = 0) := by omega
      rcases hcase with ⟨g1, g2⟩ | ⟨g1, g2⟩ | ⟨g1, g2⟩ | g1 | ⟨g1, g2⟩
      · have hl : lng c = true := by unfold lng sml; rw [← hn]; simp; omega
        have HL := Lib.hid hl
        clear hn hl
        go_wp2_with fail
        go_round
        case rel => exact ⟨k + 1, by omega, by go_num, all_snoc HIX.out HALL.out HL.out, (H0.out.elim (fun h => .inr (by subst h; rw [HIX.out]; intro h; cases h; have := HN.out; simp at this; omega)) .inr)⟩
        case measure => simp [intOf]; omega
      · have hl : lng c = true := by unfold lng sml; rw [← hn]; simp; omega
        have HL := Lib.hid hl
        subst g1
        clear hn hl
        go_wp2_with fail
        go_round
        case rel => exact ⟨k + 1, by omega, by go_num, all_snoc HIX.out HALL.out HL.out, H0.out.elim (fun h => by omega) .inr⟩
        case measure => simp [intOf]; omega
      · have hl : lng c = false := by unfold lng sml; rw [← hn]; simp; omega
        have hb := BAD.out hl
        have HL := Lib.hid hb
        have hn45 : ((n : Int) == 45) = false := by simp; omega
        have hn45' : ((n : Int) != 45) = true := by simp; omega
        clear hn hl hb g2
        go_wp2_with fail
        go_ret
        exact ⟨ret_bool HL.out.symm, rfl⟩
      · have hl : lng c = false := by unfold lng sml; rw [← hn]; simp; omega
        have hb := BAD.out hl
        have HL := Lib.hid hb
        have hn45 : ((n : Int) == 45) = false := by simp; omega
        have hn45' : ((n : Int) != 45) = true := by simp; omega
        clear hn hl hb
        go_wp2_with fail
        go_ret
        exact ⟨ret_bool HL.out.symm, rfl⟩
      · subst g1 g2
        have hb : a = false := by
          rw [HAA.out]
          unfold lanB
          have hc45 : c = 45 := by have := HN.out; exact UInt8.toNat_inj.1 this.symm
          have h0 := HIX.out
          rw [hc45] at h0
          cases hd : s.data.toList with
          | nil => rw [hd] at h0; simp at h0
          | cons x t => rw [hd] at h0; simp at h0; subst h0; simp [Lib.hasPrefix]
        have HL := Lib.hid hb
        clear hn hb
        go_wp2_with fail
        go_ret
        exact ⟨ret_bool HL.out.symm, rfl⟩
    · obtain rfl : k = s.size := by omega
      have hall := HALL.out
      rw [List.take_of_length_le (by simp)] at hall
      have hb : a = true := by
        rw [HAA.out]
        unfold lanB
        rw [hall]
        have h0 := H0.out
        cases hd : s.data.toList with
        | nil => rfl
        | cons x t =>
          rw [hd] at h0
          have hx : x ≠ 45 := by
            rintro rfl
            rcases h0 with h0 | h0
            · have := Lib.size_eq s
              rw [hd] at this
              simp at this
              omega
            · simp at h0
          simp [Lib.hasPrefix, List.isPrefixOf, Ne.symm hx]
      have HA := Lib.hid hb
      clear hall hb
      go_wp2_with fail
      go_ret
      exact ⟨ret_bool HA.out.symm, rfl⟩

end Go.Proofs.Ytpoacgnncinmiaa
