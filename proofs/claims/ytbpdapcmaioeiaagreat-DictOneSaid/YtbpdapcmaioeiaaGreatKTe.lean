/- Te -/
import Derived.Test.YtbpdapcmaioeiaaGreatKTa
namespace Go.Proofs.YtbpdapcmaioeiaaGreat
open Go.RowKit
set_option maxRecDepth 100000
set_option maxHeartbeats 4000000 in
theorem sign_any (c : UInt8) (w : World) :
 Calls Tryz.prog 137 #[.int .u8 c.toNat] w fun e w' => e = .returned (.bool (sgn c)) ∧ w = w' := by
 obtain ⟨n, hn, hlt⟩ := byte_cases c
 unfold sgn
 rw [← hn]
 clear hn
 go_enter Tryz.func137, Tryz.ntmps137
 go_wp2
 all_goals
  go_ret
  refine ⟨ret_bool ?_, rfl⟩
  rw [Bool.eq_iff_iff]
  simp
  try omega
set_option maxHeartbeats 4000000 in
theorem word_any (c : UInt8) (w : World) :
 Calls Tryz.prog 138 #[.int .u8 c.toNat] w fun e w' => e = .returned (.bool (wrd c)) ∧ w = w' := by
 obtain ⟨n, hn, hlt⟩ := byte_cases c
 unfold wrd sml
 rw [← hn]
 clear hn
 go_enter Tryz.func138, Tryz.ntmps138
 go_wp2
 all_goals
  go_ret
  refine ⟨ret_bool ?_, rfl⟩
  rw [Bool.eq_iff_iff]
  simp
  try omega
set_option maxHeartbeats 1000000 in
theorem iri_any (s : ByteArray) (hs : s.size ≤ maxLen) (w : World) :
 Calls Tryz.prog 97 #[.string s] w fun e w' => e = .returned (.bool (refB s)) ∧ w = w' := by
 unfold maxLen at hs
 unfold refB
 obtain ⟨a, ha⟩ : ∃ a, a = s.data.toList.all sgn := ⟨_, rfl⟩
 rw [← ha]
 have HAA := Lib.hid ha
 clear ha
 go_enter Tryz.func97, Tryz.ntmps97
 go_wp2
 go_loop [3, 4, 5, 6, 7, 8, 9, 10, 11, 12, 13, 14] (fun i _ _ _ _ _ _ _ _ _ _ _ => ∃ k : Nat, k ≤ s.size ∧ i = .int .i64 k ∧ (s.data.toList.take k).all sgn = true) (fun i _ _ _ _ _ _ _ _ _ _ _ => s.size - (intOf i).toNat)
 case atStart => exact ⟨0, Nat.zero_le _, rfl, rfl⟩
 case round =>
  obtain ⟨k, hk, rfl, hall⟩ := hrel
  have HALL := Lib.hid hall
  clear hall
  by_cases hlt : k < s.size
  ·obtain ⟨c, hc⟩ : ∃ c : UInt8, c = s[k] := ⟨_, rfl⟩
   have HC := Lib.hid hc
   obtain ⟨b, hb⟩ : ∃ b, b = sgn c := ⟨_, rfl⟩
   have HB := Lib.hid hb
   have hix : s.data.toList[k]? = some c := by rw [hc]; simp [hlt]; rfl
   have HIX := Lib.hid hix
   clear hc hb hix
   go_wp2_with fail
   simp only [← HC.out]
   refine (sign_any c _).mono ?_
   rintro e w' ⟨rfl, rfl⟩
   rw [← HB.out]
   cases b with
   | false =>
    go_wp2_with fail
    go_ret
    exact ⟨ret_bool (by rw [HAA.out, all_false HIX.out HB.out.symm]; try simp), rfl⟩
   | true =>
    go_wp2_with fail
    go_round
    case rel => exact ⟨k + 1, by omega, by go_num, all_snoc HIX.out HALL.out HB.out.symm⟩
    case measure => simp [intOf]; omega
  ·obtain rfl : k = s.size := by omega
   have hall := HALL.out
   rw [List.take_of_length_le (by simp)] at hall
   have HA := Lib.hid hall
   clear hall
   go_wp2_with fail
   all_goals
    go_ret
    exact ⟨ret_bool (by rw [HAA.out, HA.out]; try simp), rfl⟩
set_option maxHeartbeats 1000000 in
theorem words_any (s : ByteArray) (hs : s.size ≤ maxLen) (w : World) :
 Calls Tryz.prog 98 #[.string s] w fun e w' => e = .returned (.bool (s.data.toList.all wrd)) ∧ w = w' := by
 unfold maxLen at hs
 obtain ⟨a, ha⟩ : ∃ a, a = s.data.toList.all wrd := ⟨_, rfl⟩
 rw [← ha]
 have HAA := Lib.hid ha
 clear ha
 go_enter Tryz.func98, Tryz.ntmps98
 go_wp2
 go_loop [3, 4, 5, 6, 7, 8, 9, 10, 11, 12, 13, 14] (fun i _ _ _ _ _ _ _ _ _ _ _ => ∃ k : Nat, k ≤ s.size ∧ i = .int .i64 k ∧ (s.data.toList.take k).all wrd = true) (fun i _ _ _ _ _ _ _ _ _ _ _ => s.size - (intOf i).toNat)
 case atStart => exact ⟨0, Nat.zero_le _, rfl, rfl⟩
 case round =>
  obtain ⟨k, hk, rfl, hall⟩ := hrel
  have HALL := Lib.hid hall
  clear hall
  by_cases hlt : k < s.size
  ·obtain ⟨c, hc⟩ : ∃ c : UInt8, c = s[k] := ⟨_, rfl⟩
   have HC := Lib.hid hc
   obtain ⟨b, hb⟩ : ∃ b, b = wrd c := ⟨_, rfl⟩
   have HB := Lib.hid hb
   have hix : s.data.toList[k]? = some c := by rw [hc]; simp [hlt]; rfl
   have HIX := Lib.hid hix
   clear hc hb hix
   go_wp2_with fail
   simp only [← HC.out]
   refine (word_any c _).mono ?_
   rintro e w' ⟨rfl, rfl⟩
   rw [← HB.out]
   cases b with
   | false =>
    go_wp2_with fail
    go_ret
    exact ⟨ret_bool (by rw [HAA.out, all_false HIX.out HB.out.symm]; try simp), rfl⟩
   | true =>
    go_wp2_with fail
    go_round
    case rel => exact ⟨k + 1, by omega, by go_num, all_snoc HIX.out HALL.out HB.out.symm⟩
    case measure => simp [intOf]; omega
  ·obtain rfl : k = s.size := by omega
   have hall := HALL.out
   rw [List.take_of_length_le (by simp)] at hall
   have HA := Lib.hid hall
   clear hall
   go_wp2_with fail
   all_goals
    go_ret
    exact ⟨ret_bool (by rw [HAA.out, HA.out]; try simp), rfl⟩
set_option maxHeartbeats 2000000 in
theorem lang_any (s : ByteArray) (hs : s.size ≤ maxLen) (w : World) :
 Calls Tryz.prog 99 #[.string s] w fun e w' => e = .returned (.bool (lanB s)) ∧ w = w' := by
 unfold maxLen at hs
 obtain ⟨a, ha⟩ : ∃ a, a = lanB s := ⟨_, rfl⟩
 rw [← ha]
 have HAA := Lib.hid ha
 clear ha
 go_enter Tryz.func99, Tryz.ntmps99
 go_wp2
 go_loop [3, 4, 5, 6, 7, 8, 9, 10, 11, 12, 13, 14, 15, 16, 17, 18, 19, 20, 21, 22, 23, 24, 25, 26, 27, 28, 29] (fun i _ _ _ _ _ _ _ _ _ _ _ _ _ _ _ _ _ _ _ _ _ _ _ _ _ _ => ∃ k : Nat, k ≤ s.size ∧ i = .int .i64 k ∧ (s.data.toList.take k).all lng = true ∧ (k = 0 ∨ s.data.toList[0]? ≠ some 45)) (fun i _ _ _ _ _ _ _ _ _ _ _ _ _ _ _ _ _ _ _ _ _ _ _ _ _ _ => s.size - (intOf i).toNat)
 case atStart => exact ⟨0, Nat.zero_le _, rfl, rfl, .inl rfl⟩
 case round =>
  obtain ⟨k, hk, rfl, hall, h0⟩ := hrel
  have HALL := Lib.hid hall
  have H0 := Lib.hid h0
  clear hall h0
  by_cases hlt : k < s.size
  ·obtain ⟨c, hc⟩ : ∃ c : UInt8, c = s[k] := ⟨_, rfl⟩
   have HC := Lib.hid hc
   have hix : s.data.toList[k]? = some c := by rw [hc]; simp [hlt]; rfl
   have HIX := Lib.hid hix
   obtain ⟨n, hn, hn2⟩ := byte_cases c
   have HN := Lib.hid hn
   have hcn : s[k].toNat = n := by rw [hn, hc]
   clear hc hix
   have bad : lng c = false → a = false := fun h => by rw [HAA.out]; unfold lanB; rw [all_false HIX.out h]; simp
   have BAD := Lib.hid bad
   clear bad
   have hcase : (97 ≤ n ∧ n ≤ 122) ∨ (n = 45 ∧ 0 < k) ∨ (n < 97 ∧ n ≠ 45) ∨ 122 < n ∨ (n = 45 ∧ k = 0) := by omega
   rcases hcase with ⟨g1, g2⟩ | ⟨g1, g2⟩ | ⟨g1, g2⟩ | g1 | ⟨g1, g2⟩
   ·have hl : lng c = true := by unfold lng sml; rw [← hn]; simp; omega
    have HL := Lib.hid hl
    clear hn hl
    go_wp2_with fail
    go_round
    case rel => exact ⟨k + 1, by omega, by go_num, all_snoc HIX.out HALL.out HL.out, (H0.out.elim (fun h => .inr (by subst h; rw [HIX.out]; intro h; cases h; have := HN.out; simp at this; omega)) .inr)⟩
    case measure => simp [intOf]; omega
   ·have hl : lng c = true := by unfold lng sml; rw [← hn]; simp; omega
    have HL := Lib.hid hl
    subst g1
    clear hn hl
    go_wp2_with fail
    go_round
    case rel => exact ⟨k + 1, by omega, by go_num, all_snoc HIX.out HALL.out HL.out, H0.out.elim (fun h => by omega) .inr⟩
    case measure => simp [intOf]; omega
   ·have hl : lng c = false := by unfold lng sml; rw [← hn]; simp; omega
    have hb := BAD.out hl
    have HL := Lib.hid hb
    have hn45 : ((n : Int) == 45) = false := by simp; omega
    have hn45' : ((n : Int) != 45) = true := by simp; omega
    clear hn hl hb g2
    go_wp2_with fail
    go_ret
    exact ⟨ret_bool HL.out.symm, rfl⟩
   ·have hl : lng c = false := by unfold lng sml; rw [← hn]; simp; omega
    have hb := BAD.out hl
    have HL := Lib.hid hb
    have hn45 : ((n : Int) == 45) = false := by simp; omega
    have hn45' : ((n : Int) != 45) = true := by simp; omega
    clear hn hl hb
    go_wp2_with fail
    go_ret
    exact ⟨ret_bool HL.out.symm, rfl⟩
   ·subst g1 g2
    have hb : a = false := by
     rw [HAA.out]
     unfold lanB
     have hc45 : c = 45 := by have := HN.out; exact UInt8.toNat_inj.1 this.symm
     have h0 := HIX.out
     rw [hc45] at h0
     cases hd : s.data.toList with
     | nil => rw [hd] at h0; simp at h0
     | cons x t => rw [hd] at h0; simp at h0; subst h0; simp [Lib.hasPrefix]
    have HL := Lib.hid hb
    clear hn hb
    go_wp2_with fail
    go_ret
    exact ⟨ret_bool HL.out.symm, rfl⟩
  ·obtain rfl : k = s.size := by omega
   have hall := HALL.out
   rw [List.take_of_length_le (by simp)] at hall
   have hb : a = true := by
    rw [HAA.out]
    unfold lanB
    rw [hall]
    have h0 := H0.out
    cases hd : s.data.toList with
    | nil => rfl
    | cons x t =>
     rw [hd] at h0
     have hx : x ≠ 45 := by
      rintro rfl
      rcases h0 with h0 | h0
      ·have := Lib.size_eq s
       rw [hd] at this
       simp at this
       omega
      ·simp at h0
     simp [Lib.hasPrefix, List.isPrefixOf, Ne.symm hx]
   have HA := Lib.hid hb
   clear hall hb
   go_wp2_with fail
   go_ret
   exact ⟨ret_bool HA.out.symm, rfl⟩
end Go.Proofs.YtbpdapcmaioeiaaGreat
namespace Go.Proofs.YtbpdapcmaioeiaaGreat
open Go.RowKit
set_option maxRecDepth 100000
set_option maxHeartbeats 4000000 in
theorem rcheck_kind (x : Tm) (h : x.k < 1 ∨ 3 < x.k) (w : World) :
 Calls Tryz.prog 61 #[x.val] w fun e w' => e = .returned (.int .i64 3) ∧ Below w.heap.size w w' := by
 obtain ⟨k, s, l, t⟩ := x
 unfold Tm.val
 dsimp only at h ⊢
 cases h1 : l.toList.isEmpty <;> cases h2 : t.toList.isEmpty <;> rcases h with h | h
 all_goals
  go_enter Tryz.func61, Tryz.ntmps61
  go_wp2
  go_ret
  exact ⟨rfl, ((Below.refl _ _).alloc (Nat.le_refl _) _)⟩
set_option maxHeartbeats 4000000 in
theorem rcheck_long (x : Tm) (hx : x.Ok) (hk1 : 1 ≤ x.k) (hk3 : x.k ≤ 3) (h : 60 < x.s.size ∨ 60 < x.t.size ∨ 8 < x.l.size) (w : World) :
 Calls Tryz.prog 61 #[x.val] w fun e w' => e = .returned (.int .i64 5) ∧ Below w.heap.size w w' := by
 obtain ⟨k, s, l, t⟩ := x
 obtain ⟨-, hs, hl, ht⟩ := hx
 unfold Tm.val
 unfold maxLen at hs hl ht
 dsimp only at h hk1 hk3 hs hl ht ⊢
 have hcase : 60 < s.size ∨ (s.size ≤ 60 ∧ 60 < t.size) ∨ (s.size ≤ 60 ∧ t.size ≤ 60 ∧ 8 < l.size) := by omega
 clear h
 cases h1 : l.toList.isEmpty <;> cases h2 : t.toList.isEmpty <;> rcases hcase with h | ⟨h, h'⟩ | ⟨h, h', h''⟩
 all_goals
  go_enter Tryz.func61, Tryz.ntmps61
  go_wp2
  go_ret
  exact ⟨rfl, ((Below.refl _ _).alloc (Nat.le_refl _) _)⟩
set_option maxHeartbeats 4000000 in
theorem rcheck_iri (x : Tm) (hx : x.Ok) (hk : x.k = 1) (h1 : x.s.size ≤ 60) (h2 : x.t.size ≤ 60) (h3 : x.l.size ≤ 8) (w : World) :
 Calls Tryz.prog 61 #[x.val] w fun e w' => e = .returned (.int .i64 (if barB x && refB x.s then 0 else 1)) ∧ Below w.heap.size w w' := by
 obtain ⟨k, s, l, t⟩ := x
 obtain ⟨-, hs, -, -⟩ := hx
 unfold Tm.val barB
 dsimp only at h1 h2 h3 hs hk ⊢
 subst hk
 obtain ⟨c, hc⟩ : ∃ c, c = refB s := ⟨_, rfl⟩
 rw [← hc]
 have HC := Lib.hid hc
 clear hc
 cases g1 : l.toList.isEmpty <;> cases g2 : t.toList.isEmpty
 all_goals
  go_enter Tryz.func61, Tryz.ntmps61
  go_wp2_with fail
  refine (iri_any s hs _).mono ?_
  rintro e w' ⟨rfl, rfl⟩
  rw [← HC.out]
  cases c
  all_goals
   go_wp2
   go_ret
   exact ⟨rfl, ((Below.refl _ _).alloc (Nat.le_refl _) _)⟩
set_option maxHeartbeats 8000000 in
theorem rcheck_blank (x : Tm) (hx : x.Ok) (hk : x.k = 2) (h1 : x.s.size ≤ 60) (h2 : x.t.size ≤ 60) (h3 : x.l.size ≤ 8) (w : World) :
 Calls Tryz.prog 61 #[x.val] w fun e w' => e = .returned (.int .i64 (if barB x && labB x.s then 0 else 1)) ∧ Below w.heap.size w w' := by
 obtain ⟨k, s, l, t⟩ := x
 obtain ⟨-, hs, -, -⟩ := hx
 unfold Tm.val barB labB
 dsimp only at h1 h2 h3 hs hk ⊢
 subst hk
 obtain ⟨c, hc⟩ : ∃ c, c = s.data.toList.all wrd := ⟨_, rfl⟩
 rw [← hc]
 have HC := Lib.hid hc
 clear hc
 cases g3 : s.toList.isEmpty with
 | true =>
  cases g1 : l.toList.isEmpty <;> cases g2 : t.toList.isEmpty
  all_goals
   go_enter Tryz.func61, Tryz.ntmps61
   go_wp2
   go_ret
   exact ⟨rfl, ((Below.refl _ _).alloc (Nat.le_refl _) _)⟩
 | false =>
  by_cases g4 : s.size ≤ 20
  ·have hd : decide (s.size ≤ 20) = true := by simpa using g4
   rw [hd]
   clear hd
   cases g1 : l.toList.isEmpty <;> cases g2 : t.toList.isEmpty
   all_goals
    go_enter Tryz.func61, Tryz.ntmps61
    go_wp2_with fail
    refine (words_any s hs _).mono ?_
    rintro e w' ⟨rfl, rfl⟩
    rw [← HC.out]
    cases c
    all_goals
     go_wp2
     go_ret
     exact ⟨rfl, ((Below.refl _ _).alloc (Nat.le_refl _) _)⟩
  ·have hd : decide (s.size ≤ 20) = false := by simpa using g4
   have g5 : 20 < s.size := by omega
   rw [hd]
   clear hd g4
   cases g1 : l.toList.isEmpty <;> cases g2 : t.toList.isEmpty
   all_goals
    go_enter Tryz.func61, Tryz.ntmps61
    go_wp2
    go_ret
    exact ⟨rfl, ((Below.refl _ _).alloc (Nat.le_refl _) _)⟩
theorem lan_empty {l : ByteArray} (h : l.toList.isEmpty = true) : lanB l = true := by
 rw [Lib.toList_data] at h
 unfold lanB
 rw [List.isEmpty_iff.1 h]
 rfl
set_option maxHeartbeats 8000000 in
theorem rcheck_lit (x : Tm) (hx : x.Ok) (hk : x.k = 3) (h1 : x.s.size ≤ 60) (h2 : x.t.size ≤ 60) (h3 : x.l.size ≤ 8) (w : World) :
 Calls Tryz.prog 61 #[x.val] w fun e w' => e = .returned (.int .i64 (if tagB x then 0 else 1)) ∧ Below w.heap.size w w' := by
 obtain ⟨k, s, l, t⟩ := x
 obtain ⟨-, hs, hl, ht⟩ := hx
 unfold Tm.val tagB
 dsimp only at h1 h2 h3 hs hl ht hk ⊢
 subst hk
 obtain ⟨b, hb⟩ : ∃ b, b = lanB l := ⟨_, rfl⟩
 obtain ⟨c, hc⟩ : ∃ c, c = refB t := ⟨_, rfl⟩
 rw [← hc, ← hb]
 have HC := Lib.hid hc
 have HB := Lib.hid hb
 clear hc hb
 cases g1 : l.toList.isEmpty with
 | true =>
  have hbt : b = true := by rw [HB.out]; exact lan_empty g1
  subst hbt
  cases g2 : t.toList.isEmpty with
  | true =>
   go_enter Tryz.func61, Tryz.ntmps61
   go_wp2_with fail
   refine (lang_any l hl _).mono ?_
   rintro e w' ⟨rfl, rfl⟩
   rw [← HB.out]
   go_wp2
   go_ret
   exact ⟨rfl, ((Below.refl _ _).alloc (Nat.le_refl _) _)⟩
  | false =>
   go_enter Tryz.func61, Tryz.ntmps61
   go_wp2_with fail
   refine (lang_any l hl _).mono ?_
   rintro e w' ⟨rfl, rfl⟩
   rw [← HB.out]
   go_wp2_with fail
   refine (iri_any t ht _).mono ?_
   rintro e w' ⟨rfl, rfl⟩
   rw [← HC.out]
   cases c
   all_goals
    go_wp2
    go_ret
    exact ⟨rfl, ((Below.refl _ _).alloc (Nat.le_refl _) _)⟩
 | false =>
  cases g2 : t.toList.isEmpty with
  | true =>
   go_enter Tryz.func61, Tryz.ntmps61
   go_wp2_with fail
   refine (lang_any l hl _).mono ?_
   rintro e w' ⟨rfl, rfl⟩
   rw [← HB.out]
   cases b
   all_goals
    go_wp2
    go_ret
    exact ⟨rfl, ((Below.refl _ _).alloc (Nat.le_refl _) _)⟩
  | false =>
   go_enter Tryz.func61, Tryz.ntmps61
   go_wp2
   go_ret
   exact ⟨rfl, ((Below.refl _ _).alloc (Nat.le_refl _) _)⟩
theorem rcheck_any (x : Tm) (hx : x.Ok) (w : World) :
 Calls Tryz.prog 61 #[x.val] w fun e w' => e = .returned (.int .i64 (checkOf x)) ∧ Below w.heap.size w w' := by
 unfold checkOf
 by_cases h : x.k < 1 ∨ 3 < x.k
 ·rw [if_pos h]; exact rcheck_kind x h w
 rw [if_neg h]
 by_cases h2 : 60 < x.s.size ∨ 60 < x.t.size ∨ 8 < x.l.size
 ·rw [if_pos h2]; exact rcheck_long x hx (by omega) (by omega) h2 w
 rw [if_neg h2]
 by_cases k1 : x.k = 1
 ·rw [if_pos k1]; exact rcheck_iri x hx k1 (by omega) (by omega) (by omega) w
 rw [if_neg k1]
 by_cases k2 : x.k = 2
 ·rw [if_pos k2]; exact rcheck_blank x hx k2 (by omega) (by omega) (by omega) w
 rw [if_neg k2]
 exact rcheck_lit x hx (by omega) (by omega) (by omega) (by omega) w
end Go.Proofs.YtbpdapcmaioeiaaGreat
