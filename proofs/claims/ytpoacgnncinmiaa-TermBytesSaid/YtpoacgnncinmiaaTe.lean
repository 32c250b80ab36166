/- Terms: triadref6's Check. -/
import Derived.Test.YtpoacgnncinmiaaTd
namespace Go.Proofs.Ytpoacgnncinmiaa
open Go.RowKit
set_option maxRecDepth 100000

set_option maxHeartbeats 4000000 in
theorem rcheck_kind (x : Tm) (h : x.k < 1 ∨ 3 < x.k) (w : World) :
    Calls Try.prog 14 #[x.val] w fun e w' => e = .returned (.int .i64 3) ∧ Below w.heap.size w w' := by
  obtain ⟨k, s, l, t⟩ := x
  unfold Tm.val
  dsimp only at h ⊢
  cases h1 : l.toList.isEmpty <;> cases h2 : t.toList.isEmpty <;> rcases h with h | h
  all_goals
    go_enter Try.func14, Try.ntmps14
    go_wp2
    go_ret
    exact ⟨rfl, ((Below.refl _ _).alloc (Nat.le_refl _) _)⟩
set_option maxHeartbeats 4000000 in
theorem rcheck_long (x : Tm) (hx : x.Ok) (hk1 : 1 ≤ x.k) (hk3 : x.k ≤ 3) (h : 60 < x.s.size ∨ 60 < x.t.size ∨ 8 < x.l.size) (w : World) :
    Calls Try.prog 14 #[x.val] w fun e w' => e = .returned (.int .i64 5) ∧ Below w.heap.size w w' := by
  obtain ⟨k, s, l, t⟩ := x
  obtain ⟨-, hs, hl, ht⟩ := hx
  unfold Tm.val
  unfold maxLen at hs hl ht
  dsimp only at h hk1 hk3 hs hl ht ⊢
  have hcase : 60 < s.size ∨ (s.size ≤ 60 ∧ 60 < t.size) ∨ (s.size ≤ 60 ∧ t.size ≤ 60 ∧ 8 < l.size) := by omega
  clear h
  cases h1 : l.toList.isEmpty <;> cases h2 : t.toList.isEmpty <;> rcases hcase with h | ⟨h, h'⟩ | ⟨h, h', h''⟩
  all_goals
    go_enter Try.func14, Try.ntmps14
    go_wp2
    go_ret
    exact ⟨rfl, ((Below.refl _ _).alloc (Nat.le_refl _) _)⟩
set_option maxHeartbeats 4000000 in
theorem rcheck_iri (x : Tm) (hx : x.Ok) (hk : x.k = 1) (h1 : x.s.size ≤ 60) (h2 : x.t.size ≤ 60) (h3 : x.l.size ≤ 8) (w : World) :
    Calls Try.prog 14 #[x.val] w fun e w' => e = .returned (.int .i64 (if barB x && refB x.s then 0 else 1)) ∧ Below w.heap.size w w' := by
  obtain ⟨k, s, l, t⟩ := x
  obtain ⟨-, hs, -, -⟩ := hx
  unfold Tm.val barB
  dsimp only at h1 h2 h3 hs hk ⊢
  subst hk
  obtain ⟨c, hc⟩ : ∃ c, c = refB s := ⟨_, rfl⟩
  rw [← hc]
  have HC := Lib.hid hc
  clear hc
  cases g1 : l.toList.isEmpty <;> cases g2 : t.toList.isEmpty
  all_goals
    go_enter Try.func14, Try.ntmps14
    go_wp2_with fail
    refine (iri_any s hs _).mono ?_
    rintro e w' ⟨rfl, rfl⟩
    rw [← HC.out]
    cases c
    all_goals
      go_wp2
      go_ret
      exact ⟨rfl, ((Below.refl _ _).alloc (Nat.le_refl _) _)⟩
set_option maxHeartbeats 8000000 in
theorem rcheck_blank (x : Tm) (hx : x.Ok) (hk : x.k = 2) (h1 : x.s.size ≤ 60) (h2 : x.t.size ≤ 60) (h3 : x.l.size ≤ 8) (w : World) :
    Calls Try.prog 14 #[x.val] w fun e w' => e = .returned (.int .i64 (if barB x && labB x.s then 0 else 1)) ∧ Below w.heap.size w w' := by
  obtain ⟨k, s, l, t⟩ := x
  obtain ⟨-, hs, -, -⟩ := hx
  unfold Tm.val barB labB
  dsimp only at h1 h2 h3 hs hk ⊢
  subst hk
  obtain ⟨c, hc⟩ : ∃ c, c = s.data.toList.all wrd := ⟨_, rfl⟩
  rw [← hc]
  have HC := Lib.hid hc
  clear hc
  cases g3 : s.toList.isEmpty with
  | true =>
    cases g1 : l.toList.isEmpty <;> cases g2 : t.toList.isEmpty
    all_goals
      go_enter Try.func14, Try.ntmps14
      go_wp2
      go_ret
      exact ⟨rfl, ((Below.refl _ _).alloc (Nat.le_refl _) _)⟩
  | false =>
    by_cases g4 : s.size ≤ 20
    · have hd : decide (s.size ≤ 20) = true := by simpa using g4
      rw [hd]
      clear hd
      cases g1 : l.toList.isEmpty <;> cases g2 : t.toList.isEmpty
      all_goals
        go_enter Try.func14, Try.ntmps14
        go_wp2_with fail
        refine (words_any s hs _).mono ?_
        rintro e w' ⟨rfl, rfl⟩
        rw [← HC.out]
        cases c
        all_goals
          go_wp2
          go_ret
          exact ⟨rfl, ((Below.refl _ _).alloc (Nat.le_refl _) _)⟩
    · have hd : decide (s.size ≤ 20) = false := by simpa using g4
      have g5 : 20 < s.size := by omega
      rw [hd]
      clear hd g4
      cases g1 : l.toList.isEmpty <;> cases g2 : t.toList.isEmpty
      all_goals
        go_enter Try.func14, Try.ntmps14
        go_wp2
        go_ret
        exact ⟨rfl, ((Below.refl _ _).alloc (Nat.le_refl _) _)⟩
theorem lan_empty {l : ByteArray} (h : l.toList.isEmpty = true) : lanB l = true := by
  rw [Lib.toList_data] at h
  unfold lanB
  rw [List.isEmpty_iff.1 h]
  rfl
set_option maxHeartbeats 8000000 in
theorem rcheck_lit (x : Tm) (hx : x.Ok) (hk : x.k = 3) (h1 : x.s.size ≤ 60) (h2 : x.t.size ≤ 60) (h3 : x.l.size ≤ 8) (w : World) :
    Calls Try.prog 14 #[x.val] w fun e w' => e = .returned (.int .i64 (if tagB x then 0 else 1)) ∧ Below w.heap.size w w' := by
  obtain ⟨k, s, l, t⟩ := x
  obtain ⟨-, hs, hl, ht⟩ := hx
  unfold Tm.val tagB
  dsimp only at h1 h2 h3 hs hl ht hk ⊢
  subst hk
  obtain ⟨b, hb⟩ : ∃ b, b = lanB l := ⟨_, rfl⟩
  obtain ⟨c, hc⟩ : ∃ c, c = refB t := ⟨_, rfl⟩
  rw [← hc, ← hb]
  have HC := Lib.hid hc
  have HB := Lib.hid hb
  clear hc hb
  cases g1 : l.toList.isEmpty with
  | true =>
    have hbt : b = true := by rw [HB.out]; exact lan_empty g1
    subst hbt
    cases g2 : t.toList.isEmpty with
    | true =>
      go_enter Try.func14, Try.ntmps14
      go_wp2_with fail
      refine (lang_any l hl _).mono ?_
      rintro e w' ⟨rfl, rfl⟩
      rw [← HB.out]
      go_wp2
      go_ret
      exact ⟨rfl, ((Below.refl _ _).alloc (Nat.le_refl _) _)⟩
    | false =>
      go_enter Try.func14, Try.ntmps14
      go_wp2_with fail
      refine (lang_any l hl _).mono ?_
      rintro e w' ⟨rfl, rfl⟩
      rw [← HB.out]
      go_wp2_with fail
      refine (iri_any t ht _).mono ?_
      rintro e w' ⟨rfl, rfl⟩
      rw [← HC.out]
      cases c
      all_goals
        go_wp2
        go_ret
        exact ⟨rfl, ((Below.refl _ _).alloc (Nat.le_refl _) _)⟩
  | false =>
    cases g2 : t.toList.isEmpty with
    | true =>
      go_enter Try.func14, Try.ntmps14
      go_wp2_with fail
      refine (lang_any l hl _).mono ?_
      rintro e w' ⟨rfl, rfl⟩
      rw [← HB.out]
      cases b
      all_goals
        go_wp2
        go_ret
        exact ⟨rfl, ((Below.refl _ _).alloc (Nat.le_refl _) _)⟩
    | false =>
      go_enter Try.func14, Try.ntmps14
      go_wp2
      go_ret
      exact ⟨rfl, ((Below.refl _ _).alloc (Nat.le_refl _) _)⟩
theorem rcheck_any (x : Tm) (hx : x.Ok) (w : World) :
    Calls Try.prog 14 #[x.val] w fun e w' => e = .returned (.int .i64 (checkOf x)) ∧ Below w.heap.size w w' := by
  unfold checkOf
  by_cases h : x.k < 1 ∨ 3 < x.k
  · rw [if_pos h]; exact rcheck_kind x h w
  rw [if_neg h]
  by_cases h2 : 60 < x.s.size ∨ 60 < x.t.size ∨ 8 < x.l.size
  · rw [if_pos h2]; exact rcheck_long x hx (by omega) (by omega) h2 w
  rw [if_neg h2]
  by_cases k1 : x.k = 1
  · rw [if_pos k1]; exact rcheck_iri x hx k1 (by omega) (by omega) (by omega) w
  rw [if_neg k1]
  by_cases k2 : x.k = 2
  · rw [if_pos k2]; exact rcheck_blank x hx k2 (by omega) (by omega) (by omega) w
  rw [if_neg k2]
  exact rcheck_lit x hx (by omega) (by omega) (by omega) (by omega) w
end Go.Proofs.Ytpoacgnncinmiaa
