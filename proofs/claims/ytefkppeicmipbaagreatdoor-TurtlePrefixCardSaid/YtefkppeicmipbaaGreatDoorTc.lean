/- Tc -/
import Derived.Test.YtefkppeicmipbaaGreatDoorTa
namespace Go.Proofs.YtefkppeicmipbaaGreatDoor
open Go.RowKit
set_option maxRecDepth 100000
set_option maxHeartbeats 1000000 in
theorem bare_any (x : Tm) (w : World) :
    Calls Tryz.prog 119 #[x.val] w fun e w' => e = .returned (.bool (barB x)) ∧ Below w.heap.size w w' := by
  obtain ⟨k, s, l, t⟩ := x
  unfold Tm.val barB
  dsimp only
  go_enter Tryz.func119, Tryz.ntmps119
  go_wp2
  all_goals
    go_ret
    exact ⟨ret_bool (by simp_all), ((Below.refl _ _).alloc (Nat.le_refl _) _)⟩
set_option maxHeartbeats 1000000 in
theorem tagged_any (x : Tm) (hx : x.Ok) (w : World) :
    Calls Tryz.prog 122 #[x.val] w fun e w' => e = .returned (.bool (tagB x)) ∧ Below w.heap.size w w' := by
  obtain ⟨k, s, l, t⟩ := x
  obtain ⟨-, -, hl, ht⟩ := hx
  unfold Tm.val tagB
  dsimp only at hl ht ⊢
  obtain ⟨b, hb⟩ : ∃ b, b = refB t := ⟨_, rfl⟩
  obtain ⟨c, hc⟩ : ∃ c, c = lanB l := ⟨_, rfl⟩
  rw [← hb, ← hc]
  have HB := Lib.hid hb
  have HC := Lib.hid hc
  clear hb hc
  cases h1 : l.toList.isEmpty <;> cases h2 : t.toList.isEmpty
  · go_enter Tryz.func122, Tryz.ntmps122
    go_wp2
    go_ret
    exact ⟨rfl, ((Below.refl _ _).alloc (Nat.le_refl _) _)⟩
  · go_enter Tryz.func122, Tryz.ntmps122
    go_wp2_with fail
    refine (language_any l hl _).mono ?_
    rintro e w' ⟨rfl, rfl⟩
    rw [← HC.out]
    go_wp2
    go_ret
    exact ⟨rfl, ((Below.refl _ _).alloc (Nat.le_refl _) _)⟩
  · go_enter Tryz.func122, Tryz.ntmps122
    go_wp2_with fail
    refine (reference_any t ht _).mono ?_
    rintro e w' ⟨rfl, rfl⟩
    rw [← HB.out]
    go_wp2
    go_ret
    exact ⟨rfl, ((Below.refl _ _).alloc (Nat.le_refl _) _)⟩
  · go_enter Tryz.func122, Tryz.ntmps122
    go_wp2
    go_ret
    exact ⟨rfl, ((Below.refl _ _).alloc (Nat.le_refl _) _)⟩
set_option maxHeartbeats 1000000 in
theorem check_kind (x : Tm) (h : x.k < 1 ∨ 3 < x.k) (w : World) :
    Calls Tryz.prog 102 #[x.val] w fun e w' => e = .returned (.int .i64 3) ∧ Below w.heap.size w w' := by
  obtain ⟨k, s, l, t⟩ := x
  unfold Tm.val
  dsimp only at h ⊢
  have hr : rankOf k = 3 := by unfold rankOf; rw [if_neg (by omega), if_neg (by omega), if_neg (by omega)]
  have HR := Lib.hid hr
  clear hr
  go_enter Tryz.func102, Tryz.ntmps102
  go_wp2
  refine wp_scope_jumps 0 (fun _ _ => False) (fun _ _ => 0) rfl ?_ (fun _ _ h => h.elim)
  go_wp2_with fail
  refine (rank_any k _).mono ?_
  rintro e w' ⟨rfl, rfl⟩
  rw [HR.out]
  go_wp2
  simp only [Exit.jump]
  go_ret
  exact ⟨rfl, ((Below.refl _ _).alloc (Nat.le_refl _) _)⟩
theorem rank_ok {k : Int} (h : ¬ (k < 1 ∨ 3 < k)) : (rankOf k == 3) = false := by
  have : k = 1 ∨ k = 2 ∨ k = 3 := by omega
  rcases this with rfl | rfl | rfl <;> rfl
set_option maxHeartbeats 2000000 in
theorem check_long (x : Tm) (hx : x.Ok) (hk : ¬ (x.k < 1 ∨ 3 < x.k)) (h : 60 < x.s.size ∨ 60 < x.t.size ∨ 8 < x.l.size) (w : World) :
    Calls Tryz.prog 102 #[x.val] w fun e w' => e = .returned (.int .i64 5) ∧ Below w.heap.size w w' := by
  obtain ⟨k, s, l, t⟩ := x
  obtain ⟨-, hs, hl, ht⟩ := hx
  unfold Tm.val
  unfold maxLen at hs hl ht
  dsimp only at h hk hs hl ht ⊢
  have hr3 := rank_ok hk
  obtain ⟨r, hr2⟩ : ∃ r, r = rankOf k := ⟨_, rfl⟩
  rw [← hr2] at hr3
  have HR := Lib.hid hr2
  clear hr2 hk
  rcases h with h | h | h
  all_goals
    go_enter Tryz.func102, Tryz.ntmps102
    go_wp2
    refine wp_scope_jumps 0 (fun _ _ => False) (fun _ _ => 0) rfl ?_ (fun _ _ h => h.elim)
    go_wp2_with fail
    refine (rank_any k _).mono ?_
    rintro e w' ⟨rfl, rfl⟩
    rw [← HR.out]
    go_wp2
    all_goals
      first
      | (simp only [Exit.jump]; go_ret; exact ⟨rfl, ((Below.refl _ _).alloc (Nat.le_refl _) _)⟩)
      | (exfalso; omega)
set_option maxHeartbeats 2000000 in
theorem check_iri (x : Tm) (hx : x.Ok) (hk : x.k = 1) (h1 : x.s.size ≤ 60) (h2 : x.t.size ≤ 60) (h3 : x.l.size ≤ 8) (w : World) :
    Calls Tryz.prog 102 #[x.val] w fun e w' => e = .returned (.int .i64 (if barB x && refB x.s then 0 else 1)) ∧ Below w.heap.size w w' := by
  have hbx := bare_any x
  obtain ⟨k, s, l, t⟩ := x
  obtain ⟨-, hs, -, -⟩ := hx
  unfold Tm.val at hbx ⊢
  dsimp only at h1 h2 h3 hs hk hbx ⊢
  subst hk
  obtain ⟨b, hb⟩ : ∃ b, b = barB ⟨1, s, l, t⟩ := ⟨_, rfl⟩
  obtain ⟨c, hc⟩ : ∃ c, c = refB s := ⟨_, rfl⟩
  rw [← hc]
  have HC := Lib.hid hc
  clear hc
  rw [← hb] at hbx ⊢
  clear hb
  have HX := Lib.hid hbx
  clear hbx
  go_enter Tryz.func102, Tryz.ntmps102
  go_wp2
  cases b with
  | true =>
    cases c with
    | true =>
      refine wp_scope_jumps 0 (fun _ _ => False) (fun _ _ => 0) rfl ?_ (fun _ _ h => h.elim)
      go_wp2_with fail
      refine (rank_any 1 _).mono ?_
      rintro e w' ⟨rfl, rfl⟩
      rw [show rankOf 1 = 1 from rfl]
      go_wp2_with fail
      all_goals first | (exfalso; omega) | skip
      all_goals (refine (HX.out _).mono ?_; rintro e w1 ⟨rfl, hb1⟩)
      all_goals
        have hbel : Below w.heap.size w w1 := ((Below.refl _ _).alloc (Nat.le_refl _) _).trans (hb1.mono (by simp))
        clear HX
        obtain ⟨hc1, hf1⟩ := bcell hb1
        clear hb1
        have HBEL := Lib.hid hbel
        clear hbel
        go_wp2_with fail
        refine (reference_any s hs _).mono ?_
        rintro e w' ⟨rfl, rfl⟩
        rw [← HC.out]
        clear hc1 hf1 HC
        go_wp2_with fail
        simp only [Exit.jump]
        go_ret
        exact ⟨rfl, HBEL.out⟩
    | false =>
      refine wp_scope_jumps 0 (fun a' w' => ∃ u0 u1 u2 u3 u4 u5 u6 u7 u8 u9 u10 u11 u12 u13 u14 u15 u16 u17 u18 u19 u20 u21 u22 u23 u24 u25 u26 u27 u28 u29 u30 u31 u32 u33 u34 u35 u36 u37 u38 u39 u40 u41 u42 u43 u44 u45 u46 u47 u48 u49 : Value, a' = { tmps := #[u0, u1, u2, u3, u4, u5, u6, u7, u8, u9, u10, u11, u12, u13, u14, u15, u16, u17, u18, u19, u20, u21, u22, u23, u24, u25, u26, u27, u28, u29, u30, u31, u32, u33, u34, u35, u36, u37, u38, u39, u40, u41, u42, u43, u44, u45, u46, u47, u48, u49], defers := [] } ∧ Below w.heap.size w w') (fun _ _ => 0) rfl ?_ ?_
      rotate_left
      · rintro a' w' ⟨u0, u1, u2, u3, u4, u5, u6, u7, u8, u9, u10, u11, u12, u13, u14, u15, u16, u17, u18, u19, u20, u21, u22, u23, u24, u25, u26, u27, u28, u29, u30, u31, u32, u33, u34, u35, u36, u37, u38, u39, u40, u41, u42, u43, u44, u45, u46, u47, u48, u49, rfl, hbel⟩
        go_wp2
        simp only [Exit.jump]
        go_ret
        exact ⟨rfl, hbel⟩
      go_wp2_with fail
      refine (rank_any 1 _).mono ?_
      rintro e w' ⟨rfl, rfl⟩
      rw [show rankOf 1 = 1 from rfl]
      go_wp2_with fail
      all_goals first | (exfalso; omega) | skip
      all_goals (refine (HX.out _).mono ?_; rintro e w1 ⟨rfl, hb1⟩)
      all_goals
        have hbel : Below w.heap.size w w1 := ((Below.refl _ _).alloc (Nat.le_refl _) _).trans (hb1.mono (by simp))
        clear HX
        obtain ⟨hc1, hf1⟩ := bcell hb1
        clear hb1
        have HBEL := Lib.hid hbel
        clear hbel
        go_wp2_with fail
        refine (reference_any s hs _).mono ?_
        rintro e w' ⟨rfl, rfl⟩
        rw [← HC.out]
        clear hc1 hf1 HC
        go_wp2_with fail
        go_step3
        exact ⟨rfl, ⟨_, _, _, _, _, _, _, _, _, _, _, _, _, _, _, _, _, _, _, _, _, _, _, _, _, _, _, _, _, _, _, _, _, _, _, _, _, _, _, _, _, _, _, _, _, _, _, _, _, _, rfl, HBEL.out⟩⟩
  | false =>
    refine wp_scope_jumps 0 (fun a' w' => ∃ u0 u1 u2 u3 u4 u5 u6 u7 u8 u9 u10 u11 u12 u13 u14 u15 u16 u17 u18 u19 u20 u21 u22 u23 u24 u25 u26 u27 u28 u29 u30 u31 u32 u33 u34 u35 u36 u37 u38 u39 u40 u41 u42 u43 u44 u45 u46 u47 u48 u49 : Value, a' = { tmps := #[u0, u1, u2, u3, u4, u5, u6, u7, u8, u9, u10, u11, u12, u13, u14, u15, u16, u17, u18, u19, u20, u21, u22, u23, u24, u25, u26, u27, u28, u29, u30, u31, u32, u33, u34, u35, u36, u37, u38, u39, u40, u41, u42, u43, u44, u45, u46, u47, u48, u49], defers := [] } ∧ Below w.heap.size w w') (fun _ _ => 0) rfl ?_ ?_
    rotate_left
    · rintro a' w' ⟨u0, u1, u2, u3, u4, u5, u6, u7, u8, u9, u10, u11, u12, u13, u14, u15, u16, u17, u18, u19, u20, u21, u22, u23, u24, u25, u26, u27, u28, u29, u30, u31, u32, u33, u34, u35, u36, u37, u38, u39, u40, u41, u42, u43, u44, u45, u46, u47, u48, u49, rfl, hbel⟩
      go_wp2
      simp only [Exit.jump]
      go_ret
      exact ⟨rfl, hbel⟩
    go_wp2_with fail
    refine (rank_any 1 _).mono ?_
    rintro e w' ⟨rfl, rfl⟩
    rw [show rankOf 1 = 1 from rfl]
    go_wp2_with fail
    all_goals first | (exfalso; omega) | skip
    all_goals (refine (HX.out _).mono ?_; rintro e w1 ⟨rfl, hb1⟩)
    all_goals
      have hbel : Below w.heap.size w w1 := ((Below.refl _ _).alloc (Nat.le_refl _) _).trans (hb1.mono (by simp))
      clear HX
      obtain ⟨hc1, hf1⟩ := bcell hb1
      clear hb1
      have HBEL := Lib.hid hbel
      clear hbel
      clear hc1 hf1
      go_wp2_with fail
      go_step3
      exact ⟨rfl, ⟨_, _, _, _, _, _, _, _, _, _, _, _, _, _, _, _, _, _, _, _, _, _, _, _, _, _, _, _, _, _, _, _, _, _, _, _, _, _, _, _, _, _, _, _, _, _, _, _, _, _, rfl, HBEL.out⟩⟩
set_option maxHeartbeats 2000000 in
theorem check_blank (x : Tm) (hx : x.Ok) (hk : x.k = 2) (h1 : x.s.size ≤ 60) (h2 : x.t.size ≤ 60) (h3 : x.l.size ≤ 8) (w : World) :
    Calls Tryz.prog 102 #[x.val] w fun e w' => e = .returned (.int .i64 (if barB x && labB x.s then 0 else 1)) ∧ Below w.heap.size w w' := by
  have hbx := bare_any x
  obtain ⟨k, s, l, t⟩ := x
  obtain ⟨-, hs, -, -⟩ := hx
  unfold Tm.val at hbx ⊢
  dsimp only at h1 h2 h3 hs hk hbx ⊢
  subst hk
  obtain ⟨b, hb⟩ : ∃ b, b = barB ⟨2, s, l, t⟩ := ⟨_, rfl⟩
  obtain ⟨c, hc⟩ : ∃ c, c = labB s := ⟨_, rfl⟩
  rw [← hc]
  have HC := Lib.hid hc
  clear hc
  rw [← hb] at hbx ⊢
  clear hb
  have HX := Lib.hid hbx
  clear hbx
  go_enter Tryz.func102, Tryz.ntmps102
  go_wp2
  cases b with
  | true =>
    cases c with
    | true =>
      refine wp_scope_jumps 0 (fun _ _ => False) (fun _ _ => 0) rfl ?_ (fun _ _ h => h.elim)
      go_wp2_with fail
      refine (rank_any 2 _).mono ?_
      rintro e w' ⟨rfl, rfl⟩
      rw [show rankOf 2 = 0 from rfl]
      go_wp2_with fail
      all_goals first | (exfalso; omega) | skip
      all_goals (refine (HX.out _).mono ?_; rintro e w1 ⟨rfl, hb1⟩)
      all_goals
        have hbel : Below w.heap.size w w1 := ((Below.refl _ _).alloc (Nat.le_refl _) _).trans (hb1.mono (by simp))
        clear HX
        obtain ⟨hc1, hf1⟩ := bcell hb1
        clear hb1
        have HBEL := Lib.hid hbel
        clear hbel
        go_wp2_with fail
        refine (label_any s hs _).mono ?_
        rintro e w' ⟨rfl, rfl⟩
        rw [← HC.out]
        clear hc1 hf1 HC
        go_wp2_with fail
        simp only [Exit.jump]
        go_ret
        exact ⟨rfl, HBEL.out⟩
    | false =>
      refine wp_scope_jumps 0 (fun a' w' => ∃ u0 u1 u2 u3 u4 u5 u6 u7 u8 u9 u10 u11 u12 u13 u14 u15 u16 u17 u18 u19 u20 u21 u22 u23 u24 u25 u26 u27 u28 u29 u30 u31 u32 u33 u34 u35 u36 u37 u38 u39 u40 u41 u42 u43 u44 u45 u46 u47 u48 u49 : Value, a' = { tmps := #[u0, u1, u2, u3, u4, u5, u6, u7, u8, u9, u10, u11, u12, u13, u14, u15, u16, u17, u18, u19, u20, u21, u22, u23, u24, u25, u26, u27, u28, u29, u30, u31, u32, u33, u34, u35, u36, u37, u38, u39, u40, u41, u42, u43, u44, u45, u46, u47, u48, u49], defers := [] } ∧ Below w.heap.size w w') (fun _ _ => 0) rfl ?_ ?_
      rotate_left
      · rintro a' w' ⟨u0, u1, u2, u3, u4, u5, u6, u7, u8, u9, u10, u11, u12, u13, u14, u15, u16, u17, u18, u19, u20, u21, u22, u23, u24, u25, u26, u27, u28, u29, u30, u31, u32, u33, u34, u35, u36, u37, u38, u39, u40, u41, u42, u43, u44, u45, u46, u47, u48, u49, rfl, hbel⟩
        go_wp2
        simp only [Exit.jump]
        go_ret
        exact ⟨rfl, hbel⟩
      go_wp2_with fail
      refine (rank_any 2 _).mono ?_
      rintro e w' ⟨rfl, rfl⟩
      rw [show rankOf 2 = 0 from rfl]
      go_wp2_with fail
      all_goals first | (exfalso; omega) | skip
      all_goals (refine (HX.out _).mono ?_; rintro e w1 ⟨rfl, hb1⟩)
      all_goals
        have hbel : Below w.heap.size w w1 := ((Below.refl _ _).alloc (Nat.le_refl _) _).trans (hb1.mono (by simp))
        clear HX
        obtain ⟨hc1, hf1⟩ := bcell hb1
        clear hb1
        have HBEL := Lib.hid hbel
        clear hbel
        go_wp2_with fail
        refine (label_any s hs _).mono ?_
        rintro e w' ⟨rfl, rfl⟩
        rw [← HC.out]
        clear hc1 hf1 HC
        go_wp2_with fail
        go_step3
        exact ⟨rfl, ⟨_, _, _, _, _, _, _, _, _, _, _, _, _, _, _, _, _, _, _, _, _, _, _, _, _, _, _, _, _, _, _, _, _, _, _, _, _, _, _, _, _, _, _, _, _, _, _, _, _, _, rfl, HBEL.out⟩⟩
  | false =>
    refine wp_scope_jumps 0 (fun a' w' => ∃ u0 u1 u2 u3 u4 u5 u6 u7 u8 u9 u10 u11 u12 u13 u14 u15 u16 u17 u18 u19 u20 u21 u22 u23 u24 u25 u26 u27 u28 u29 u30 u31 u32 u33 u34 u35 u36 u37 u38 u39 u40 u41 u42 u43 u44 u45 u46 u47 u48 u49 : Value, a' = { tmps := #[u0, u1, u2, u3, u4, u5, u6, u7, u8, u9, u10, u11, u12, u13, u14, u15, u16, u17, u18, u19, u20, u21, u22, u23, u24, u25, u26, u27, u28, u29, u30, u31, u32, u33, u34, u35, u36, u37, u38, u39, u40, u41, u42, u43, u44, u45, u46, u47, u48, u49], defers := [] } ∧ Below w.heap.size w w') (fun _ _ => 0) rfl ?_ ?_
    rotate_left
    · rintro a' w' ⟨u0, u1, u2, u3, u4, u5, u6, u7, u8, u9, u10, u11, u12, u13, u14, u15, u16, u17, u18, u19, u20, u21, u22, u23, u24, u25, u26, u27, u28, u29, u30, u31, u32, u33, u34, u35, u36, u37, u38, u39, u40, u41, u42, u43, u44, u45, u46, u47, u48, u49, rfl, hbel⟩
      go_wp2
      simp only [Exit.jump]
      go_ret
      exact ⟨rfl, hbel⟩
    go_wp2_with fail
    refine (rank_any 2 _).mono ?_
    rintro e w' ⟨rfl, rfl⟩
    rw [show rankOf 2 = 0 from rfl]
    go_wp2_with fail
    all_goals first | (exfalso; omega) | skip
    all_goals (refine (HX.out _).mono ?_; rintro e w1 ⟨rfl, hb1⟩)
    all_goals
      have hbel : Below w.heap.size w w1 := ((Below.refl _ _).alloc (Nat.le_refl _) _).trans (hb1.mono (by simp))
      clear HX
      obtain ⟨hc1, hf1⟩ := bcell hb1
      clear hb1
      have HBEL := Lib.hid hbel
      clear hbel
      clear hc1 hf1
      go_wp2_with fail
      go_step3
      exact ⟨rfl, ⟨_, _, _, _, _, _, _, _, _, _, _, _, _, _, _, _, _, _, _, _, _, _, _, _, _, _, _, _, _, _, _, _, _, _, _, _, _, _, _, _, _, _, _, _, _, _, _, _, _, _, rfl, HBEL.out⟩⟩
set_option maxHeartbeats 2000000 in
theorem check_lit (x : Tm) (hx : x.Ok) (hk : x.k = 3) (h1 : x.s.size ≤ 60) (h2 : x.t.size ≤ 60) (h3 : x.l.size ≤ 8) (w : World) :
    Calls Tryz.prog 102 #[x.val] w fun e w' => e = .returned (.int .i64 (if tagB x then 0 else 1)) ∧ Below w.heap.size w w' := by
  have hbx := tagged_any x hx
  obtain ⟨k, s, l, t⟩ := x
  obtain ⟨-, hs, -, -⟩ := hx
  unfold Tm.val at hbx ⊢
  dsimp only at h1 h2 h3 hs hk hbx ⊢
  subst hk
  obtain ⟨b, hb⟩ : ∃ b, b = tagB ⟨3, s, l, t⟩ := ⟨_, rfl⟩
  rw [← hb] at hbx ⊢
  clear hb
  have HX := Lib.hid hbx
  clear hbx
  go_enter Tryz.func102, Tryz.ntmps102
  go_wp2
  cases b with
  | true =>
    refine wp_scope_jumps 0 (fun _ _ => False) (fun _ _ => 0) rfl ?_ (fun _ _ h => h.elim)
    go_wp2_with fail
    refine (rank_any 3 _).mono ?_
    rintro e w' ⟨rfl, rfl⟩
    rw [show rankOf 3 = 2 from rfl]
    go_wp2_with fail
    all_goals first | (exfalso; omega) | skip
    all_goals (refine (HX.out _).mono ?_; rintro e w1 ⟨rfl, hb1⟩)
    all_goals
      have hbel : Below w.heap.size w w1 := ((Below.refl _ _).alloc (Nat.le_refl _) _).trans (hb1.mono (by simp))
      clear HX
      obtain ⟨hc1, hf1⟩ := bcell hb1
      clear hb1
      have HBEL := Lib.hid hbel
      clear hbel
      clear hc1 hf1
      go_wp2_with fail
      simp only [Exit.jump]
      go_ret
      exact ⟨rfl, HBEL.out⟩
  | false =>
    refine wp_scope_jumps 0 (fun a' w' => ∃ u0 u1 u2 u3 u4 u5 u6 u7 u8 u9 u10 u11 u12 u13 u14 u15 u16 u17 u18 u19 u20 u21 u22 u23 u24 u25 u26 u27 u28 u29 u30 u31 u32 u33 u34 u35 u36 u37 u38 u39 u40 u41 u42 u43 u44 u45 u46 u47 u48 u49 : Value, a' = { tmps := #[u0, u1, u2, u3, u4, u5, u6, u7, u8, u9, u10, u11, u12, u13, u14, u15, u16, u17, u18, u19, u20, u21, u22, u23, u24, u25, u26, u27, u28, u29, u30, u31, u32, u33, u34, u35, u36, u37, u38, u39, u40, u41, u42, u43, u44, u45, u46, u47, u48, u49], defers := [] } ∧ Below w.heap.size w w') (fun _ _ => 0) rfl ?_ ?_
    rotate_left
    · rintro a' w' ⟨u0, u1, u2, u3, u4, u5, u6, u7, u8, u9, u10, u11, u12, u13, u14, u15, u16, u17, u18, u19, u20, u21, u22, u23, u24, u25, u26, u27, u28, u29, u30, u31, u32, u33, u34, u35, u36, u37, u38, u39, u40, u41, u42, u43, u44, u45, u46, u47, u48, u49, rfl, hbel⟩
      go_wp2
      simp only [Exit.jump]
      go_ret
      exact ⟨rfl, hbel⟩
    go_wp2_with fail
    refine (rank_any 3 _).mono ?_
    rintro e w' ⟨rfl, rfl⟩
    rw [show rankOf 3 = 2 from rfl]
    go_wp2_with fail
    all_goals first | (exfalso; omega) | skip
    all_goals (refine (HX.out _).mono ?_; rintro e w1 ⟨rfl, hb1⟩)
    all_goals
      have hbel : Below w.heap.size w w1 := ((Below.refl _ _).alloc (Nat.le_refl _) _).trans (hb1.mono (by simp))
      clear HX
      obtain ⟨hc1, hf1⟩ := bcell hb1
      clear hb1
      have HBEL := Lib.hid hbel
      clear hbel
      clear hc1 hf1
      go_wp2_with fail
      go_step3
      exact ⟨rfl, ⟨_, _, _, _, _, _, _, _, _, _, _, _, _, _, _, _, _, _, _, _, _, _, _, _, _, _, _, _, _, _, _, _, _, _, _, _, _, _, _, _, _, _, _, _, _, _, _, _, _, _, rfl, HBEL.out⟩⟩
theorem check_any (x : Tm) (hx : x.Ok) (w : World) :
    Calls Tryz.prog 102 #[x.val] w fun e w' => e = .returned (.int .i64 (checkOf x)) ∧ Below w.heap.size w w' := by
  unfold checkOf
  by_cases h : x.k < 1 ∨ 3 < x.k
  · rw [if_pos h]; exact check_kind x h w
  rw [if_neg h]
  by_cases h2 : 60 < x.s.size ∨ 60 < x.t.size ∨ 8 < x.l.size
  · rw [if_pos h2]; exact check_long x hx h h2 w
  rw [if_neg h2]
  by_cases k1 : x.k = 1
  · rw [if_pos k1]; exact check_iri x hx k1 (by omega) (by omega) (by omega) w
  rw [if_neg k1]
  by_cases k2 : x.k = 2
  · rw [if_pos k2]; exact check_blank x hx k2 (by omega) (by omega) (by omega) w
  rw [if_neg k2]
  exact check_lit x hx (by omega) (by omega) (by omega) (by omega) w
end Go.Proofs.YtefkppeicmipbaaGreatDoor
