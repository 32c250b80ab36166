/- Triples as text: bind, new blanks. -/
import Derived.Test.YtefkppeicmipbaaGreatDoorUh
import Derived.Lib.ItoaLen
namespace Go.Proofs.YtefkppeicmipbaaGreatDoor
open Go.RowKit Go.Shelf Go.Maps
set_option maxRecDepth 100000
set_option linter.unusedVariables false
set_option linter.unusedSimpArgs false
set_option maxHeartbeats 8000000 in
theorem tbind {w : World} {P : Pl} {tv : Value} {s : St} (h : RdT w P tv s) (hc : s.pre.length + 1 + s.rest.length ≤ 90000) :
    Calls Tryz.prog 19 #[.pointer (some ⟨P.r, 0, none⟩)] w (ToV12 P w tv (bindP s)) := by
  have hnx := tnext h
  obtain ⟨s1, hs1⟩ : ∃ s1, s1 = if colonEnd s.peek then s.next else s.next.fail 6 := ⟨_, rfl⟩
  have hB : bindP s = { resdE s1 with pre := (s.peek.2, resdT s1) :: (resdE s1).pre } := by rw [hs1]; rfl
  have hi1 : Inv s1 := by rw [hs1]; split; exact h.inv.next; exact h.inv.next.fail 6
  have hnl : s.next.rest.length ≤ s.rest.length := by unfold St.next; simp
  have hc1 : s1.pre.length + 1 + s1.rest.length ≤ 90000 := by
    have e : s.next.pre = s.pre := rfl
    rw [hs1]
    split
    · rw [e]; omega
    · rw [(fail_base _ _).2.1, fail_rest h.inv.next 6, e]; simp; omega
  have hrp := resd_pre s1
  have hrs : (resdT s1).size ≤ 90000 := by have := resd_size hi1; omega
  have hlen : s.peek.2.length ≤ 90000 := by have := h.inv.peek; omega
  obtain ⟨q1, q2, hq⟩ : ∃ q1 q2, s.peek = (q1, q2) := ⟨_, _, rfl⟩
  rw [hq] at hnx hlen
  unfold tokV at hnx
  dsimp only at hnx hlen
  obtain ⟨L, hL⟩ : ∃ z : ByteArray, z = ⟨q2.toArray⟩ := ⟨_, rfl⟩
  have hLl : L.data.toList = q2 := by rw [hL]
  have hLs : L.size ≤ 90000 := by rw [Lib.size_eq, hLl]; exact hlen
  rw [← hL] at hnx
  have HNX := Lib.hid hnx
  have HRS := Lib.hid (fun w1 tv1 (r : RdT w1 P tv1 s1) => tresolved r)
  obtain ⟨Z, hZ⟩ : ∃ Z, Z = resdT s1 := ⟨_, rfl⟩
  rw [← hZ] at HRS hrs
  rw [hB]
  rw [show s.peek.2 = L.data.toList from by rw [hLl, hq], ← hZ]
  have HST := Lib.hid (fun w1 tv1 (r : RdT w1 P tv1 (resdE s1)) => r.store L Z (by omega) hrs (by rw [hrp.1]; have := hrp.2; omega))
  have HS1 := Lib.hid hs1
  have HQ := Lib.hid (And.intro hq hLl)
  have HHS := Lib.hid (fun w => Any.strings_HasSuffix Tryz.lays100 L ⟨#[58]⟩ w (by omega))
  obtain ⟨d, hd⟩ : ∃ d, d = Lib.hasSuffix L.data.toList [58] := ⟨_, rfl⟩
  rw [show (⟨#[58]⟩ : ByteArray).data.toList = [58] from rfl, ← hd] at HHS
  have HD := Lib.hid hd
  clear hnx hs1 hB hi1 hnl hc1 hrp hrs hlen hL hLl hLs hq hZ hd h hc
  go_enter Tryz.func19, Tryz.ntmps19
  go_wp2_with fail
  refine HNX.out.mono ?_
  rintro e w1 ⟨rfl, tv1, hg1⟩
  have HG := Lib.hid (hg1.alloc (.cells #[.int .i64 q1, .string L] 47))
  have HT := Lib.hid (Tp.new hg1.rd #[.int .i64 q1, .string L] 47)
  have HWS := Lib.hid hg1.mv.size
  clear hg1
  by_cases hk : q1 = 2
  rotate_left
  · have hkb : (q1 != 2) = true := by simpa using hk
    have hkb2 : (q1 == 2) = false := by simpa using hk
    have hss : s1 = s.next.fail 6 := by rw [HS1.out, HQ.out.1]; unfold colonEnd; rw [decide_eq_false (show ¬ (q1, q2).1 = 2 from hk)]; rfl
    have hf := tfail HG.out.rd 6
    rw [← hss] at hf
    have HF := Lib.hid hf
    clear hss hf
    go_wp2_with fail
    refine HF.out.mono ?_
    rintro e w1b ⟨⟨v, rfl⟩, tv1b, hg1b⟩
    have HGb := Lib.hid (HG.out.trans hg1b)
    have HTb := Lib.hid (((HT.out).go (Go12.refl HG.out.rd)).go hg1b)
    clear hg1b
    go_wp2_with fail
    -- region 3
    obtain ⟨W2, TV2, hw2, hg2, ht2⟩ : ∃ W2 TV2, W2 = w1b ∧ Go12 P w tv W2 TV2 s1 ∧ Tp W2 P TV2 w1.heap.size #[.int .i64 q1, .string L] 47 := ⟨_, _, rfl, HGb.out, HTb.out⟩
    rw [← hw2]
    have HG2 := Lib.hid hg2
    have HT2 := Lib.hid ht2
    clear hw2 hg2 ht2
    refine wp_region_any (by kernel_rfl) ?_
    change wpAny _ _ _ _ _ _ _ (World.drew _)
    refine wpAny_of_held (S := fun w' => ∃ tv' s', Go12 P w tv w' tv' s' ∧ Tp w' P tv' w1.heap.size #[.int .i64 q1, .string L] 47) _ _ _ _ ?_
    have hS : (fun w' => ∃ tv' s', Go12 P w tv w' tv' s' ∧ Tp w' P tv' w1.heap.size #[.int .i64 q1, .string L] 47) _ := ⟨TV2, s1, HG2.out.below (below_drew1 _), HT2.out.go ((Go12.refl HG2.out.rd).below (below_drew1 _))⟩
    refine wpAnyH_take (i := 0) (oi := ⟨some 16, _, _, _, _, _⟩) (v := ?_) rfl (by kernel_rfl) (by kernel_rfl) (by kernel_rfl) (fun _ _ _ h => h) (Or.inl ⟨by simp only [Region.wanted], ?_⟩) hS ?_
    rotate_left
    · intro wz hSw
      clear hSw
      go_simp
      first | done | with_reducible rfl
    try simp only [Act.put, List.setIfInBounds_toArray, List.set_cons_zero, List.set_cons_succ]
    refine wpAnyH_take (i := 1) (oi := ⟨some 17, _, _, _, _, _⟩) (v := ?_) rfl (by kernel_rfl) (by kernel_rfl) (by kernel_rfl) (fun _ _ _ h => h) (Or.inl ⟨by simp only [Region.wanted], ?_⟩) hS ?_
    rotate_left
    · intro wz hSw
      clear hSw
      go_simp
      first | done | with_reducible rfl
    try simp only [Act.put, List.setIfInBounds_toArray, List.set_cons_zero, List.set_cons_succ]
    refine wpAnyH_take (i := 2) (oi := ⟨some 18, _, _, _, _, _⟩) (v := ?_) rfl (by kernel_rfl) (by kernel_rfl) (by kernel_rfl) (fun _ _ _ h => h) (Or.inl ⟨by simp only [Region.wanted], ?_⟩) hS ?_
    rotate_left
    · intro wz hSw
      clear hSw
      go_simp
      first | done | with_reducible rfl
    try simp only [Act.put, List.setIfInBounds_toArray, List.set_cons_zero, List.set_cons_succ]
    refine wpAnyH_take (i := 3) (oi := ⟨some 19, _, _, _, _, _⟩) (v := ?_) rfl (by kernel_rfl) (by kernel_rfl) (by kernel_rfl) (fun _ _ _ h => h) (Or.inl ⟨by simp only [Region.wanted], ?_⟩) hS ?_
    rotate_left
    · intro wz hSw; obtain ⟨tvx, sx, hx1, hx2⟩ := hSw; obtain ⟨rv2, -, -, -, d2, -⟩ := hx1.rd.open
      go_simp
      first | done | with_reducible rfl
    try simp only [Act.put, List.setIfInBounds_toArray, List.set_cons_zero, List.set_cons_succ]
    refine wpAnyH_take (i := 4) (oi := ⟨some 20, _, _, _, _, _⟩) (v := ?_) rfl (by kernel_rfl) (by kernel_rfl) (by kernel_rfl) (fun _ _ _ h => h) (Or.inl ⟨by simp only [Region.wanted], ?_⟩) hS ?_
    rotate_left
    · intro wz hSw
      clear hSw
      go_simp
      first | done | with_reducible rfl
    try simp only [Act.put, List.setIfInBounds_toArray, List.set_cons_zero, List.set_cons_succ]
    refine wpAnyH_take (i := 5) (oi := ⟨some 21, _, _, _, _, _⟩) (v := ?_) rfl (by kernel_rfl) (by kernel_rfl) (by kernel_rfl) (fun _ _ _ h => h) (Or.inl ⟨by simp only [Region.wanted], ?_⟩) hS ?_
    rotate_left
    · intro wz hSw; obtain ⟨tvx, sx, hx1, hx2⟩ := hSw; obtain ⟨-, -, d1, -, -⟩ := hx2.two
      go_simp
      first | done | with_reducible rfl
    try simp only [Act.put, List.setIfInBounds_toArray, List.set_cons_zero, List.set_cons_succ]
    refine wpAnyH_take (i := 6) (oi := ⟨some 22, _, _, _, _, _⟩) (v := ?_) rfl (by kernel_rfl) (by kernel_rfl) (by kernel_rfl) (fun _ _ _ h => h) (Or.inl ⟨by simp only [Region.wanted], ?_⟩) hS ?_
    rotate_left
    · intro wz hSw
      clear hSw
      go_simp
      first | done | with_reducible rfl
    try simp only [Act.put, List.setIfInBounds_toArray, List.set_cons_zero, List.set_cons_succ]
    refine wpAnyH_ready (rs := [7]) (by kernel_rfl) (by simp) ?_
    refine AllReadyH.cons (o := ⟨some 23, _, _, _, _, _⟩) rfl (fun K hK => ?_) AllReadyH.nil
    go_simp
    refine (HRS.out _ _ (HG2.out.below (below_drew1 _)).rd).mono ?_
    rintro e w3 ⟨rfl, tv3, hg3⟩
    have HG3 := Lib.hid ((HG2.out.below (below_drew1 _)).trans hg3)
    have HT3 := Lib.hid ((HT2.out.go ((Go12.refl HG2.out.rd).below (below_drew1 _))).go hg3)
    clear hg3
    refine hK.out _ _ (⟨tv3, _, HG3.out, HT3.out⟩) (fun hS => ?_)
    clear hK K
    try simp only [Act.put, List.setIfInBounds_toArray, List.set_cons_zero, List.set_cons_succ]
    refine wpAnyH_take (i := 8) (oi := ⟨some 24, _, _, _, _, _⟩) (v := ?_) rfl (by kernel_rfl) (by kernel_rfl) (by kernel_rfl) (fun _ _ _ h => h) (Or.inl ⟨by simp only [Region.wanted], ?_⟩) hS ?_
    rotate_left
    · intro wz hSw
      clear hSw
      go_simp
      first | done | with_reducible rfl
    try simp only [Act.put, List.setIfInBounds_toArray, List.set_cons_zero, List.set_cons_succ]
    obtain ⟨w4, hst, hg4⟩ := HST.out _ _ HG3.out.rd
    have HG4 := Lib.hid (HG3.out.trans hg4)
    have HT4 := Lib.hid (HT3.out.go hg4)
    clear hg4
    refine wpAnyH_ready (rs := [9]) (by kernel_rfl) (by simp) ?_
    refine AllReadyH.cons (o := ⟨none, _, _, _, _, _⟩) rfl (fun K hK => ?_) AllReadyH.nil
    go_simp
    refine hK.out _ _ (⟨tv3, _, HG4.out, HT4.out⟩) (fun hS => ?_)
    clear hK K
    try simp only [Act.put, List.setIfInBounds_toArray, List.set_cons_zero, List.set_cons_succ]
    refine wpAnyH_done (by kernel_rfl) ?_ _
    clear hS hst
    go_wp2_with fail
    exact bodyPost_end (results_none rfl _ _ _) rfl ⟨⟨_, rfl⟩, tv3, HG4.out⟩
  subst hk
  have hcol : colonEnd s.peek = d := by rw [HQ.out.1, HD.out, HQ.out.2]; rfl
  have HCOL := Lib.hid hcol
  clear hcol
  go_wp2_with fail
  refine (HHS.out _).mono ?_
  rintro e w1x ⟨rfl, rfl⟩
  cases d with
  | true =>
    have hss : s1 = s.next := by rw [HS1.out, HCOL.out]; rfl
    have HG1 := Lib.hid (show Go12 P w tv (w1.alloc (.cells #[.int .i64 2, .string L] 47)) tv1 s1 from by rw [hss]; exact HG.out)
    clear hss
    go_wp2_with fail
    -- region 3
    obtain ⟨W2, TV2, hw2, hg2, ht2⟩ : ∃ W2 TV2, W2 = w1.alloc (.cells #[.int .i64 2, .string L] 47) ∧ Go12 P w tv W2 TV2 s1 ∧ Tp W2 P TV2 w1.heap.size #[.int .i64 2, .string L] 47 := ⟨_, _, rfl, HG1.out, HT.out⟩
    rw [← hw2]
    have HG2 := Lib.hid hg2
    have HT2 := Lib.hid ht2
    clear hw2 hg2 ht2
    refine wp_region_any (by kernel_rfl) ?_
    change wpAny _ _ _ _ _ _ _ (World.drew _)
    refine wpAny_of_held (S := fun w' => ∃ tv' s', Go12 P w tv w' tv' s' ∧ Tp w' P tv' w1.heap.size #[.int .i64 2, .string L] 47) _ _ _ _ ?_
    have hS : (fun w' => ∃ tv' s', Go12 P w tv w' tv' s' ∧ Tp w' P tv' w1.heap.size #[.int .i64 2, .string L] 47) _ := ⟨TV2, s1, HG2.out.below (below_drew1 _), HT2.out.go ((Go12.refl HG2.out.rd).below (below_drew1 _))⟩
    refine wpAnyH_take (i := 0) (oi := ⟨some 16, _, _, _, _, _⟩) (v := ?_) rfl (by kernel_rfl) (by kernel_rfl) (by kernel_rfl) (fun _ _ _ h => h) (Or.inl ⟨by simp only [Region.wanted], ?_⟩) hS ?_
    rotate_left
    · intro wz hSw
      clear hSw
      go_simp
      first | done | with_reducible rfl
    try simp only [Act.put, List.setIfInBounds_toArray, List.set_cons_zero, List.set_cons_succ]
    refine wpAnyH_take (i := 1) (oi := ⟨some 17, _, _, _, _, _⟩) (v := ?_) rfl (by kernel_rfl) (by kernel_rfl) (by kernel_rfl) (fun _ _ _ h => h) (Or.inl ⟨by simp only [Region.wanted], ?_⟩) hS ?_
    rotate_left
    · intro wz hSw
      clear hSw
      go_simp
      first | done | with_reducible rfl
    try simp only [Act.put, List.setIfInBounds_toArray, List.set_cons_zero, List.set_cons_succ]
    refine wpAnyH_take (i := 2) (oi := ⟨some 18, _, _, _, _, _⟩) (v := ?_) rfl (by kernel_rfl) (by kernel_rfl) (by kernel_rfl) (fun _ _ _ h => h) (Or.inl ⟨by simp only [Region.wanted], ?_⟩) hS ?_
    rotate_left
    · intro wz hSw
      clear hSw
      go_simp
      first | done | with_reducible rfl
    try simp only [Act.put, List.setIfInBounds_toArray, List.set_cons_zero, List.set_cons_succ]
    refine wpAnyH_take (i := 3) (oi := ⟨some 19, _, _, _, _, _⟩) (v := ?_) rfl (by kernel_rfl) (by kernel_rfl) (by kernel_rfl) (fun _ _ _ h => h) (Or.inl ⟨by simp only [Region.wanted], ?_⟩) hS ?_
    rotate_left
    · intro wz hSw; obtain ⟨tvx, sx, hx1, hx2⟩ := hSw; obtain ⟨rv2, -, -, -, d2, -⟩ := hx1.rd.open
      go_simp
      first | done | with_reducible rfl
    try simp only [Act.put, List.setIfInBounds_toArray, List.set_cons_zero, List.set_cons_succ]
    refine wpAnyH_take (i := 4) (oi := ⟨some 20, _, _, _, _, _⟩) (v := ?_) rfl (by kernel_rfl) (by kernel_rfl) (by kernel_rfl) (fun _ _ _ h => h) (Or.inl ⟨by simp only [Region.wanted], ?_⟩) hS ?_
    rotate_left
    · intro wz hSw
      clear hSw
      go_simp
      first | done | with_reducible rfl
    try simp only [Act.put, List.setIfInBounds_toArray, List.set_cons_zero, List.set_cons_succ]
    refine wpAnyH_take (i := 5) (oi := ⟨some 21, _, _, _, _, _⟩) (v := ?_) rfl (by kernel_rfl) (by kernel_rfl) (by kernel_rfl) (fun _ _ _ h => h) (Or.inl ⟨by simp only [Region.wanted], ?_⟩) hS ?_
    rotate_left
    · intro wz hSw; obtain ⟨tvx, sx, hx1, hx2⟩ := hSw; obtain ⟨-, -, d1, -, -⟩ := hx2.two
      go_simp
      first | done | with_reducible rfl
    try simp only [Act.put, List.setIfInBounds_toArray, List.set_cons_zero, List.set_cons_succ]
    refine wpAnyH_take (i := 6) (oi := ⟨some 22, _, _, _, _, _⟩) (v := ?_) rfl (by kernel_rfl) (by kernel_rfl) (by kernel_rfl) (fun _ _ _ h => h) (Or.inl ⟨by simp only [Region.wanted], ?_⟩) hS ?_
    rotate_left
    · intro wz hSw
      clear hSw
      go_simp
      first | done | with_reducible rfl
    try simp only [Act.put, List.setIfInBounds_toArray, List.set_cons_zero, List.set_cons_succ]
    refine wpAnyH_ready (rs := [7]) (by kernel_rfl) (by simp) ?_
    refine AllReadyH.cons (o := ⟨some 23, _, _, _, _, _⟩) rfl (fun K hK => ?_) AllReadyH.nil
    go_simp
    refine (HRS.out _ _ (HG2.out.below (below_drew1 _)).rd).mono ?_
    rintro e w3 ⟨rfl, tv3, hg3⟩
    have HG3 := Lib.hid ((HG2.out.below (below_drew1 _)).trans hg3)
    have HT3 := Lib.hid ((HT2.out.go ((Go12.refl HG2.out.rd).below (below_drew1 _))).go hg3)
    clear hg3
    refine hK.out _ _ (⟨tv3, _, HG3.out, HT3.out⟩) (fun hS => ?_)
    clear hK K
    try simp only [Act.put, List.setIfInBounds_toArray, List.set_cons_zero, List.set_cons_succ]
    refine wpAnyH_take (i := 8) (oi := ⟨some 24, _, _, _, _, _⟩) (v := ?_) rfl (by kernel_rfl) (by kernel_rfl) (by kernel_rfl) (fun _ _ _ h => h) (Or.inl ⟨by simp only [Region.wanted], ?_⟩) hS ?_
    rotate_left
    · intro wz hSw
      clear hSw
      go_simp
      first | done | with_reducible rfl
    try simp only [Act.put, List.setIfInBounds_toArray, List.set_cons_zero, List.set_cons_succ]
    obtain ⟨w4, hst, hg4⟩ := HST.out _ _ HG3.out.rd
    have HG4 := Lib.hid (HG3.out.trans hg4)
    have HT4 := Lib.hid (HT3.out.go hg4)
    clear hg4
    refine wpAnyH_ready (rs := [9]) (by kernel_rfl) (by simp) ?_
    refine AllReadyH.cons (o := ⟨none, _, _, _, _, _⟩) rfl (fun K hK => ?_) AllReadyH.nil
    go_simp
    refine hK.out _ _ (⟨tv3, _, HG4.out, HT4.out⟩) (fun hS => ?_)
    clear hK K
    try simp only [Act.put, List.setIfInBounds_toArray, List.set_cons_zero, List.set_cons_succ]
    refine wpAnyH_done (by kernel_rfl) ?_ _
    clear hS hst
    go_wp2_with fail
    exact bodyPost_end (results_none rfl _ _ _) rfl ⟨⟨_, rfl⟩, tv3, HG4.out⟩
  | false =>
    have hss : s1 = s.next.fail 6 := by rw [HS1.out, HCOL.out]; rfl
    have hf := tfail HG.out.rd 6
    rw [← hss] at hf
    have HF := Lib.hid hf
    clear hss hf
    go_wp2_with fail
    refine HF.out.mono ?_
    rintro e w1b ⟨⟨v, rfl⟩, tv1b, hg1b⟩
    have HGb := Lib.hid (HG.out.trans hg1b)
    have HTb := Lib.hid (((HT.out).go (Go12.refl HG.out.rd)).go hg1b)
    clear hg1b
    go_wp2_with fail
    -- region 3
    obtain ⟨W2, TV2, hw2, hg2, ht2⟩ : ∃ W2 TV2, W2 = w1b ∧ Go12 P w tv W2 TV2 s1 ∧ Tp W2 P TV2 w1.heap.size #[.int .i64 2, .string L] 47 := ⟨_, _, rfl, HGb.out, HTb.out⟩
    rw [← hw2]
    have HG2 := Lib.hid hg2
    have HT2 := Lib.hid ht2
    clear hw2 hg2 ht2
    refine wp_region_any (by kernel_rfl) ?_
    change wpAny _ _ _ _ _ _ _ (World.drew _)
    refine wpAny_of_held (S := fun w' => ∃ tv' s', Go12 P w tv w' tv' s' ∧ Tp w' P tv' w1.heap.size #[.int .i64 2, .string L] 47) _ _ _ _ ?_
    have hS : (fun w' => ∃ tv' s', Go12 P w tv w' tv' s' ∧ Tp w' P tv' w1.heap.size #[.int .i64 2, .string L] 47) _ := ⟨TV2, s1, HG2.out.below (below_drew1 _), HT2.out.go ((Go12.refl HG2.out.rd).below (below_drew1 _))⟩
    refine wpAnyH_take (i := 0) (oi := ⟨some 16, _, _, _, _, _⟩) (v := ?_) rfl (by kernel_rfl) (by kernel_rfl) (by kernel_rfl) (fun _ _ _ h => h) (Or.inl ⟨by simp only [Region.wanted], ?_⟩) hS ?_
    rotate_left
    · intro wz hSw
      clear hSw
      go_simp
      first | done | with_reducible rfl
    try simp only [Act.put, List.setIfInBounds_toArray, List.set_cons_zero, List.set_cons_succ]
    refine wpAnyH_take (i := 1) (oi := ⟨some 17, _, _, _, _, _⟩) (v := ?_) rfl (by kernel_rfl) (by kernel_rfl) (by kernel_rfl) (fun _ _ _ h => h) (Or.inl ⟨by simp only [Region.wanted], ?_⟩) hS ?_
    rotate_left
    · intro wz hSw
      clear hSw
      go_simp
      first | done | with_reducible rfl
    try simp only [Act.put, List.setIfInBounds_toArray, List.set_cons_zero, List.set_cons_succ]
    refine wpAnyH_take (i := 2) (oi := ⟨some 18, _, _, _, _, _⟩) (v := ?_) rfl (by kernel_rfl) (by kernel_rfl) (by kernel_rfl) (fun _ _ _ h => h) (Or.inl ⟨by simp only [Region.wanted], ?_⟩) hS ?_
    rotate_left
    · intro wz hSw
      clear hSw
      go_simp
      first | done | with_reducible rfl
    try simp only [Act.put, List.setIfInBounds_toArray, List.set_cons_zero, List.set_cons_succ]
    refine wpAnyH_take (i := 3) (oi := ⟨some 19, _, _, _, _, _⟩) (v := ?_) rfl (by kernel_rfl) (by kernel_rfl) (by kernel_rfl) (fun _ _ _ h => h) (Or.inl ⟨by simp only [Region.wanted], ?_⟩) hS ?_
    rotate_left
    · intro wz hSw; obtain ⟨tvx, sx, hx1, hx2⟩ := hSw; obtain ⟨rv2, -, -, -, d2, -⟩ := hx1.rd.open
      go_simp
      first | done | with_reducible rfl
    try simp only [Act.put, List.setIfInBounds_toArray, List.set_cons_zero, List.set_cons_succ]
    refine wpAnyH_take (i := 4) (oi := ⟨some 20, _, _, _, _, _⟩) (v := ?_) rfl (by kernel_rfl) (by kernel_rfl) (by kernel_rfl) (fun _ _ _ h => h) (Or.inl ⟨by simp only [Region.wanted], ?_⟩) hS ?_
    rotate_left
    · intro wz hSw
      clear hSw
      go_simp
      first | done | with_reducible rfl
    try simp only [Act.put, List.setIfInBounds_toArray, List.set_cons_zero, List.set_cons_succ]
    refine wpAnyH_take (i := 5) (oi := ⟨some 21, _, _, _, _, _⟩) (v := ?_) rfl (by kernel_rfl) (by kernel_rfl) (by kernel_rfl) (fun _ _ _ h => h) (Or.inl ⟨by simp only [Region.wanted], ?_⟩) hS ?_
    rotate_left
    · intro wz hSw; obtain ⟨tvx, sx, hx1, hx2⟩ := hSw; obtain ⟨-, -, d1, -, -⟩ := hx2.two
      go_simp
      first | done | with_reducible rfl
    try simp only [Act.put, List.setIfInBounds_toArray, List.set_cons_zero, List.set_cons_succ]
    refine wpAnyH_take (i := 6) (oi := ⟨some 22, _, _, _, _, _⟩) (v := ?_) rfl (by kernel_rfl) (by kernel_rfl) (by kernel_rfl) (fun _ _ _ h => h) (Or.inl ⟨by simp only [Region.wanted], ?_⟩) hS ?_
    rotate_left
    · intro wz hSw
      clear hSw
      go_simp
      first | done | with_reducible rfl
    try simp only [Act.put, List.setIfInBounds_toArray, List.set_cons_zero, List.set_cons_succ]
    refine wpAnyH_ready (rs := [7]) (by kernel_rfl) (by simp) ?_
    refine AllReadyH.cons (o := ⟨some 23, _, _, _, _, _⟩) rfl (fun K hK => ?_) AllReadyH.nil
    go_simp
    refine (HRS.out _ _ (HG2.out.below (below_drew1 _)).rd).mono ?_
    rintro e w3 ⟨rfl, tv3, hg3⟩
    have HG3 := Lib.hid ((HG2.out.below (below_drew1 _)).trans hg3)
    have HT3 := Lib.hid ((HT2.out.go ((Go12.refl HG2.out.rd).below (below_drew1 _))).go hg3)
    clear hg3
    refine hK.out _ _ (⟨tv3, _, HG3.out, HT3.out⟩) (fun hS => ?_)
    clear hK K
    try simp only [Act.put, List.setIfInBounds_toArray, List.set_cons_zero, List.set_cons_succ]
    refine wpAnyH_take (i := 8) (oi := ⟨some 24, _, _, _, _, _⟩) (v := ?_) rfl (by kernel_rfl) (by kernel_rfl) (by kernel_rfl) (fun _ _ _ h => h) (Or.inl ⟨by simp only [Region.wanted], ?_⟩) hS ?_
    rotate_left
    · intro wz hSw
      clear hSw
      go_simp
      first | done | with_reducible rfl
    try simp only [Act.put, List.setIfInBounds_toArray, List.set_cons_zero, List.set_cons_succ]
    obtain ⟨w4, hst, hg4⟩ := HST.out _ _ HG3.out.rd
    have HG4 := Lib.hid (HG3.out.trans hg4)
    have HT4 := Lib.hid (HT3.out.go hg4)
    clear hg4
    refine wpAnyH_ready (rs := [9]) (by kernel_rfl) (by simp) ?_
    refine AllReadyH.cons (o := ⟨none, _, _, _, _, _⟩) rfl (fun K hK => ?_) AllReadyH.nil
    go_simp
    refine hK.out _ _ (⟨tv3, _, HG4.out, HT4.out⟩) (fun hS => ?_)
    clear hK K
    try simp only [Act.put, List.setIfInBounds_toArray, List.set_cons_zero, List.set_cons_succ]
    refine wpAnyH_done (by kernel_rfl) ?_ _
    clear hS hst
    go_wp2_with fail
    exact bodyPost_end (results_none rfl _ _ _) rfl ⟨⟨_, rfl⟩, tv3, HG4.out⟩
/-- A new blank. -/
theorem RdT.blank {w : World} {P : Pl} {tv : Value} {s : St} (h : RdT w P tv s) : Go12 P w tv (w.setCell ⟨P.nb, 0, none⟩ (.int .i64 s.fresh.n)) tv s.fresh := by
  have m : Moved (· = P.nb) w (w.setCell ⟨P.nb, 0, none⟩ (.int .i64 s.fresh.n)) := (Moved.refl (· = P.nb) w).setCell _ _ (.inl rfl)
  obtain ⟨n1, n2, n3, n4, n5, n6, n7, n8, n9⟩ := h.ne
  obtain ⟨rv, g1, g2⟩ := h.cells
  have hl := h.lts
  have hlow := h.low
  refine ⟨⟨⟨rv, g1.moved m (fun e => n7 e.symm), g2.moved m (fun e => n1 e)⟩, ?_, h.lb.moved m (fun e => n5 e.symm), h.pm.moved m (fun e => n6 e.symm), h.told.moved m (fun q hq e => by have := (h.told.lt q hq).1; omega), h.inv.fresh, h.lts, Nat.le_trans h.B m.size, h.ne, h.lab, h.tab.moved m (by omega), h.low⟩, m.mono (fun j hj => .inr (.inl hj)), fun q hq => .inl hq⟩
  have := h.n.set 0 (.int .i64 s.fresh.n)
  simpa only [List.setIfInBounds_toArray, List.set_cons_zero] using this
theorem wrap64_range (x : Int) : -9223372036854775808 ≤ wrap64 x ∧ wrap64 x ≤ 9223372036854775807 := by unfold wrap64; omega
theorem itoa_len (n : Int) (h0 : -9223372036854775808 ≤ n) (h1 : n ≤ 9223372036854775807) : (Lib.itoa n).length ≤ 1000 := Nat.le_trans (Lib.itoa_length_le n h0 h1) (by decide)
set_option maxHeartbeats 8000000 in
theorem tfresh {w : World} {P : Pl} {tv : Value} {s : St} (h : RdT w P tv s) :
    Calls Tryz.prog 15 #[.pointer (some ⟨P.nb, 0, none⟩), .pointer (some ⟨P.lb, 0, none⟩)] w (To12 P w tv (blankT P.lab s.fresh.n).val s.fresh) := by
  obtain ⟨m, hm⟩ : ∃ m, m = s.fresh.n := ⟨_, rfl⟩
  have hm2 : wrap64 (s.n + 1) = m := hm.symm
  have hr := wrap64_range (s.n + 1)
  rw [hm2] at hr
  have hb := h.blank
  rw [← hm] at hb ⊢
  have hT := Tp.new hb.rd #[.int .i64 0, .string ⟨#[]⟩, .string ⟨#[]⟩, .string ⟨#[]⟩] 33
  have hszw : (w.setCell ⟨P.nb, 0, none⟩ (.int .i64 m)).heap.size = w.heap.size := by simp
  rw [hszw] at hT
  have HG := Lib.hid (hb.alloc (.cells #[.int .i64 0, .string ⟨#[]⟩, .string ⟨#[]⟩, .string ⟨#[]⟩] 33))
  have HT := Lib.hid hT
  have HI := Lib.hid (fun w1 (ht : TabP w1) => Any.strconv_Itoa Tryz.laysM171 m hr.1 hr.2 w1 ht)
  have e0 := h.n.cell 0
  have e1 := h.n.frozen 0
  have e2 := h.lb.cell 0
  have hnlt := h.n.lt
  have hllt := h.lb.lt
  obtain ⟨n1, n2, n3, n4, n5, n6, n7, n8, n9⟩ := h.ne
  have hlab := h.lab
  have hil := itoa_len m hr.1 hr.2
  obtain ⟨D, hD⟩ : ∃ D : ByteArray, D = ⟨(Lib.itoa m).toArray⟩ := ⟨_, rfl⟩
  rw [← hD] at HI
  have hDs : D.size ≤ 1000 := by rw [hD, Lib.size_eq]; exact hil
  obtain ⟨lab, hlb⟩ : ∃ l, l = P.lab := ⟨_, rfl⟩
  rw [← hlb] at e2 hlab
  obtain ⟨Z, hZ⟩ : ∃ Z, Z = lab ++ D := ⟨_, rfl⟩
  have HZ := Lib.hid (show (blankT P.lab m).val = .agg #[.int .i64 2, .string Z, .string ⟨#[]⟩, .string ⟨#[]⟩] from by rw [← hlb, hZ, hD]; rfl)
  have hZ' := hZ.symm
  have hlbl : P.lab = lab := hlb.symm
  have HMN := Lib.hid (show s.fresh.n = m from hm.symm)
  have hszs : ¬ 9223372036854775807 < lab.size + D.size := by omega
  rw [HZ.out]
  clear hm hr hszw hT hb hil hD hZ hlb h n1 n2 n3 n4 n6 n7 n8 n9
  simp only [List.getElem?_toArray, List.getElem?_cons_zero] at e0 e2
  go_enter Tryz.func15, Tryz.ntmps15
  go_wp2_with fail
  generalize World.alloc (World.setCell w _ _) _ = W at HG HT ⊢
  have HLB := Lib.hid hlbl
  refine wp_region_any (by kernel_rfl) ?_
  change wpAny _ _ _ _ _ _ _ (World.drew _)
  refine wpAny_of_held (S := fun w' => Go12 P w tv w' tv s.fresh) _ _ _ _ ?_
  have hS : (fun w' => Go12 P w tv w' tv s.fresh) _ := HG.out.below (below_drew1 _)
  refine wpAnyH_take (i := 0) (oi := ⟨some 5, _, _, _, _, _⟩) (v := ?_) rfl (by kernel_rfl) (by kernel_rfl) (by kernel_rfl) (fun _ _ _ h => h) (Or.inl ⟨by simp only [Region.wanted], ?_⟩) hS ?_
  rotate_left
  · intro wz hSw; have e9 := hSw.rd.lb.cell 0; rw [HLB.out] at e9; simp only [List.getElem?_toArray, List.getElem?_cons_zero] at e9
    clear hSw
    go_simp
    first | done | with_reducible rfl
  try simp only [Act.put, List.setIfInBounds_toArray, List.set_cons_zero, List.set_cons_succ]
  refine wpAnyH_take (i := 1) (oi := ⟨some 6, _, _, _, _, _⟩) (v := ?_) rfl (by kernel_rfl) (by kernel_rfl) (by kernel_rfl) (fun _ _ _ h => h) (Or.inl ⟨by simp only [Region.wanted], ?_⟩) hS ?_
  rotate_left
  · intro wz hSw; have e9 := hSw.rd.n.cell 0; rw [HMN.out] at e9; simp only [List.getElem?_toArray, List.getElem?_cons_zero] at e9
    clear hSw
    go_simp
    first | done | with_reducible rfl
  try simp only [Act.put, List.setIfInBounds_toArray, List.set_cons_zero, List.set_cons_succ]
  refine wpAnyH_ready (rs := [2]) (by kernel_rfl) (by simp) ?_
  refine AllReadyH.cons (o := ⟨some 7, _, _, _, _, _⟩) rfl (fun K hK => ?_) AllReadyH.nil
  go_simp
  refine (HI.out _ (HG.out.below (below_drew1 _)).rd.tab).mono ?_
  rintro e w3 ⟨rfl, hk3⟩
  have hb3 : Below W.drew.heap.size W.drew w3 := by obtain ⟨k, os, rfl⟩ := hk3; exact Lib.below_grow _ _ (Nat.le_refl _) _ _
  have HG3 := Lib.hid ((HG.out.below (below_drew1 _)).below hb3)
  have HT3 := Lib.hid (HT.out.go ((Go12.refl HG.out.rd).below (below_drew1 _) |>.below hb3))
  clear hb3 hk3
  refine hK.out _ _ (HG3.out) (fun hS => ?_)
  clear hK K
  try simp only [Act.put, List.setIfInBounds_toArray, List.set_cons_zero, List.set_cons_succ]
  refine wpAnyH_take (i := 3) (oi := ⟨some 8, _, _, _, _, _⟩) (v := ?_) rfl (by kernel_rfl) (by kernel_rfl) (by kernel_rfl) (fun _ _ _ h => h) (Or.inl ⟨by simp only [Region.wanted], ?_⟩) hS ?_
  rotate_left
  · intro wz hSw
    clear hSw
    go_simp
    first | done | with_reducible rfl
  try simp only [Act.put, List.setIfInBounds_toArray, List.set_cons_zero, List.set_cons_succ]
  refine wpAnyH_take (i := 4) (oi := ⟨some 9, _, _, _, _, _⟩) (v := ?_) rfl (by kernel_rfl) (by kernel_rfl) (by kernel_rfl) (fun _ _ _ h => h) (Or.inl ⟨by simp only [Region.wanted], ?_⟩) hS ?_
  rotate_left
  · intro wz hSw
    clear hSw
    go_simp
    first | done | with_reducible rfl
  try simp only [Act.put, List.setIfInBounds_toArray, List.set_cons_zero, List.set_cons_succ]
  have HF := Lib.hid (HG3.out.temp4 HT3.out (.int .i64 2) (.string Z) (.string ⟨#[]⟩) (.string ⟨#[]⟩) (Nat.le_refl _))
  obtain ⟨htl, t0, t1, t2, t3, g0, g1, g2, g3⟩ := HT3.out.four
  refine wpAnyH_ready (rs := [5]) (by kernel_rfl) (by simp) ?_
  refine AllReadyH.cons (o := ⟨none, _, _, _, _, _⟩) rfl (fun K hK => ?_) AllReadyH.nil
  go_simp
  refine hK.out _ _ (HF.out.1) (fun hS => ?_)
  clear hK K
  try simp only [Act.put, List.setIfInBounds_toArray, List.set_cons_zero, List.set_cons_succ]
  refine wpAnyH_done (by kernel_rfl) ?_ _
  go_wp2_with fail
  exact bodyPost_ret (v := .agg #[.int .i64 2, .string Z, .string ⟨#[]⟩, .string ⟨#[]⟩]) (results_tm (p := 2) (by kernel_rfl) _ _ w.heap.size _ _ _ _ _ rfl HF.out.2.blk) rfl ⟨rfl, tv, HF.out.1⟩
end Go.Proofs.YtefkppeicmipbaaGreatDoor
