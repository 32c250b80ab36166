/- DecOrder: the walk. -/
import Derived.Test.YtcaejheaojnmmaaDoorRj
namespace Go.Proofs.YtcaejheaojnmmaaDoor
open Go.RowKit Go.Shelf Flo
set_option maxRecDepth 100000
set_option linter.unusedVariables false
set_option linter.unusedSimpArgs false

theorem boxes3 (w : World) (m s m2 s2 m3 s3 : Int) (t t2 t3 : TypeId) : Blks (((w.alloc (.cells #[.int .i64 m, .int .i64 s] t)).alloc (.cells #[.int .i64 m2, .int .i64 s2] t2)).alloc (.cells #[.int .i64 m3, .int .i64 s3] t3)) [(w.heap.size + 1 + 1, m3, s3), (w.heap.size + 1, m2, s2), (w.heap.size, m, s)] ∧
    Below w.heap.size w (((w.alloc (.cells #[.int .i64 m, .int .i64 s] t)).alloc (.cells #[.int .i64 m2, .int .i64 s2] t2)).alloc (.cells #[.int .i64 m3, .int .i64 s3] t3)) := by
  have h := boxes2 w m s m2 s2 t t2
  have z1 : ((w.alloc (.cells #[.int .i64 m, .int .i64 s] t)).alloc (.cells #[.int .i64 m2, .int .i64 s2] t2)).heap.size = w.heap.size + 1 + 1 := by simp
  generalize (w.alloc (.cells #[.int .i64 m, .int .i64 s] t)).alloc (.cells #[.int .i64 m2, .int .i64 s2] t2) = w2 at *
  have hk : Blks w2 [(w.heap.size + 1, m2, s2), (w.heap.size, m, s)] := Blks.more (Blks.more (fun _ h => by cases h) h.1) h.2.1
  have := Blks.new (m := m3) (s := s3) (t := t3) hk
  rw [z1] at this
  exact ⟨this, h.2.2.alloc h.2.2.size _⟩
theorem cmp_rev (A B : Int) : cmpI B A = - cmpI A B := by
  unfold cmpI
  (repeat' split) <;> first | rfl | omega
theorem cmp_le {A B C x : Int} (h0 : cmpI A B = x) (hx : x ≤ 0) (h1 : cmpI B C ≤ 0) : cmpI A C ≤ 0 := by
  unfold cmpI at *
  (repeat' split) <;> (repeat' split at h0) <;> (repeat' split at h1) <;> omega
theorem cmp_eqv {m s m2 s2 x : Int} (h : GoodD m s) (h2 : GoodD m2 s2) (h0 : cmpI (sixI m s.toNat) (sixI m2 s2.toNat) = x) : (m == m2 && s == s2) = decide (x = 0) := by
  by_cases hx : x = 0
  · subst hx
    have he : sixI m s.toNat = sixI m2 s2.toNat := by
      unfold cmpI at h0
      (repeat' split at h0) <;> omega
    have g1 : GoodD m (s.toNat : Int) := by rw [show ((s.toNat : Nat) : Int) = s by have := h.2.2.1; omega]; exact h
    have g2 : GoodD m2 (s2.toNat : Int) := by rw [show ((s2.toNat : Nat) : Int) = s2 by have := h2.2.2.1; omega]; exact h2
    have := six_inj g1 g2 he
    have e1 : s = s2 := by have := h.2.2.1; have := h2.2.2.1; omega
    rw [this.1, e1]; simp
  · have hne : ¬ (m = m2 ∧ s = s2) := by
      rintro ⟨rfl, rfl⟩
      apply hx
      rw [← h0]
      unfold cmpI
      (repeat' split) <;> omega
    rw [decide_eq_false hx]
    by_cases hm : m = m2
    · have hs : ¬ s = s2 := fun e => hne ⟨hm, e⟩
      simp [hs]
    · simp [hm]

set_option maxHeartbeats 8000000 in
theorem order13_walk (a p b q c r : Int) (w : World) (ha : In64 a) (hp : In64 p) (hb : In64 b) (hq : In64 q) (hc : In64 c) (hr : In64 r) (hX : PowAt w) :
    Calls Tryd.prog 8 #[.int .i64 a, .int .i64 p, .int .i64 b, .int .i64 q, .int .i64 c, .int .i64 r] w fun e w' => e = .returned (.bool true) ∧ Below w.heap.size w w' := by
  have HK := Lib.hid (known13_any w)
  have HG := Lib.hid (fun w => good_in a p w ha hp)
  have HH := Lib.hid (fun w => good_in b q w hb hq)
  have HI := Lib.hid (fun w => good_in c r w hc hr)
  obtain ⟨m, hm⟩ : ∃ m, m = (goodP a p).1 := ⟨_, rfl⟩
  obtain ⟨s, hs⟩ : ∃ s : Int, s = ((goodP a p).2 : Int) := ⟨_, rfl⟩
  obtain ⟨m2, hm2⟩ : ∃ m, m = (goodP b q).1 := ⟨_, rfl⟩
  obtain ⟨s2, hs2⟩ : ∃ s : Int, s = ((goodP b q).2 : Int) := ⟨_, rfl⟩
  obtain ⟨m3, hm3⟩ : ∃ m, m = (goodP c r).1 := ⟨_, rfl⟩
  obtain ⟨s3, hs3⟩ : ∃ s : Int, s = ((goodP c r).2 : Int) := ⟨_, rfl⟩
  have h1 : GoodD m s := by rw [hm, hs]; exact good_good a p
  have h2 : GoodD m2 s2 := by rw [hm2, hs2]; exact good_good b q
  have h3 : GoodD m3 s3 := by rw [hm3, hs3]; exact good_good c r
  rw [← hm, ← hs] at HG
  rw [← hm2, ← hs2] at HH
  rw [← hm3, ← hs3] at HI
  clear hm hs hm2 hs2 hm3 hs3 ha hp hb hq hc hr
  have HX1 := Lib.hid (fun w hP => cmp_six w m s m2 s2 h1 h2 hP)
  have HX2 := Lib.hid (fun w hP => cmp_six w m2 s2 m3 s3 h2 h3 hP)
  have HX3 := Lib.hid (fun w hP => cmp_six w m s m3 s3 h1 h3 hP)
  have HX4 := Lib.hid (fun w hP => cmp_six w m2 s2 m s h2 h1 hP)
  have HR1 := Lib.hid (fun w => rcmp_any w m s m2 s2 h1 h2)
  have HR2 := Lib.hid (fun w => rcmp_any w m2 s2 m3 s3 h2 h3)
  have HE : ∀ {x : Int}, cmpI (sixI m s.toNat) (sixI m2 s2.toNat) = x → (m == m2 && s == s2) = decide (x = 0) := fun h => cmp_eqv h1 h2 h
  have HEW := fun w => equal_dec m s m2 s2 w
  generalize sixI m s.toNat = A at HX1 HX2 HX3 HX4 HR1 HR2 HE
  generalize sixI m2 s2.toNat = B at HX1 HX2 HX3 HX4 HR1 HR2 HE
  generalize sixI m3 s3.toNat = C at HX1 HX2 HX3 HX4 HR1 HR2 HE
  have HX := Lib.hid hX
  clear h1 h2 h3 hX
  go_enter Tryd.func8, Tryd.ntmps8
  go_wp2_with fail
  refine HK.out.mono ?_
  rintro e w1 ⟨rfl, hb1⟩
  have HB1 := Lib.hid hb1
  clear hb1
  go_wp2_with fail
  (with_reducible refine (HG.out _).mono ?_)
  rintro e w2 ⟨rfl, hb2⟩
  have HB2 := Lib.hid (HB1.out.trans (hb2.mono HB1.out.size))
  clear hb2
  go_wp2_with fail
  (with_reducible refine (HH.out _).mono ?_)
  rintro e w3 ⟨rfl, hb3⟩
  have HB3 := Lib.hid (HB2.out.trans (hb3.mono HB2.out.size))
  clear hb3
  go_wp2_with fail
  (with_reducible refine (HI.out _).mono ?_)
  rintro e w4 ⟨rfl, hb4⟩
  have HB4 := Lib.hid (HB3.out.trans (hb4.mono HB3.out.size))
  clear hb4
  have HC := Lib.hid (boxes3 w4 m s m2 s2 m3 s3 27 27 27)
  go_wp2_with fail
  have HBB := Lib.hid (HB4.out.trans (HC.out.2.mono HB4.out.size))
  have HCC := Lib.hid (HC.out.1)
  clear HC HB4
  generalize World.alloc (World.alloc (World.alloc w4 _) _) _ = w5 at HCC HBB ⊢
  generalize w4.heap.size = ba at HCC ⊢
  generalize hbb : ba + 1 = bb at HCC ⊢
  generalize hbc : bb + 1 = bc at HCC ⊢
  go_upto_region 4 with fail
  refine wp_region_any (by kernel_rfl) ?_
  change wpAny _ _ _ _ _ _ _ (World.drew _)
  refine wpAny_of_held (S := fun v => Below w5.heap.size w5 v) _ _ _ _ ?_
  have hS : (fun v => Below w5.heap.size w5 v) _ := (Below.refl _ w5).drew
  refine wpAnyH_take (i := 0) (oi := ⟨some 30, _, _, _, _, _⟩) (v := ?_) rfl (by kernel_rfl) (by kernel_rfl) (by kernel_rfl) (fun _ _ _ h => h) (Or.inl ⟨by simp only [Region.wanted], ?_⟩) hS ?_
  rotate_left
  · intro wz hSw; obtain ⟨-, f0, f1, -, -⟩ := HCC.out.tail.tail.head.below hSw
    clear hSw
    go_simp
    first | done | with_reducible rfl
  try simp only [Act.put, List.setIfInBounds_toArray, List.set_cons_zero, List.set_cons_succ]
  refine wpAnyH_take (i := 1) (oi := ⟨some 31, _, _, _, _, _⟩) (v := ?_) rfl (by kernel_rfl) (by kernel_rfl) (by kernel_rfl) (fun _ _ _ h => h) (Or.inl ⟨by simp only [Region.wanted], ?_⟩) hS ?_
  rotate_left
  · intro wz hSw; obtain ⟨-, f0, f1, -, -⟩ := HCC.out.tail.head.below hSw
    clear hSw
    go_simp
    first | done | with_reducible rfl
  try simp only [Act.put, List.setIfInBounds_toArray, List.set_cons_zero, List.set_cons_succ]
  refine wpAnyH_take (i := 3) (oi := ⟨some 33, _, _, _, _, _⟩) (v := ?_) rfl (by kernel_rfl) (by kernel_rfl) (by kernel_rfl) (fun _ _ _ h => h) (Or.inl ⟨by simp only [Region.wanted], ?_⟩) hS ?_
  rotate_left
  · intro wz hSw; obtain ⟨-, f0, f1, -, -⟩ := HCC.out.tail.head.below hSw
    clear hSw
    go_simp
    first | done | with_reducible rfl
  try simp only [Act.put, List.setIfInBounds_toArray, List.set_cons_zero, List.set_cons_succ]
  refine wpAnyH_take (i := 4) (oi := ⟨some 34, _, _, _, _, _⟩) (v := ?_) rfl (by kernel_rfl) (by kernel_rfl) (by kernel_rfl) (fun _ _ _ h => h) (Or.inl ⟨by simp only [Region.wanted], ?_⟩) hS ?_
  rotate_left
  · intro wz hSw; obtain ⟨-, f0, f1, -, -⟩ := HCC.out.head.below hSw
    clear hSw
    go_simp
    first | done | with_reducible rfl
  try simp only [Act.put, List.setIfInBounds_toArray, List.set_cons_zero, List.set_cons_succ]
  refine wpAnyH_take (i := 6) (oi := ⟨some 36, _, _, _, _, _⟩) (v := ?_) rfl (by kernel_rfl) (by kernel_rfl) (by kernel_rfl) (fun _ _ _ h => h) (Or.inl ⟨by simp only [Region.wanted], ?_⟩) hS ?_
  rotate_left
  · intro wz hSw; obtain ⟨-, f0, f1, -, -⟩ := HCC.out.tail.tail.head.below hSw
    clear hSw
    go_simp
    first | done | with_reducible rfl
  try simp only [Act.put, List.setIfInBounds_toArray, List.set_cons_zero, List.set_cons_succ]
  refine wpAnyH_take (i := 7) (oi := ⟨some 37, _, _, _, _, _⟩) (v := ?_) rfl (by kernel_rfl) (by kernel_rfl) (by kernel_rfl) (fun _ _ _ h => h) (Or.inl ⟨by simp only [Region.wanted], ?_⟩) hS ?_
  rotate_left
  · intro wz hSw; obtain ⟨-, f0, f1, -, -⟩ := HCC.out.head.below hSw
    clear hSw
    go_simp
    first | done | with_reducible rfl
  try simp only [Act.put, List.setIfInBounds_toArray, List.set_cons_zero, List.set_cons_succ]
  refine wpAnyH_ready (rs := [2]) (by kernel_rfl) (by simp) ?_
  refine AllReadyH.cons (o := ⟨some 32, _, _, _, _, _⟩) rfl (fun K hK => ?_) AllReadyH.nil
  go_simp
  (with_reducible refine (HX1.out _ (HX.out.below (HBB.out.trans (hS.mono HBB.out.size)))).mono ?_)
  rintro e wn1 ⟨rfl, hbn⟩
  have hS1 := hS.trans (hbn.mono hS.size)
  clear hbn
  go_wp2_with fail
  refine hK.out _ _ (hS1) (fun hS => ?_)
  clear hK K
  try simp only [Act.put, List.setIfInBounds_toArray, List.set_cons_zero, List.set_cons_succ]
  refine wpAnyH_ready (rs := [5]) (by kernel_rfl) (by simp) ?_
  refine AllReadyH.cons (o := ⟨some 35, _, _, _, _, _⟩) rfl (fun K hK => ?_) AllReadyH.nil
  go_simp
  (with_reducible refine (HX2.out _ (HX.out.below (HBB.out.trans (hS.mono HBB.out.size)))).mono ?_)
  rintro e wn2 ⟨rfl, hbn⟩
  have hS1 := hS.trans (hbn.mono hS.size)
  clear hbn
  go_wp2_with fail
  refine hK.out _ _ (hS1) (fun hS => ?_)
  clear hK K
  try simp only [Act.put, List.setIfInBounds_toArray, List.set_cons_zero, List.set_cons_succ]
  refine wpAnyH_ready (rs := [8]) (by kernel_rfl) (by simp) ?_
  refine AllReadyH.cons (o := ⟨some 38, _, _, _, _, _⟩) rfl (fun K hK => ?_) AllReadyH.nil
  go_simp
  (with_reducible refine (HX3.out _ (HX.out.below (HBB.out.trans (hS.mono HBB.out.size)))).mono ?_)
  rintro e wn3 ⟨rfl, hbn⟩
  have hS1 := hS.trans (hbn.mono hS.size)
  clear hbn
  go_wp2_with fail
  refine hK.out _ _ (hS1) (fun hS => ?_)
  clear hK K
  try simp only [Act.put, List.setIfInBounds_toArray, List.set_cons_zero, List.set_cons_succ]
  refine wpAnyH_take (i := 9) (oi := ⟨some 16, _, _, _, _, _⟩) (v := ?_) rfl (by kernel_rfl) (by kernel_rfl) (by kernel_rfl) (fun _ _ _ h => h) (Or.inl ⟨by simp only [Region.wanted], ?_⟩) hS ?_
  rotate_left
  · intro wz hSw
    clear hSw
    go_simp
    first | done | with_reducible rfl
  try simp only [Act.put, List.setIfInBounds_toArray, List.set_cons_zero, List.set_cons_succ]
  refine wpAnyH_take (i := 10) (oi := ⟨some 17, _, _, _, _, _⟩) (v := ?_) rfl (by kernel_rfl) (by kernel_rfl) (by kernel_rfl) (fun _ _ _ h => h) (Or.inl ⟨by simp only [Region.wanted], ?_⟩) hS ?_
  rotate_left
  · intro wz hSw
    clear hSw
    go_simp
    first | done | with_reducible rfl
  try simp only [Act.put, List.setIfInBounds_toArray, List.set_cons_zero, List.set_cons_succ]
  refine wpAnyH_take (i := 11) (oi := ⟨some 18, _, _, _, _, _⟩) (v := ?_) rfl (by kernel_rfl) (by kernel_rfl) (by kernel_rfl) (fun _ _ _ h => h) (Or.inl ⟨by simp only [Region.wanted], ?_⟩) hS ?_
  rotate_left
  · intro wz hSw
    clear hSw
    go_simp
    first | done | with_reducible rfl
  try simp only [Act.put, List.setIfInBounds_toArray, List.set_cons_zero, List.set_cons_succ]
  refine wpAnyH_done (by kernel_rfl) ?_ _
  go_upto_region 5 with fail
  have HD0 := Lib.hid (HCC.out.below hS)
  have HBB0 := Lib.hid (HBB.out.trans (hS.mono HBB.out.size))
  clear HCC HBB hS
  have hbig : cmpI A B = 1 ∨ cmpI A B = 0 ∨ cmpI A B = -1 := by unfold cmpI; (repeat' split) <;> simp
  rcases hbig with h0 | h0 | h0
  · have HEQ := HE h0
    rw [cmp_rev, h0] at HX4
    rw [h0] at HR1 ⊢
    generalize cmpI B C = y at HR2 ⊢
    generalize cmpI A C = z at ⊢
    obtain ⟨c0, c1, c2, -, -⟩ := HD0.out.head
    obtain ⟨b0, b1, b2, -, -⟩ := HD0.out.tail.head
    obtain ⟨a0, a1, a2, -, -⟩ := HD0.out.tail.tail.head
    go_wp2_with fail
    (with_reducible refine (HR1.out _).mono ?_)
    rintro e wv1 ⟨rfl, hbn⟩
    have HD1 := Lib.hid (HD0.out.below hbn)
    have HBB1 := Lib.hid (HBB0.out.trans (hbn.mono HBB0.out.size))
    clear hbn a0 a1 a2 b0 b1 b2 c0 c1 c2
    obtain ⟨c0, c1, c2, -, -⟩ := HD1.out.head
    obtain ⟨b0, b1, b2, -, -⟩ := HD1.out.tail.head
    obtain ⟨a0, a1, a2, -, -⟩ := HD1.out.tail.tail.head
    go_wp2_with fail
    (with_reducible refine (HR2.out _).mono ?_)
    rintro e wv2 ⟨rfl, hbn⟩
    have HD2 := Lib.hid (HD1.out.below hbn)
    have HBB2 := Lib.hid (HBB1.out.trans (hbn.mono HBB1.out.size))
    clear hbn a0 a1 a2 b0 b1 b2 c0 c1 c2
    obtain ⟨c0, c1, c2, -, -⟩ := HD2.out.head
    obtain ⟨b0, b1, b2, -, -⟩ := HD2.out.tail.head
    obtain ⟨a0, a1, a2, -, -⟩ := HD2.out.tail.tail.head
    go_wp2_with fail
    (with_reducible refine (HX4.out _ (HX.out.below HBB2.out)).mono ?_)
    rintro e wv3 ⟨rfl, hbn⟩
    have HD3 := Lib.hid (HD2.out.below hbn)
    have HBB3 := Lib.hid (HBB2.out.trans (hbn.mono HBB2.out.size))
    clear hbn a0 a1 a2 b0 b1 b2 c0 c1 c2
    obtain ⟨c0, c1, c2, -, -⟩ := HD3.out.head
    obtain ⟨b0, b1, b2, -, -⟩ := HD3.out.tail.head
    obtain ⟨a0, a1, a2, -, -⟩ := HD3.out.tail.tail.head
    go_wp2_with fail
    go_ret
    exact ⟨rfl, HBB3.out⟩
  · have HEQ := HE h0
    rw [cmp_rev, h0] at HX4
    rw [h0] at HR1 ⊢
    rcases (show cmpI B C = 1 ∨ (cmpI B C ≤ 0 ∧ ¬ 0 < cmpI B C) by unfold cmpI; (repeat' split) <;> simp) with h1 | ⟨h1, h1n⟩
    · rw [h1] at HR2 ⊢
      generalize cmpI A C = z at ⊢
      obtain ⟨c0, c1, c2, -, -⟩ := HD0.out.head
      obtain ⟨b0, b1, b2, -, -⟩ := HD0.out.tail.head
      obtain ⟨a0, a1, a2, -, -⟩ := HD0.out.tail.tail.head
      go_wp2_with fail
      (with_reducible refine (HR1.out _).mono ?_)
      rintro e wv1 ⟨rfl, hbn⟩
      have HD1 := Lib.hid (HD0.out.below hbn)
      have HBB1 := Lib.hid (HBB0.out.trans (hbn.mono HBB0.out.size))
      clear hbn a0 a1 a2 b0 b1 b2 c0 c1 c2
      obtain ⟨c0, c1, c2, -, -⟩ := HD1.out.head
      obtain ⟨b0, b1, b2, -, -⟩ := HD1.out.tail.head
      obtain ⟨a0, a1, a2, -, -⟩ := HD1.out.tail.tail.head
      go_wp2_with fail
      (with_reducible refine (HR2.out _).mono ?_)
      rintro e wv2 ⟨rfl, hbn⟩
      have HD2 := Lib.hid (HD1.out.below hbn)
      have HBB2 := Lib.hid (HBB1.out.trans (hbn.mono HBB1.out.size))
      clear hbn a0 a1 a2 b0 b1 b2 c0 c1 c2
      obtain ⟨c0, c1, c2, -, -⟩ := HD2.out.head
      obtain ⟨b0, b1, b2, -, -⟩ := HD2.out.tail.head
      obtain ⟨a0, a1, a2, -, -⟩ := HD2.out.tail.tail.head
      go_wp2_with fail
      (with_reducible refine (HX4.out _ (HX.out.below HBB2.out)).mono ?_)
      rintro e wv3 ⟨rfl, hbn⟩
      have HD3 := Lib.hid (HD2.out.below hbn)
      have HBB3 := Lib.hid (HBB2.out.trans (hbn.mono HBB2.out.size))
      clear hbn a0 a1 a2 b0 b1 b2 c0 c1 c2
      obtain ⟨c0, c1, c2, -, -⟩ := HD3.out.head
      obtain ⟨b0, b1, b2, -, -⟩ := HD3.out.tail.head
      obtain ⟨a0, a1, a2, -, -⟩ := HD3.out.tail.tail.head
      go_wp2_with fail
      go_ret
      exact ⟨rfl, HBB3.out⟩
    · have hz : cmpI A C ≤ 0 := cmp_le h0 (by omega) h1
      generalize cmpI B C = y at HR2 h1 h1n ⊢
      generalize cmpI A C = z at hz ⊢
      obtain ⟨c0, c1, c2, -, -⟩ := HD0.out.head
      obtain ⟨b0, b1, b2, -, -⟩ := HD0.out.tail.head
      obtain ⟨a0, a1, a2, -, -⟩ := HD0.out.tail.tail.head
      go_wp2_with fail
      (with_reducible refine (HR1.out _).mono ?_)
      rintro e wv1 ⟨rfl, hbn⟩
      have HD1 := Lib.hid (HD0.out.below hbn)
      have HBB1 := Lib.hid (HBB0.out.trans (hbn.mono HBB0.out.size))
      clear hbn a0 a1 a2 b0 b1 b2 c0 c1 c2
      obtain ⟨c0, c1, c2, -, -⟩ := HD1.out.head
      obtain ⟨b0, b1, b2, -, -⟩ := HD1.out.tail.head
      obtain ⟨a0, a1, a2, -, -⟩ := HD1.out.tail.tail.head
      go_wp2_with fail
      (with_reducible refine (HR2.out _).mono ?_)
      rintro e wv2 ⟨rfl, hbn⟩
      have HD2 := Lib.hid (HD1.out.below hbn)
      have HBB2 := Lib.hid (HBB1.out.trans (hbn.mono HBB1.out.size))
      clear hbn a0 a1 a2 b0 b1 b2 c0 c1 c2
      obtain ⟨c0, c1, c2, -, -⟩ := HD2.out.head
      obtain ⟨b0, b1, b2, -, -⟩ := HD2.out.tail.head
      obtain ⟨a0, a1, a2, -, -⟩ := HD2.out.tail.tail.head
      go_wp2_with fail
      (with_reducible refine (HX4.out _ (HX.out.below HBB2.out)).mono ?_)
      rintro e wv3 ⟨rfl, hbn⟩
      have HD3 := Lib.hid (HD2.out.below hbn)
      have HBB3 := Lib.hid (HBB2.out.trans (hbn.mono HBB2.out.size))
      clear hbn a0 a1 a2 b0 b1 b2 c0 c1 c2
      obtain ⟨c0, c1, c2, -, -⟩ := HD3.out.head
      obtain ⟨b0, b1, b2, -, -⟩ := HD3.out.tail.head
      obtain ⟨a0, a1, a2, -, -⟩ := HD3.out.tail.tail.head
      go_wp2_with fail
      go_ret
      exact ⟨rfl, HBB3.out⟩
  · have HEQ := HE h0
    rw [cmp_rev, h0] at HX4
    rw [h0] at HR1 ⊢
    rcases (show cmpI B C = 1 ∨ (cmpI B C ≤ 0 ∧ ¬ 0 < cmpI B C) by unfold cmpI; (repeat' split) <;> simp) with h1 | ⟨h1, h1n⟩
    · rw [h1] at HR2 ⊢
      generalize cmpI A C = z at ⊢
      obtain ⟨c0, c1, c2, -, -⟩ := HD0.out.head
      obtain ⟨b0, b1, b2, -, -⟩ := HD0.out.tail.head
      obtain ⟨a0, a1, a2, -, -⟩ := HD0.out.tail.tail.head
      go_wp2_with fail
      (with_reducible refine (HR1.out _).mono ?_)
      rintro e wv1 ⟨rfl, hbn⟩
      have HD1 := Lib.hid (HD0.out.below hbn)
      have HBB1 := Lib.hid (HBB0.out.trans (hbn.mono HBB0.out.size))
      clear hbn a0 a1 a2 b0 b1 b2 c0 c1 c2
      obtain ⟨c0, c1, c2, -, -⟩ := HD1.out.head
      obtain ⟨b0, b1, b2, -, -⟩ := HD1.out.tail.head
      obtain ⟨a0, a1, a2, -, -⟩ := HD1.out.tail.tail.head
      go_wp2_with fail
      (with_reducible refine (HR2.out _).mono ?_)
      rintro e wv2 ⟨rfl, hbn⟩
      have HD2 := Lib.hid (HD1.out.below hbn)
      have HBB2 := Lib.hid (HBB1.out.trans (hbn.mono HBB1.out.size))
      clear hbn a0 a1 a2 b0 b1 b2 c0 c1 c2
      obtain ⟨c0, c1, c2, -, -⟩ := HD2.out.head
      obtain ⟨b0, b1, b2, -, -⟩ := HD2.out.tail.head
      obtain ⟨a0, a1, a2, -, -⟩ := HD2.out.tail.tail.head
      go_wp2_with fail
      (with_reducible refine (HX4.out _ (HX.out.below HBB2.out)).mono ?_)
      rintro e wv3 ⟨rfl, hbn⟩
      have HD3 := Lib.hid (HD2.out.below hbn)
      have HBB3 := Lib.hid (HBB2.out.trans (hbn.mono HBB2.out.size))
      clear hbn a0 a1 a2 b0 b1 b2 c0 c1 c2
      obtain ⟨c0, c1, c2, -, -⟩ := HD3.out.head
      obtain ⟨b0, b1, b2, -, -⟩ := HD3.out.tail.head
      obtain ⟨a0, a1, a2, -, -⟩ := HD3.out.tail.tail.head
      go_wp2_with fail
      go_ret
      exact ⟨rfl, HBB3.out⟩
    · have hz : cmpI A C ≤ 0 := cmp_le h0 (by omega) h1
      generalize cmpI B C = y at HR2 h1 h1n ⊢
      generalize cmpI A C = z at hz ⊢
      obtain ⟨c0, c1, c2, -, -⟩ := HD0.out.head
      obtain ⟨b0, b1, b2, -, -⟩ := HD0.out.tail.head
      obtain ⟨a0, a1, a2, -, -⟩ := HD0.out.tail.tail.head
      go_wp2_with fail
      (with_reducible refine (HR1.out _).mono ?_)
      rintro e wv1 ⟨rfl, hbn⟩
      have HD1 := Lib.hid (HD0.out.below hbn)
      have HBB1 := Lib.hid (HBB0.out.trans (hbn.mono HBB0.out.size))
      clear hbn a0 a1 a2 b0 b1 b2 c0 c1 c2
      obtain ⟨c0, c1, c2, -, -⟩ := HD1.out.head
      obtain ⟨b0, b1, b2, -, -⟩ := HD1.out.tail.head
      obtain ⟨a0, a1, a2, -, -⟩ := HD1.out.tail.tail.head
      go_wp2_with fail
      (with_reducible refine (HR2.out _).mono ?_)
      rintro e wv2 ⟨rfl, hbn⟩
      have HD2 := Lib.hid (HD1.out.below hbn)
      have HBB2 := Lib.hid (HBB1.out.trans (hbn.mono HBB1.out.size))
      clear hbn a0 a1 a2 b0 b1 b2 c0 c1 c2
      obtain ⟨c0, c1, c2, -, -⟩ := HD2.out.head
      obtain ⟨b0, b1, b2, -, -⟩ := HD2.out.tail.head
      obtain ⟨a0, a1, a2, -, -⟩ := HD2.out.tail.tail.head
      go_wp2_with fail
      (with_reducible refine (HX4.out _ (HX.out.below HBB2.out)).mono ?_)
      rintro e wv3 ⟨rfl, hbn⟩
      have HD3 := Lib.hid (HD2.out.below hbn)
      have HBB3 := Lib.hid (HBB2.out.trans (hbn.mono HBB2.out.size))
      clear hbn a0 a1 a2 b0 b1 b2 c0 c1 c2
      obtain ⟨c0, c1, c2, -, -⟩ := HD3.out.head
      obtain ⟨b0, b1, b2, -, -⟩ := HD3.out.tail.head
      obtain ⟨a0, a1, a2, -, -⟩ := HD3.out.tail.tail.head
      go_wp2_with fail
      go_ret
      exact ⟨rfl, HBB3.out⟩
end Go.Proofs.YtcaejheaojnmmaaDoor
