/- DecMuls: the walk. -/
import Derived.Test.YtodhklapikfpoaaDoorRj
import Derived.Test.YtodhklapikfpoaaDoorMb
import Derived.Test.YtodhklapikfpoaaDoorEf
import Derived.Deep.DeepCutAuto
namespace Go.Proofs.YtodhklapikfpoaaDoor
open Go.RowKit Go.Shelf Flo
set_option maxRecDepth 100000
set_option linter.unusedVariables false
set_option linter.unusedSimpArgs false

theorem in64_rem {a : Int} (h : In64 a) (m : Int) : In64 (a.tmod m) := by
  obtain ⟨h1, h2⟩ := h
  have := Int.natAbs_tmod a m
  have h3 : (a.tmod m).natAbs ≤ a.natAbs := by rw [this]; exact Nat.mod_le _ _
  rcases Int.le_total 0 a with h0 | h0
  · have := Int.tmod_nonneg m h0
    exact ⟨by omega, by omega⟩
  · have : a.tmod m ≤ 0 := by
      have e := Int.neg_tmod (a := -a) (b := m)
      rw [Int.neg_neg] at e
      have := Int.tmod_nonneg m (show 0 ≤ -a by omega)
      omega
    exact ⟨by omega, by omega⟩
theorem mul_sym (w : World) (m s m2 s2 : Int) (h : GoodD m s) (h2 : GoodD m2 s2) :
    Calls Tryd.prog 8 #[.agg #[.int .i64 m2, .int .i64 s2], .agg #[.int .i64 m, .int .i64 s]] w fun e w' =>
      e = .returned (decP (nrm (m * m2) (s.toNat + s2.toNat))) ∧ Below w.heap.size w w' := by
  rw [Int.mul_comm, Nat.add_comm]
  exact mul_any w m2 s2 m s h2 h

/-- three pairs of decimals, one behind the other. -/
def Prs (w : World) (b : Nat) (A S B T : Nat → Int) : Prop := b < w.heap.size ∧ ∀ j, j < 3 → w.cell? ⟨b, j * 4, none⟩ = some (.int .i64 (A j)) ∧ w.cell? ⟨b, j * 4 + 1, none⟩ = some (.int .i64 (S j)) ∧ w.cell? ⟨b, j * 4 + 2, none⟩ = some (.int .i64 (B j)) ∧ w.cell? ⟨b, j * 4 + 3, none⟩ = some (.int .i64 (T j))
theorem Prs.below {w w' : World} {b : Nat} {A S B T : Nat → Int} (h : Prs w b A S B T) (hb : Below w.heap.size w w') : Prs w' b A S B T :=
  ⟨Nat.lt_of_lt_of_le h.1 hb.size, fun j hj => ⟨cellB hb h.1 (h.2 j hj).1, cellB hb h.1 (h.2 j hj).2.1, cellB hb h.1 (h.2 j hj).2.2.1, cellB hb h.1 (h.2 j hj).2.2.2⟩⟩
def sel3 (a b c : Int) (j : Nat) : Int := if j = 0 then a else if j = 1 then b else c
theorem Prs.new (w : World) (t : TypeId) (a0 s0 b0 t0 a1 s1 b1 t1 a2 s2 b2 t2 : Int) : Prs (w.alloc (.cells #[.int .i64 a0, .int .i64 s0, .int .i64 b0, .int .i64 t0, .int .i64 a1, .int .i64 s1, .int .i64 b1, .int .i64 t1, .int .i64 a2, .int .i64 s2, .int .i64 b2, .int .i64 t2] t)) w.heap.size (sel3 a0 a1 a2) (sel3 s0 s1 s2) (sel3 b0 b1 b2) (sel3 t0 t1 t2) := by
  refine ⟨by simp, fun j hj => ?_⟩
  have : j = 0 ∨ j = 1 ∨ j = 2 := by omega
  rcases this with rfl | rfl | rfl <;> exact ⟨by simp [World.cell?_alloc_new, sel3], by simp [World.cell?_alloc_new, sel3], by simp [World.cell?_alloc_new, sel3], by simp [World.cell?_alloc_new, sel3]⟩

set_option maxHeartbeats 4000000 in
theorem muls13_walk (a p b q : Int) (w : World) (ha : In64 a) (hp : In64 p) (hb : In64 b) (hq : In64 q) :
    Calls Tryd.prog 3 #[.int .i64 a, .int .i64 p, .int .i64 b, .int .i64 q] w fun e w' => e = .returned (.bool true) ∧ Below w.heap.size w w' := by
  have HK := Lib.hid (known13_any w)
  have HG := Lib.hid (fun w => good_in a p w ha hp)
  have HH := Lib.hid (fun w => good_in b q w hb hq)
  have HG3 := Lib.hid (fun w => good_in (a.tmod 10000000) (p.tmod 4) w (in64_rem ha _) (in64_rem hp _))
  have HH3 := Lib.hid (fun w => good_in (b.tmod 10000000) (q.tmod 4) w (in64_rem hb _) (in64_rem hq _))
  obtain ⟨m, hm⟩ : ∃ m, m = (goodP a p).1 := ⟨_, rfl⟩
  obtain ⟨s, hs⟩ : ∃ s : Int, s = ((goodP a p).2 : Int) := ⟨_, rfl⟩
  obtain ⟨m2, hm2⟩ : ∃ m, m = (goodP b q).1 := ⟨_, rfl⟩
  obtain ⟨s2, hs2⟩ : ∃ s : Int, s = ((goodP b q).2 : Int) := ⟨_, rfl⟩
  obtain ⟨m3, hm3⟩ : ∃ m, m = (goodP (a.tmod 10000000) (p.tmod 4)).1 := ⟨_, rfl⟩
  obtain ⟨s3, hs3⟩ : ∃ s : Int, s = ((goodP (a.tmod 10000000) (p.tmod 4)).2 : Int) := ⟨_, rfl⟩
  obtain ⟨m4, hm4⟩ : ∃ m, m = (goodP (b.tmod 10000000) (q.tmod 4)).1 := ⟨_, rfl⟩
  obtain ⟨s4, hs4⟩ : ∃ s : Int, s = ((goodP (b.tmod 10000000) (q.tmod 4)).2 : Int) := ⟨_, rfl⟩
  have h1 : GoodD m s := by rw [hm, hs]; exact good_good a p
  have h2 : GoodD m2 s2 := by rw [hm2, hs2]; exact good_good b q
  have h3 : GoodD m3 s3 := by rw [hm3, hs3]; exact good_good _ _
  have h4 : GoodD m4 s4 := by rw [hm4, hs4]; exact good_good _ _
  rw [← hm, ← hs] at HG
  rw [← hm2, ← hs2] at HH
  rw [← hm3, ← hs3] at HG3
  rw [← hm4, ← hs4] at HH3
  clear hm hs hm2 hs2 hm3 hs3 hm4 hs4 ha hp hb hq
  have HGD := Lib.hid (And.intro h1 (And.intro h2 (And.intro h3 h4)))
  clear h1 h2 h3 h4
  go_enter Tryd.func3, Tryd.ntmps3
  go_wp2_with fail
  refine HK.out.mono ?_
  rintro e w1 ⟨rfl, hb1⟩
  have HB1 := Lib.hid hb1
  clear hb1
  go_wp2_with fail
  (with_reducible refine (HG.out _).mono ?_)
  rintro e w2 ⟨rfl, hb2⟩
  have HB2 := Lib.hid (HB1.out.trans (hb2.mono HB1.out.size))
  clear hb2
  go_wp2_with fail
  (with_reducible refine (HH.out _).mono ?_)
  rintro e w3 ⟨rfl, hb3⟩
  have HB3 := Lib.hid (HB2.out.trans (hb3.mono HB2.out.size))
  clear hb3
  have HC := Lib.hid (boxes2 w3 m s m2 s2 24 24)
  go_wp2_with fail
  have HC4 := Lib.hid (show Blks (World.alloc (World.alloc w3 (.cells #[.int .i64 m, .int .i64 s] 24)) (.cells #[.int .i64 m2, .int .i64 s2] 24)) [(w3.heap.size + 1, m2, s2), (w3.heap.size, m, s)] from (Blks.more (Blks.more (fun _ h => by cases h) HC.out.1) HC.out.2.1))
  have HB4 := Lib.hid (HB3.out.trans (HC.out.2.2.mono HB3.out.size))
  clear HC
  generalize World.alloc (World.alloc w3 _) _ = w4 at HC4 HB4 ⊢
  generalize w3.heap.size = ba at HC4 ⊢
  generalize ba + 1 = bb at HC4 ⊢
  (with_reducible refine (HG3.out _).mono ?_)
  rintro e w5 ⟨rfl, hb5⟩
  have HC5 := Lib.hid (Blks.new (m := m3) (s := s3) (t := 24) (HC4.out.below hb5))
  have HB5 := Lib.hid (HB4.out.trans (hb5.mono HB4.out.size))
  have HB6 := Lib.hid (HB5.out.alloc HB5.out.size (.cells #[.int .i64 m3, .int .i64 s3] 24))
  clear hb5 HC4
  go_wp2_with fail
  generalize World.alloc w5 _ = w6 at HC5 HB6 ⊢
  generalize w5.heap.size = bc at HC5 ⊢
  (with_reducible refine (HH3.out _).mono ?_)
  rintro e w7 ⟨rfl, hb7⟩
  have HC7 := Lib.hid (Blks.new (m := m4) (s := s4) (t := 24) (HC5.out.below hb7))
  have HB7 := Lib.hid (HB6.out.trans (hb7.mono HB6.out.size))
  have HB8 := Lib.hid (HB7.out.alloc HB7.out.size (.cells #[.int .i64 m4, .int .i64 s4] 24))
  clear hb7 HC5
  go_upto_region 6 with fail
  generalize World.alloc w7 _ = w8 at HC7 HB8 ⊢
  generalize w7.heap.size = bd at HC7 ⊢
  obtain ⟨d0, d1, d2, -, -⟩ := HC7.out.head
  obtain ⟨c0, c1, c2, -, -⟩ := HC7.out.tail.head
  obtain ⟨b0, b1, b2, -, -⟩ := HC7.out.tail.tail.head
  obtain ⟨a0, a1, a2, -, -⟩ := HC7.out.tail.tail.tail.head
  go_wp2_with fail
  have HB9 := Lib.hid (HB8.out.alloc HB8.out.size (.cells #[.int .i64 m, .int .i64 s, .int .i64 m2, .int .i64 s2, .int .i64 m3, .int .i64 s3, .int .i64 m4, .int .i64 s4, .int .i64 m, .int .i64 s, .int .i64 m4, .int .i64 s4] 26))
  have HP9 := Lib.hid (Prs.new w8 26 m s m2 s2 m3 s3 m4 s4 m s m4 s4)
  have HA9 := Lib.hid (HC7.out.tail.tail.tail.head.below ((Below.refl w8.heap.size w8).alloc (Nat.le_refl _) (.cells #[.int .i64 m, .int .i64 s, .int .i64 m2, .int .i64 s2, .int .i64 m3, .int .i64 s3, .int .i64 m4, .int .i64 s4, .int .i64 m, .int .i64 s, .int .i64 m4, .int .i64 s4] 26)))
  generalize World.alloc w8 _ = w9 at HB9 HP9 HA9 ⊢
  generalize w8.heap.size = br at HP9 ⊢
  clear a0 a1 a2 b0 b1 b2 c0 c1 c2 d0 d1 d2 HC7
  have hAll : ∀ j, GoodD (sel3 m m3 m j) (sel3 s s3 s j) ∧ GoodD (sel3 m2 m4 m4 j) (sel3 s2 s4 s4 j) := by
    obtain ⟨h1, h2, h3, h4⟩ := HGD.out
    intro j
    unfold sel3
    (repeat' split) <;> exact ⟨by assumption, by assumption⟩
  have HG := Lib.hid hAll
  clear hAll
  generalize sel3 m m3 m = A at HG HP9
  generalize sel3 s s3 s = S at HG HP9
  generalize sel3 m2 m4 m4 = B at HG HP9
  generalize sel3 s2 s4 s4 = T at HG HP9
  go_loopw [14] (fun i wx => ∃ j : Nat, i = .int .i64 (j : Int) ∧ j ≤ 3 ∧ Prs wx br A S B T ∧ DecB wx ba m s ∧ Below w.heap.size w wx) (fun i _ => 3 - (intOf i).toNat)
  case atStart => exact ⟨0, rfl, by omega, HP9.out, HA9.out, HB9.out⟩
  case round =>
    obtain ⟨j, rfl, hj, hP, hA, hB⟩ := hrel
    have HP := Lib.hid hP
    have HA := Lib.hid hA
    have HB := Lib.hid hB
    clear hP hA hB
    by_cases hlt : j < 3
    · have hlti : (j : Int) < 3 := by omega
      have HJ := Lib.hid hlt
      obtain ⟨x, hx⟩ : ∃ x, x = A j := ⟨_, rfl⟩
      obtain ⟨xs, hxs⟩ : ∃ x, x = S j := ⟨_, rfl⟩
      obtain ⟨y, hy⟩ : ∃ x, x = B j := ⟨_, rfl⟩
      obtain ⟨ys, hys⟩ : ∃ x, x = T j := ⟨_, rfl⟩
      have HX := Lib.hid (And.intro hx (And.intro hxs (And.intro hy hys)))
      have hg := HG.out j
      rw [← hx, ← hxs, ← hy, ← hys] at hg
      have HQ := Lib.hid (fun w => mul_any w x xs y ys hg.1 hg.2)
      have HQ2 := Lib.hid (fun w => mul_sym w x xs y ys hg.1 hg.2)
      have HR := Lib.hid (fun w => rmul_any w x xs y ys hg.1 hg.2)
      obtain ⟨vm, vs, vb, hv⟩ := decP_cases (nrm (x * y) (xs.toNat + ys.toNat))
      rw [hv] at HQ HQ2 HR
      clear hx hxs hy hys hg hv
      have FX : ∀ wz, Below wr.heap.size wr wz → wz.cell? ⟨br, j * 4, none⟩ = some (.int .i64 x) ∧ wz.cell? ⟨br, j * 4 + 1, none⟩ = some (.int .i64 xs) ∧ wz.cell? ⟨br, j * 4 + 2, none⟩ = some (.int .i64 y) ∧ wz.cell? ⟨br, j * 4 + 3, none⟩ = some (.int .i64 ys) := by
        intro wz hz
        have := (HP.out.below hz).2 j HJ.out
        rw [← HX.out.1, ← HX.out.2.1, ← HX.out.2.2.1, ← HX.out.2.2.2] at this
        exact this
      have HF := Lib.hid FX
      clear FX
      go_upto_region 10 with fail
      go_cut [15, 16] from 57 to 70 (fun s15 s16 wx => ∃ bk : Nat, s15 = .pointer (some ⟨bk, 0, none⟩) ∧ s16 = .bool vb ∧ DecB wx bk vm vs ∧ Below wr.heap.size wr wx)
      case first =>
        refine wp_region_any (by kernel_rfl) ?_
        change wpAny _ _ _ _ _ _ _ (World.drew _)
        refine wpAny_of_held (S := fun v => Below wr.heap.size wr v) _ _ _ _ ?_
        have hS : (fun v => Below wr.heap.size wr v) _ := (Below.refl _ wr).drew
        refine wpAnyH_take (i := 0) (oi := ⟨some 58, _, _, _, _, _⟩) (v := ?_) rfl (by kernel_rfl) (by kernel_rfl) (by kernel_rfl) (fun _ _ _ h => h) (Or.inl ⟨by simp only [Region.wanted], ?_⟩) hS ?_
        rotate_left
        · intro wz hSw
          clear hSw
          go_simp
          first | done | with_reducible rfl
        try simp only [Act.put, List.setIfInBounds_toArray, List.set_cons_zero, List.set_cons_succ]
        refine wpAnyH_take (i := 1) (oi := ⟨some 59, _, _, _, _, _⟩) (v := ?_) rfl (by kernel_rfl) (by kernel_rfl) (by kernel_rfl) (fun _ _ _ h => h) (Or.inl ⟨by simp only [Region.wanted], ?_⟩) hS ?_
        rotate_left
        · intro wz hSw
          clear hSw
          go_simp
          first | done | with_reducible rfl
        try simp only [Act.put, List.setIfInBounds_toArray, List.set_cons_zero, List.set_cons_succ]
        refine wpAnyH_take (i := 2) (oi := ⟨some 60, _, _, _, _, _⟩) (v := ?_) rfl (by kernel_rfl) (by kernel_rfl) (by kernel_rfl) (fun _ _ _ h => h) (Or.inl ⟨by simp only [Region.wanted], ?_⟩) hS ?_
        rotate_left
        · intro wz hSw
          clear hSw
          go_simp
          first | done | with_reducible rfl
        try simp only [Act.put, List.setIfInBounds_toArray, List.set_cons_zero, List.set_cons_succ]
        refine wpAnyH_take (i := 3) (oi := ⟨some 61, _, _, _, _, _⟩) (v := ?_) rfl (by kernel_rfl) (by kernel_rfl) (by kernel_rfl) (fun _ _ _ h => h) (Or.inl ⟨by simp only [Region.wanted], ?_⟩) hS ?_
        rotate_left
        · intro wz hSw
          clear hSw
          go_simp
          first | done | with_reducible rfl
        try simp only [Act.put, List.setIfInBounds_toArray, List.set_cons_zero, List.set_cons_succ]
        refine wpAnyH_take (i := 4) (oi := ⟨some 62, _, _, _, _, _⟩) (v := ?_) rfl (by kernel_rfl) (by kernel_rfl) (by kernel_rfl) (fun _ _ _ h => h) (Or.inl ⟨by simp only [Region.wanted], ?_⟩) hS ?_
        rotate_left
        · intro wz hSw; obtain ⟨f0, f1, f2, f3⟩ := HF.out _ hSw
          clear hSw
          go_simp
          first | done | with_reducible rfl
        try simp only [Act.put, List.setIfInBounds_toArray, List.set_cons_zero, List.set_cons_succ]
        refine wpAnyH_take (i := 5) (oi := ⟨some 63, _, _, _, _, _⟩) (v := ?_) rfl (by kernel_rfl) (by kernel_rfl) (by kernel_rfl) (fun _ _ _ h => h) (Or.inl ⟨by simp only [Region.wanted], ?_⟩) hS ?_
        rotate_left
        · intro wz hSw
          clear hSw
          go_simp
          first | done | with_reducible rfl
        try simp only [Act.put, List.setIfInBounds_toArray, List.set_cons_zero, List.set_cons_succ]
        refine wpAnyH_take (i := 6) (oi := ⟨some 64, _, _, _, _, _⟩) (v := ?_) rfl (by kernel_rfl) (by kernel_rfl) (by kernel_rfl) (fun _ _ _ h => h) (Or.inl ⟨by simp only [Region.wanted], ?_⟩) hS ?_
        rotate_left
        · intro wz hSw
          clear hSw
          go_simp
          first | done | with_reducible rfl
        try simp only [Act.put, List.setIfInBounds_toArray, List.set_cons_zero, List.set_cons_succ]
        refine wpAnyH_take (i := 7) (oi := ⟨some 65, _, _, _, _, _⟩) (v := ?_) rfl (by kernel_rfl) (by kernel_rfl) (by kernel_rfl) (fun _ _ _ h => h) (Or.inl ⟨by simp only [Region.wanted], ?_⟩) hS ?_
        rotate_left
        · intro wz hSw
          clear hSw
          go_simp
          first | done | with_reducible rfl
        try simp only [Act.put, List.setIfInBounds_toArray, List.set_cons_zero, List.set_cons_succ]
        refine wpAnyH_take (i := 8) (oi := ⟨some 66, _, _, _, _, _⟩) (v := ?_) rfl (by kernel_rfl) (by kernel_rfl) (by kernel_rfl) (fun _ _ _ h => h) (Or.inl ⟨by simp only [Region.wanted], ?_⟩) hS ?_
        rotate_left
        · intro wz hSw
          clear hSw
          go_simp
          first | done | with_reducible rfl
        try simp only [Act.put, List.setIfInBounds_toArray, List.set_cons_zero, List.set_cons_succ]
        refine wpAnyH_take (i := 9) (oi := ⟨some 67, _, _, _, _, _⟩) (v := ?_) rfl (by kernel_rfl) (by kernel_rfl) (by kernel_rfl) (fun _ _ _ h => h) (Or.inl ⟨by simp only [Region.wanted], ?_⟩) hS ?_
        rotate_left
        · intro wz hSw; obtain ⟨f0, f1, f2, f3⟩ := HF.out _ hSw
          clear hSw
          go_simp
          first | done | with_reducible rfl
        try simp only [Act.put, List.setIfInBounds_toArray, List.set_cons_zero, List.set_cons_succ]
        refine wpAnyH_ready (rs := [10, 14]) (by kernel_rfl) (by simp) ?_
        refine AllReadyH.cons (o := ⟨some 68, _, _, _, _, _⟩) rfl (fun K hK => ?_) (AllReadyH.cons (o := ⟨some 15, _, _, _, _, _⟩) rfl (fun K hK => ?_) AllReadyH.nil)
        · go_simp
          (with_reducible refine (HQ.out _).mono ?_)
          rintro e wn ⟨rfl, hbn⟩
          have hS1 := hS.trans (hbn.mono hS.size)
          clear hbn
          go_wp2_with fail
          refine hK.out _ _ (hS1) (fun hS => ?_)
          clear hK K
          try simp only [Act.put, List.setIfInBounds_toArray, List.set_cons_zero, List.set_cons_succ]
          refine wpAnyH_take (i := 11) (oi := ⟨some 57, _, _, _, _, _⟩) (v := ?_) rfl (by kernel_rfl) (by kernel_rfl) (by kernel_rfl) (fun _ _ _ h => h) (Or.inl ⟨by simp only [Region.wanted], ?_⟩) hS ?_
          rotate_left
          · intro wz hSw
            clear hSw
            go_simp
            first | done | with_reducible rfl
          try simp only [Act.put, List.setIfInBounds_toArray, List.set_cons_zero, List.set_cons_succ]
          refine wpAnyH_take (i := 12) (oi := ⟨some 69, _, _, _, _, _⟩) (v := ?_) rfl (by kernel_rfl) (by kernel_rfl) (by kernel_rfl) (fun _ _ _ h => h) (Or.inl ⟨by simp only [Region.wanted], ?_⟩) hS ?_
          rotate_left
          · intro wz hSw
            clear hSw
            go_simp
            first | done | with_reducible rfl
          try simp only [Act.put, List.setIfInBounds_toArray, List.set_cons_zero, List.set_cons_succ]
          refine wpAnyH_take (i := 13) (oi := ⟨some 70, _, _, _, _, _⟩) (v := ?_) rfl (by kernel_rfl) (by kernel_rfl) (by kernel_rfl) (fun _ _ _ h => h) (Or.inl ⟨by simp only [Region.wanted], ?_⟩) hS ?_
          rotate_left
          · intro wz hSw
            clear hSw
            go_simp
            first | done | with_reducible rfl
          try simp only [Act.put, List.setIfInBounds_toArray, List.set_cons_zero, List.set_cons_succ]
          refine wpAnyH_ready (rs := [14]) (by kernel_rfl) (by simp) ?_
          refine AllReadyH.cons (o := ⟨some 15, _, _, _, _, _⟩) rfl (fun K hK => ?_) AllReadyH.nil
          go_simp
          have HLE := Lib.hid hS.size
          have hSa := hS.alloc hS.size (.cells #[.int .i64 0, .int .i64 0] 24)
          have hSa : Below wr.heap.size wr (World.alloc wn (.cells #[.int .i64 0, .int .i64 0] 24)) := hSa
          have HKB := Lib.hid (DecB.new wn 0 0 24)
          have HKB : Hid (DecB (World.alloc wn (.cells #[.int .i64 0, .int .i64 0] 24)) wn.heap.size 0 0) := HKB
          generalize World.alloc wn _ = wa at hSa HKB ⊢
          refine hK.out _ _ (hSa) (fun hS => ?_)
          clear hK K
          try simp only [Act.put, List.setIfInBounds_toArray, List.set_cons_zero, List.set_cons_succ]
          obtain ⟨q0, q1, q2, q3, q4⟩ := HKB.out
          have hS5 := (hS.setCell (p := ⟨_, 0, none⟩) (by simp only []; exact HLE.out) (.int .i64 vm)).setCell (p := ⟨_, 1, none⟩) (by simp only []; exact HLE.out) (.int .i64 vs)
          refine wpAnyH_ready (rs := [15]) (by kernel_rfl) (by simp) ?_
          refine AllReadyH.cons (o := ⟨none, _, _, _, _, _⟩) rfl (fun K hK => ?_) AllReadyH.nil
          go_simp
          refine hK.out _ _ (hS5) (fun hS => ?_)
          clear hK K
          try simp only [Act.put, List.setIfInBounds_toArray, List.set_cons_zero, List.set_cons_succ]
          refine wpAnyH_take (i := 16) (oi := ⟨some 16, _, _, _, _, _⟩) (v := ?_) rfl (by kernel_rfl) (by kernel_rfl) (by kernel_rfl) (fun _ _ _ h => h) (Or.inl ⟨by simp only [Region.wanted], ?_⟩) hS ?_
          rotate_left
          · intro wz hSw
            clear hSw
            go_simp
            first | done | with_reducible rfl
          try simp only [Act.put, List.setIfInBounds_toArray, List.set_cons_zero, List.set_cons_succ]
          refine wpAnyH_done (by kernel_rfl) ?_ _
          go_wp2_with fail
          go_meet
          exact ⟨_, rfl, rfl, HKB.out.set, hS⟩
        · go_simp
          have HLE := Lib.hid hS.size
          have hSa := hS.alloc hS.size (.cells #[.int .i64 0, .int .i64 0] 24)
          have hSa : Below wr.heap.size wr (World.drew (World.alloc wr (.cells #[.int .i64 0, .int .i64 0] 24))) := hSa
          have HKB := Lib.hid (DecB.new wr 0 0 24)
          have HKB : Hid (DecB (World.drew (World.alloc wr (.cells #[.int .i64 0, .int .i64 0] 24))) wr.heap.size 0 0) := HKB
          generalize World.drew (World.alloc wr _) = wa at hSa HKB ⊢
          refine hK.out _ _ (hSa) (fun hS => ?_)
          clear hK K
          try simp only [Act.put, List.setIfInBounds_toArray, List.set_cons_zero, List.set_cons_succ]
          refine wpAnyH_ready (rs := [10]) (by kernel_rfl) (by simp) ?_
          refine AllReadyH.cons (o := ⟨some 68, _, _, _, _, _⟩) rfl (fun K hK => ?_) AllReadyH.nil
          go_simp
          (with_reducible refine (HQ.out _).mono ?_)
          rintro e wn ⟨rfl, hbn⟩
          have hS1 := hS.trans (hbn.mono hS.size)
          have HKB := Lib.hid (HKB.out.below hbn)
          clear hbn
          go_wp2_with fail
          refine hK.out _ _ (hS1) (fun hS => ?_)
          clear hK K
          try simp only [Act.put, List.setIfInBounds_toArray, List.set_cons_zero, List.set_cons_succ]
          refine wpAnyH_take (i := 11) (oi := ⟨some 57, _, _, _, _, _⟩) (v := ?_) rfl (by kernel_rfl) (by kernel_rfl) (by kernel_rfl) (fun _ _ _ h => h) (Or.inl ⟨by simp only [Region.wanted], ?_⟩) hS ?_
          rotate_left
          · intro wz hSw
            clear hSw
            go_simp
            first | done | with_reducible rfl
          try simp only [Act.put, List.setIfInBounds_toArray, List.set_cons_zero, List.set_cons_succ]
          refine wpAnyH_take (i := 12) (oi := ⟨some 69, _, _, _, _, _⟩) (v := ?_) rfl (by kernel_rfl) (by kernel_rfl) (by kernel_rfl) (fun _ _ _ h => h) (Or.inl ⟨by simp only [Region.wanted], ?_⟩) hS ?_
          rotate_left
          · intro wz hSw
            clear hSw
            go_simp
            first | done | with_reducible rfl
          try simp only [Act.put, List.setIfInBounds_toArray, List.set_cons_zero, List.set_cons_succ]
          refine wpAnyH_take (i := 13) (oi := ⟨some 70, _, _, _, _, _⟩) (v := ?_) rfl (by kernel_rfl) (by kernel_rfl) (by kernel_rfl) (fun _ _ _ h => h) (Or.inl ⟨by simp only [Region.wanted], ?_⟩) hS ?_
          rotate_left
          · intro wz hSw
            clear hSw
            go_simp
            first | done | with_reducible rfl
          try simp only [Act.put, List.setIfInBounds_toArray, List.set_cons_zero, List.set_cons_succ]
          obtain ⟨q0, q1, q2, q3, q4⟩ := HKB.out
          have hS5 := (hS.setCell (p := ⟨_, 0, none⟩) (by simp only []; exact HLE.out) (.int .i64 vm)).setCell (p := ⟨_, 1, none⟩) (by simp only []; exact HLE.out) (.int .i64 vs)
          refine wpAnyH_ready (rs := [15]) (by kernel_rfl) (by simp) ?_
          refine AllReadyH.cons (o := ⟨none, _, _, _, _, _⟩) rfl (fun K hK => ?_) AllReadyH.nil
          go_simp
          refine hK.out _ _ (hS5) (fun hS => ?_)
          clear hK K
          try simp only [Act.put, List.setIfInBounds_toArray, List.set_cons_zero, List.set_cons_succ]
          refine wpAnyH_take (i := 16) (oi := ⟨some 16, _, _, _, _, _⟩) (v := ?_) rfl (by kernel_rfl) (by kernel_rfl) (by kernel_rfl) (fun _ _ _ h => h) (Or.inl ⟨by simp only [Region.wanted], ?_⟩) hS ?_
          rotate_left
          · intro wz hSw
            clear hSw
            go_simp
            first | done | with_reducible rfl
          try simp only [Act.put, List.setIfInBounds_toArray, List.set_cons_zero, List.set_cons_succ]
          refine wpAnyH_done (by kernel_rfl) ?_ _
          go_wp2_with fail
          go_meet
          exact ⟨_, rfl, rfl, HKB.out.set, hS⟩
      case rest =>
        obtain ⟨bx, rfl, rfl, hD1, hB1⟩ := hcut
        have HD1 := Lib.hid hD1
        have HBa := Lib.hid hB1
        clear hD1 hB1
        rename World => wA
        go_upto_region 11 with fail
        go_cut [17, 18] from 71 to 84 (fun s15 s16 wx => ∃ bk : Nat, s15 = .pointer (some ⟨bk, 0, none⟩) ∧ s16 = .bool vb ∧ DecB wx bk vm vs ∧ Below wA.heap.size wA wx)
        case first =>
          refine wp_region_any (by kernel_rfl) ?_
          change wpAny _ _ _ _ _ _ _ (World.drew _)
          refine wpAny_of_held (S := fun v => Below wA.heap.size wA v) _ _ _ _ ?_
          have hS : (fun v => Below wA.heap.size wA v) _ := (Below.refl _ wA).drew
          refine wpAnyH_take (i := 0) (oi := ⟨some 72, _, _, _, _, _⟩) (v := ?_) rfl (by kernel_rfl) (by kernel_rfl) (by kernel_rfl) (fun _ _ _ h => h) (Or.inl ⟨by simp only [Region.wanted], ?_⟩) hS ?_
          rotate_left
          · intro wz hSw
            clear hSw
            go_simp
            first | done | with_reducible rfl
          try simp only [Act.put, List.setIfInBounds_toArray, List.set_cons_zero, List.set_cons_succ]
          refine wpAnyH_take (i := 1) (oi := ⟨some 73, _, _, _, _, _⟩) (v := ?_) rfl (by kernel_rfl) (by kernel_rfl) (by kernel_rfl) (fun _ _ _ h => h) (Or.inl ⟨by simp only [Region.wanted], ?_⟩) hS ?_
          rotate_left
          · intro wz hSw
            clear hSw
            go_simp
            first | done | with_reducible rfl
          try simp only [Act.put, List.setIfInBounds_toArray, List.set_cons_zero, List.set_cons_succ]
          refine wpAnyH_take (i := 2) (oi := ⟨some 74, _, _, _, _, _⟩) (v := ?_) rfl (by kernel_rfl) (by kernel_rfl) (by kernel_rfl) (fun _ _ _ h => h) (Or.inl ⟨by simp only [Region.wanted], ?_⟩) hS ?_
          rotate_left
          · intro wz hSw
            clear hSw
            go_simp
            first | done | with_reducible rfl
          try simp only [Act.put, List.setIfInBounds_toArray, List.set_cons_zero, List.set_cons_succ]
          refine wpAnyH_take (i := 3) (oi := ⟨some 75, _, _, _, _, _⟩) (v := ?_) rfl (by kernel_rfl) (by kernel_rfl) (by kernel_rfl) (fun _ _ _ h => h) (Or.inl ⟨by simp only [Region.wanted], ?_⟩) hS ?_
          rotate_left
          · intro wz hSw
            clear hSw
            go_simp
            first | done | with_reducible rfl
          try simp only [Act.put, List.setIfInBounds_toArray, List.set_cons_zero, List.set_cons_succ]
          refine wpAnyH_take (i := 4) (oi := ⟨some 76, _, _, _, _, _⟩) (v := ?_) rfl (by kernel_rfl) (by kernel_rfl) (by kernel_rfl) (fun _ _ _ h => h) (Or.inl ⟨by simp only [Region.wanted], ?_⟩) hS ?_
          rotate_left
          · intro wz hSw; obtain ⟨f0, f1, f2, f3⟩ := HF.out _ (HBa.out.trans (hSw.mono HBa.out.size))
            clear hSw
            go_simp
            first | done | with_reducible rfl
          try simp only [Act.put, List.setIfInBounds_toArray, List.set_cons_zero, List.set_cons_succ]
          refine wpAnyH_take (i := 5) (oi := ⟨some 77, _, _, _, _, _⟩) (v := ?_) rfl (by kernel_rfl) (by kernel_rfl) (by kernel_rfl) (fun _ _ _ h => h) (Or.inl ⟨by simp only [Region.wanted], ?_⟩) hS ?_
          rotate_left
          · intro wz hSw
            clear hSw
            go_simp
            first | done | with_reducible rfl
          try simp only [Act.put, List.setIfInBounds_toArray, List.set_cons_zero, List.set_cons_succ]
          refine wpAnyH_take (i := 6) (oi := ⟨some 78, _, _, _, _, _⟩) (v := ?_) rfl (by kernel_rfl) (by kernel_rfl) (by kernel_rfl) (fun _ _ _ h => h) (Or.inl ⟨by simp only [Region.wanted], ?_⟩) hS ?_
          rotate_left
          · intro wz hSw
            clear hSw
            go_simp
            first | done | with_reducible rfl
          try simp only [Act.put, List.setIfInBounds_toArray, List.set_cons_zero, List.set_cons_succ]
          refine wpAnyH_take (i := 7) (oi := ⟨some 79, _, _, _, _, _⟩) (v := ?_) rfl (by kernel_rfl) (by kernel_rfl) (by kernel_rfl) (fun _ _ _ h => h) (Or.inl ⟨by simp only [Region.wanted], ?_⟩) hS ?_
          rotate_left
          · intro wz hSw
            clear hSw
            go_simp
            first | done | with_reducible rfl
          try simp only [Act.put, List.setIfInBounds_toArray, List.set_cons_zero, List.set_cons_succ]
          refine wpAnyH_take (i := 8) (oi := ⟨some 80, _, _, _, _, _⟩) (v := ?_) rfl (by kernel_rfl) (by kernel_rfl) (by kernel_rfl) (fun _ _ _ h => h) (Or.inl ⟨by simp only [Region.wanted], ?_⟩) hS ?_
          rotate_left
          · intro wz hSw
            clear hSw
            go_simp
            first | done | with_reducible rfl
          try simp only [Act.put, List.setIfInBounds_toArray, List.set_cons_zero, List.set_cons_succ]
          refine wpAnyH_take (i := 9) (oi := ⟨some 81, _, _, _, _, _⟩) (v := ?_) rfl (by kernel_rfl) (by kernel_rfl) (by kernel_rfl) (fun _ _ _ h => h) (Or.inl ⟨by simp only [Region.wanted], ?_⟩) hS ?_
          rotate_left
          · intro wz hSw; obtain ⟨f0, f1, f2, f3⟩ := HF.out _ (HBa.out.trans (hSw.mono HBa.out.size))
            clear hSw
            go_simp
            first | done | with_reducible rfl
          try simp only [Act.put, List.setIfInBounds_toArray, List.set_cons_zero, List.set_cons_succ]
          refine wpAnyH_ready (rs := [10, 14]) (by kernel_rfl) (by simp) ?_
          refine AllReadyH.cons (o := ⟨some 82, _, _, _, _, _⟩) rfl (fun K hK => ?_) (AllReadyH.cons (o := ⟨some 17, _, _, _, _, _⟩) rfl (fun K hK => ?_) AllReadyH.nil)
          · go_simp
            (with_reducible refine (HR.out _).mono ?_)
            rintro e wn ⟨rfl, hbn⟩
            have hS1 := hS.trans (hbn.mono hS.size)
            clear hbn
            go_wp2_with fail
            refine hK.out _ _ (hS1) (fun hS => ?_)
            clear hK K
            try simp only [Act.put, List.setIfInBounds_toArray, List.set_cons_zero, List.set_cons_succ]
            refine wpAnyH_take (i := 11) (oi := ⟨some 71, _, _, _, _, _⟩) (v := ?_) rfl (by kernel_rfl) (by kernel_rfl) (by kernel_rfl) (fun _ _ _ h => h) (Or.inl ⟨by simp only [Region.wanted], ?_⟩) hS ?_
            rotate_left
            · intro wz hSw
              clear hSw
              go_simp
              first | done | with_reducible rfl
            try simp only [Act.put, List.setIfInBounds_toArray, List.set_cons_zero, List.set_cons_succ]
            refine wpAnyH_take (i := 12) (oi := ⟨some 83, _, _, _, _, _⟩) (v := ?_) rfl (by kernel_rfl) (by kernel_rfl) (by kernel_rfl) (fun _ _ _ h => h) (Or.inl ⟨by simp only [Region.wanted], ?_⟩) hS ?_
            rotate_left
            · intro wz hSw
              clear hSw
              go_simp
              first | done | with_reducible rfl
            try simp only [Act.put, List.setIfInBounds_toArray, List.set_cons_zero, List.set_cons_succ]
            refine wpAnyH_take (i := 13) (oi := ⟨some 84, _, _, _, _, _⟩) (v := ?_) rfl (by kernel_rfl) (by kernel_rfl) (by kernel_rfl) (fun _ _ _ h => h) (Or.inl ⟨by simp only [Region.wanted], ?_⟩) hS ?_
            rotate_left
            · intro wz hSw
              clear hSw
              go_simp
              first | done | with_reducible rfl
            try simp only [Act.put, List.setIfInBounds_toArray, List.set_cons_zero, List.set_cons_succ]
            refine wpAnyH_ready (rs := [14]) (by kernel_rfl) (by simp) ?_
            refine AllReadyH.cons (o := ⟨some 17, _, _, _, _, _⟩) rfl (fun K hK => ?_) AllReadyH.nil
            go_simp
            have HLE := Lib.hid hS.size
            have hSa := hS.alloc hS.size (.cells #[.int .i64 0, .int .i64 0] 24)
            have hSa : Below wA.heap.size wA (World.alloc wn (.cells #[.int .i64 0, .int .i64 0] 24)) := hSa
            have HKB := Lib.hid (DecB.new wn 0 0 24)
            have HKB : Hid (DecB (World.alloc wn (.cells #[.int .i64 0, .int .i64 0] 24)) wn.heap.size 0 0) := HKB
            generalize World.alloc wn _ = wa at hSa HKB ⊢
            refine hK.out _ _ (hSa) (fun hS => ?_)
            clear hK K
            try simp only [Act.put, List.setIfInBounds_toArray, List.set_cons_zero, List.set_cons_succ]
            obtain ⟨q0, q1, q2, q3, q4⟩ := HKB.out
            have hS5 := (hS.setCell (p := ⟨_, 0, none⟩) (by simp only []; exact HLE.out) (.int .i64 vm)).setCell (p := ⟨_, 1, none⟩) (by simp only []; exact HLE.out) (.int .i64 vs)
            refine wpAnyH_ready (rs := [15]) (by kernel_rfl) (by simp) ?_
            refine AllReadyH.cons (o := ⟨none, _, _, _, _, _⟩) rfl (fun K hK => ?_) AllReadyH.nil
            go_simp
            refine hK.out _ _ (hS5) (fun hS => ?_)
            clear hK K
            try simp only [Act.put, List.setIfInBounds_toArray, List.set_cons_zero, List.set_cons_succ]
            refine wpAnyH_take (i := 16) (oi := ⟨some 18, _, _, _, _, _⟩) (v := ?_) rfl (by kernel_rfl) (by kernel_rfl) (by kernel_rfl) (fun _ _ _ h => h) (Or.inl ⟨by simp only [Region.wanted], ?_⟩) hS ?_
            rotate_left
            · intro wz hSw
              clear hSw
              go_simp
              first | done | with_reducible rfl
            try simp only [Act.put, List.setIfInBounds_toArray, List.set_cons_zero, List.set_cons_succ]
            refine wpAnyH_done (by kernel_rfl) ?_ _
            go_wp2_with fail
            go_meet
            exact ⟨_, rfl, rfl, HKB.out.set, hS⟩
          · go_simp
            have HLE := Lib.hid hS.size
            have hSa := hS.alloc hS.size (.cells #[.int .i64 0, .int .i64 0] 24)
            have hSa : Below wA.heap.size wA (World.drew (World.alloc wA (.cells #[.int .i64 0, .int .i64 0] 24))) := hSa
            have HKB := Lib.hid (DecB.new wA 0 0 24)
            have HKB : Hid (DecB (World.drew (World.alloc wA (.cells #[.int .i64 0, .int .i64 0] 24))) wA.heap.size 0 0) := HKB
            generalize World.drew (World.alloc wA _) = wa at hSa HKB ⊢
            refine hK.out _ _ (hSa) (fun hS => ?_)
            clear hK K
            try simp only [Act.put, List.setIfInBounds_toArray, List.set_cons_zero, List.set_cons_succ]
            refine wpAnyH_ready (rs := [10]) (by kernel_rfl) (by simp) ?_
            refine AllReadyH.cons (o := ⟨some 82, _, _, _, _, _⟩) rfl (fun K hK => ?_) AllReadyH.nil
            go_simp
            (with_reducible refine (HR.out _).mono ?_)
            rintro e wn ⟨rfl, hbn⟩
            have hS1 := hS.trans (hbn.mono hS.size)
            have HKB := Lib.hid (HKB.out.below hbn)
            clear hbn
            go_wp2_with fail
            refine hK.out _ _ (hS1) (fun hS => ?_)
            clear hK K
            try simp only [Act.put, List.setIfInBounds_toArray, List.set_cons_zero, List.set_cons_succ]
            refine wpAnyH_take (i := 11) (oi := ⟨some 71, _, _, _, _, _⟩) (v := ?_) rfl (by kernel_rfl) (by kernel_rfl) (by kernel_rfl) (fun _ _ _ h => h) (Or.inl ⟨by simp only [Region.wanted], ?_⟩) hS ?_
            rotate_left
            · intro wz hSw
              clear hSw
              go_simp
              first | done | with_reducible rfl
            try simp only [Act.put, List.setIfInBounds_toArray, List.set_cons_zero, List.set_cons_succ]
            refine wpAnyH_take (i := 12) (oi := ⟨some 83, _, _, _, _, _⟩) (v := ?_) rfl (by kernel_rfl) (by kernel_rfl) (by kernel_rfl) (fun _ _ _ h => h) (Or.inl ⟨by simp only [Region.wanted], ?_⟩) hS ?_
            rotate_left
            · intro wz hSw
              clear hSw
              go_simp
              first | done | with_reducible rfl
            try simp only [Act.put, List.setIfInBounds_toArray, List.set_cons_zero, List.set_cons_succ]
            refine wpAnyH_take (i := 13) (oi := ⟨some 84, _, _, _, _, _⟩) (v := ?_) rfl (by kernel_rfl) (by kernel_rfl) (by kernel_rfl) (fun _ _ _ h => h) (Or.inl ⟨by simp only [Region.wanted], ?_⟩) hS ?_
            rotate_left
            · intro wz hSw
              clear hSw
              go_simp
              first | done | with_reducible rfl
            try simp only [Act.put, List.setIfInBounds_toArray, List.set_cons_zero, List.set_cons_succ]
            obtain ⟨q0, q1, q2, q3, q4⟩ := HKB.out
            have hS5 := (hS.setCell (p := ⟨_, 0, none⟩) (by simp only []; exact HLE.out) (.int .i64 vm)).setCell (p := ⟨_, 1, none⟩) (by simp only []; exact HLE.out) (.int .i64 vs)
            refine wpAnyH_ready (rs := [15]) (by kernel_rfl) (by simp) ?_
            refine AllReadyH.cons (o := ⟨none, _, _, _, _, _⟩) rfl (fun K hK => ?_) AllReadyH.nil
            go_simp
            refine hK.out _ _ (hS5) (fun hS => ?_)
            clear hK K
            try simp only [Act.put, List.setIfInBounds_toArray, List.set_cons_zero, List.set_cons_succ]
            refine wpAnyH_take (i := 16) (oi := ⟨some 18, _, _, _, _, _⟩) (v := ?_) rfl (by kernel_rfl) (by kernel_rfl) (by kernel_rfl) (fun _ _ _ h => h) (Or.inl ⟨by simp only [Region.wanted], ?_⟩) hS ?_
            rotate_left
            · intro wz hSw
              clear hSw
              go_simp
              first | done | with_reducible rfl
            try simp only [Act.put, List.setIfInBounds_toArray, List.set_cons_zero, List.set_cons_succ]
            refine wpAnyH_done (by kernel_rfl) ?_ _
            go_wp2_with fail
            go_meet
            exact ⟨_, rfl, rfl, HKB.out.set, hS⟩
        case rest =>
          obtain ⟨bY, rfl, rfl, hD2, hB2⟩ := hcut
          have HD2 := Lib.hid hD2
          have HBb := Lib.hid (HBa.out.trans (hB2.mono HBa.out.size))
          have HD1b := Lib.hid (HD1.out.below hB2)
          clear hD2 hB2 HD1
          rename World => wB
          go_upto_region 12 with fail
          go_cut [19, 20] from 85 to 98 (fun s15 s16 wx => ∃ bk : Nat, s15 = .pointer (some ⟨bk, 0, none⟩) ∧ s16 = .bool vb ∧ DecB wx bk vm vs ∧ Below wB.heap.size wB wx)
          case first =>
            refine wp_region_any (by kernel_rfl) ?_
            change wpAny _ _ _ _ _ _ _ (World.drew _)
            refine wpAny_of_held (S := fun v => Below wB.heap.size wB v) _ _ _ _ ?_
            have hS : (fun v => Below wB.heap.size wB v) _ := (Below.refl _ wB).drew
            refine wpAnyH_take (i := 0) (oi := ⟨some 86, _, _, _, _, _⟩) (v := ?_) rfl (by kernel_rfl) (by kernel_rfl) (by kernel_rfl) (fun _ _ _ h => h) (Or.inl ⟨by simp only [Region.wanted], ?_⟩) hS ?_
            rotate_left
            · intro wz hSw
              clear hSw
              go_simp
              first | done | with_reducible rfl
            try simp only [Act.put, List.setIfInBounds_toArray, List.set_cons_zero, List.set_cons_succ]
            refine wpAnyH_take (i := 1) (oi := ⟨some 87, _, _, _, _, _⟩) (v := ?_) rfl (by kernel_rfl) (by kernel_rfl) (by kernel_rfl) (fun _ _ _ h => h) (Or.inl ⟨by simp only [Region.wanted], ?_⟩) hS ?_
            rotate_left
            · intro wz hSw
              clear hSw
              go_simp
              first | done | with_reducible rfl
            try simp only [Act.put, List.setIfInBounds_toArray, List.set_cons_zero, List.set_cons_succ]
            refine wpAnyH_take (i := 2) (oi := ⟨some 88, _, _, _, _, _⟩) (v := ?_) rfl (by kernel_rfl) (by kernel_rfl) (by kernel_rfl) (fun _ _ _ h => h) (Or.inl ⟨by simp only [Region.wanted], ?_⟩) hS ?_
            rotate_left
            · intro wz hSw
              clear hSw
              go_simp
              first | done | with_reducible rfl
            try simp only [Act.put, List.setIfInBounds_toArray, List.set_cons_zero, List.set_cons_succ]
            refine wpAnyH_take (i := 3) (oi := ⟨some 89, _, _, _, _, _⟩) (v := ?_) rfl (by kernel_rfl) (by kernel_rfl) (by kernel_rfl) (fun _ _ _ h => h) (Or.inl ⟨by simp only [Region.wanted], ?_⟩) hS ?_
            rotate_left
            · intro wz hSw
              clear hSw
              go_simp
              first | done | with_reducible rfl
            try simp only [Act.put, List.setIfInBounds_toArray, List.set_cons_zero, List.set_cons_succ]
            refine wpAnyH_take (i := 4) (oi := ⟨some 90, _, _, _, _, _⟩) (v := ?_) rfl (by kernel_rfl) (by kernel_rfl) (by kernel_rfl) (fun _ _ _ h => h) (Or.inl ⟨by simp only [Region.wanted], ?_⟩) hS ?_
            rotate_left
            · intro wz hSw; obtain ⟨f0, f1, f2, f3⟩ := HF.out _ (HBb.out.trans (hSw.mono HBb.out.size))
              clear hSw
              go_simp
              first | done | with_reducible rfl
            try simp only [Act.put, List.setIfInBounds_toArray, List.set_cons_zero, List.set_cons_succ]
            refine wpAnyH_take (i := 5) (oi := ⟨some 91, _, _, _, _, _⟩) (v := ?_) rfl (by kernel_rfl) (by kernel_rfl) (by kernel_rfl) (fun _ _ _ h => h) (Or.inl ⟨by simp only [Region.wanted], ?_⟩) hS ?_
            rotate_left
            · intro wz hSw
              clear hSw
              go_simp
              first | done | with_reducible rfl
            try simp only [Act.put, List.setIfInBounds_toArray, List.set_cons_zero, List.set_cons_succ]
            refine wpAnyH_take (i := 6) (oi := ⟨some 92, _, _, _, _, _⟩) (v := ?_) rfl (by kernel_rfl) (by kernel_rfl) (by kernel_rfl) (fun _ _ _ h => h) (Or.inl ⟨by simp only [Region.wanted], ?_⟩) hS ?_
            rotate_left
            · intro wz hSw
              clear hSw
              go_simp
              first | done | with_reducible rfl
            try simp only [Act.put, List.setIfInBounds_toArray, List.set_cons_zero, List.set_cons_succ]
            refine wpAnyH_take (i := 7) (oi := ⟨some 93, _, _, _, _, _⟩) (v := ?_) rfl (by kernel_rfl) (by kernel_rfl) (by kernel_rfl) (fun _ _ _ h => h) (Or.inl ⟨by simp only [Region.wanted], ?_⟩) hS ?_
            rotate_left
            · intro wz hSw
              clear hSw
              go_simp
              first | done | with_reducible rfl
            try simp only [Act.put, List.setIfInBounds_toArray, List.set_cons_zero, List.set_cons_succ]
            refine wpAnyH_take (i := 8) (oi := ⟨some 94, _, _, _, _, _⟩) (v := ?_) rfl (by kernel_rfl) (by kernel_rfl) (by kernel_rfl) (fun _ _ _ h => h) (Or.inl ⟨by simp only [Region.wanted], ?_⟩) hS ?_
            rotate_left
            · intro wz hSw
              clear hSw
              go_simp
              first | done | with_reducible rfl
            try simp only [Act.put, List.setIfInBounds_toArray, List.set_cons_zero, List.set_cons_succ]
            refine wpAnyH_take (i := 9) (oi := ⟨some 95, _, _, _, _, _⟩) (v := ?_) rfl (by kernel_rfl) (by kernel_rfl) (by kernel_rfl) (fun _ _ _ h => h) (Or.inl ⟨by simp only [Region.wanted], ?_⟩) hS ?_
            rotate_left
            · intro wz hSw; obtain ⟨f0, f1, f2, f3⟩ := HF.out _ (HBb.out.trans (hSw.mono HBb.out.size))
              clear hSw
              go_simp
              first | done | with_reducible rfl
            try simp only [Act.put, List.setIfInBounds_toArray, List.set_cons_zero, List.set_cons_succ]
            refine wpAnyH_ready (rs := [10, 14]) (by kernel_rfl) (by simp) ?_
            refine AllReadyH.cons (o := ⟨some 96, _, _, _, _, _⟩) rfl (fun K hK => ?_) (AllReadyH.cons (o := ⟨some 19, _, _, _, _, _⟩) rfl (fun K hK => ?_) AllReadyH.nil)
            · go_simp
              (with_reducible refine (HQ2.out _).mono ?_)
              rintro e wn ⟨rfl, hbn⟩
              have hS1 := hS.trans (hbn.mono hS.size)
              clear hbn
              go_wp2_with fail
              refine hK.out _ _ (hS1) (fun hS => ?_)
              clear hK K
              try simp only [Act.put, List.setIfInBounds_toArray, List.set_cons_zero, List.set_cons_succ]
              refine wpAnyH_take (i := 11) (oi := ⟨some 85, _, _, _, _, _⟩) (v := ?_) rfl (by kernel_rfl) (by kernel_rfl) (by kernel_rfl) (fun _ _ _ h => h) (Or.inl ⟨by simp only [Region.wanted], ?_⟩) hS ?_
              rotate_left
              · intro wz hSw
                clear hSw
                go_simp
                first | done | with_reducible rfl
              try simp only [Act.put, List.setIfInBounds_toArray, List.set_cons_zero, List.set_cons_succ]
              refine wpAnyH_take (i := 12) (oi := ⟨some 97, _, _, _, _, _⟩) (v := ?_) rfl (by kernel_rfl) (by kernel_rfl) (by kernel_rfl) (fun _ _ _ h => h) (Or.inl ⟨by simp only [Region.wanted], ?_⟩) hS ?_
              rotate_left
              · intro wz hSw
                clear hSw
                go_simp
                first | done | with_reducible rfl
              try simp only [Act.put, List.setIfInBounds_toArray, List.set_cons_zero, List.set_cons_succ]
              refine wpAnyH_take (i := 13) (oi := ⟨some 98, _, _, _, _, _⟩) (v := ?_) rfl (by kernel_rfl) (by kernel_rfl) (by kernel_rfl) (fun _ _ _ h => h) (Or.inl ⟨by simp only [Region.wanted], ?_⟩) hS ?_
              rotate_left
              · intro wz hSw
                clear hSw
                go_simp
                first | done | with_reducible rfl
              try simp only [Act.put, List.setIfInBounds_toArray, List.set_cons_zero, List.set_cons_succ]
              refine wpAnyH_ready (rs := [14]) (by kernel_rfl) (by simp) ?_
              refine AllReadyH.cons (o := ⟨some 19, _, _, _, _, _⟩) rfl (fun K hK => ?_) AllReadyH.nil
              go_simp
              have HLE := Lib.hid hS.size
              have hSa := hS.alloc hS.size (.cells #[.int .i64 0, .int .i64 0] 24)
              have hSa : Below wB.heap.size wB (World.alloc wn (.cells #[.int .i64 0, .int .i64 0] 24)) := hSa
              have HKB := Lib.hid (DecB.new wn 0 0 24)
              have HKB : Hid (DecB (World.alloc wn (.cells #[.int .i64 0, .int .i64 0] 24)) wn.heap.size 0 0) := HKB
              generalize World.alloc wn _ = wa at hSa HKB ⊢
              refine hK.out _ _ (hSa) (fun hS => ?_)
              clear hK K
              try simp only [Act.put, List.setIfInBounds_toArray, List.set_cons_zero, List.set_cons_succ]
              obtain ⟨q0, q1, q2, q3, q4⟩ := HKB.out
              have hS5 := (hS.setCell (p := ⟨_, 0, none⟩) (by simp only []; exact HLE.out) (.int .i64 vm)).setCell (p := ⟨_, 1, none⟩) (by simp only []; exact HLE.out) (.int .i64 vs)
              refine wpAnyH_ready (rs := [15]) (by kernel_rfl) (by simp) ?_
              refine AllReadyH.cons (o := ⟨none, _, _, _, _, _⟩) rfl (fun K hK => ?_) AllReadyH.nil
              go_simp
              refine hK.out _ _ (hS5) (fun hS => ?_)
              clear hK K
              try simp only [Act.put, List.setIfInBounds_toArray, List.set_cons_zero, List.set_cons_succ]
              refine wpAnyH_take (i := 16) (oi := ⟨some 20, _, _, _, _, _⟩) (v := ?_) rfl (by kernel_rfl) (by kernel_rfl) (by kernel_rfl) (fun _ _ _ h => h) (Or.inl ⟨by simp only [Region.wanted], ?_⟩) hS ?_
              rotate_left
              · intro wz hSw
                clear hSw
                go_simp
                first | done | with_reducible rfl
              try simp only [Act.put, List.setIfInBounds_toArray, List.set_cons_zero, List.set_cons_succ]
              refine wpAnyH_done (by kernel_rfl) ?_ _
              go_wp2_with fail
              go_meet
              exact ⟨_, rfl, rfl, HKB.out.set, hS⟩
            · go_simp
              have HLE := Lib.hid hS.size
              have hSa := hS.alloc hS.size (.cells #[.int .i64 0, .int .i64 0] 24)
              have hSa : Below wB.heap.size wB (World.drew (World.alloc wB (.cells #[.int .i64 0, .int .i64 0] 24))) := hSa
              have HKB := Lib.hid (DecB.new wB 0 0 24)
              have HKB : Hid (DecB (World.drew (World.alloc wB (.cells #[.int .i64 0, .int .i64 0] 24))) wB.heap.size 0 0) := HKB
              generalize World.drew (World.alloc wB _) = wa at hSa HKB ⊢
              refine hK.out _ _ (hSa) (fun hS => ?_)
              clear hK K
              try simp only [Act.put, List.setIfInBounds_toArray, List.set_cons_zero, List.set_cons_succ]
              refine wpAnyH_ready (rs := [10]) (by kernel_rfl) (by simp) ?_
              refine AllReadyH.cons (o := ⟨some 96, _, _, _, _, _⟩) rfl (fun K hK => ?_) AllReadyH.nil
              go_simp
              (with_reducible refine (HQ2.out _).mono ?_)
              rintro e wn ⟨rfl, hbn⟩
              have hS1 := hS.trans (hbn.mono hS.size)
              have HKB := Lib.hid (HKB.out.below hbn)
              clear hbn
              go_wp2_with fail
              refine hK.out _ _ (hS1) (fun hS => ?_)
              clear hK K
              try simp only [Act.put, List.setIfInBounds_toArray, List.set_cons_zero, List.set_cons_succ]
              refine wpAnyH_take (i := 11) (oi := ⟨some 85, _, _, _, _, _⟩) (v := ?_) rfl (by kernel_rfl) (by kernel_rfl) (by kernel_rfl) (fun _ _ _ h => h) (Or.inl ⟨by simp only [Region.wanted], ?_⟩) hS ?_
              rotate_left
              · intro wz hSw
                clear hSw
                go_simp
                first | done | with_reducible rfl
              try simp only [Act.put, List.setIfInBounds_toArray, List.set_cons_zero, List.set_cons_succ]
              refine wpAnyH_take (i := 12) (oi := ⟨some 97, _, _, _, _, _⟩) (v := ?_) rfl (by kernel_rfl) (by kernel_rfl) (by kernel_rfl) (fun _ _ _ h => h) (Or.inl ⟨by simp only [Region.wanted], ?_⟩) hS ?_
              rotate_left
              · intro wz hSw
                clear hSw
                go_simp
                first | done | with_reducible rfl
              try simp only [Act.put, List.setIfInBounds_toArray, List.set_cons_zero, List.set_cons_succ]
              refine wpAnyH_take (i := 13) (oi := ⟨some 98, _, _, _, _, _⟩) (v := ?_) rfl (by kernel_rfl) (by kernel_rfl) (by kernel_rfl) (fun _ _ _ h => h) (Or.inl ⟨by simp only [Region.wanted], ?_⟩) hS ?_
              rotate_left
              · intro wz hSw
                clear hSw
                go_simp
                first | done | with_reducible rfl
              try simp only [Act.put, List.setIfInBounds_toArray, List.set_cons_zero, List.set_cons_succ]
              obtain ⟨q0, q1, q2, q3, q4⟩ := HKB.out
              have hS5 := (hS.setCell (p := ⟨_, 0, none⟩) (by simp only []; exact HLE.out) (.int .i64 vm)).setCell (p := ⟨_, 1, none⟩) (by simp only []; exact HLE.out) (.int .i64 vs)
              refine wpAnyH_ready (rs := [15]) (by kernel_rfl) (by simp) ?_
              refine AllReadyH.cons (o := ⟨none, _, _, _, _, _⟩) rfl (fun K hK => ?_) AllReadyH.nil
              go_simp
              refine hK.out _ _ (hS5) (fun hS => ?_)
              clear hK K
              try simp only [Act.put, List.setIfInBounds_toArray, List.set_cons_zero, List.set_cons_succ]
              refine wpAnyH_take (i := 16) (oi := ⟨some 20, _, _, _, _, _⟩) (v := ?_) rfl (by kernel_rfl) (by kernel_rfl) (by kernel_rfl) (fun _ _ _ h => h) (Or.inl ⟨by simp only [Region.wanted], ?_⟩) hS ?_
              rotate_left
              · intro wz hSw
                clear hSw
                go_simp
                first | done | with_reducible rfl
              try simp only [Act.put, List.setIfInBounds_toArray, List.set_cons_zero, List.set_cons_succ]
              refine wpAnyH_done (by kernel_rfl) ?_ _
              go_wp2_with fail
              go_meet
              exact ⟨_, rfl, rfl, HKB.out.set, hS⟩
          case rest =>
            obtain ⟨bz, rfl, rfl, hD3, hB3⟩ := hcut
            have HD3 := Lib.hid hD3
            have HD1c := Lib.hid (HD1b.out.below hB3)
            have HD2c := Lib.hid (HD2.out.below hB3)
            have HBc := Lib.hid (HBb.out.trans (hB3.mono HBb.out.size))
            clear hD3 hB3
            have HE := fun w => equal_dec vm vs vm vs w
            obtain ⟨z0, z1, z2, -, -⟩ := HD3.out
            obtain ⟨y0, y1, y2, -, -⟩ := HD2c.out
            obtain ⟨x0, x1, x2, -, -⟩ := HD1c.out
            go_wp2_with fail
            go_roundw
            case rel => exact ⟨j + 1, by go_num, by omega, HP.out.below HBc.out, HA.out.below HBc.out, HB.out.trans (HBc.out.mono HB.out.size)⟩
            case measure => simp [intOf]; omega
    · have hlti : ¬ (j : Int) < 3 := by omega
      have g1 : GoodD 1 0 := ⟨by omega, by omega, by omega, by omega, .inl rfl⟩
      have hms := HGD.out.1
      have H1 := Lib.hid (fun w => mul_any w m s 1 0 hms g1)
      have H0 := Lib.hid (fun w => mul_any w m s 0 0 hms good_nil)
      have e1 : decP (nrm (m * 1) (s.toNat + (0 : Int).toNat)) = .tuple #[.agg #[.int .i64 m, .int .i64 s], .bool true] := by
        have h' : GoodD m (s.toNat : Int) := by rw [show ((s.toNat : Nat) : Int) = s by have := hms.2.2.1; omega]; exact hms
        rw [Int.mul_one, show s.toNat + (0 : Int).toNat = s.toNat from rfl, nrm_self h', dec_self hms]
      have e0 : decP (nrm (m * 0) (s.toNat + (0 : Int).toNat)) = .tuple #[.agg #[.int .i64 0, .int .i64 0], .bool true] := by
        have hz : ∀ K, nrm 0 K = (0, 0) := by
          intro K
          induction K with
          | zero => rfl
          | succ K ih => rw [nrm_go (K + 1) (by omega) (by decide)]; exact ih
        rw [Int.mul_zero, hz]; rfl
      rw [e1] at H1
      rw [e0] at H0
      clear e1 e0 g1 hms
      obtain ⟨x0, x1, x2, -, -⟩ := HA.out
      go_wp2_with fail
      (with_reducible refine (H1.out _).mono ?_)
      rintro e w10 ⟨rfl, hb⟩
      have HB1 := Lib.hid (HB.out.trans (hb.mono HB.out.size))
      have HA1 := Lib.hid (HA.out.below hb)
      have HD1 := Lib.hid (DecB.new w10 m s 24)
      have HA2 := Lib.hid (HA1.out.below ((Below.refl w10.heap.size w10).alloc (Nat.le_refl _) (.cells #[.int .i64 m, .int .i64 s] 24)))
      have HB2 := Lib.hid (HB1.out.alloc HB1.out.size (.cells #[.int .i64 m, .int .i64 s] 24))
      clear hb x0 x1 x2
      go_upto_region 16 with fail
      generalize World.alloc w10 _ = w11 at HD1 HA2 HB2 ⊢
      generalize w10.heap.size = c1 at HD1 ⊢
      obtain ⟨x0, x1, x2, -, -⟩ := HA2.out
      go_wp2_with fail
      (with_reducible refine (H0.out _).mono ?_)
      rintro e w12 ⟨rfl, hb⟩
      have HB3 := Lib.hid (HB2.out.trans (hb.mono HB2.out.size))
      have HA3 := Lib.hid (HA2.out.below hb)
      have HD3 := Lib.hid (HD1.out.below hb)
      have hn := (Below.refl w12.heap.size w12).alloc (Nat.le_refl _) (.cells #[.int .i64 0, .int .i64 0] 24)
      have HD4 := Lib.hid (DecB.new w12 0 0 24)
      have HA4 := Lib.hid (HA3.out.below hn)
      have HD5 := Lib.hid (HD3.out.below hn)
      have HB4 := Lib.hid (HB3.out.alloc HB3.out.size (.cells #[.int .i64 0, .int .i64 0] 24))
      clear hb x0 x1 x2 hn
      go_upto_region 17 with fail
      generalize World.alloc w12 _ = w13 at HD4 HA4 HD5 HB4 ⊢
      generalize w12.heap.size = c2 at HD4 ⊢
      have HE1 := fun w => equal_dec m s m s w
      have HE2 := fun w => equal_dec 0 0 0 0 w
      obtain ⟨x0, x1, x2, -, -⟩ := HA4.out
      obtain ⟨y0, y1, y2, -, -⟩ := HD4.out
      obtain ⟨z0, z1, z2, -, -⟩ := HD5.out
      go_wp2_with fail
      go_ret
      exact ⟨rfl, HB4.out⟩
end Go.Proofs.YtodhklapikfpoaaDoor
