/- DecDivs: the walk. -/
import Derived.Test.YtodhklapikfpoaaDoorVi
import Derived.Deep.DeepCutAuto
namespace Go.Proofs.YtodhklapikfpoaaDoor
open Go.RowKit Go.Shelf Flo
set_option maxRecDepth 100000
set_option linter.unusedVariables false
set_option linter.unusedSimpArgs false

/-- seven numbers, one behind the other. -/
def Sev (w : World) (b : Nat) (f : Nat → Int) : Prop := b < w.heap.size ∧ ∀ j, j < 7 → w.cell? ⟨b, j, none⟩ = some (.int .i64 (f j))
theorem Sev.below {w w' : World} {b : Nat} {f : Nat → Int} (h : Sev w b f) (hb : Below w.heap.size w w') : Sev w' b f :=
  ⟨Nat.lt_of_lt_of_le h.1 hb.size, fun j hj => cellB hb h.1 (h.2 j hj)⟩
def sel7 (a b c d e f g : Int) (j : Nat) : Int := if j = 0 then a else if j = 1 then b else if j = 2 then c else if j = 3 then d else if j = 4 then e else if j = 5 then f else g
theorem Sev.new (w : World) (t : TypeId) (a b c d e f g : Int) : Sev (w.alloc (.cells #[.int .i64 a, .int .i64 b, .int .i64 c, .int .i64 d, .int .i64 e, .int .i64 f, .int .i64 g] t)) w.heap.size (sel7 a b c d e f g) := by
  refine ⟨by simp, fun j hj => ?_⟩
  have : j = 0 ∨ j = 1 ∨ j = 2 ∨ j = 3 ∨ j = 4 ∨ j = 5 ∨ j = 6 := by omega
  rcases this with rfl | rfl | rfl | rfl | rfl | rfl | rfl <;> simp [World.cell?_alloc_new, sel7]
theorem sel7_le {a b c d e f g B : Int} (h1 : a ≤ B) (h2 : b ≤ B) (h3 : c ≤ B) (h4 : d ≤ B) (h5 : e ≤ B) (h6 : f ≤ B) (h7 : g ≤ B) (j : Nat) : sel7 a b c d e f g j ≤ B := by
  unfold sel7
  (repeat' split) <;> assumption
theorem good50 : goodP 50 6 = (5, 5) := by decide +kernel

set_option maxHeartbeats 4000000 in
theorem divs13_walk (a p n : Int) (w : World) (ha : In64 a) (hp : In64 p) (hn : In64 n) (hX : PowAt w) :
    Calls Tryd.prog 4 #[.int .i64 a, .int .i64 p, .int .i64 n] w fun e w' => e = .returned (.bool true) ∧ Below w.heap.size w w' := by
  have HK := Lib.hid (known13_any w)
  have HG := Lib.hid (fun w => good_in a p w ha hp)
  have HG3 := Lib.hid (fun w => good_in (a.tmod 1000000) (p.tmod 5) w (in64_rem ha _) (in64_rem hp _))
  have HG5 := Lib.hid (fun w => good_in 50 6 w ⟨by omega, by omega⟩ ⟨by omega, by omega⟩)
  rw [good50] at HG5
  have HW := Lib.hid (fun w => within_any n 50 w (by omega) (by omega) hn.1 hn.2)
  have HW9 := Lib.hid (fun w => within_any n 9 w (by omega) (by omega) hn.1 hn.2)
  obtain ⟨t50, ht50⟩ : ∃ x : Nat, (x : Int) = n % 50 := ⟨(n % 50).toNat, by omega⟩
  obtain ⟨t9, ht9⟩ : ∃ x : Nat, (x : Int) = n % 9 := ⟨(n % 9).toNat, by omega⟩
  have h50 : t50 < 50 := by omega
  have h9 : t9 < 9 := by omega
  rw [← ht50] at HW
  rw [← ht9] at HW9
  obtain ⟨K, hK⟩ : ∃ K, K = t50 + 1 := ⟨_, rfl⟩
  have hKi : 1 + (t50 : Int) = (K : Int) := by omega
  obtain ⟨m, hm⟩ : ∃ m, m = (goodP a p).1 := ⟨_, rfl⟩
  obtain ⟨s, hs⟩ : ∃ s : Nat, s = (goodP a p).2 := ⟨_, rfl⟩
  obtain ⟨m3, hm3⟩ : ∃ m, m = (goodP (a.tmod 1000000) (p.tmod 5)).1 := ⟨_, rfl⟩
  obtain ⟨s3, hs3⟩ : ∃ s : Nat, s = (goodP (a.tmod 1000000) (p.tmod 5)).2 := ⟨_, rfl⟩
  have h1 : GoodD m s := by rw [hm, hs]; exact good_good a p
  have h3 : GoodD m3 s3 := by rw [hm3, hs3]; exact good_good _ _
  have h3b : m3.natAbs ≤ 999999 := by
    rw [hm3]
    unfold goodP
    refine Nat.le_trans (nrm_le _ _) ?_
    have e1 := Int.natAbs_tmod (a.tmod 1000000) 1000000000000000
    have e2 := Int.natAbs_tmod a 1000000
    rw [e1, e2]
    have : a.natAbs % (1000000 : Int).natAbs < 1000000 := Nat.mod_lt _ (by decide)
    exact Nat.le_trans (Nat.mod_le _ _) (by omega)
  rw [← hm, ← hs] at HG
  rw [← hm3, ← hs3] at HG3
  obtain ⟨vx, sx, vb, sb, vr, sr, c1, c2, c3, c4, c5, c6, c7, c8⟩ := divs_chain (K := K) h3 h3b (by omega) (by omega)
  have HC1 := Lib.hid (fun w hP => ddiv_any w m3 s3 K h3 (by omega) hP)
  have HC2 := Lib.hid (fun w => mul_any w vx sx K 0 c2 ⟨by omega, by omega, by omega, by omega, .inl rfl⟩)
  have HC3 := Lib.hid (fun w => neg_any w vb sb c4)
  have HC4 := Lib.hid (fun w hP => add_six w m3 s3 (-vb) sb h3 (good_neg c4) hP)
  have HC5 := Lib.hid (fun w => neg_any w vr sr c6)
  have g55 : GoodD 5 5 := ⟨by omega, by omega, by omega, by omega, .inr (by decide)⟩
  have e55 : sixI 5 (5 : Int).toNat = 50 := by decide
  have HC6 := Lib.hid (fun w hP => cmp_six w (-vr) sr 5 5 (good_neg c6) g55 hP)
  have HC7 := Lib.hid (fun w hP => cmp_six w vr sr 5 5 c6 g55 hP)
  rw [e55] at HC6 HC7
  rw [Int.toNat_natCast] at HC4
  rw [c1] at HC1
  rw [c3] at HC2
  rw [c5] at HC4
  have HCC := Lib.hid (And.intro c7 c8)
  have HGD := Lib.hid h1
  have HX := Lib.hid hX
  have HNB := Lib.hid (show n ≤ 9223372036854775807 ∧ 1 + (t50 : Int) ≤ 9223372036854775807 ∧ -1 - (t9 : Int) ≤ 9223372036854775807 from ⟨hn.2, by omega, by omega⟩)
  clear hm hs hm3 hs3 ha hp hn h1 h3 h3b c1 c2 c3 c4 c5 c6 c7 c8 g55 e55 ht50 ht9 hX hK
  go_enter Tryd.func4, Tryd.ntmps4
  go_wp2_with fail
  refine HK.out.mono ?_
  rintro e w1 ⟨rfl, hb1⟩
  have HB1 := Lib.hid hb1
  clear hb1
  go_wp2_with fail
  (with_reducible refine (HG.out _).mono ?_)
  rintro e w2 ⟨rfl, hb2⟩
  have HC := Lib.hid (DecB.new w2 m s 24)
  have HB2 := Lib.hid (HB1.out.trans (hb2.mono HB1.out.size))
  have HB3 := Lib.hid (HB2.out.alloc HB2.out.size (.cells #[.int .i64 m, .int .i64 (s : Int)] 24))
  clear hb2
  go_upto_region 4 with fail
  generalize World.alloc w2 _ = w3 at HC HB3 ⊢
  generalize w2.heap.size = ba at HC ⊢
  go_wp2_with fail
  (with_reducible refine (HW.out _).mono ?_)
  rintro e w' ⟨rfl, rfl⟩
  go_wp2_with fail
  (with_reducible refine (HW9.out _).mono ?_)
  rintro e w' ⟨rfl, rfl⟩
  go_wp2_with fail
  have HB9 := Lib.hid (HB3.out.alloc HB3.out.size (.cells #[.int .i64 n, .int .i64 (K : Int), .int .i64 1, .int .i64 0, .int .i64 (-1 - (t9 : Int)), .int .i64 9223372036854775807, .int .i64 4611686018427387904] 3))
  have HP9 := Lib.hid (Sev.new w3 3 n K 1 0 (-1 - (t9 : Int)) 9223372036854775807 4611686018427387904)
  have HA9 := Lib.hid (HC.out.below ((Below.refl w3.heap.size w3).alloc (Nat.le_refl _) (.cells #[.int .i64 n, .int .i64 (K : Int), .int .i64 1, .int .i64 0, .int .i64 (-1 - (t9 : Int)), .int .i64 9223372036854775807, .int .i64 4611686018427387904] 3)))
  generalize World.alloc w3 _ = w9 at HB9 HP9 HA9 ⊢
  generalize w3.heap.size = br at HP9 ⊢
  clear HC
  have hAll : ∀ j, sel7 n K 1 0 (-1 - (t9 : Int)) 9223372036854775807 4611686018427387904 j ≤ 9223372036854775807 := by
    obtain ⟨h1, h2, h3⟩ := HNB.out
    exact sel7_le h1 (by omega) (by omega) (by omega) h3 (by omega) (by omega)
  have HF7 := Lib.hid hAll
  clear hAll
  generalize sel7 n K 1 0 (-1 - (t9 : Int)) 9223372036854775807 4611686018427387904 = f at HF7 HP9
  go_loopw [9] (fun i wx => ∃ j : Nat, i = .int .i64 (j : Int) ∧ j ≤ 7 ∧ Sev wx br f ∧ DecB wx ba m s ∧ Below w.heap.size w wx) (fun i _ => 7 - (intOf i).toNat)
  case atStart => exact ⟨0, rfl, by omega, HP9.out, HA9.out, HB9.out⟩
  case round =>
    obtain ⟨j, rfl, hj, hP, hA, hB⟩ := hrel
    have HP := Lib.hid hP
    have HA := Lib.hid hA
    have HB := Lib.hid hB
    clear hP hA hB
    by_cases hlt : j < 7
    · have hlti : (j : Int) < 7 := by omega
      have HJ := Lib.hid hlt
      obtain ⟨x, hx⟩ : ∃ x, x = f j := ⟨_, rfl⟩
      have hxb := HF7.out j
      rw [← hx] at hxb
      have HQ := Lib.hid (fun w hP => ddiv_any w m s x HGD.out hxb hP)
      have HR := Lib.hid (fun w => rdiv_any w m s x HGD.out hxb)
      obtain ⟨wm, ws, wb, hv, hvb⟩ := divP_cases m s x
      rw [hv] at HQ HR
      have HVB := Lib.hid hvb
      have FX : ∀ wz, Below wr.heap.size wr wz → wz.cell? ⟨br, j, none⟩ = some (.int .i64 x) := by
        intro wz hz
        have := (HP.out.below hz).2 j HJ.out
        rw [← hx] at this
        exact this
      have HF := Lib.hid FX
      clear FX hx hv hvb hxb
      go_upto_region 8 with fail
      go_cut [10, 11] from 41 to 49 (fun s15 s16 wx => ∃ bk : Nat, s15 = .pointer (some ⟨bk, 0, none⟩) ∧ s16 = .bool wb ∧ DecB wx bk wm ws ∧ Below wr.heap.size wr wx)
      case first =>
        refine wp_region_any (by kernel_rfl) ?_
        change wpAny _ _ _ _ _ _ _ (World.drew _)
        refine wpAny_of_held (S := fun v => Below wr.heap.size wr v) _ _ _ _ ?_
        have hS : (fun v => Below wr.heap.size wr v) _ := (Below.refl _ wr).drew
        refine wpAnyH_take (i := 0) (oi := ⟨some 42, _, _, _, _, _⟩) (v := ?_) rfl (by kernel_rfl) (by kernel_rfl) (by kernel_rfl) (fun _ _ _ h => h) (Or.inl ⟨by simp only [Region.wanted], ?_⟩) hS ?_
        rotate_left
        · intro wz hSw; obtain ⟨-, f0, f1, -, -⟩ := HA.out.below hSw
          clear hSw
          go_simp
          first | done | with_reducible rfl
        try simp only [Act.put, List.setIfInBounds_toArray, List.set_cons_zero, List.set_cons_succ]
        refine wpAnyH_take (i := 1) (oi := ⟨some 43, _, _, _, _, _⟩) (v := ?_) rfl (by kernel_rfl) (by kernel_rfl) (by kernel_rfl) (fun _ _ _ h => h) (Or.inl ⟨by simp only [Region.wanted], ?_⟩) hS ?_
        rotate_left
        · intro wz hSw
          clear hSw
          go_simp
          first | done | with_reducible rfl
        try simp only [Act.put, List.setIfInBounds_toArray, List.set_cons_zero, List.set_cons_succ]
        refine wpAnyH_take (i := 2) (oi := ⟨some 44, _, _, _, _, _⟩) (v := ?_) rfl (by kernel_rfl) (by kernel_rfl) (by kernel_rfl) (fun _ _ _ h => h) (Or.inl ⟨by simp only [Region.wanted], ?_⟩) hS ?_
        rotate_left
        · intro wz hSw
          clear hSw
          go_simp
          first | done | with_reducible rfl
        try simp only [Act.put, List.setIfInBounds_toArray, List.set_cons_zero, List.set_cons_succ]
        refine wpAnyH_take (i := 3) (oi := ⟨some 45, _, _, _, _, _⟩) (v := ?_) rfl (by kernel_rfl) (by kernel_rfl) (by kernel_rfl) (fun _ _ _ h => h) (Or.inl ⟨by simp only [Region.wanted], ?_⟩) hS ?_
        rotate_left
        · intro wz hSw
          clear hSw
          go_simp
          first | done | with_reducible rfl
        try simp only [Act.put, List.setIfInBounds_toArray, List.set_cons_zero, List.set_cons_succ]
        refine wpAnyH_take (i := 4) (oi := ⟨some 46, _, _, _, _, _⟩) (v := ?_) rfl (by kernel_rfl) (by kernel_rfl) (by kernel_rfl) (fun _ _ _ h => h) (Or.inl ⟨by simp only [Region.wanted], ?_⟩) hS ?_
        rotate_left
        · intro wz hSw; have f0 := HF.out _ hSw
          clear hSw
          go_simp
          first | done | with_reducible rfl
        try simp only [Act.put, List.setIfInBounds_toArray, List.set_cons_zero, List.set_cons_succ]
        refine wpAnyH_ready (rs := [5, 9]) (by kernel_rfl) (by simp) ?_
        refine AllReadyH.cons (o := ⟨some 47, _, _, _, _, _⟩) rfl (fun K hK => ?_) (AllReadyH.cons (o := ⟨some 10, _, _, _, _, _⟩) rfl (fun K hK => ?_) AllReadyH.nil)
        · go_simp
          (with_reducible refine (HQ.out _ (HX.out.below (HB.out.trans (hS.mono HB.out.size)))).mono ?_)
          rintro e wn ⟨rfl, hbn⟩
          have hS1 := hS.trans (hbn.mono hS.size)
          clear hbn
          go_wp2_with fail
          refine hK.out _ _ (hS1) (fun hS => ?_)
          clear hK K
          try simp only [Act.put, List.setIfInBounds_toArray, List.set_cons_zero, List.set_cons_succ]
          refine wpAnyH_take (i := 6) (oi := ⟨some 41, _, _, _, _, _⟩) (v := ?_) rfl (by kernel_rfl) (by kernel_rfl) (by kernel_rfl) (fun _ _ _ h => h) (Or.inl ⟨by simp only [Region.wanted], ?_⟩) hS ?_
          rotate_left
          · intro wz hSw
            clear hSw
            go_simp
            first | done | with_reducible rfl
          try simp only [Act.put, List.setIfInBounds_toArray, List.set_cons_zero, List.set_cons_succ]
          refine wpAnyH_take (i := 7) (oi := ⟨some 48, _, _, _, _, _⟩) (v := ?_) rfl (by kernel_rfl) (by kernel_rfl) (by kernel_rfl) (fun _ _ _ h => h) (Or.inl ⟨by simp only [Region.wanted], ?_⟩) hS ?_
          rotate_left
          · intro wz hSw
            clear hSw
            go_simp
            first | done | with_reducible rfl
          try simp only [Act.put, List.setIfInBounds_toArray, List.set_cons_zero, List.set_cons_succ]
          refine wpAnyH_take (i := 8) (oi := ⟨some 49, _, _, _, _, _⟩) (v := ?_) rfl (by kernel_rfl) (by kernel_rfl) (by kernel_rfl) (fun _ _ _ h => h) (Or.inl ⟨by simp only [Region.wanted], ?_⟩) hS ?_
          rotate_left
          · intro wz hSw
            clear hSw
            go_simp
            first | done | with_reducible rfl
          try simp only [Act.put, List.setIfInBounds_toArray, List.set_cons_zero, List.set_cons_succ]
          refine wpAnyH_ready (rs := [9]) (by kernel_rfl) (by simp) ?_
          refine AllReadyH.cons (o := ⟨some 10, _, _, _, _, _⟩) rfl (fun K hK => ?_) AllReadyH.nil
          go_simp
          have HLE := Lib.hid hS.size
          have hSa := hS.alloc hS.size (.cells #[.int .i64 0, .int .i64 0] 24)
          have hSa : Below wr.heap.size wr (World.alloc wn (.cells #[.int .i64 0, .int .i64 0] 24)) := hSa
          have HKB := Lib.hid (DecB.new wn 0 0 24)
          have HKB : Hid (DecB (World.alloc wn (.cells #[.int .i64 0, .int .i64 0] 24)) wn.heap.size 0 0) := HKB
          generalize World.alloc wn _ = wa at hSa HKB ⊢
          refine hK.out _ _ (hSa) (fun hS => ?_)
          clear hK K
          try simp only [Act.put, List.setIfInBounds_toArray, List.set_cons_zero, List.set_cons_succ]
          obtain ⟨q0, q1, q2, q3, q4⟩ := HKB.out
          have hS5 := (hS.setCell (p := ⟨_, 0, none⟩) (by simp only []; exact HLE.out) (.int .i64 wm)).setCell (p := ⟨_, 1, none⟩) (by simp only []; exact HLE.out) (.int .i64 ws)
          refine wpAnyH_ready (rs := [10]) (by kernel_rfl) (by simp) ?_
          refine AllReadyH.cons (o := ⟨none, _, _, _, _, _⟩) rfl (fun K hK => ?_) AllReadyH.nil
          go_simp
          refine hK.out _ _ (hS5) (fun hS => ?_)
          clear hK K
          try simp only [Act.put, List.setIfInBounds_toArray, List.set_cons_zero, List.set_cons_succ]
          refine wpAnyH_take (i := 11) (oi := ⟨some 11, _, _, _, _, _⟩) (v := ?_) rfl (by kernel_rfl) (by kernel_rfl) (by kernel_rfl) (fun _ _ _ h => h) (Or.inl ⟨by simp only [Region.wanted], ?_⟩) hS ?_
          rotate_left
          · intro wz hSw
            clear hSw
            go_simp
            first | done | with_reducible rfl
          try simp only [Act.put, List.setIfInBounds_toArray, List.set_cons_zero, List.set_cons_succ]
          refine wpAnyH_done (by kernel_rfl) ?_ _
          go_wp2_with fail
          go_meet
          exact ⟨_, rfl, rfl, HKB.out.set, hS⟩
        · go_simp
          have HLE := Lib.hid hS.size
          have hSa := hS.alloc hS.size (.cells #[.int .i64 0, .int .i64 0] 24)
          have hSa : Below wr.heap.size wr (World.drew (World.alloc wr (.cells #[.int .i64 0, .int .i64 0] 24))) := hSa
          have HKB := Lib.hid (DecB.new wr 0 0 24)
          have HKB : Hid (DecB (World.drew (World.alloc wr (.cells #[.int .i64 0, .int .i64 0] 24))) wr.heap.size 0 0) := HKB
          generalize World.drew (World.alloc wr _) = wa at hSa HKB ⊢
          refine hK.out _ _ (hSa) (fun hS => ?_)
          clear hK K
          try simp only [Act.put, List.setIfInBounds_toArray, List.set_cons_zero, List.set_cons_succ]
          refine wpAnyH_ready (rs := [5]) (by kernel_rfl) (by simp) ?_
          refine AllReadyH.cons (o := ⟨some 47, _, _, _, _, _⟩) rfl (fun K hK => ?_) AllReadyH.nil
          go_simp
          (with_reducible refine (HQ.out _ (HX.out.below (HB.out.trans (hS.mono HB.out.size)))).mono ?_)
          rintro e wn ⟨rfl, hbn⟩
          have hS1 := hS.trans (hbn.mono hS.size)
          have HKB := Lib.hid (HKB.out.below hbn)
          clear hbn
          go_wp2_with fail
          refine hK.out _ _ (hS1) (fun hS => ?_)
          clear hK K
          try simp only [Act.put, List.setIfInBounds_toArray, List.set_cons_zero, List.set_cons_succ]
          refine wpAnyH_take (i := 6) (oi := ⟨some 41, _, _, _, _, _⟩) (v := ?_) rfl (by kernel_rfl) (by kernel_rfl) (by kernel_rfl) (fun _ _ _ h => h) (Or.inl ⟨by simp only [Region.wanted], ?_⟩) hS ?_
          rotate_left
          · intro wz hSw
            clear hSw
            go_simp
            first | done | with_reducible rfl
          try simp only [Act.put, List.setIfInBounds_toArray, List.set_cons_zero, List.set_cons_succ]
          refine wpAnyH_take (i := 7) (oi := ⟨some 48, _, _, _, _, _⟩) (v := ?_) rfl (by kernel_rfl) (by kernel_rfl) (by kernel_rfl) (fun _ _ _ h => h) (Or.inl ⟨by simp only [Region.wanted], ?_⟩) hS ?_
          rotate_left
          · intro wz hSw
            clear hSw
            go_simp
            first | done | with_reducible rfl
          try simp only [Act.put, List.setIfInBounds_toArray, List.set_cons_zero, List.set_cons_succ]
          refine wpAnyH_take (i := 8) (oi := ⟨some 49, _, _, _, _, _⟩) (v := ?_) rfl (by kernel_rfl) (by kernel_rfl) (by kernel_rfl) (fun _ _ _ h => h) (Or.inl ⟨by simp only [Region.wanted], ?_⟩) hS ?_
          rotate_left
          · intro wz hSw
            clear hSw
            go_simp
            first | done | with_reducible rfl
          try simp only [Act.put, List.setIfInBounds_toArray, List.set_cons_zero, List.set_cons_succ]
          obtain ⟨q0, q1, q2, q3, q4⟩ := HKB.out
          have hS5 := (hS.setCell (p := ⟨_, 0, none⟩) (by simp only []; exact HLE.out) (.int .i64 wm)).setCell (p := ⟨_, 1, none⟩) (by simp only []; exact HLE.out) (.int .i64 ws)
          refine wpAnyH_ready (rs := [10]) (by kernel_rfl) (by simp) ?_
          refine AllReadyH.cons (o := ⟨none, _, _, _, _, _⟩) rfl (fun K hK => ?_) AllReadyH.nil
          go_simp
          refine hK.out _ _ (hS5) (fun hS => ?_)
          clear hK K
          try simp only [Act.put, List.setIfInBounds_toArray, List.set_cons_zero, List.set_cons_succ]
          refine wpAnyH_take (i := 11) (oi := ⟨some 11, _, _, _, _, _⟩) (v := ?_) rfl (by kernel_rfl) (by kernel_rfl) (by kernel_rfl) (fun _ _ _ h => h) (Or.inl ⟨by simp only [Region.wanted], ?_⟩) hS ?_
          rotate_left
          · intro wz hSw
            clear hSw
            go_simp
            first | done | with_reducible rfl
          try simp only [Act.put, List.setIfInBounds_toArray, List.set_cons_zero, List.set_cons_succ]
          refine wpAnyH_done (by kernel_rfl) ?_ _
          go_wp2_with fail
          go_meet
          exact ⟨_, rfl, rfl, HKB.out.set, hS⟩
      case rest =>
        obtain ⟨bx, rfl, rfl, hD1, hB1⟩ := hcut
        have HD1 := Lib.hid hD1
        have HBa := Lib.hid hB1
        clear hD1 hB1
        rename World => wA
        go_upto_region 9 with fail
        go_cut [12, 13] from 50 to 58 (fun s15 s16 wx => ∃ bk : Nat, s15 = .pointer (some ⟨bk, 0, none⟩) ∧ s16 = .bool wb ∧ DecB wx bk wm ws ∧ Below wA.heap.size wA wx)
        case first =>
          refine wp_region_any (by kernel_rfl) ?_
          change wpAny _ _ _ _ _ _ _ (World.drew _)
          refine wpAny_of_held (S := fun v => Below wA.heap.size wA v) _ _ _ _ ?_
          have hS : (fun v => Below wA.heap.size wA v) _ := (Below.refl _ wA).drew
          refine wpAnyH_take (i := 0) (oi := ⟨some 51, _, _, _, _, _⟩) (v := ?_) rfl (by kernel_rfl) (by kernel_rfl) (by kernel_rfl) (fun _ _ _ h => h) (Or.inl ⟨by simp only [Region.wanted], ?_⟩) hS ?_
          rotate_left
          · intro wz hSw; obtain ⟨-, f0, f1, -, -⟩ := HA.out.below (HBa.out.trans (hSw.mono HBa.out.size))
            clear hSw
            go_simp
            first | done | with_reducible rfl
          try simp only [Act.put, List.setIfInBounds_toArray, List.set_cons_zero, List.set_cons_succ]
          refine wpAnyH_take (i := 1) (oi := ⟨some 52, _, _, _, _, _⟩) (v := ?_) rfl (by kernel_rfl) (by kernel_rfl) (by kernel_rfl) (fun _ _ _ h => h) (Or.inl ⟨by simp only [Region.wanted], ?_⟩) hS ?_
          rotate_left
          · intro wz hSw
            clear hSw
            go_simp
            first | done | with_reducible rfl
          try simp only [Act.put, List.setIfInBounds_toArray, List.set_cons_zero, List.set_cons_succ]
          refine wpAnyH_take (i := 2) (oi := ⟨some 53, _, _, _, _, _⟩) (v := ?_) rfl (by kernel_rfl) (by kernel_rfl) (by kernel_rfl) (fun _ _ _ h => h) (Or.inl ⟨by simp only [Region.wanted], ?_⟩) hS ?_
          rotate_left
          · intro wz hSw
            clear hSw
            go_simp
            first | done | with_reducible rfl
          try simp only [Act.put, List.setIfInBounds_toArray, List.set_cons_zero, List.set_cons_succ]
          refine wpAnyH_take (i := 3) (oi := ⟨some 54, _, _, _, _, _⟩) (v := ?_) rfl (by kernel_rfl) (by kernel_rfl) (by kernel_rfl) (fun _ _ _ h => h) (Or.inl ⟨by simp only [Region.wanted], ?_⟩) hS ?_
          rotate_left
          · intro wz hSw
            clear hSw
            go_simp
            first | done | with_reducible rfl
          try simp only [Act.put, List.setIfInBounds_toArray, List.set_cons_zero, List.set_cons_succ]
          refine wpAnyH_take (i := 4) (oi := ⟨some 55, _, _, _, _, _⟩) (v := ?_) rfl (by kernel_rfl) (by kernel_rfl) (by kernel_rfl) (fun _ _ _ h => h) (Or.inl ⟨by simp only [Region.wanted], ?_⟩) hS ?_
          rotate_left
          · intro wz hSw; have f0 := HF.out _ (HBa.out.trans (hSw.mono HBa.out.size))
            clear hSw
            go_simp
            first | done | with_reducible rfl
          try simp only [Act.put, List.setIfInBounds_toArray, List.set_cons_zero, List.set_cons_succ]
          refine wpAnyH_ready (rs := [5, 9]) (by kernel_rfl) (by simp) ?_
          refine AllReadyH.cons (o := ⟨some 56, _, _, _, _, _⟩) rfl (fun K hK => ?_) (AllReadyH.cons (o := ⟨some 12, _, _, _, _, _⟩) rfl (fun K hK => ?_) AllReadyH.nil)
          · go_simp
            (with_reducible refine (HR.out _).mono ?_)
            rintro e wn ⟨rfl, hbn⟩
            have hS1 := hS.trans (hbn.mono hS.size)
            clear hbn
            go_wp2_with fail
            refine hK.out _ _ (hS1) (fun hS => ?_)
            clear hK K
            try simp only [Act.put, List.setIfInBounds_toArray, List.set_cons_zero, List.set_cons_succ]
            refine wpAnyH_take (i := 6) (oi := ⟨some 50, _, _, _, _, _⟩) (v := ?_) rfl (by kernel_rfl) (by kernel_rfl) (by kernel_rfl) (fun _ _ _ h => h) (Or.inl ⟨by simp only [Region.wanted], ?_⟩) hS ?_
            rotate_left
            · intro wz hSw
              clear hSw
              go_simp
              first | done | with_reducible rfl
            try simp only [Act.put, List.setIfInBounds_toArray, List.set_cons_zero, List.set_cons_succ]
            refine wpAnyH_take (i := 7) (oi := ⟨some 57, _, _, _, _, _⟩) (v := ?_) rfl (by kernel_rfl) (by kernel_rfl) (by kernel_rfl) (fun _ _ _ h => h) (Or.inl ⟨by simp only [Region.wanted], ?_⟩) hS ?_
            rotate_left
            · intro wz hSw
              clear hSw
              go_simp
              first | done | with_reducible rfl
            try simp only [Act.put, List.setIfInBounds_toArray, List.set_cons_zero, List.set_cons_succ]
            refine wpAnyH_take (i := 8) (oi := ⟨some 58, _, _, _, _, _⟩) (v := ?_) rfl (by kernel_rfl) (by kernel_rfl) (by kernel_rfl) (fun _ _ _ h => h) (Or.inl ⟨by simp only [Region.wanted], ?_⟩) hS ?_
            rotate_left
            · intro wz hSw
              clear hSw
              go_simp
              first | done | with_reducible rfl
            try simp only [Act.put, List.setIfInBounds_toArray, List.set_cons_zero, List.set_cons_succ]
            refine wpAnyH_ready (rs := [9]) (by kernel_rfl) (by simp) ?_
            refine AllReadyH.cons (o := ⟨some 12, _, _, _, _, _⟩) rfl (fun K hK => ?_) AllReadyH.nil
            go_simp
            have HLE := Lib.hid hS.size
            have hSa := hS.alloc hS.size (.cells #[.int .i64 0, .int .i64 0] 24)
            have hSa : Below wA.heap.size wA (World.alloc wn (.cells #[.int .i64 0, .int .i64 0] 24)) := hSa
            have HKB := Lib.hid (DecB.new wn 0 0 24)
            have HKB : Hid (DecB (World.alloc wn (.cells #[.int .i64 0, .int .i64 0] 24)) wn.heap.size 0 0) := HKB
            generalize World.alloc wn _ = wa at hSa HKB ⊢
            refine hK.out _ _ (hSa) (fun hS => ?_)
            clear hK K
            try simp only [Act.put, List.setIfInBounds_toArray, List.set_cons_zero, List.set_cons_succ]
            obtain ⟨q0, q1, q2, q3, q4⟩ := HKB.out
            have hS5 := (hS.setCell (p := ⟨_, 0, none⟩) (by simp only []; exact HLE.out) (.int .i64 wm)).setCell (p := ⟨_, 1, none⟩) (by simp only []; exact HLE.out) (.int .i64 ws)
            refine wpAnyH_ready (rs := [10]) (by kernel_rfl) (by simp) ?_
            refine AllReadyH.cons (o := ⟨none, _, _, _, _, _⟩) rfl (fun K hK => ?_) AllReadyH.nil
            go_simp
            refine hK.out _ _ (hS5) (fun hS => ?_)
            clear hK K
            try simp only [Act.put, List.setIfInBounds_toArray, List.set_cons_zero, List.set_cons_succ]
            refine wpAnyH_take (i := 11) (oi := ⟨some 13, _, _, _, _, _⟩) (v := ?_) rfl (by kernel_rfl) (by kernel_rfl) (by kernel_rfl) (fun _ _ _ h => h) (Or.inl ⟨by simp only [Region.wanted], ?_⟩) hS ?_
            rotate_left
            · intro wz hSw
              clear hSw
              go_simp
              first | done | with_reducible rfl
            try simp only [Act.put, List.setIfInBounds_toArray, List.set_cons_zero, List.set_cons_succ]
            refine wpAnyH_done (by kernel_rfl) ?_ _
            go_wp2_with fail
            go_meet
            exact ⟨_, rfl, rfl, HKB.out.set, hS⟩
          · go_simp
            have HLE := Lib.hid hS.size
            have hSa := hS.alloc hS.size (.cells #[.int .i64 0, .int .i64 0] 24)
            have hSa : Below wA.heap.size wA (World.drew (World.alloc wA (.cells #[.int .i64 0, .int .i64 0] 24))) := hSa
            have HKB := Lib.hid (DecB.new wA 0 0 24)
            have HKB : Hid (DecB (World.drew (World.alloc wA (.cells #[.int .i64 0, .int .i64 0] 24))) wA.heap.size 0 0) := HKB
            generalize World.drew (World.alloc wA _) = wa at hSa HKB ⊢
            refine hK.out _ _ (hSa) (fun hS => ?_)
            clear hK K
            try simp only [Act.put, List.setIfInBounds_toArray, List.set_cons_zero, List.set_cons_succ]
            refine wpAnyH_ready (rs := [5]) (by kernel_rfl) (by simp) ?_
            refine AllReadyH.cons (o := ⟨some 56, _, _, _, _, _⟩) rfl (fun K hK => ?_) AllReadyH.nil
            go_simp
            (with_reducible refine (HR.out _).mono ?_)
            rintro e wn ⟨rfl, hbn⟩
            have hS1 := hS.trans (hbn.mono hS.size)
            have HKB := Lib.hid (HKB.out.below hbn)
            clear hbn
            go_wp2_with fail
            refine hK.out _ _ (hS1) (fun hS => ?_)
            clear hK K
            try simp only [Act.put, List.setIfInBounds_toArray, List.set_cons_zero, List.set_cons_succ]
            refine wpAnyH_take (i := 6) (oi := ⟨some 50, _, _, _, _, _⟩) (v := ?_) rfl (by kernel_rfl) (by kernel_rfl) (by kernel_rfl) (fun _ _ _ h => h) (Or.inl ⟨by simp only [Region.wanted], ?_⟩) hS ?_
            rotate_left
            · intro wz hSw
              clear hSw
              go_simp
              first | done | with_reducible rfl
            try simp only [Act.put, List.setIfInBounds_toArray, List.set_cons_zero, List.set_cons_succ]
            refine wpAnyH_take (i := 7) (oi := ⟨some 57, _, _, _, _, _⟩) (v := ?_) rfl (by kernel_rfl) (by kernel_rfl) (by kernel_rfl) (fun _ _ _ h => h) (Or.inl ⟨by simp only [Region.wanted], ?_⟩) hS ?_
            rotate_left
            · intro wz hSw
              clear hSw
              go_simp
              first | done | with_reducible rfl
            try simp only [Act.put, List.setIfInBounds_toArray, List.set_cons_zero, List.set_cons_succ]
            refine wpAnyH_take (i := 8) (oi := ⟨some 58, _, _, _, _, _⟩) (v := ?_) rfl (by kernel_rfl) (by kernel_rfl) (by kernel_rfl) (fun _ _ _ h => h) (Or.inl ⟨by simp only [Region.wanted], ?_⟩) hS ?_
            rotate_left
            · intro wz hSw
              clear hSw
              go_simp
              first | done | with_reducible rfl
            try simp only [Act.put, List.setIfInBounds_toArray, List.set_cons_zero, List.set_cons_succ]
            obtain ⟨q0, q1, q2, q3, q4⟩ := HKB.out
            have hS5 := (hS.setCell (p := ⟨_, 0, none⟩) (by simp only []; exact HLE.out) (.int .i64 wm)).setCell (p := ⟨_, 1, none⟩) (by simp only []; exact HLE.out) (.int .i64 ws)
            refine wpAnyH_ready (rs := [10]) (by kernel_rfl) (by simp) ?_
            refine AllReadyH.cons (o := ⟨none, _, _, _, _, _⟩) rfl (fun K hK => ?_) AllReadyH.nil
            go_simp
            refine hK.out _ _ (hS5) (fun hS => ?_)
            clear hK K
            try simp only [Act.put, List.setIfInBounds_toArray, List.set_cons_zero, List.set_cons_succ]
            refine wpAnyH_take (i := 11) (oi := ⟨some 13, _, _, _, _, _⟩) (v := ?_) rfl (by kernel_rfl) (by kernel_rfl) (by kernel_rfl) (fun _ _ _ h => h) (Or.inl ⟨by simp only [Region.wanted], ?_⟩) hS ?_
            rotate_left
            · intro wz hSw
              clear hSw
              go_simp
              first | done | with_reducible rfl
            try simp only [Act.put, List.setIfInBounds_toArray, List.set_cons_zero, List.set_cons_succ]
            refine wpAnyH_done (by kernel_rfl) ?_ _
            go_wp2_with fail
            go_meet
            exact ⟨_, rfl, rfl, HKB.out.set, hS⟩
        case rest =>
          obtain ⟨bY, rfl, rfl, hD2, hB2⟩ := hcut
          have HD2 := Lib.hid hD2
          have HBb := Lib.hid (HBa.out.trans (hB2.mono HBa.out.size))
          have HD1b := Lib.hid (HD1.out.below hB2)
          clear hD2 hB2 HD1
          have HE := fun w => equal_dec wm ws wm ws w
          obtain ⟨y0, y1, y2, -, -⟩ := HD2.out
          obtain ⟨x0, x1, x2, -, -⟩ := HD1b.out
          have hcx := HF.out _ HBb.out
          have HRL := Lib.hid (show ∃ j2 : Nat, (.int .i64 ((j : Int) + 1) : Value) = .int .i64 (j2 : Int) ∧ j2 ≤ 7 ∧ Sev wc br f ∧ DecB wc ba m s ∧ Below w.heap.size w wc from ⟨j + 1, rfl, by omega, HP.out.below HBb.out, HA.out.below HBb.out, HB.out.trans (HBb.out.mono HB.out.size)⟩)
          by_cases hx1 : x < 1
          · obtain rfl : wb = false := HVB.out hx1
            go_wp2_with fail
            go_roundw
            case rel => exact HRL.out
            case measure => simp [intOf]; omega
          · go_wp2_with fail
            go_roundw
            case rel => exact HRL.out
            case measure => simp [intOf]; omega
    · have hlti : ¬ (j : Int) < 7 := by omega
      clear HP9 HA9 HB9
      obtain ⟨x0, x1, x2, -, -⟩ := HA.out
      go_wp2_with fail
      (with_reducible refine (HW.out _).mono ?_)
      rintro e w' ⟨rfl, rfl⟩
      go_wp2_with fail
      (with_reducible refine (HG3.out _).mono ?_)
      rintro e w10 ⟨rfl, hb⟩
      have HB10 := Lib.hid (HB.out.trans (hb.mono HB.out.size))
      have HC11 := Lib.hid (show Blks (World.alloc w10 (.cells #[.int .i64 m3, .int .i64 (s3 : Int)] 24)) [(w10.heap.size, m3, (s3 : Int))] from Blks.more (fun _ h => by cases h) (DecB.new w10 m3 s3 24))
      have HB11 := Lib.hid (HB10.out.alloc HB10.out.size (.cells #[.int .i64 m3, .int .i64 (s3 : Int)] 24))
      clear hb x0 x1 x2
      go_upto_region 14 with fail
      generalize World.alloc w10 _ = w11 at HC11 HB11 ⊢
      generalize w10.heap.size = bb at HC11 ⊢
      obtain ⟨x0, x1, x2, -, -⟩ := HC11.out.head
      go_wp2_with fail
      (with_reducible refine (HC1.out _ (HX.out.below HB11.out)).mono ?_)
      rintro e w12 ⟨rfl, hb⟩
      have HB12 := Lib.hid (HB11.out.trans (hb.mono HB11.out.size))
      have HC13 := Lib.hid (Blks.new (m := vx) (s := sx) (t := 24) (HC11.out.below hb))
      have HB13 := Lib.hid (HB12.out.alloc HB12.out.size (.cells #[.int .i64 vx, .int .i64 sx] 24))
      clear hb x0 x1 x2
      go_upto_region 17 with fail
      generalize World.alloc w12 _ = w13 at HC13 HB13 ⊢
      generalize w12.heap.size = bc at HC13 ⊢
      obtain ⟨x0, x1, x2, -, -⟩ := HC13.out.head
      go_wp2_with fail
      (with_reducible refine (HC2.out _).mono ?_)
      rintro e w14 ⟨rfl, hb⟩
      have HB14 := Lib.hid (HB13.out.trans (hb.mono HB13.out.size))
      have HC15 := Lib.hid (Blks.new (m := vb) (s := sb) (t := 24) (HC13.out.below hb))
      have HB15 := Lib.hid (HB14.out.alloc HB14.out.size (.cells #[.int .i64 vb, .int .i64 sb] 24))
      clear hb x0 x1 x2
      go_upto_region 20 with fail
      generalize World.alloc w14 _ = wm at HC15 HB15 ⊢
      generalize w14.heap.size = bd at HC15 ⊢
      go_cut [20, 21] from 102 to 108 (fun s17 s18 wx => ∃ bk : Nat, s17 = .pointer (some ⟨bk, 0, none⟩) ∧ s18 = .bool true ∧ DecB wx bk vr sr ∧ wm.heap.size ≤ bk ∧ Below wm.heap.size wm wx)
      case first =>
        refine wp_region_any (by kernel_rfl) ?_
        change wpAny _ _ _ _ _ _ _ (World.drew _)
        refine wpAny_of_held (S := fun v => Below wm.heap.size wm v) _ _ _ _ ?_
        have hS : (fun v => Below wm.heap.size wm v) _ := (Below.refl _ wm).drew
        refine wpAnyH_take (i := 0) (oi := ⟨some 103, _, _, _, _, _⟩) (v := ?_) rfl (by kernel_rfl) (by kernel_rfl) (by kernel_rfl) (fun _ _ _ h => h) (Or.inl ⟨by simp only [Region.wanted], ?_⟩) hS ?_
        rotate_left
        · intro wz hSw; obtain ⟨-, f0, f1, -, -⟩ := HC15.out.tail.tail.head.below hSw
          clear hSw
          go_simp
          first | done | with_reducible rfl
        try simp only [Act.put, List.setIfInBounds_toArray, List.set_cons_zero, List.set_cons_succ]
        refine wpAnyH_take (i := 1) (oi := ⟨some 104, _, _, _, _, _⟩) (v := ?_) rfl (by kernel_rfl) (by kernel_rfl) (by kernel_rfl) (fun _ _ _ h => h) (Or.inl ⟨by simp only [Region.wanted], ?_⟩) hS ?_
        rotate_left
        · intro wz hSw; obtain ⟨-, f0, f1, -, -⟩ := HC15.out.head.below hSw
          clear hSw
          go_simp
          first | done | with_reducible rfl
        try simp only [Act.put, List.setIfInBounds_toArray, List.set_cons_zero, List.set_cons_succ]
        refine wpAnyH_ready (rs := [2, 7]) (by kernel_rfl) (by simp) ?_
        refine AllReadyH.cons (o := ⟨some 105, _, _, _, _, _⟩) rfl (fun K hK => ?_) (AllReadyH.cons (o := ⟨some 20, _, _, _, _, _⟩) rfl (fun K hK => ?_) AllReadyH.nil)
        · go_simp
          (with_reducible refine (HC3.out _).mono ?_)
          rintro e wn2 ⟨rfl, hbn⟩
          have hS1 := hS.trans (hbn.mono hS.size)
          clear hbn
          go_wp2_with fail
          refine hK.out _ _ (hS1) (fun hS => ?_)
          clear hK K
          try simp only [Act.put, List.setIfInBounds_toArray, List.set_cons_zero, List.set_cons_succ]
          refine wpAnyH_ready (rs := [3, 7]) (by kernel_rfl) (by simp) ?_
          refine AllReadyH.cons (o := ⟨some 106, _, _, _, _, _⟩) rfl (fun K hK => ?_) (AllReadyH.cons (o := ⟨some 20, _, _, _, _, _⟩) rfl (fun K hK => ?_) AllReadyH.nil)
          · go_simp
            (with_reducible refine (HC4.out _ (HX.out.below (HB15.out.trans (hS.mono HB15.out.size)))).mono ?_)
            rintro e wn3 ⟨rfl, hbn⟩
            have hS1 := hS.trans (hbn.mono hS.size)
            clear hbn
            go_wp2_with fail
            refine hK.out _ _ (hS1) (fun hS => ?_)
            clear hK K
            try simp only [Act.put, List.setIfInBounds_toArray, List.set_cons_zero, List.set_cons_succ]
            have HLE := Lib.hid hS.size
            refine wpAnyH_take (i := 4) (oi := ⟨some 102, _, _, _, _, _⟩) (v := ?_) rfl (by kernel_rfl) (by kernel_rfl) (by kernel_rfl) (fun _ _ _ h => h) (Or.inl ⟨by simp only [Region.wanted], ?_⟩) hS ?_
            rotate_left
            · intro wz hSw
              clear hSw
              go_simp
              first | done | with_reducible rfl
            try simp only [Act.put, List.setIfInBounds_toArray, List.set_cons_zero, List.set_cons_succ]
            refine wpAnyH_take (i := 5) (oi := ⟨some 107, _, _, _, _, _⟩) (v := ?_) rfl (by kernel_rfl) (by kernel_rfl) (by kernel_rfl) (fun _ _ _ h => h) (Or.inl ⟨by simp only [Region.wanted], ?_⟩) hS ?_
            rotate_left
            · intro wz hSw
              clear hSw
              go_simp
              first | done | with_reducible rfl
            try simp only [Act.put, List.setIfInBounds_toArray, List.set_cons_zero, List.set_cons_succ]
            refine wpAnyH_take (i := 6) (oi := ⟨some 108, _, _, _, _, _⟩) (v := ?_) rfl (by kernel_rfl) (by kernel_rfl) (by kernel_rfl) (fun _ _ _ h => h) (Or.inl ⟨by simp only [Region.wanted], ?_⟩) hS ?_
            rotate_left
            · intro wz hSw
              clear hSw
              go_simp
              first | done | with_reducible rfl
            try simp only [Act.put, List.setIfInBounds_toArray, List.set_cons_zero, List.set_cons_succ]
            refine wpAnyH_ready (rs := [7]) (by kernel_rfl) (by simp) ?_
            refine AllReadyH.cons (o := ⟨some 20, _, _, _, _, _⟩) rfl (fun K hK => ?_) AllReadyH.nil
            go_simp
            have hSa := hS.alloc hS.size (.cells #[.int .i64 0, .int .i64 0] 24)
            have hSa : Below wm.heap.size wm (World.alloc wn3 (.cells #[.int .i64 0, .int .i64 0] 24)) := hSa
            have HKB := Lib.hid (show DecB (World.alloc wn3 (.cells #[.int .i64 0, .int .i64 0] 24)) wn3.heap.size 0 0 from DecB.new (wn3) 0 0 24)
            generalize World.alloc wn3 _ = wa at hSa HKB ⊢
            refine hK.out _ _ (hSa) (fun hS => ?_)
            clear hK K
            try simp only [Act.put, List.setIfInBounds_toArray, List.set_cons_zero, List.set_cons_succ]
            obtain ⟨q0, q1, q2, q3, q4⟩ := HKB.out
            have hS5 := (hS.setCell (p := ⟨_, 0, none⟩) (by simp only []; exact HLE.out) (.int .i64 vr)).setCell (p := ⟨_, 1, none⟩) (by simp only []; exact HLE.out) (.int .i64 sr)
            refine wpAnyH_ready (rs := [8]) (by kernel_rfl) (by simp) ?_
            refine AllReadyH.cons (o := ⟨none, _, _, _, _, _⟩) rfl (fun K hK => ?_) AllReadyH.nil
            go_simp
            refine hK.out _ _ (hS5) (fun hS => ?_)
            clear hK K
            try simp only [Act.put, List.setIfInBounds_toArray, List.set_cons_zero, List.set_cons_succ]
            refine wpAnyH_take (i := 9) (oi := ⟨some 21, _, _, _, _, _⟩) (v := ?_) rfl (by kernel_rfl) (by kernel_rfl) (by kernel_rfl) (fun _ _ _ h => h) (Or.inl ⟨by simp only [Region.wanted], ?_⟩) hS ?_
            rotate_left
            · intro wz hSw
              clear hSw
              go_simp
              first | done | with_reducible rfl
            try simp only [Act.put, List.setIfInBounds_toArray, List.set_cons_zero, List.set_cons_succ]
            refine wpAnyH_done (by kernel_rfl) ?_ _
            go_wp2_with fail
            go_meet
            exact ⟨_, rfl, rfl, HKB.out.set, HLE.out, hS⟩
          · go_simp
            have HLE := Lib.hid hS.size
            have hSa := hS.alloc hS.size (.cells #[.int .i64 0, .int .i64 0] 24)
            have hSa : Below wm.heap.size wm (World.alloc wn2 (.cells #[.int .i64 0, .int .i64 0] 24)) := hSa
            have HKB := Lib.hid (show DecB (World.alloc wn2 (.cells #[.int .i64 0, .int .i64 0] 24)) wn2.heap.size 0 0 from DecB.new (wn2) 0 0 24)
            generalize World.alloc wn2 _ = wa at hSa HKB ⊢
            refine hK.out _ _ (hSa) (fun hS => ?_)
            clear hK K
            try simp only [Act.put, List.setIfInBounds_toArray, List.set_cons_zero, List.set_cons_succ]
            refine wpAnyH_ready (rs := [3]) (by kernel_rfl) (by simp) ?_
            refine AllReadyH.cons (o := ⟨some 106, _, _, _, _, _⟩) rfl (fun K hK => ?_) AllReadyH.nil
            go_simp
            (with_reducible refine (HC4.out _ (HX.out.below (HB15.out.trans (hS.mono HB15.out.size)))).mono ?_)
            rintro e wn3 ⟨rfl, hbn⟩
            have hS1 := hS.trans (hbn.mono hS.size)
            have HKB := Lib.hid (HKB.out.below hbn)
            clear hbn
            go_wp2_with fail
            refine hK.out _ _ (hS1) (fun hS => ?_)
            clear hK K
            try simp only [Act.put, List.setIfInBounds_toArray, List.set_cons_zero, List.set_cons_succ]
            refine wpAnyH_take (i := 4) (oi := ⟨some 102, _, _, _, _, _⟩) (v := ?_) rfl (by kernel_rfl) (by kernel_rfl) (by kernel_rfl) (fun _ _ _ h => h) (Or.inl ⟨by simp only [Region.wanted], ?_⟩) hS ?_
            rotate_left
            · intro wz hSw
              clear hSw
              go_simp
              first | done | with_reducible rfl
            try simp only [Act.put, List.setIfInBounds_toArray, List.set_cons_zero, List.set_cons_succ]
            refine wpAnyH_take (i := 5) (oi := ⟨some 107, _, _, _, _, _⟩) (v := ?_) rfl (by kernel_rfl) (by kernel_rfl) (by kernel_rfl) (fun _ _ _ h => h) (Or.inl ⟨by simp only [Region.wanted], ?_⟩) hS ?_
            rotate_left
            · intro wz hSw
              clear hSw
              go_simp
              first | done | with_reducible rfl
            try simp only [Act.put, List.setIfInBounds_toArray, List.set_cons_zero, List.set_cons_succ]
            refine wpAnyH_take (i := 6) (oi := ⟨some 108, _, _, _, _, _⟩) (v := ?_) rfl (by kernel_rfl) (by kernel_rfl) (by kernel_rfl) (fun _ _ _ h => h) (Or.inl ⟨by simp only [Region.wanted], ?_⟩) hS ?_
            rotate_left
            · intro wz hSw
              clear hSw
              go_simp
              first | done | with_reducible rfl
            try simp only [Act.put, List.setIfInBounds_toArray, List.set_cons_zero, List.set_cons_succ]
            obtain ⟨q0, q1, q2, q3, q4⟩ := HKB.out
            have hS5 := (hS.setCell (p := ⟨_, 0, none⟩) (by simp only []; exact HLE.out) (.int .i64 vr)).setCell (p := ⟨_, 1, none⟩) (by simp only []; exact HLE.out) (.int .i64 sr)
            refine wpAnyH_ready (rs := [8]) (by kernel_rfl) (by simp) ?_
            refine AllReadyH.cons (o := ⟨none, _, _, _, _, _⟩) rfl (fun K hK => ?_) AllReadyH.nil
            go_simp
            refine hK.out _ _ (hS5) (fun hS => ?_)
            clear hK K
            try simp only [Act.put, List.setIfInBounds_toArray, List.set_cons_zero, List.set_cons_succ]
            refine wpAnyH_take (i := 9) (oi := ⟨some 21, _, _, _, _, _⟩) (v := ?_) rfl (by kernel_rfl) (by kernel_rfl) (by kernel_rfl) (fun _ _ _ h => h) (Or.inl ⟨by simp only [Region.wanted], ?_⟩) hS ?_
            rotate_left
            · intro wz hSw
              clear hSw
              go_simp
              first | done | with_reducible rfl
            try simp only [Act.put, List.setIfInBounds_toArray, List.set_cons_zero, List.set_cons_succ]
            refine wpAnyH_done (by kernel_rfl) ?_ _
            go_wp2_with fail
            go_meet
            exact ⟨_, rfl, rfl, HKB.out.set, HLE.out, hS⟩
        · go_simp
          have HLE := Lib.hid hS.size
          have hSa := hS.alloc hS.size (.cells #[.int .i64 0, .int .i64 0] 24)
          have hSa : Below wm.heap.size wm (World.drew (World.alloc wm (.cells #[.int .i64 0, .int .i64 0] 24))) := hSa
          have HKB := Lib.hid (show DecB (World.drew (World.alloc wm (.cells #[.int .i64 0, .int .i64 0] 24))) wm.heap.size 0 0 from DecB.new (wm.drew) 0 0 24)
          generalize World.drew (World.alloc wm _) = wa at hSa HKB ⊢
          refine hK.out _ _ (hSa) (fun hS => ?_)
          clear hK K
          try simp only [Act.put, List.setIfInBounds_toArray, List.set_cons_zero, List.set_cons_succ]
          refine wpAnyH_ready (rs := [2]) (by kernel_rfl) (by simp) ?_
          refine AllReadyH.cons (o := ⟨some 105, _, _, _, _, _⟩) rfl (fun K hK => ?_) AllReadyH.nil
          go_simp
          (with_reducible refine (HC3.out _).mono ?_)
          rintro e wn2 ⟨rfl, hbn⟩
          have hS1 := hS.trans (hbn.mono hS.size)
          have HKB := Lib.hid (HKB.out.below hbn)
          clear hbn
          go_wp2_with fail
          refine hK.out _ _ (hS1) (fun hS => ?_)
          clear hK K
          try simp only [Act.put, List.setIfInBounds_toArray, List.set_cons_zero, List.set_cons_succ]
          refine wpAnyH_ready (rs := [3]) (by kernel_rfl) (by simp) ?_
          refine AllReadyH.cons (o := ⟨some 106, _, _, _, _, _⟩) rfl (fun K hK => ?_) AllReadyH.nil
          go_simp
          (with_reducible refine (HC4.out _ (HX.out.below (HB15.out.trans (hS.mono HB15.out.size)))).mono ?_)
          rintro e wn3 ⟨rfl, hbn⟩
          have hS1 := hS.trans (hbn.mono hS.size)
          have HKB := Lib.hid (HKB.out.below hbn)
          clear hbn
          go_wp2_with fail
          refine hK.out _ _ (hS1) (fun hS => ?_)
          clear hK K
          try simp only [Act.put, List.setIfInBounds_toArray, List.set_cons_zero, List.set_cons_succ]
          refine wpAnyH_take (i := 4) (oi := ⟨some 102, _, _, _, _, _⟩) (v := ?_) rfl (by kernel_rfl) (by kernel_rfl) (by kernel_rfl) (fun _ _ _ h => h) (Or.inl ⟨by simp only [Region.wanted], ?_⟩) hS ?_
          rotate_left
          · intro wz hSw
            clear hSw
            go_simp
            first | done | with_reducible rfl
          try simp only [Act.put, List.setIfInBounds_toArray, List.set_cons_zero, List.set_cons_succ]
          refine wpAnyH_take (i := 5) (oi := ⟨some 107, _, _, _, _, _⟩) (v := ?_) rfl (by kernel_rfl) (by kernel_rfl) (by kernel_rfl) (fun _ _ _ h => h) (Or.inl ⟨by simp only [Region.wanted], ?_⟩) hS ?_
          rotate_left
          · intro wz hSw
            clear hSw
            go_simp
            first | done | with_reducible rfl
          try simp only [Act.put, List.setIfInBounds_toArray, List.set_cons_zero, List.set_cons_succ]
          refine wpAnyH_take (i := 6) (oi := ⟨some 108, _, _, _, _, _⟩) (v := ?_) rfl (by kernel_rfl) (by kernel_rfl) (by kernel_rfl) (fun _ _ _ h => h) (Or.inl ⟨by simp only [Region.wanted], ?_⟩) hS ?_
          rotate_left
          · intro wz hSw
            clear hSw
            go_simp
            first | done | with_reducible rfl
          try simp only [Act.put, List.setIfInBounds_toArray, List.set_cons_zero, List.set_cons_succ]
          obtain ⟨q0, q1, q2, q3, q4⟩ := HKB.out
          have hS5 := (hS.setCell (p := ⟨_, 0, none⟩) (by simp only []; exact HLE.out) (.int .i64 vr)).setCell (p := ⟨_, 1, none⟩) (by simp only []; exact HLE.out) (.int .i64 sr)
          refine wpAnyH_ready (rs := [8]) (by kernel_rfl) (by simp) ?_
          refine AllReadyH.cons (o := ⟨none, _, _, _, _, _⟩) rfl (fun K hK => ?_) AllReadyH.nil
          go_simp
          refine hK.out _ _ (hS5) (fun hS => ?_)
          clear hK K
          try simp only [Act.put, List.setIfInBounds_toArray, List.set_cons_zero, List.set_cons_succ]
          refine wpAnyH_take (i := 9) (oi := ⟨some 21, _, _, _, _, _⟩) (v := ?_) rfl (by kernel_rfl) (by kernel_rfl) (by kernel_rfl) (fun _ _ _ h => h) (Or.inl ⟨by simp only [Region.wanted], ?_⟩) hS ?_
          rotate_left
          · intro wz hSw
            clear hSw
            go_simp
            first | done | with_reducible rfl
          try simp only [Act.put, List.setIfInBounds_toArray, List.set_cons_zero, List.set_cons_succ]
          refine wpAnyH_done (by kernel_rfl) ?_ _
          go_wp2_with fail
          go_meet
          exact ⟨_, rfl, rfl, HKB.out.set, HLE.out, hS⟩
      case rest =>
        obtain ⟨bk, rfl, rfl, hD, hbk, hB⟩ := hcut
        have HD := Lib.hid hD
        have hBk : w.heap.size ≤ bk := Nat.le_trans HB15.out.size hbk
        have HBx := Lib.hid (HB15.out.trans (hB.mono HB15.out.size))
        clear hD hB
        rename World => wA
        obtain ⟨x0, x1, x2, x3, x4⟩ := HD.out
        by_cases hneg : vr < 0
        · have HE := Lib.hid (HCC.out.1 hneg)
          go_wp2_with fail
          (with_reducible refine (HC5.out _).mono ?_)
          rintro e w16 ⟨rfl, hb⟩
          have HD2 := Lib.hid (HD.out.below hb)
          have HBy := Lib.hid (HBx.out.trans (hb.mono HBx.out.size))
          clear hb x0 x1 x2 x3 x4
          obtain ⟨x0, x1, x2, x3, x4⟩ := HD2.out
          have HD3 := Lib.hid (HD2.out.set (x := -vr) (y := sr))
          have HB3 := Lib.hid ((HBy.out.setCell (p := ⟨bk, 0, none⟩) hBk (.int .i64 (-vr))).setCell (p := ⟨bk, 1, none⟩) hBk (.int .i64 sr))
          go_upto_region 25 with fail
          generalize World.setCell (World.setCell w16 _ _) _ _ = wv at HD3 HB3 ⊢
          clear x0 x1 x2 x3 x4
          refine wp_region_any (by kernel_rfl) ?_
          change wpAny _ _ _ _ _ _ _ (World.drew _)
          refine wpAny_of_held (S := fun v => Below wv.heap.size wv v) _ _ _ _ ?_
          have hS : (fun v => Below wv.heap.size wv v) _ := (Below.refl _ wv).drew
          refine wpAnyH_take (i := 0) (oi := ⟨some 116, _, _, _, _, _⟩) (v := ?_) rfl (by kernel_rfl) (by kernel_rfl) (by kernel_rfl) (fun _ _ _ h => h) (Or.inl ⟨by simp only [Region.wanted], ?_⟩) hS ?_
          rotate_left
          · intro wz hSw; obtain ⟨-, f0, f1, -, -⟩ := HD3.out.below hSw
            clear hSw
            go_simp
            first | done | with_reducible rfl
          try simp only [Act.put, List.setIfInBounds_toArray, List.set_cons_zero, List.set_cons_succ]
          refine wpAnyH_ready (rs := [1]) (by kernel_rfl) (by simp) ?_
          refine AllReadyH.cons (o := ⟨some 117, _, _, _, _, _⟩) rfl (fun K hK => ?_) AllReadyH.nil
          go_simp
          (with_reducible refine (HG5.out _).mono ?_)
          rintro e wn ⟨rfl, hbn⟩
          have hS1 := hS.trans (hbn.mono hS.size)
          clear hbn
          go_wp2_with fail
          refine hK.out _ _ (hS1) (fun hS => ?_)
          clear hK K
          try simp only [Act.put, List.setIfInBounds_toArray, List.set_cons_zero, List.set_cons_succ]
          refine wpAnyH_ready (rs := [2]) (by kernel_rfl) (by simp) ?_
          refine AllReadyH.cons (o := ⟨some 118, _, _, _, _, _⟩) rfl (fun K hK => ?_) AllReadyH.nil
          go_simp
          (with_reducible refine (HC6.out _ (HX.out.below (HB3.out.trans (hS.mono HB3.out.size)))).mono ?_)
          rintro e wn2 ⟨rfl, hbn⟩
          have hS1 := hS.trans (hbn.mono hS.size)
          clear hbn
          rw [HE.out]
          go_wp2_with fail
          refine hK.out _ _ (hS1) (fun hS => ?_)
          clear hK K
          try simp only [Act.put, List.setIfInBounds_toArray, List.set_cons_zero, List.set_cons_succ]
          refine wpAnyH_take (i := 3) (oi := ⟨some 119, _, _, _, _, _⟩) (v := ?_) rfl (by kernel_rfl) (by kernel_rfl) (by kernel_rfl) (fun _ _ _ h => h) (Or.inl ⟨by simp only [Region.wanted], ?_⟩) hS ?_
          rotate_left
          · intro wz hSw
            clear hSw
            go_simp
            first | done | with_reducible rfl
          try simp only [Act.put, List.setIfInBounds_toArray, List.set_cons_zero, List.set_cons_succ]
          refine wpAnyH_take (i := 4) (oi := ⟨some 6, _, _, _, _, _⟩) (v := ?_) rfl (by kernel_rfl) (by kernel_rfl) (by kernel_rfl) (fun _ _ _ h => h) (Or.inl ⟨by simp only [Region.wanted], ?_⟩) hS ?_
          rotate_left
          · intro wz hSw
            clear hSw
            go_simp
            first | done | with_reducible rfl
          try simp only [Act.put, List.setIfInBounds_toArray, List.set_cons_zero, List.set_cons_succ]
          refine wpAnyH_done (by kernel_rfl) ?_ _
          go_wp2_with fail
          go_ret
          exact ⟨rfl, HB3.out.trans (hS.mono HB3.out.size)⟩
        · have HE := Lib.hid (HCC.out.2 (by omega))
          go_upto_region 25 with fail
          clear x0 x1 x2 x3 x4
          refine wp_region_any (by kernel_rfl) ?_
          change wpAny _ _ _ _ _ _ _ (World.drew _)
          refine wpAny_of_held (S := fun v => Below wA.heap.size wA v) _ _ _ _ ?_
          have hS : (fun v => Below wA.heap.size wA v) _ := (Below.refl _ wA).drew
          refine wpAnyH_take (i := 0) (oi := ⟨some 116, _, _, _, _, _⟩) (v := ?_) rfl (by kernel_rfl) (by kernel_rfl) (by kernel_rfl) (fun _ _ _ h => h) (Or.inl ⟨by simp only [Region.wanted], ?_⟩) hS ?_
          rotate_left
          · intro wz hSw; obtain ⟨-, f0, f1, -, -⟩ := HD.out.below hSw
            clear hSw
            go_simp
            first | done | with_reducible rfl
          try simp only [Act.put, List.setIfInBounds_toArray, List.set_cons_zero, List.set_cons_succ]
          refine wpAnyH_ready (rs := [1]) (by kernel_rfl) (by simp) ?_
          refine AllReadyH.cons (o := ⟨some 117, _, _, _, _, _⟩) rfl (fun K hK => ?_) AllReadyH.nil
          go_simp
          (with_reducible refine (HG5.out _).mono ?_)
          rintro e wn ⟨rfl, hbn⟩
          have hS1 := hS.trans (hbn.mono hS.size)
          clear hbn
          go_wp2_with fail
          refine hK.out _ _ (hS1) (fun hS => ?_)
          clear hK K
          try simp only [Act.put, List.setIfInBounds_toArray, List.set_cons_zero, List.set_cons_succ]
          refine wpAnyH_ready (rs := [2]) (by kernel_rfl) (by simp) ?_
          refine AllReadyH.cons (o := ⟨some 118, _, _, _, _, _⟩) rfl (fun K hK => ?_) AllReadyH.nil
          go_simp
          (with_reducible refine (HC7.out _ (HX.out.below (HBx.out.trans (hS.mono HBx.out.size)))).mono ?_)
          rintro e wn2 ⟨rfl, hbn⟩
          have hS1 := hS.trans (hbn.mono hS.size)
          clear hbn
          rw [HE.out]
          go_wp2_with fail
          refine hK.out _ _ (hS1) (fun hS => ?_)
          clear hK K
          try simp only [Act.put, List.setIfInBounds_toArray, List.set_cons_zero, List.set_cons_succ]
          refine wpAnyH_take (i := 3) (oi := ⟨some 119, _, _, _, _, _⟩) (v := ?_) rfl (by kernel_rfl) (by kernel_rfl) (by kernel_rfl) (fun _ _ _ h => h) (Or.inl ⟨by simp only [Region.wanted], ?_⟩) hS ?_
          rotate_left
          · intro wz hSw
            clear hSw
            go_simp
            first | done | with_reducible rfl
          try simp only [Act.put, List.setIfInBounds_toArray, List.set_cons_zero, List.set_cons_succ]
          refine wpAnyH_take (i := 4) (oi := ⟨some 6, _, _, _, _, _⟩) (v := ?_) rfl (by kernel_rfl) (by kernel_rfl) (by kernel_rfl) (fun _ _ _ h => h) (Or.inl ⟨by simp only [Region.wanted], ?_⟩) hS ?_
          rotate_left
          · intro wz hSw
            clear hSw
            go_simp
            first | done | with_reducible rfl
          try simp only [Act.put, List.setIfInBounds_toArray, List.set_cons_zero, List.set_cons_succ]
          refine wpAnyH_done (by kernel_rfl) ?_ _
          go_wp2_with fail
          go_ret
          exact ⟨rfl, HBx.out.trans (hS.mono HBx.out.size)⟩
end Go.Proofs.YtodhklapikfpoaaDoor
