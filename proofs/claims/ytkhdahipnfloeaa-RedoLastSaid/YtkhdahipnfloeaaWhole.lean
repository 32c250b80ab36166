/- The walk of the law RedoWhole. -/
import Derived.Test.YtkhdahipnfloeaaWant
import Derived.Test.YtkhdahipnfloeaaArgZ
namespace Go.Proofs.Ytkhdahipnfloeaa
open Go.RowKit
set_option maxRecDepth 100000

theorem OwnS.empty (w : World) (base : Nat) (hb : base ≤ w.heap.size) : OwnS (w.alloc (.cells #[] 9)) base (.slice (some ⟨w.heap.size, 0, none⟩) 0 0) [] :=
  World.ownsRow_lit w #[] 0 hb (by simp [maxLen]) rfl

set_option maxHeartbeats 8000000 in
theorem whole_walk (v1 v2 kv sv : Value) (old l : Pages) (stop : Int) (keep : List Bool) (stops : List Int) (w : World) (hp : Pus w (fun g => g < w.heap.size) v1 old) (hq : Pus w (fun g => g < w.heap.size) v2 l) (hk : Bl w kv keep) (hkb : 0 < keep.length → ∀ g, kv.ownBlock = some g → g < w.heap.size) (hs : Nl w sv stops) :
    Calls Try.prog 5 #[v1, v2, .int .i64 stop, kv, sv] w fun e w' => e = .returned (.bool true) ∧ Below w.heap.size w w' := by
  obtain ⟨ao, cap, rfl, -⟩ := id hp
  obtain ⟨bo, bcap, rfl, -⟩ := id hq
  obtain ⟨ko, kc, rfl, -⟩ := id hk
  obtain ⟨so, sc, rfl, hsc1, hsc2, -⟩ := id hs
  have hsc2' : sc ≤ 9223372036854775807 := hsc2
  have HP := Lib.hid hp
  have HQ := Lib.hid hq
  have HK := Lib.hid hk
  have HKB := Lib.hid hkb
  have HST := Lib.hid hs
  obtain ⟨ls, hls⟩ : ∃ m, m = stops.length := ⟨_, rfl⟩
  have HLS := Lib.hid hls
  rw [← hls] at hsc1 HST ⊢
  clear hp hq hk hkb hs hls hsc2
  have hwi := within_range stop 30 (by decide)
  have hw30 := within3_any stop 30 (by decide) (by decide)
  obtain ⟨s, hs⟩ : ∃ s, s = withinOf stop 30 := ⟨_, rfl⟩
  rw [← hs] at hwi hw30
  obtain ⟨hwi1, hwi2⟩ := hwi
  have HW := Lib.hid hw30
  clear hw30 hs
  go_enter Try.func5, Try.ntmps5
  go_wp2_with fail
  refine (l3_known _).mono ?_
  rintro e w1 ⟨rfl, hb1⟩
  have HB1 := Lib.hid hb1
  clear hb1
  go_wp2_with fail
  refine (pfew_any _ old _ w1 (HP.out.below HB1.out)).mono ?_
  rintro e w2 (⟨rfl, hw2⟩ | ⟨rfl, hw2, -⟩)
  · replace hw2 := hw2.symm
    subst hw2
    go_wp2_with fail
    go_ret
    exact ⟨rfl, HB1.out⟩
  replace hw2 := hw2.symm
  subst hw2
  go_wp2_with fail
  refine (pfew_any _ l _ w1 (HQ.out.below HB1.out)).mono ?_
  rintro e w2 (⟨rfl, hw2⟩ | ⟨rfl, hw2, -⟩)
  · replace hw2 := hw2.symm
    subst hw2
    go_wp2_with fail
    go_ret
    exact ⟨rfl, HB1.out⟩
  replace hw2 := hw2.symm
  subst hw2
  go_wp2_with fail
  refine (sx_new (w0 := w) (X := fun _ => False) 420 HB1.out (fun _ h => h.elim)).mono ?_
  rintro e w2 ⟨r, rfl, h2, -⟩
  rw [show sizeOf' 420 = 420 from rfl] at h2
  have H2 := Lib.hid h2
  clear h2
  go_wp2_with fail
  refine (good_any _ old _ w2 (HP.out.below H2.out.below) (fun g hg => Nat.lt_of_lt_of_le hg H2.out.size)).mono ?_
  rintro e w3 ⟨av, rfl, hrowa, hb3⟩
  have hpa := hrowa.pus
  have ha8 := good_short old
  have hga := good_pagess old
  obtain ⟨ao2, ca, rfl, hca1, hca2⟩ := hrowa.form
  have hca2' : ca ≤ 9223372036854775807 := hca2
  have HPA3 := Lib.hid hpa
  have HB3 := Lib.hid hb3
  clear hrowa hpa hca2 hb3
  obtain ⟨a, ha⟩ : ∃ g, g = goodOf old := ⟨_, rfl⟩
  rw [← ha] at HPA3 hca1 ha8 hga ⊢
  have HGA := Lib.hid hga
  clear ha hga
  have hw3 := H2.out.size
  have hb23 := HB3.out.size
  go_wp2_with fail
  refine (good_any _ l _ w3 ((HQ.out.below H2.out.below).below HB3.out) (fun g hg => Nat.lt_of_lt_of_le hg (Nat.le_trans hw3 hb23))).mono ?_
  rintro e w4 ⟨bv, rfl, hrowb, hb4⟩
  have hpb := hrowb.pus
  have hb8 := good_short l
  have hgb := good_pagess l
  obtain ⟨bo2, cb, rfl, hcb1, hcb2⟩ := hrowb.form
  have hcb2' : cb ≤ 9223372036854775807 := hcb2
  have hb34 := hb4.size
  have h4 := H2.out.take (HB3.out.trans (hb4.mono hb23))
  obtain ⟨b, hb⟩ : ∃ g, g = goodOf l := ⟨_, rfl⟩
  rw [← hb] at hpb hcb1 hb8 hgb ⊢
  have HGB := Lib.hid hgb
  obtain ⟨X, hX⟩ : ∃ X : Nat → Prop, X = fun k => False ∨ (w2.heap.size ≤ k ∧ k < w4.heap.size) := ⟨_, rfl⟩
  rw [← hX] at h4
  have hpa4 : Pus w4 (fun g => g < w.heap.size ∨ X g) (.slice ao2 a.length ca) a := (HPA3.out.below hb4).mono (fun g hg => by
    rcases hg with h | h
    · exact .inl h
    · exact .inr (by rw [hX]; exact .inr ⟨h.1, by omega⟩))
  have hpb4 : Pus w4 (fun g => g < w.heap.size ∨ X g) (.slice bo2 b.length cb) b := hpb.mono (fun g hg => by
    rcases hg with h | h
    · exact .inl h
    · exact .inr (by rw [hX]; exact .inr ⟨by omega, h.2⟩))
  have H4 := Lib.hid h4
  have HPA := Lib.hid hpa4
  have HPB := Lib.hid hpb4
  clear hrowb hpb hcb2 hgb hb h4 hpa4 hpb4 hX hb4 HPA3 HB3 H2 HP HQ HB1 hw3 hb23 hb34
  obtain ⟨na, hna⟩ : ∃ n, n = a.length := ⟨_, rfl⟩
  obtain ⟨nb, hnb⟩ : ∃ n, n = b.length := ⟨_, rfl⟩
  have HNB := Lib.hid hnb
  rw [← hna] at hca1 HPA ha8 HGA ⊢
  rw [← hnb] at hcb1 HPB hb8 HGB ⊢
  have HNA := Lib.hid hna
  clear hna hnb
  by_cases hz : na = 0
  · subst hz
    have HS5 := Lib.hid (new_synced 420)
    have HK5 := Lib.hid (new_head 420 (by omega))
    have HN5 := Lib.hid (List.length_replicate .. : (List.replicate 420 (zeros 512)).length = 420)
    have HQ5 : Hid ((Ab.new 420).stop = 0) := rfl
    have HM5 := Lib.hid (new_small 420 100)
    have H5 := H4
    have HPB5 := HPB
    obtain ⟨A1, hA1⟩ : ∃ A, A = Ab.new 420 := ⟨_, rfl⟩
    rw [← hA1] at HS5 HQ5 HM5 H5
    clear hA1 H4 HPB HPA
    generalize List.replicate 420 (zeros 512) = K1 at HS5 HK5 HN5
    generalize w4 = w5 at H5 HPB5 ⊢
    by_cases hzb : nb = 0
    · subst hzb
      go_wp2_with fail
      go_ret
      exact ⟨rfl, H5.out.below⟩
    have hzb' : ¬ (nb : Int) = 0 := by omega
    have hlp : Pagess K1.length b := by rw [HN5.out]; exact HGB.out hzb
    have HLP := Lib.hid hlp
    clear hlp
    go_wp2_with fail
    refine (sx_homes H5.out HS5.out.live (by rw [HS5.out.now, HN5.out]; omega)).mono ?_
    rintro e w6 ⟨hv, rfl, hrow6, h6, hb6⟩
    have hlen0 : (homesOf A1).length = 19 := by rw [homesOf_texts, texts_length, List.length_drop, HS5.out.now, HN5.out]
    have hho : homesOf A1 = texts (K1.drop 401) := by rw [homesOf_texts, HS5.out.now]
    obtain ⟨g6, c6, rfl, hc61, hc62, hg61, hr6⟩ := hrow6.row (by omega)
    have hc62' : c6 ≤ 9223372036854775807 := hc62
    rw [hlen0] at hc61 ⊢
    rw [hho] at hr6 hlen0
    have hg62 := hr6.lt
    have hs56 := hb6.size
    have H6T := Lib.hid (H5.out.take hb6)
    have HR6 := Lib.hid hr6
    have HB6 := Lib.hid hb6
    have HPB6 := Lib.hid (HPB5.out.below hb6)
    have HL19 := Lib.hid hlen0
    clear hrow6 h6 hr6 hb6 hlen0 hho hc62
    obtain ⟨i0, hi, hz0, hz1, hz2⟩ := info_parts Try.infoStr
    have hal6 : Below w6.heap.size w6 (w6.alloc (.cells #[] 9)) := (Below.refl _ _).alloc (Nat.le_refl _) _
    have hr6a := HR6.out.moved (Moved.of_below hal6 (fun _ => False)) (fun h => h)
    have hnews : ∀ j u, (strs (texts (K1.drop 401)))[j]? = some u → (w6.alloc (.cells #[] 9)).cell? ((⟨g6, 0, none⟩ : Addr).add j) = some u := fun j u hu => by
      have hj : j < (texts (K1.drop 401)).length := by
        have := (List.getElem?_eq_some_iff.1 hu).1
        rwa [strs_length] at this
      have := hr6a.cell j hj
      rw [Addr.add_lit, Nat.zero_add, this]
      simpa [strs, hj] using hu
    have HNEWS := Lib.hid hnews
    have HEMP := Lib.hid (OwnS.empty w6 w6.heap.size (Nat.le_refl _))
    have HALS := Lib.hid hal6
    clear hr6a hnews hal6
    go_wp2_with (at_builtin; refine wpList_append_lies _ rfl _ _ _ rfl w6.heap.size 9 i0 _ 1 16 Try.underlying53 hi hz0 hz1 hz2 rfl (by decide) _ 0 [] rfl HEMP.out ⟨g6, 0, none⟩ 19 c6 (strs (texts (K1.drop 401))) rfl ?n1 HNEWS.out ?n2 (by decide) (by simp [maxLen]) (by decide) ?n3 _ rfl ?_)
    case n1 => rw [strs_length, HL19.out]
    case n2 =>
      intro u hu
      obtain ⟨b, -, rfl⟩ := List.mem_map.1 hu
      rfl
    case n3 => simp
    intro ga c7 w7 hown7 hgr7 hga7 hgl7
    have hown7' : OwnS w7 w6.heap.size (.slice (some ⟨ga, 0, none⟩) 19 c7) (texts (K1.drop 401)) := by
      unfold OwnS
      rw [HL19.out]
      exact hown7
    obtain ⟨gx, cx, ex, hc71, hc72, hgb7, hr7⟩ := hown7'.row (by rw [HL19.out]; omega)
    simp only [Value.slice.injEq, Option.some.injEq, Addr.mk.injEq, and_true, true_and] at ex
    obtain ⟨rfl, -, rfl⟩ := ex
    have hc72' : c7 ≤ 9223372036854775807 := hc72
    have hb67 : Below w6.heap.size w6 w7 := HALS.out.grown hgr7 HALS.out.size (fun q hq => by simp [Value.ownBlock] at hq; omega)
    have h7 := H6T.out.take hb67
    have hpb7 := HPB6.out.below hb67
    have hr67 := HR6.out.moved (Moved.of_below hb67 (fun _ => False)) (fun h => h)
    have hs67 := hb67.size
    have hX5 := H5.out.2.1
    obtain ⟨X2, hX2⟩ : ∃ X2 : Nat → Prop, X2 = fun k => (X k ∨ (w5.heap.size ≤ k ∧ k < w6.heap.size)) ∨ (w6.heap.size ≤ k ∧ k < w7.heap.size) := ⟨_, rfl⟩
    rw [← hX2] at h7
    have hX2a : X2 ga := by rw [hX2]; exact .inr ⟨hgb7, hgl7⟩
    have hX2g : X2 g6 := by rw [hX2]; exact .inl (.inr ⟨hg61, hg62⟩)
    have hw6a : w.heap.size ≤ ga := by have := H5.out.size; omega
    have hag : ga ≠ g6 := by omega
    have hpbS : ∀ g, (g < w.heap.size ∨ X g) → g ≠ ga ∧ (g < w.heap.size ∨ X2 g) := fun g hg => by
      rcases hg with h | h
      · exact ⟨by omega, .inl h⟩
      · exact ⟨by have := hX5 g h; omega, .inr (by rw [hX2]; exact .inl (.inl h))⟩
    have H7 := Lib.hid h7
    have HPB7 := Lib.hid hpb7
    have HRB7 := Lib.hid hr67
    have HRA7 := Lib.hid hr7
    have HXA := Lib.hid hX2a
    have HXG := Lib.hid hX2g
    have HWA := Lib.hid hw6a
    have HAG := Lib.hid hag
    have HPS := Lib.hid hpbS
    rw [HL19.out] at hc71
    clear hown7 hown7' hgr7 hga7 hgl7 hgb7 hr7 hb67 h7 hpb7 hr67 hs67 hX5 hX2 hX2a hX2g hw6a hag hpbS HEMP HNEWS HALS HR6 HB6 HPB6 H6T hg61 hg62 hs56 H5 HPB5 hi hz0 hz1 hz2 hc72
    go_wp2_with fail
    go_loopw [16] (fun i wr => ∃ k : Nat, k ≤ nb ∧ i = .int .i64 k ∧ Moved (· = ga) w7 wr ∧ RowS wr ga (texts (wants (K1.drop 401) (b.take k)))) (fun i _ => nb - (intOf i).toNat)
    case atStart => exact ⟨0, Nat.zero_le _, rfl, Moved.refl _ _, HRA7.out⟩
    case round =>
      obtain ⟨k, hk, rfl, hm, hrs⟩ := hrel
      have HM := Lib.hid hm
      have HRS := Lib.hid hrs
      clear hm hrs
      by_cases hlt : k < nb
      · have hkl : k < b.length := by rw [← HNB.out]; exact hlt
        have hpw := HPB7.out.moved HM.out (fun g hg e => (HPS.out g hg).1 e)
        obtain ⟨po, pc, ep, -, -, hE⟩ := hpw
        simp only [Value.slice.injEq] at ep
        obtain ⟨rfl, -, rfl⟩ := ep
        obtain ⟨pb, poff, rfl, hSp, c0, u, c1, hbs, -⟩ := hE k hkl
        have hok := HLP.out.ok _ (List.getElem_mem hkl)
        rw [HN5.out] at hok
        have hpn : pb ≠ ga := (HPS.out pb hSp).1
        have hnext := wants_succ (K1.drop 401) b k hkl
        obtain ⟨bs, hbb⟩ : ∃ m, m = b[k].2 := ⟨_, rfl⟩
        obtain ⟨j, hj⟩ : ∃ j : Nat, b[k].1 = 401 + (j : Int) := ⟨(b[k].1 - 401).toNat, by omega⟩
        rw [hj] at c0 hok
        rw [← hbb] at hbs hok
        rw [← hbb, hj, show (401 + (j : Int)).toNat - 401 = j by omega] at hnext
        obtain ⟨bo3, bc3, rfl, hbc1, hbc2, -⟩ := id hbs
        have hbc2' : bc3 ≤ 9223372036854775807 := hbc2
        obtain ⟨m1, hm1⟩ : ∃ m, m = bs.length := ⟨_, rfl⟩
        obtain ⟨q, hq⟩ : ∃ q, q = 512 - m1 := ⟨_, rfl⟩
        rw [← hm1] at hok hbc1 c1
        have hj19 : j < 19 := by omega
        have hwr1 : IntKind.i64.wrap (401 + (j : Int) - 401) = j := by rw [IntKind.wrap_i64]; omega
        have hwr2 : IntKind.i64.wrap (j : Int) = j := by rw [IntKind.wrap_i64]; omega
        have hwr3 : IntKind.i64.wrap (512 - (m1 : Int)) = q := by rw [IntKind.wrap_i64]; omega
        have hq0 : 0 < q ∧ m1 + q = 512 := by omega
        obtain ⟨hq1, hq2⟩ := hq0
        have hsec : bs ++ zeros q = sec bs := by unfold sec; rw [hq, ← hm1]
        obtain ⟨NX, hNX⟩ : ∃ N, N = texts (wants (K1.drop 401) (b.take (k + 1))) := ⟨_, rfl⟩
        obtain ⟨CU, hCU⟩ : ∃ N, N = texts (wants (K1.drop 401) (b.take k)) := ⟨_, rfl⟩
        have hcl : CU.length = 19 := by rw [hCU, texts_length, wants_length, List.length_drop, HN5.out]
        have hset : NX = CU.set j ⟨(sec bs).toArray⟩ := by rw [hNX, hCU, hnext, texts_set]
        rw [← hCU] at HRS
        have old := HRS.out.cell j (by omega)
        have HBS := Lib.hid hbs
        have HM1 := Lib.hid hm1
        have HSEC := Lib.hid hsec
        have HSET := Lib.hid hset
        have HNX := Lib.hid hNX
        have hlt0 := World.block_lt_of_cell? _ _ c0
        have hgal := HRS.out.lt
        have HLT := Lib.hid hlt0
        have HGL := Lib.hid hgal
        have HPN := Lib.hid hpn
        obtain ⟨Z0, hZ0⟩ : ∃ Z : ByteArray, Z = CU[j] := ⟨_, rfl⟩
        rw [← hZ0] at old
        have hfr := HRS.out.frozen j
        have HOLD := Lib.hid old
        have HFR := Lib.hid hfr
        have hkn : (k : Int) < nb := by omega
        clear hpn hE hbb hj hok hnext hbs hbc2 hm1 hq hsec hNX hCU hset hlt0 hgal hZ0 old hfr hcl hlt
        have hk0 : (0 : Int) ≤ k := by omega
        have hj0 : (0 : Int) ≤ j := by omega
        have hj19' : (j : Int) < 19 := by omega
        go_wp2_with fail
        refine wp_region_any (by kernel_rfl) ?_
        change wpAny _ _ _ _ _ _ _ (World.drew _)
        refine wpAny_of_held (S := fun (w' : World) => w'.cell? ⟨pb, poff + k * 2, none⟩ = some (Value.int .i64 (401 + (j : Int))) ∧ w'.cell? ⟨pb, poff + k * 2 + 1, none⟩ = some (Value.slice bo3 m1 bc3)) _ _ _ _ ?_
        have hS : (fun (w' : World) => w'.cell? ⟨pb, poff + k * 2, none⟩ = some (Value.int .i64 (401 + (j : Int))) ∧ w'.cell? ⟨pb, poff + k * 2 + 1, none⟩ = some (Value.slice bo3 m1 bc3)) _ := ⟨c0, c1⟩
        refine wpAnyH_take (i := 0) (oi := ⟨some 63, _, _, _, _, _⟩) (v := ?_) rfl (by kernel_rfl) (by kernel_rfl) (by kernel_rfl) (fun _ _ _ h => h) (Or.inl ⟨by rfl, ?_⟩) hS ?_
        rotate_left
        · intro wz hSw
          clear hSw
          go_simp
          first | done | with_reducible rfl
        try simp only [Act.put, List.setIfInBounds_toArray, List.set_cons_zero, List.set_cons_succ]
        refine wpAnyH_take (i := 1) (oi := ⟨some 64, _, _, _, _, _⟩) (v := ?_) rfl (by kernel_rfl) (by kernel_rfl) (by kernel_rfl) (fun _ _ _ h => h) (Or.inl ⟨by rfl, ?_⟩) hS ?_
        rotate_left
        · intro wz hSw
          clear hSw
          go_simp
          first | done | with_reducible rfl
        try simp only [Act.put, List.setIfInBounds_toArray, List.set_cons_zero, List.set_cons_succ]
        refine wpAnyH_take (i := 2) (oi := ⟨some 65, _, _, _, _, _⟩) (v := ?_) rfl (by kernel_rfl) (by kernel_rfl) (by kernel_rfl) (fun _ _ _ h => h) (Or.inl ⟨by rfl, ?_⟩) hS ?_
        rotate_left
        · intro wz hSw
          clear hSw
          go_simp
          first | done | with_reducible rfl
        try simp only [Act.put, List.setIfInBounds_toArray, List.set_cons_zero, List.set_cons_succ]
        refine wpAnyH_take (i := 3) (oi := ⟨some 66, _, _, _, _, _⟩) (v := ?_) rfl (by kernel_rfl) (by kernel_rfl) (by kernel_rfl) (fun _ _ _ h => h) (Or.inl ⟨by rfl, ?_⟩) hS ?_
        rotate_left
        · intro wz hSw
          clear hSw
          go_simp
          first | done | with_reducible rfl
        try simp only [Act.put, List.setIfInBounds_toArray, List.set_cons_zero, List.set_cons_succ]
        refine wpAnyH_take (i := 4) (oi := ⟨some 67, _, _, _, _, _⟩) (v := ?_) rfl (by kernel_rfl) (by kernel_rfl) (by kernel_rfl) (fun _ _ _ h => h) (Or.inl ⟨by rfl, ?_⟩) hS ?_
        rotate_left
        · intro wz hSw
          clear hSw
          go_simp
          first | done | with_reducible rfl
        try simp only [Act.put, List.setIfInBounds_toArray, List.set_cons_zero, List.set_cons_succ]
        refine wpAnyH_take (i := 5) (oi := ⟨some 68, _, _, _, _, _⟩) (v := ?_) rfl (by kernel_rfl) (by kernel_rfl) (by kernel_rfl) (fun _ _ _ h => h) (Or.inl ⟨by rfl, ?_⟩) hS ?_
        rotate_left
        · intro wz hSw
          (try dsimp only at hSw)
          (try go_split_ands)
          go_simp
          first | done | with_reducible rfl
        try simp only [Act.put, List.setIfInBounds_toArray, List.set_cons_zero, List.set_cons_succ]
        refine wpAnyH_take (i := 6) (oi := ⟨some 69, _, _, _, _, _⟩) (v := ?_) rfl (by kernel_rfl) (by kernel_rfl) (by kernel_rfl) (fun _ _ _ h => h) (Or.inl ⟨by rfl, ?_⟩) hS ?_
        rotate_left
        · intro wz hSw
          clear hSw
          go_simp
          first | done | with_reducible rfl
        try simp only [Act.put, List.setIfInBounds_toArray, List.set_cons_zero, List.set_cons_succ]
        refine wpAnyH_take (i := 8) (oi := ⟨some 71, _, _, _, _, _⟩) (v := ?_) rfl (by kernel_rfl) (by kernel_rfl) (by kernel_rfl) (fun _ _ _ h => h) (Or.inl ⟨by rfl, ?_⟩) hS ?_
        rotate_left
        · intro wz hSw
          clear hSw
          go_simp
          first | done | with_reducible rfl
        try simp only [Act.put, List.setIfInBounds_toArray, List.set_cons_zero, List.set_cons_succ]
        refine wpAnyH_take (i := 9) (oi := ⟨some 72, _, _, _, _, _⟩) (v := ?_) rfl (by kernel_rfl) (by kernel_rfl) (by kernel_rfl) (fun _ _ _ h => h) (Or.inl ⟨by rfl, ?_⟩) hS ?_
        rotate_left
        · intro wz hSw
          clear hSw
          go_simp
          first | done | with_reducible rfl
        try simp only [Act.put, List.setIfInBounds_toArray, List.set_cons_zero, List.set_cons_succ]
        refine wpAnyH_take (i := 10) (oi := ⟨some 73, _, _, _, _, _⟩) (v := ?_) rfl (by kernel_rfl) (by kernel_rfl) (by kernel_rfl) (fun _ _ _ h => h) (Or.inl ⟨by rfl, ?_⟩) hS ?_
        rotate_left
        · intro wz hSw
          clear hSw
          go_simp
          first | done | with_reducible rfl
        try simp only [Act.put, List.setIfInBounds_toArray, List.set_cons_zero, List.set_cons_succ]
        refine wpAnyH_take (i := 11) (oi := ⟨some 74, _, _, _, _, _⟩) (v := ?_) rfl (by kernel_rfl) (by kernel_rfl) (by kernel_rfl) (fun _ _ _ h => h) (Or.inl ⟨by rfl, ?_⟩) hS ?_
        rotate_left
        · intro wz hSw
          clear hSw
          go_simp
          first | done | with_reducible rfl
        try simp only [Act.put, List.setIfInBounds_toArray, List.set_cons_zero, List.set_cons_succ]
        refine wpAnyH_take (i := 12) (oi := ⟨some 75, _, _, _, _, _⟩) (v := ?_) rfl (by kernel_rfl) (by kernel_rfl) (by kernel_rfl) (fun _ _ _ h => h) (Or.inl ⟨by rfl, ?_⟩) hS ?_
        rotate_left
        · intro wz hSw
          (try dsimp only at hSw)
          (try go_split_ands)
          go_simp
          first | done | with_reducible rfl
        try simp only [Act.put, List.setIfInBounds_toArray, List.set_cons_zero, List.set_cons_succ]
        refine wpAnyH_take (i := 14) (oi := ⟨some 77, _, _, _, _, _⟩) (v := ?_) rfl (by kernel_rfl) (by kernel_rfl) (by kernel_rfl) (fun _ _ _ h => h) (Or.inl ⟨by rfl, ?_⟩) hS ?_
        rotate_left
        · intro wz hSw
          clear hSw
          go_simp
          first | done | with_reducible rfl
        try simp only [Act.put, List.setIfInBounds_toArray, List.set_cons_zero, List.set_cons_succ]
        refine wpAnyH_take (i := 15) (oi := ⟨some 78, _, _, _, _, _⟩) (v := ?_) rfl (by kernel_rfl) (by kernel_rfl) (by kernel_rfl) (fun _ _ _ h => h) (Or.inl ⟨by rfl, ?_⟩) hS ?_
        rotate_left
        · intro wz hSw
          clear hSw
          go_simp
          first | done | with_reducible rfl
        try simp only [Act.put, List.setIfInBounds_toArray, List.set_cons_zero, List.set_cons_succ]
        refine wpAnyH_take (i := 16) (oi := ⟨some 79, _, _, _, _, _⟩) (v := ?_) rfl (by kernel_rfl) (by kernel_rfl) (by kernel_rfl) (fun _ _ _ h => h) (Or.inl ⟨by rfl, ?_⟩) hS ?_
        rotate_left
        · intro wz hSw
          clear hSw
          go_simp
          first | done | with_reducible rfl
        try simp only [Act.put, List.setIfInBounds_toArray, List.set_cons_zero, List.set_cons_succ]
        refine wpAnyH_take (i := 17) (oi := ⟨some 80, _, _, _, _, _⟩) (v := ?_) rfl (by kernel_rfl) (by kernel_rfl) (by kernel_rfl) (fun _ _ _ h => h) (Or.inl ⟨by rfl, ?_⟩) hS ?_
        rotate_left
        · intro wz hSw
          clear hSw
          go_simp
          first | done | with_reducible rfl
        try simp only [Act.put, List.setIfInBounds_toArray, List.set_cons_zero, List.set_cons_succ]
        refine wpAnyH_take (i := 18) (oi := ⟨some 81, _, _, _, _, _⟩) (v := ?_) rfl (by kernel_rfl) (by kernel_rfl) (by kernel_rfl) (fun _ _ _ h => h) (Or.inl ⟨by rfl, ?_⟩) hS ?_
        rotate_left
        · intro wz hSw
          (try dsimp only at hSw)
          (try go_split_ands)
          go_simp
          first | done | with_reducible rfl
        try simp only [Act.put, List.setIfInBounds_toArray, List.set_cons_zero, List.set_cons_succ]
        refine wpAnyH_take (i := 19) (oi := ⟨some 82, _, _, _, _, _⟩) (v := ?_) rfl (by kernel_rfl) (by kernel_rfl) (by kernel_rfl) (fun _ _ _ h => h) (Or.inl ⟨by rfl, ?_⟩) hS ?_
        rotate_left
        · intro wz hSw
          clear hSw
          go_simp
          first | done | with_reducible rfl
        try simp only [Act.put, List.setIfInBounds_toArray, List.set_cons_zero, List.set_cons_succ]
        refine wpAnyH_take (i := 20) (oi := ⟨some 83, _, _, _, _, _⟩) (v := ?_) rfl (by kernel_rfl) (by kernel_rfl) (by kernel_rfl) (fun _ _ _ h => h) (Or.inl ⟨by rfl, ?_⟩) hS ?_
        rotate_left
        · intro wz hSw
          clear hSw
          go_simp
          first | done | with_reducible rfl
        try simp only [Act.put, List.setIfInBounds_toArray, List.set_cons_zero, List.set_cons_succ]
        refine wpAnyH_ready (rs := [7]) (by kernel_rfl) (by simp) ?_
        refine AllReadyH.cons (o := ⟨some 70, _, _, _, _, _⟩) rfl (fun K hK => ?_) AllReadyH.nil
        go_simp
        refine hK.out _ _ (⟨((Below.refl _ wr).drew.alloc (Nat.le_refl _) _).cell HLT.out |>.trans c0, ((Below.refl _ wr).drew.alloc (Nat.le_refl _) _).cell HLT.out |>.trans c1⟩) (fun hS => ?_)
        clear hK K
        try simp only [Act.put, List.setIfInBounds_toArray, List.set_cons_zero, List.set_cons_succ]
        have ho8 := (Own.empty wr wr.heap.size (Nat.le_refl _)).below (Below.refl _ _).drew
        have hal8 := ((Below.refl wr.heap.size wr).alloc (Nat.le_refl _) (.cells #[] 5)).drew
        have hbt8 := HBS.out.below hal8
        rw [← HM1.out] at hbt8
        refine wpAnyH_ready (rs := [13]) (by kernel_rfl) (by simp) ?_
        refine AllReadyH.cons (o := ⟨some 76, _, _, _, _, _⟩) rfl (fun K hK => ?_) AllReadyH.nil
        refine step_append_bytes rfl (.tmp 70) (.tmp 75) rfl wr.heap.size _ [] rfl ho8 _ bs rfl hbt8 ?_ ?_ ?_
        · rw [List.length_nil, ← HM1.out]; omega
        · exact hal8.size
        intro va wa hva hga
        have hbwa := hal8.grown hga hal8.size (fun q hq => (ho8.out.lt q hq).1)
        rw [List.nil_append] at hva
        refine hK.out _ _ (⟨(hbwa.cell HLT.out).trans c0, (hbwa.cell HLT.out).trans c1⟩) (fun hS => ?_)
        clear hK K ho8 hbt8 hal8 hga
        try simp only [Act.put, List.setIfInBounds_toArray, List.set_cons_zero, List.set_cons_succ]
        refine wpAnyH_ready (rs := [21]) (by kernel_rfl) (by simp) ?_
        refine AllReadyH.cons (o := ⟨some 84, _, _, _, _, _⟩) rfl (fun K hK => ?_) AllReadyH.nil
        refine step_append_zeros rfl (.tmp 76) (.tmp 83) rfl wr.heap.size _ bs rfl hva q rfl hq1 ?_ ?_ ?_
        · rw [← HM1.out]; omega
        · exact hbwa.size
        intro vc wc hvc hgc
        have hbwc := hbwa.grown hgc hbwa.size (fun q hq => (hva.out.lt q hq).1)
        rw [HSEC.out] at hvc
        refine hK.out _ _ (⟨(hbwc.cell HLT.out).trans c0, (hbwc.cell HLT.out).trans c1⟩) (fun hS => ?_)
        clear hK K hva hgc hbwa
        try simp only [Act.put, List.setIfInBounds_toArray, List.set_cons_zero, List.set_cons_succ]
        have hS' : (fun (w' : World) => (fun (w' : World) => w'.cell? ⟨pb, poff + k * 2, none⟩ = some (Value.int .i64 (401 + (j : Int))) ∧ w'.cell? ⟨pb, poff + k * 2 + 1, none⟩ = some (Value.slice bo3 m1 bc3)) w' ∧ Bs w' vc (sec bs)) (wc) := ⟨hS, hvc.bs⟩
        refine wpAnyH_mono (S' := fun (w' : World) => (fun (w' : World) => w'.cell? ⟨pb, poff + k * 2, none⟩ = some (Value.int .i64 (401 + (j : Int))) ∧ w'.cell? ⟨pb, poff + k * 2 + 1, none⟩ = some (Value.slice bo3 m1 bc3)) w' ∧ Bs w' vc (sec bs)) (fun _ h => h.1) _ _ _ _ ?_
        clear hS
        have hS := hS'
        clear hS'
        obtain ⟨Z, hZ⟩ : ∃ Z : ByteArray, Z = ⟨(sec bs).toArray⟩ := ⟨_, rfl⟩
        have HZ := Lib.hid hZ
        clear hZ
        refine wpAnyH_take (i := 22) (oi := ⟨some 85, _, _, _, _, _⟩) (v := ?_) rfl (by kernel_rfl) (by kernel_rfl) (by kernel_rfl) (fun _ _ _ h => h) (Or.inl ⟨by rfl, ?_⟩) hS ?_
        rotate_left
        · intro wz hSw; have hcz := run_conv_bytes hSw.2; rw [← HZ.out] at hcz
          clear hSw
          go_simp
          first | done | with_reducible rfl
        try simp only [Act.put, List.setIfInBounds_toArray, List.set_cons_zero, List.set_cons_succ]
        refine wpAnyH_take (i := 23) (oi := ⟨some 86, _, _, _, _, _⟩) (v := ?_) rfl (by kernel_rfl) (by kernel_rfl) (by kernel_rfl) (fun _ _ _ h => h) (Or.inl ⟨by rfl, ?_⟩) hS ?_
        rotate_left
        · intro wz hSw
          clear hSw
          go_simp
          first | done | with_reducible rfl
        try simp only [Act.put, List.setIfInBounds_toArray, List.set_cons_zero, List.set_cons_succ]
        have hga3 : wc.cell? ⟨ga, j, none⟩ = some (.string Z0) := (hbwc.cell HGL.out).trans HOLD.out
        have hgf3 : wc.frozen? ⟨ga, j, none⟩ = false := (World.frozen?_of_block (a := ⟨ga, j, none⟩) (hbwc.block ga HGL.out)).trans HFR.out
        refine wpAnyH_ready (rs := [24]) (by kernel_rfl) (by simp) ?_
        refine AllReadyH.cons (o := ⟨none, _, _, _, _, _⟩) rfl (fun K hK => ?_) AllReadyH.nil
        go_simp
        have hms : Moved (· = ga) wc (wc.setCell ⟨ga, j, none⟩ (.string Z)) := (Moved.refl (· = ga) wc).setCell ⟨ga, j, none⟩ _ (.inl rfl)
        have hcs := fun (o : Nat) => World.cell?_of_block (a := ⟨pb, o, none⟩) (hms.block pb (Nat.lt_of_lt_of_le HLT.out hbwc.size) HPN.out)
        refine hK.out _ _ (⟨⟨(hcs _).trans hS.1.1, (hcs _).trans hS.1.2⟩, hvc.bs.moved hms (fun x hx e => by have := (hvc.out.lt x hx).1; have := HGL.out; omega)⟩) (fun hS => ?_)
        clear hK K
        try simp only [Act.put, List.setIfInBounds_toArray, List.set_cons_zero, List.set_cons_succ]
        refine wpAnyH_done (by kernel_rfl) ?_ _
        have HMN := Lib.hid ((HM.out.trans (Moved.of_below hbwc (fun _ => False)) (fun _ h => h.elim)).trans hms (fun x hx => .inl hx))
        have hrn := (HRS.out.moved (Moved.of_below hbwc (fun _ => False)) (fun h => h)).set j Z
        rw [HZ.out, ← HSET.out, ← HZ.out] at hrn
        have HRN := Lib.hid hrn
        clear hrn hms hcs hS hvc hga3 hgf3
        go_wp2_with fail
        go_roundw
        case rel => exact ⟨k + 1, by omega, by go_num, HMN.out, by rw [← HNX.out]; exact HRN.out⟩
        case measure => simp [intOf]; omega
      · obtain rfl : k = nb := by omega
        have hrs := HRS.out
        rw [show b.take k = b by rw [HNB.out]; exact List.take_length] at hrs
        have h8 := H7.out.mv HM.out (fun x hx => by subst hx; exact ⟨HXA.out, HWA.out⟩)
        have hpb8 := (HPB7.out.moved HM.out (fun g hg e => (HPS.out g hg).1 e)).mono (fun g hg => (HPS.out g hg).2)
        have hrb8 := HRB7.out.moved HM.out (fun e => HAG.out e.symm)
        have H8 := Lib.hid h8
        have HPB8 := Lib.hid hpb8
        have HRB8 := Lib.hid hrb8
        have HRA8 := Lib.hid hrs
        clear hrs h8 hpb8 hrb8 H7 HPB7 HRB7 HRA7 HRS HM hlt hk
        go_wp2_with fail
        refine (HW.out _).mono ?_
        rintro e wz ⟨rfl, hwz⟩
        replace hwz := hwz.symm
        subst hwz
        go_wp2_with fail
        refine (sx_stop (1 + s) H8.out).mono ?_
        rintro e w9 ⟨rfl, h9, hm9⟩
        have hsm9 : Small (A1.stopAt (1 + s)) 100 := stop_small HM5.out (by omega)
        have hsy9 := HS5.out.stopAt (1 + s)
        have hpb9 := hm9.pus HPB8.out (fun g hg => hg)
        have hrb9 := HRB8.out.moved hm9 (fun hj => hj.2 HXG.out)
        have hra9 := HRA8.out.moved hm9 (fun hj => hj.2 HXA.out)
        obtain ⟨A2, hA2⟩ : ∃ A, A = A1.stopAt (1 + s) := ⟨_, rfl⟩
        rw [← hA2] at h9 hsm9 hsy9
        have hcc := commit_crash hsy9 HK5.out HLP.out keep
        have hcs := commit_small b hsm9
        have H9 := Lib.hid h9
        have HPB9 := Lib.hid hpb9
        have HRB9 := Lib.hid hrb9
        have HRA9 := Lib.hid hra9
        have HS9 := Lib.hid hsm9
        clear h9 hm9 hsm9 hsy9 hpb9 hrb9 hra9 hA2 H8 HPB8 HRB8 HRA8 HW
        go_wp2_with fail
        refine (sx_commit _ b _ H9.out HPB9.out (fun g hg => hg) (HS9.out.mono (by omega))).mono ?_
        rintro e w10 ⟨rfl, h10, hm10⟩
        have hrb10 := HRB9.out.moved hm10 (fun hj => hj.2 HXG.out)
        have hra10 := HRA9.out.moved hm10 (fun hj => hj.2 HXA.out)
        have hbl10 := HK.out.moved (Moved.of_below h10.below (fun _ => False)) (fun _ _ _ h => h)
        obtain ⟨e2, he2⟩ : ∃ e, e = (A2.commit b).1 := ⟨_, rfl⟩
        obtain ⟨A3, hA3⟩ : ∃ A, A = (A2.commit b).2 := ⟨_, rfl⟩
        rw [← hA3] at hcc hcs h10
        rw [← he2] at hcc ⊢
        have HCC := Lib.hid hcc
        have HS10 := Lib.hid (hcs.mono (m := 200) (by have := HNB.out; omega))
        have H10 := Lib.hid h10
        have HRB10 := Lib.hid hrb10
        have HRA10 := Lib.hid hra10
        have HBL10 := Lib.hid hbl10
        clear hcc hcs h10 hm10 hrb10 hra10 hbl10 he2 hA3 H9 HPB9 HRB9 HRA9 HS9
        go_wp2_with fail
        refine (sx_crash _ keep H10.out HBL10.out (fun h0 q hq => .inl (HKB.out h0 q hq)) (HS10.out.mono (by omega))).mono ?_
        rintro e w11 ⟨rfl, h11, hm11⟩
        have hrb11 := HRB10.out.moved hm11 (fun hj => hj.2 HXG.out)
        have hra11 := HRA10.out.moved hm11 (fun hj => hj.2 HXA.out)
        have hs11 := crash_small keep HS10.out
        obtain ⟨K4, k1, k2, k3⟩ := HCC.out
        obtain ⟨A4, hA4⟩ : ∃ A, A = A3.crash keep := ⟨_, rfl⟩
        rw [← hA4] at k1 k2 h11 hs11
        have k4 : Some3 K4 K1 b := by
          rcases k3 with h | h
          · exact .inr (.inr h.2)
          · exact h.2
        have k5 : e2 = 0 → After K4 K1 b := fun h0 => by
          rcases k3 with h | h
          · exact h.2
          · omega
        have H11 := Lib.hid h11
        have HRB11 := Lib.hid hrb11
        have HRA11 := Lib.hid hra11
        have HS11 := Lib.hid hs11
        have HK1 := Lib.hid k1
        have HK2 := Lib.hid k2
        have HK4 := Lib.hid k4
        have HK5' := Lib.hid k5
        clear h11 hm11 hrb11 hra11 hs11 k1 k2 k3 k4 k5 hA4 HCC H10 HRB10 HRA10 HBL10 HS10
        go_wp2_with fail
        go_loopw [18] (fun i wr => ∃ k2 : Nat, k2 ≤ ls ∧ k2 ≤ 6 ∧ i = .int .i64 k2 ∧ Mx w X2 w11 wr ∧ ∃ A K, Sx w wr X2 r A ∧ Synced A K ∧ A.stop = 0 ∧ Small A (200 + 500 * k2) ∧ Some3 K K1 b ∧ (e2 = 0 → After K K1 b)) (fun i _ => 6 - (intOf i).toNat)
        case atStart => exact ⟨0, Nat.zero_le _, by omega, rfl, Mx.refl _ _ _, A4, K4, H11.out, HK1.out, HK2.out, HS11.out, HK4.out, HK5'.out⟩
        case round =>
          obtain ⟨k2, hk2, hk6, rfl, hmr, A, K, hx, hsy, hst, hsm, h3, hdn⟩ := hrel
          have HMR := Lib.hid hmr
          have HX := Lib.hid hx
          have HSY := Lib.hid hsy
          have HSP := Lib.hid hst
          have HSM := Lib.hid hsm
          have HS3 := Lib.hid h3
          have HDN := Lib.hid hdn
          clear hmr hx hsy hst hsm h3 hdn
          by_cases hlt2 : (k2 : Int) < ls
          · by_cases hlt6 : (k2 : Int) < 6
            · have hkl2 : k2 < stops.length := by rw [← HLS.out]; omega
              obtain ⟨ab, aoff, ac, ea, -, -, hcell⟩ := (HST.out.below HX.out.below).at (by omega)
              rw [← HLS.out] at ea
              simp only [Value.slice.injEq, true_and] at ea
              obtain ⟨rfl, rfl⟩ := ea
              have y1 := hcell k2 hkl2
              obtain ⟨a0, ha0⟩ : ∃ a : Int, a = stops[k2] := ⟨_, rfl⟩
              rw [← ha0] at y1
              have hw20 := within3_any a0 20 (by decide) (by decide)
              have hwr := within_range a0 20 (by decide)
              obtain ⟨s3, hs3⟩ : ∃ s, s = withinOf a0 20 := ⟨_, rfl⟩
              rw [← hs3] at hw20 hwr
              obtain ⟨hs30, hs31⟩ := hwr
              have HW20 := Lib.hid hw20
              have hk20 : (0 : Int) ≤ k2 := by omega
              clear hcell ha0 hw20 hs3
              go_wp2_with fail
              refine (HW20.out _).mono ?_
              rintro e wz ⟨rfl, hwz⟩
              replace hwz := hwz.symm
              subst hwz
              clear HW20 y1
              go_wp2_with fail
              refine (sx_stop (1 + s3) HX.out).mono ?_
              rintro e wa ⟨rfl, ha, hma⟩
              have hsa : Small (A.stopAt (1 + s3)) (200 + 500 * k2) := stop_small HSM.out (by omega)
              have hya := HSY.out.stopAt (1 + s3)
              obtain ⟨B, hB⟩ : ∃ B, B = A.stopAt (1 + s3) := ⟨_, rfl⟩
              rw [← hB] at ha hsa hya
              obtain ⟨K', j1, j2, j3, j4⟩ := recover_crash hya HS3.out HLP.out (by rw [HN5.out]; omega) keep
              have HA' := Lib.hid ha
              have HSA := Lib.hid hsa
              have HMA := Lib.hid (HMR.out.trans hma)
              have J1 := Lib.hid j1
              have J2 := Lib.hid j2
              have J3 := Lib.hid j3
              have J4 := Lib.hid (fun h0 => j4 (HDN.out h0))
              clear ha hma hsa hya hB j1 j2 j3 j4 HX HSY HSP HSM HS3 HDN HMR
              go_wp2_with fail
              refine (sx_recover HA'.out (HSA.out.mono (by omega))).mono ?_
              rintro e wb ⟨rfl, hb, hmb⟩
              have hsb := recover_small HSA.out
              have hblb := HK.out.moved (Moved.of_below hb.below (fun _ => False)) (fun _ _ _ h => h)
              have HB' := Lib.hid hb
              have HSB := Lib.hid hsb
              have HMB := Lib.hid (HMA.out.trans hmb)
              have HBLB := Lib.hid hblb
              clear hb hmb hsb hblb HA' HMA HSA
              go_wp2_with fail
              refine (sx_crash _ keep HB'.out HBLB.out (fun h0 q hq => .inl (HKB.out h0 q hq)) (HSB.out.mono (by omega))).mono ?_
              rintro e wc ⟨rfl, hc, hmc⟩
              have HC' := Lib.hid hc
              have HMC := Lib.hid (HMB.out.trans hmc)
              clear hc hmc HB' HMB HBLB
              go_wp2_with fail
              go_roundw
              case rel => exact ⟨k2 + 1, by omega, by omega, by go_num, HMC.out, _, K', HC'.out, J1.out, J2.out, (crash_small keep HSB.out).mono (by omega), J3.out, J4.out⟩
              case measure => simp [intOf]; omega
            · obtain ⟨n9, K', r1, r2, r3, r4, -⟩ := recover_ends HSY.out HS3.out HLP.out (by rw [HN5.out]; omega) HSP.out
              have hend : After K' K1 b ∨ Before K' K1 ∧ e2 ≠ 0 := by
                by_cases h0 : e2 = 0
                · have ha := HDN.out h0
                  have hrn := recover_none HSY.out ha.head
                  rw [hrn] at r3
                  have hKK : K' = K := r3.now.symm.trans HSY.out.now
                  rw [hKK]
                  exact .inl ha
                · rcases r4 with h | h
                  · exact .inr ⟨h, h0⟩
                  · exact .inl h
              have hl9 : K'.length = 420 := by
                rcases r4 with h | h
                · rw [h.len, HN5.out]
                · rw [h.len, HN5.out]
              have hsr := recover_small HSM.out
              have hrc := sx_recover HX.out (HSM.out.mono (by omega))
              rw [r2] at hrc
              obtain ⟨A9, hA9⟩ : ∃ B : Ab, B = A.recover.2.2 := ⟨_, rfl⟩
              rw [← hA9] at hrc r3
              have HRC := Lib.hid hrc
              have R3 := Lib.hid r3
              have HEND := Lib.hid hend
              have HL9 := Lib.hid hl9
              clear r1 r2 r3 r4 hend hl9 hsr hrc hA9 HSY HSP HSM HS3 HDN HX
              go_wp2_with fail
              refine HRC.out.mono ?_
              rintro e wx ⟨rfl, hx, hmx⟩
              have HX := Lib.hid hx
              have HMX := Lib.hid (HMR.out.trans hmx)
              clear hx hmx HRC HMR
              go_wp2_with fail
              refine (sx_homes HX.out R3.out.live (by rw [R3.out.now, HL9.out]; omega)).mono ?_
              rintro e wy ⟨nv, rfl, hrown, hy, hby⟩
              have hmy := HMX.out.trans (Mx.of hby)
              have hra := HRA11.out.moved hmy (fun hj => hj.2 HXA.out)
              have hrb := HRB11.out.moved hmy (fun hj => hj.2 HXG.out)
              have hho : homesOf A9 = texts (K'.drop 401) := by rw [homesOf_texts, R3.out.now]
              have hsn := hrown.ss
              rw [hho] at hsn
              have hwl : (texts (wants (K1.drop 401) b)).length = 19 := by rw [texts_length, wants_length, List.length_drop, HN5.out]
              have hsa := hra.ss 19 c7 hwl.symm (by omega) (by simp [maxLen]; omega)
              have hsb := hrb.ss 19 c6 HL19.out.symm (by have := HL19.out; omega) (by simp [maxLen]; omega)
              have HSN := Lib.hid hsn
              have HSA := Lib.hid hsa
              have HSB := Lib.hid hsb
              have HBY := Lib.hid hy.below
              obtain ⟨no, nc, rfl, -⟩ := hrown.ss
              clear hrown hy hby hmy hra hrb hsn hwl hsa hsb HX HMX
              rw [hho] at *
              go_wp2_with fail
              refine (lsame_any _ _ _ _ _ HSN.out HSA.out).mono ?_
              obtain ⟨D, hD⟩ : ∃ D, D = decide (texts (K'.drop 401) = texts (wants (K1.drop 401) b)) := ⟨_, rfl⟩
              rw [← hD]
              rintro e wq ⟨rfl, hbq⟩
              cases D
              · have hne : e2 ≠ 0 ∧ Before K' K1 := by
                  rcases HEND.out with h | h
                  · rw [decide_eq_true (by rw [after_homes h HLP.out])] at hD
                    exact absurd hD (by decide)
                  · exact ⟨h.2, h.1⟩
                have hb2 : (e2 == 0) = false := by simpa using hne.1
                have hsn2 := HSN.out.moved (Moved.of_below hbq (fun _ => False)) (fun _ _ _ h => h)
                have hsb2 := HSB.out.moved (Moved.of_below hbq (fun _ => False)) (fun _ _ _ h => h)
                have hsm2 := lsame_any _ _ _ _ _ hsn2 hsb2
                rw [decide_eq_true (by rw [before_homes hne.2])] at hsm2
                have HS2 := Lib.hid hsm2
                have HBQ := Lib.hid (HBY.out.trans (hbq.mono HBY.out.size))
                clear hD hne hsn2 hsb2 hsm2 hbq
                go_wp2_with fail
                refine HS2.out.mono ?_
                rintro e wv ⟨rfl, hbv⟩
                go_wp2_with fail
                go_ret
                exact ⟨rfl, HBQ.out.trans (hbv.mono HBQ.out.size)⟩
              · clear hD
                go_wp2_with fail
                go_ret
                exact ⟨rfl, HBY.out.trans (hbq.mono HBY.out.size)⟩
          · obtain ⟨n9, K', r1, r2, r3, r4, -⟩ := recover_ends HSY.out HS3.out HLP.out (by rw [HN5.out]; omega) HSP.out
            have hend : After K' K1 b ∨ Before K' K1 ∧ e2 ≠ 0 := by
              by_cases h0 : e2 = 0
              · have ha := HDN.out h0
                have hrn := recover_none HSY.out ha.head
                rw [hrn] at r3
                have hKK : K' = K := r3.now.symm.trans HSY.out.now
                rw [hKK]
                exact .inl ha
              · rcases r4 with h | h
                · exact .inr ⟨h, h0⟩
                · exact .inl h
            have hl9 : K'.length = 420 := by
              rcases r4 with h | h
              · rw [h.len, HN5.out]
              · rw [h.len, HN5.out]
            have hsr := recover_small HSM.out
            have hrc := sx_recover HX.out (HSM.out.mono (by omega))
            rw [r2] at hrc
            obtain ⟨A9, hA9⟩ : ∃ B : Ab, B = A.recover.2.2 := ⟨_, rfl⟩
            rw [← hA9] at hrc r3
            have HRC := Lib.hid hrc
            have R3 := Lib.hid r3
            have HEND := Lib.hid hend
            have HL9 := Lib.hid hl9
            clear r1 r2 r3 r4 hend hl9 hsr hrc hA9 HSY HSP HSM HS3 HDN HX
            go_wp2_with fail
            refine HRC.out.mono ?_
            rintro e wx ⟨rfl, hx, hmx⟩
            have HX := Lib.hid hx
            have HMX := Lib.hid (HMR.out.trans hmx)
            clear hx hmx HRC HMR
            go_wp2_with fail
            refine (sx_homes HX.out R3.out.live (by rw [R3.out.now, HL9.out]; omega)).mono ?_
            rintro e wy ⟨nv, rfl, hrown, hy, hby⟩
            have hmy := HMX.out.trans (Mx.of hby)
            have hra := HRA11.out.moved hmy (fun hj => hj.2 HXA.out)
            have hrb := HRB11.out.moved hmy (fun hj => hj.2 HXG.out)
            have hho : homesOf A9 = texts (K'.drop 401) := by rw [homesOf_texts, R3.out.now]
            have hsn := hrown.ss
            rw [hho] at hsn
            have hwl : (texts (wants (K1.drop 401) b)).length = 19 := by rw [texts_length, wants_length, List.length_drop, HN5.out]
            have hsa := hra.ss 19 c7 hwl.symm (by omega) (by simp [maxLen]; omega)
            have hsb := hrb.ss 19 c6 HL19.out.symm (by have := HL19.out; omega) (by simp [maxLen]; omega)
            have HSN := Lib.hid hsn
            have HSA := Lib.hid hsa
            have HSB := Lib.hid hsb
            have HBY := Lib.hid hy.below
            obtain ⟨no, nc, rfl, -⟩ := hrown.ss
            clear hrown hy hby hmy hra hrb hsn hwl hsa hsb HX HMX
            rw [hho] at *
            go_wp2_with fail
            refine (lsame_any _ _ _ _ _ HSN.out HSA.out).mono ?_
            obtain ⟨D, hD⟩ : ∃ D, D = decide (texts (K'.drop 401) = texts (wants (K1.drop 401) b)) := ⟨_, rfl⟩
            rw [← hD]
            rintro e wq ⟨rfl, hbq⟩
            cases D
            · have hne : e2 ≠ 0 ∧ Before K' K1 := by
                rcases HEND.out with h | h
                · rw [decide_eq_true (by rw [after_homes h HLP.out])] at hD
                  exact absurd hD (by decide)
                · exact ⟨h.2, h.1⟩
              have hb2 : (e2 == 0) = false := by simpa using hne.1
              have hsn2 := HSN.out.moved (Moved.of_below hbq (fun _ => False)) (fun _ _ _ h => h)
              have hsb2 := HSB.out.moved (Moved.of_below hbq (fun _ => False)) (fun _ _ _ h => h)
              have hsm2 := lsame_any _ _ _ _ _ hsn2 hsb2
              rw [decide_eq_true (by rw [before_homes hne.2])] at hsm2
              have HS2 := Lib.hid hsm2
              have HBQ := Lib.hid (HBY.out.trans (hbq.mono HBY.out.size))
              clear hD hne hsn2 hsb2 hsm2 hbq
              go_wp2_with fail
              refine HS2.out.mono ?_
              rintro e wv ⟨rfl, hbv⟩
              go_wp2_with fail
              go_ret
              exact ⟨rfl, HBQ.out.trans (hbv.mono HBQ.out.size)⟩
            · clear hD
              go_wp2_with fail
              go_ret
              exact ⟨rfl, HBY.out.trans (hbq.mono HBY.out.size)⟩
  · have hz' : (0 : Int) < na := by omega
    have hK : (List.replicate 420 (zeros 512)).length = 420 := List.length_replicate ..
    obtain ⟨q1, ⟨K1, q2, q3⟩, q4, q5⟩ := commit_good (new_synced 420) (new_head 420 (by omega)) (by rw [hK]; exact HGA.out hz) rfl
    have hsm := commit_small a (new_small 420 10)
    have hcm := sx_commit _ a _ H4.out HPA.out (fun g hg => hg) (new_small _ _)
    rw [q1] at hcm
    obtain ⟨A1, hA1⟩ : ∃ A, A = ((Ab.new 420).commit a).2 := ⟨_, rfl⟩
    rw [← hA1] at q2 q4 q5 hsm hcm
    have HCM := Lib.hid hcm
    have HS5 := Lib.hid q2
    have HK5 := Lib.hid q3.head
    have HN5 := Lib.hid (q3.len.trans hK)
    have HQ5 := Lib.hid q5
    have HM5 := Lib.hid (hsm.mono (m := 100) (by have := HNA.out; omega))
    clear hK q1 q2 q3 q4 q5 hsm hcm hA1
    go_wp2_with fail
    refine HCM.out.mono ?_
    rintro e w5 ⟨rfl, h5, hm5⟩
    have H5 := Lib.hid h5
    have HPB5 := Lib.hid (hm5.pus HPB.out (fun g hg => hg))
    clear h5 hm5 HCM H4 HPB HPA
    by_cases hzb : nb = 0
    · subst hzb
      go_wp2_with fail
      go_ret
      exact ⟨rfl, H5.out.below⟩
    have hzb' : ¬ (nb : Int) = 0 := by omega
    have hlp : Pagess K1.length b := by rw [HN5.out]; exact HGB.out hzb
    have HLP := Lib.hid hlp
    clear hlp
    go_wp2_with fail
    refine (sx_homes H5.out HS5.out.live (by rw [HS5.out.now, HN5.out]; omega)).mono ?_
    rintro e w6 ⟨hv, rfl, hrow6, h6, hb6⟩
    have hlen0 : (homesOf A1).length = 19 := by rw [homesOf_texts, texts_length, List.length_drop, HS5.out.now, HN5.out]
    have hho : homesOf A1 = texts (K1.drop 401) := by rw [homesOf_texts, HS5.out.now]
    obtain ⟨g6, c6, rfl, hc61, hc62, hg61, hr6⟩ := hrow6.row (by omega)
    have hc62' : c6 ≤ 9223372036854775807 := hc62
    rw [hlen0] at hc61 ⊢
    rw [hho] at hr6 hlen0
    have hg62 := hr6.lt
    have hs56 := hb6.size
    have H6T := Lib.hid (H5.out.take hb6)
    have HR6 := Lib.hid hr6
    have HB6 := Lib.hid hb6
    have HPB6 := Lib.hid (HPB5.out.below hb6)
    have HL19 := Lib.hid hlen0
    clear hrow6 h6 hr6 hb6 hlen0 hho hc62
    obtain ⟨i0, hi, hz0, hz1, hz2⟩ := info_parts Try.infoStr
    have hal6 : Below w6.heap.size w6 (w6.alloc (.cells #[] 9)) := (Below.refl _ _).alloc (Nat.le_refl _) _
    have hr6a := HR6.out.moved (Moved.of_below hal6 (fun _ => False)) (fun h => h)
    have hnews : ∀ j u, (strs (texts (K1.drop 401)))[j]? = some u → (w6.alloc (.cells #[] 9)).cell? ((⟨g6, 0, none⟩ : Addr).add j) = some u := fun j u hu => by
      have hj : j < (texts (K1.drop 401)).length := by
        have := (List.getElem?_eq_some_iff.1 hu).1
        rwa [strs_length] at this
      have := hr6a.cell j hj
      rw [Addr.add_lit, Nat.zero_add, this]
      simpa [strs, hj] using hu
    have HNEWS := Lib.hid hnews
    have HEMP := Lib.hid (OwnS.empty w6 w6.heap.size (Nat.le_refl _))
    have HALS := Lib.hid hal6
    clear hr6a hnews hal6
    go_wp2_with (at_builtin; refine wpList_append_lies _ rfl _ _ _ rfl w6.heap.size 9 i0 _ 1 16 Try.underlying53 hi hz0 hz1 hz2 rfl (by decide) _ 0 [] rfl HEMP.out ⟨g6, 0, none⟩ 19 c6 (strs (texts (K1.drop 401))) rfl ?n1 HNEWS.out ?n2 (by decide) (by simp [maxLen]) (by decide) ?n3 _ rfl ?_)
    case n1 => rw [strs_length, HL19.out]
    case n2 =>
      intro u hu
      obtain ⟨b, -, rfl⟩ := List.mem_map.1 hu
      rfl
    case n3 => simp
    intro ga c7 w7 hown7 hgr7 hga7 hgl7
    have hown7' : OwnS w7 w6.heap.size (.slice (some ⟨ga, 0, none⟩) 19 c7) (texts (K1.drop 401)) := by
      unfold OwnS
      rw [HL19.out]
      exact hown7
    obtain ⟨gx, cx, ex, hc71, hc72, hgb7, hr7⟩ := hown7'.row (by rw [HL19.out]; omega)
    simp only [Value.slice.injEq, Option.some.injEq, Addr.mk.injEq, and_true, true_and] at ex
    obtain ⟨rfl, -, rfl⟩ := ex
    have hc72' : c7 ≤ 9223372036854775807 := hc72
    have hb67 : Below w6.heap.size w6 w7 := HALS.out.grown hgr7 HALS.out.size (fun q hq => by simp [Value.ownBlock] at hq; omega)
    have h7 := H6T.out.take hb67
    have hpb7 := HPB6.out.below hb67
    have hr67 := HR6.out.moved (Moved.of_below hb67 (fun _ => False)) (fun h => h)
    have hs67 := hb67.size
    have hX5 := H5.out.2.1
    obtain ⟨X2, hX2⟩ : ∃ X2 : Nat → Prop, X2 = fun k => (X k ∨ (w5.heap.size ≤ k ∧ k < w6.heap.size)) ∨ (w6.heap.size ≤ k ∧ k < w7.heap.size) := ⟨_, rfl⟩
    rw [← hX2] at h7
    have hX2a : X2 ga := by rw [hX2]; exact .inr ⟨hgb7, hgl7⟩
    have hX2g : X2 g6 := by rw [hX2]; exact .inl (.inr ⟨hg61, hg62⟩)
    have hw6a : w.heap.size ≤ ga := by have := H5.out.size; omega
    have hag : ga ≠ g6 := by omega
    have hpbS : ∀ g, (g < w.heap.size ∨ X g) → g ≠ ga ∧ (g < w.heap.size ∨ X2 g) := fun g hg => by
      rcases hg with h | h
      · exact ⟨by omega, .inl h⟩
      · exact ⟨by have := hX5 g h; omega, .inr (by rw [hX2]; exact .inl (.inl h))⟩
    have H7 := Lib.hid h7
    have HPB7 := Lib.hid hpb7
    have HRB7 := Lib.hid hr67
    have HRA7 := Lib.hid hr7
    have HXA := Lib.hid hX2a
    have HXG := Lib.hid hX2g
    have HWA := Lib.hid hw6a
    have HAG := Lib.hid hag
    have HPS := Lib.hid hpbS
    rw [HL19.out] at hc71
    clear hown7 hown7' hgr7 hga7 hgl7 hgb7 hr7 hb67 h7 hpb7 hr67 hs67 hX5 hX2 hX2a hX2g hw6a hag hpbS HEMP HNEWS HALS HR6 HB6 HPB6 H6T hg61 hg62 hs56 H5 HPB5 hi hz0 hz1 hz2 hc72
    go_wp2_with fail
    go_loopw [16] (fun i wr => ∃ k : Nat, k ≤ nb ∧ i = .int .i64 k ∧ Moved (· = ga) w7 wr ∧ RowS wr ga (texts (wants (K1.drop 401) (b.take k)))) (fun i _ => nb - (intOf i).toNat)
    case atStart => exact ⟨0, Nat.zero_le _, rfl, Moved.refl _ _, HRA7.out⟩
    case round =>
      obtain ⟨k, hk, rfl, hm, hrs⟩ := hrel
      have HM := Lib.hid hm
      have HRS := Lib.hid hrs
      clear hm hrs
      by_cases hlt : k < nb
      · have hkl : k < b.length := by rw [← HNB.out]; exact hlt
        have hpw := HPB7.out.moved HM.out (fun g hg e => (HPS.out g hg).1 e)
        obtain ⟨po, pc, ep, -, -, hE⟩ := hpw
        simp only [Value.slice.injEq] at ep
        obtain ⟨rfl, -, rfl⟩ := ep
        obtain ⟨pb, poff, rfl, hSp, c0, u, c1, hbs, -⟩ := hE k hkl
        have hok := HLP.out.ok _ (List.getElem_mem hkl)
        rw [HN5.out] at hok
        have hpn : pb ≠ ga := (HPS.out pb hSp).1
        have hnext := wants_succ (K1.drop 401) b k hkl
        obtain ⟨bs, hbb⟩ : ∃ m, m = b[k].2 := ⟨_, rfl⟩
        obtain ⟨j, hj⟩ : ∃ j : Nat, b[k].1 = 401 + (j : Int) := ⟨(b[k].1 - 401).toNat, by omega⟩
        rw [hj] at c0 hok
        rw [← hbb] at hbs hok
        rw [← hbb, hj, show (401 + (j : Int)).toNat - 401 = j by omega] at hnext
        obtain ⟨bo3, bc3, rfl, hbc1, hbc2, -⟩ := id hbs
        have hbc2' : bc3 ≤ 9223372036854775807 := hbc2
        obtain ⟨m1, hm1⟩ : ∃ m, m = bs.length := ⟨_, rfl⟩
        obtain ⟨q, hq⟩ : ∃ q, q = 512 - m1 := ⟨_, rfl⟩
        rw [← hm1] at hok hbc1 c1
        have hj19 : j < 19 := by omega
        have hwr1 : IntKind.i64.wrap (401 + (j : Int) - 401) = j := by rw [IntKind.wrap_i64]; omega
        have hwr2 : IntKind.i64.wrap (j : Int) = j := by rw [IntKind.wrap_i64]; omega
        have hwr3 : IntKind.i64.wrap (512 - (m1 : Int)) = q := by rw [IntKind.wrap_i64]; omega
        have hq0 : 0 < q ∧ m1 + q = 512 := by omega
        obtain ⟨hq1, hq2⟩ := hq0
        have hsec : bs ++ zeros q = sec bs := by unfold sec; rw [hq, ← hm1]
        obtain ⟨NX, hNX⟩ : ∃ N, N = texts (wants (K1.drop 401) (b.take (k + 1))) := ⟨_, rfl⟩
        obtain ⟨CU, hCU⟩ : ∃ N, N = texts (wants (K1.drop 401) (b.take k)) := ⟨_, rfl⟩
        have hcl : CU.length = 19 := by rw [hCU, texts_length, wants_length, List.length_drop, HN5.out]
        have hset : NX = CU.set j ⟨(sec bs).toArray⟩ := by rw [hNX, hCU, hnext, texts_set]
        rw [← hCU] at HRS
        have old := HRS.out.cell j (by omega)
        have HBS := Lib.hid hbs
        have HM1 := Lib.hid hm1
        have HSEC := Lib.hid hsec
        have HSET := Lib.hid hset
        have HNX := Lib.hid hNX
        have hlt0 := World.block_lt_of_cell? _ _ c0
        have hgal := HRS.out.lt
        have HLT := Lib.hid hlt0
        have HGL := Lib.hid hgal
        have HPN := Lib.hid hpn
        obtain ⟨Z0, hZ0⟩ : ∃ Z : ByteArray, Z = CU[j] := ⟨_, rfl⟩
        rw [← hZ0] at old
        have hfr := HRS.out.frozen j
        have HOLD := Lib.hid old
        have HFR := Lib.hid hfr
        have hkn : (k : Int) < nb := by omega
        clear hpn hE hbb hj hok hnext hbs hbc2 hm1 hq hsec hNX hCU hset hlt0 hgal hZ0 old hfr hcl hlt
        have hk0 : (0 : Int) ≤ k := by omega
        have hj0 : (0 : Int) ≤ j := by omega
        have hj19' : (j : Int) < 19 := by omega
        go_wp2_with fail
        refine wp_region_any (by kernel_rfl) ?_
        change wpAny _ _ _ _ _ _ _ (World.drew _)
        refine wpAny_of_held (S := fun (w' : World) => w'.cell? ⟨pb, poff + k * 2, none⟩ = some (Value.int .i64 (401 + (j : Int))) ∧ w'.cell? ⟨pb, poff + k * 2 + 1, none⟩ = some (Value.slice bo3 m1 bc3)) _ _ _ _ ?_
        have hS : (fun (w' : World) => w'.cell? ⟨pb, poff + k * 2, none⟩ = some (Value.int .i64 (401 + (j : Int))) ∧ w'.cell? ⟨pb, poff + k * 2 + 1, none⟩ = some (Value.slice bo3 m1 bc3)) _ := ⟨c0, c1⟩
        refine wpAnyH_take (i := 0) (oi := ⟨some 63, _, _, _, _, _⟩) (v := ?_) rfl (by kernel_rfl) (by kernel_rfl) (by kernel_rfl) (fun _ _ _ h => h) (Or.inl ⟨by rfl, ?_⟩) hS ?_
        rotate_left
        · intro wz hSw
          clear hSw
          go_simp
          first | done | with_reducible rfl
        try simp only [Act.put, List.setIfInBounds_toArray, List.set_cons_zero, List.set_cons_succ]
        refine wpAnyH_take (i := 1) (oi := ⟨some 64, _, _, _, _, _⟩) (v := ?_) rfl (by kernel_rfl) (by kernel_rfl) (by kernel_rfl) (fun _ _ _ h => h) (Or.inl ⟨by rfl, ?_⟩) hS ?_
        rotate_left
        · intro wz hSw
          clear hSw
          go_simp
          first | done | with_reducible rfl
        try simp only [Act.put, List.setIfInBounds_toArray, List.set_cons_zero, List.set_cons_succ]
        refine wpAnyH_take (i := 2) (oi := ⟨some 65, _, _, _, _, _⟩) (v := ?_) rfl (by kernel_rfl) (by kernel_rfl) (by kernel_rfl) (fun _ _ _ h => h) (Or.inl ⟨by rfl, ?_⟩) hS ?_
        rotate_left
        · intro wz hSw
          clear hSw
          go_simp
          first | done | with_reducible rfl
        try simp only [Act.put, List.setIfInBounds_toArray, List.set_cons_zero, List.set_cons_succ]
        refine wpAnyH_take (i := 3) (oi := ⟨some 66, _, _, _, _, _⟩) (v := ?_) rfl (by kernel_rfl) (by kernel_rfl) (by kernel_rfl) (fun _ _ _ h => h) (Or.inl ⟨by rfl, ?_⟩) hS ?_
        rotate_left
        · intro wz hSw
          clear hSw
          go_simp
          first | done | with_reducible rfl
        try simp only [Act.put, List.setIfInBounds_toArray, List.set_cons_zero, List.set_cons_succ]
        refine wpAnyH_take (i := 4) (oi := ⟨some 67, _, _, _, _, _⟩) (v := ?_) rfl (by kernel_rfl) (by kernel_rfl) (by kernel_rfl) (fun _ _ _ h => h) (Or.inl ⟨by rfl, ?_⟩) hS ?_
        rotate_left
        · intro wz hSw
          clear hSw
          go_simp
          first | done | with_reducible rfl
        try simp only [Act.put, List.setIfInBounds_toArray, List.set_cons_zero, List.set_cons_succ]
        refine wpAnyH_take (i := 5) (oi := ⟨some 68, _, _, _, _, _⟩) (v := ?_) rfl (by kernel_rfl) (by kernel_rfl) (by kernel_rfl) (fun _ _ _ h => h) (Or.inl ⟨by rfl, ?_⟩) hS ?_
        rotate_left
        · intro wz hSw
          (try dsimp only at hSw)
          (try go_split_ands)
          go_simp
          first | done | with_reducible rfl
        try simp only [Act.put, List.setIfInBounds_toArray, List.set_cons_zero, List.set_cons_succ]
        refine wpAnyH_take (i := 6) (oi := ⟨some 69, _, _, _, _, _⟩) (v := ?_) rfl (by kernel_rfl) (by kernel_rfl) (by kernel_rfl) (fun _ _ _ h => h) (Or.inl ⟨by rfl, ?_⟩) hS ?_
        rotate_left
        · intro wz hSw
          clear hSw
          go_simp
          first | done | with_reducible rfl
        try simp only [Act.put, List.setIfInBounds_toArray, List.set_cons_zero, List.set_cons_succ]
        refine wpAnyH_take (i := 8) (oi := ⟨some 71, _, _, _, _, _⟩) (v := ?_) rfl (by kernel_rfl) (by kernel_rfl) (by kernel_rfl) (fun _ _ _ h => h) (Or.inl ⟨by rfl, ?_⟩) hS ?_
        rotate_left
        · intro wz hSw
          clear hSw
          go_simp
          first | done | with_reducible rfl
        try simp only [Act.put, List.setIfInBounds_toArray, List.set_cons_zero, List.set_cons_succ]
        refine wpAnyH_take (i := 9) (oi := ⟨some 72, _, _, _, _, _⟩) (v := ?_) rfl (by kernel_rfl) (by kernel_rfl) (by kernel_rfl) (fun _ _ _ h => h) (Or.inl ⟨by rfl, ?_⟩) hS ?_
        rotate_left
        · intro wz hSw
          clear hSw
          go_simp
          first | done | with_reducible rfl
        try simp only [Act.put, List.setIfInBounds_toArray, List.set_cons_zero, List.set_cons_succ]
        refine wpAnyH_take (i := 10) (oi := ⟨some 73, _, _, _, _, _⟩) (v := ?_) rfl (by kernel_rfl) (by kernel_rfl) (by kernel_rfl) (fun _ _ _ h => h) (Or.inl ⟨by rfl, ?_⟩) hS ?_
        rotate_left
        · intro wz hSw
          clear hSw
          go_simp
          first | done | with_reducible rfl
        try simp only [Act.put, List.setIfInBounds_toArray, List.set_cons_zero, List.set_cons_succ]
        refine wpAnyH_take (i := 11) (oi := ⟨some 74, _, _, _, _, _⟩) (v := ?_) rfl (by kernel_rfl) (by kernel_rfl) (by kernel_rfl) (fun _ _ _ h => h) (Or.inl ⟨by rfl, ?_⟩) hS ?_
        rotate_left
        · intro wz hSw
          clear hSw
          go_simp
          first | done | with_reducible rfl
        try simp only [Act.put, List.setIfInBounds_toArray, List.set_cons_zero, List.set_cons_succ]
        refine wpAnyH_take (i := 12) (oi := ⟨some 75, _, _, _, _, _⟩) (v := ?_) rfl (by kernel_rfl) (by kernel_rfl) (by kernel_rfl) (fun _ _ _ h => h) (Or.inl ⟨by rfl, ?_⟩) hS ?_
        rotate_left
        · intro wz hSw
          (try dsimp only at hSw)
          (try go_split_ands)
          go_simp
          first | done | with_reducible rfl
        try simp only [Act.put, List.setIfInBounds_toArray, List.set_cons_zero, List.set_cons_succ]
        refine wpAnyH_take (i := 14) (oi := ⟨some 77, _, _, _, _, _⟩) (v := ?_) rfl (by kernel_rfl) (by kernel_rfl) (by kernel_rfl) (fun _ _ _ h => h) (Or.inl ⟨by rfl, ?_⟩) hS ?_
        rotate_left
        · intro wz hSw
          clear hSw
          go_simp
          first | done | with_reducible rfl
        try simp only [Act.put, List.setIfInBounds_toArray, List.set_cons_zero, List.set_cons_succ]
        refine wpAnyH_take (i := 15) (oi := ⟨some 78, _, _, _, _, _⟩) (v := ?_) rfl (by kernel_rfl) (by kernel_rfl) (by kernel_rfl) (fun _ _ _ h => h) (Or.inl ⟨by rfl, ?_⟩) hS ?_
        rotate_left
        · intro wz hSw
          clear hSw
          go_simp
          first | done | with_reducible rfl
        try simp only [Act.put, List.setIfInBounds_toArray, List.set_cons_zero, List.set_cons_succ]
        refine wpAnyH_take (i := 16) (oi := ⟨some 79, _, _, _, _, _⟩) (v := ?_) rfl (by kernel_rfl) (by kernel_rfl) (by kernel_rfl) (fun _ _ _ h => h) (Or.inl ⟨by rfl, ?_⟩) hS ?_
        rotate_left
        · intro wz hSw
          clear hSw
          go_simp
          first | done | with_reducible rfl
        try simp only [Act.put, List.setIfInBounds_toArray, List.set_cons_zero, List.set_cons_succ]
        refine wpAnyH_take (i := 17) (oi := ⟨some 80, _, _, _, _, _⟩) (v := ?_) rfl (by kernel_rfl) (by kernel_rfl) (by kernel_rfl) (fun _ _ _ h => h) (Or.inl ⟨by rfl, ?_⟩) hS ?_
        rotate_left
        · intro wz hSw
          clear hSw
          go_simp
          first | done | with_reducible rfl
        try simp only [Act.put, List.setIfInBounds_toArray, List.set_cons_zero, List.set_cons_succ]
        refine wpAnyH_take (i := 18) (oi := ⟨some 81, _, _, _, _, _⟩) (v := ?_) rfl (by kernel_rfl) (by kernel_rfl) (by kernel_rfl) (fun _ _ _ h => h) (Or.inl ⟨by rfl, ?_⟩) hS ?_
        rotate_left
        · intro wz hSw
          (try dsimp only at hSw)
          (try go_split_ands)
          go_simp
          first | done | with_reducible rfl
        try simp only [Act.put, List.setIfInBounds_toArray, List.set_cons_zero, List.set_cons_succ]
        refine wpAnyH_take (i := 19) (oi := ⟨some 82, _, _, _, _, _⟩) (v := ?_) rfl (by kernel_rfl) (by kernel_rfl) (by kernel_rfl) (fun _ _ _ h => h) (Or.inl ⟨by rfl, ?_⟩) hS ?_
        rotate_left
        · intro wz hSw
          clear hSw
          go_simp
          first | done | with_reducible rfl
        try simp only [Act.put, List.setIfInBounds_toArray, List.set_cons_zero, List.set_cons_succ]
        refine wpAnyH_take (i := 20) (oi := ⟨some 83, _, _, _, _, _⟩) (v := ?_) rfl (by kernel_rfl) (by kernel_rfl) (by kernel_rfl) (fun _ _ _ h => h) (Or.inl ⟨by rfl, ?_⟩) hS ?_
        rotate_left
        · intro wz hSw
          clear hSw
          go_simp
          first | done | with_reducible rfl
        try simp only [Act.put, List.setIfInBounds_toArray, List.set_cons_zero, List.set_cons_succ]
        refine wpAnyH_ready (rs := [7]) (by kernel_rfl) (by simp) ?_
        refine AllReadyH.cons (o := ⟨some 70, _, _, _, _, _⟩) rfl (fun K hK => ?_) AllReadyH.nil
        go_simp
        refine hK.out _ _ (⟨((Below.refl _ wr).drew.alloc (Nat.le_refl _) _).cell HLT.out |>.trans c0, ((Below.refl _ wr).drew.alloc (Nat.le_refl _) _).cell HLT.out |>.trans c1⟩) (fun hS => ?_)
        clear hK K
        try simp only [Act.put, List.setIfInBounds_toArray, List.set_cons_zero, List.set_cons_succ]
        have ho8 := (Own.empty wr wr.heap.size (Nat.le_refl _)).below (Below.refl _ _).drew
        have hal8 := ((Below.refl wr.heap.size wr).alloc (Nat.le_refl _) (.cells #[] 5)).drew
        have hbt8 := HBS.out.below hal8
        rw [← HM1.out] at hbt8
        refine wpAnyH_ready (rs := [13]) (by kernel_rfl) (by simp) ?_
        refine AllReadyH.cons (o := ⟨some 76, _, _, _, _, _⟩) rfl (fun K hK => ?_) AllReadyH.nil
        refine step_append_bytes rfl (.tmp 70) (.tmp 75) rfl wr.heap.size _ [] rfl ho8 _ bs rfl hbt8 ?_ ?_ ?_
        · rw [List.length_nil, ← HM1.out]; omega
        · exact hal8.size
        intro va wa hva hga
        have hbwa := hal8.grown hga hal8.size (fun q hq => (ho8.out.lt q hq).1)
        rw [List.nil_append] at hva
        refine hK.out _ _ (⟨(hbwa.cell HLT.out).trans c0, (hbwa.cell HLT.out).trans c1⟩) (fun hS => ?_)
        clear hK K ho8 hbt8 hal8 hga
        try simp only [Act.put, List.setIfInBounds_toArray, List.set_cons_zero, List.set_cons_succ]
        refine wpAnyH_ready (rs := [21]) (by kernel_rfl) (by simp) ?_
        refine AllReadyH.cons (o := ⟨some 84, _, _, _, _, _⟩) rfl (fun K hK => ?_) AllReadyH.nil
        refine step_append_zeros rfl (.tmp 76) (.tmp 83) rfl wr.heap.size _ bs rfl hva q rfl hq1 ?_ ?_ ?_
        · rw [← HM1.out]; omega
        · exact hbwa.size
        intro vc wc hvc hgc
        have hbwc := hbwa.grown hgc hbwa.size (fun q hq => (hva.out.lt q hq).1)
        rw [HSEC.out] at hvc
        refine hK.out _ _ (⟨(hbwc.cell HLT.out).trans c0, (hbwc.cell HLT.out).trans c1⟩) (fun hS => ?_)
        clear hK K hva hgc hbwa
        try simp only [Act.put, List.setIfInBounds_toArray, List.set_cons_zero, List.set_cons_succ]
        have hS' : (fun (w' : World) => (fun (w' : World) => w'.cell? ⟨pb, poff + k * 2, none⟩ = some (Value.int .i64 (401 + (j : Int))) ∧ w'.cell? ⟨pb, poff + k * 2 + 1, none⟩ = some (Value.slice bo3 m1 bc3)) w' ∧ Bs w' vc (sec bs)) (wc) := ⟨hS, hvc.bs⟩
        refine wpAnyH_mono (S' := fun (w' : World) => (fun (w' : World) => w'.cell? ⟨pb, poff + k * 2, none⟩ = some (Value.int .i64 (401 + (j : Int))) ∧ w'.cell? ⟨pb, poff + k * 2 + 1, none⟩ = some (Value.slice bo3 m1 bc3)) w' ∧ Bs w' vc (sec bs)) (fun _ h => h.1) _ _ _ _ ?_
        clear hS
        have hS := hS'
        clear hS'
        obtain ⟨Z, hZ⟩ : ∃ Z : ByteArray, Z = ⟨(sec bs).toArray⟩ := ⟨_, rfl⟩
        have HZ := Lib.hid hZ
        clear hZ
        refine wpAnyH_take (i := 22) (oi := ⟨some 85, _, _, _, _, _⟩) (v := ?_) rfl (by kernel_rfl) (by kernel_rfl) (by kernel_rfl) (fun _ _ _ h => h) (Or.inl ⟨by rfl, ?_⟩) hS ?_
        rotate_left
        · intro wz hSw; have hcz := run_conv_bytes hSw.2; rw [← HZ.out] at hcz
          clear hSw
          go_simp
          first | done | with_reducible rfl
        try simp only [Act.put, List.setIfInBounds_toArray, List.set_cons_zero, List.set_cons_succ]
        refine wpAnyH_take (i := 23) (oi := ⟨some 86, _, _, _, _, _⟩) (v := ?_) rfl (by kernel_rfl) (by kernel_rfl) (by kernel_rfl) (fun _ _ _ h => h) (Or.inl ⟨by rfl, ?_⟩) hS ?_
        rotate_left
        · intro wz hSw
          clear hSw
          go_simp
          first | done | with_reducible rfl
        try simp only [Act.put, List.setIfInBounds_toArray, List.set_cons_zero, List.set_cons_succ]
        have hga3 : wc.cell? ⟨ga, j, none⟩ = some (.string Z0) := (hbwc.cell HGL.out).trans HOLD.out
        have hgf3 : wc.frozen? ⟨ga, j, none⟩ = false := (World.frozen?_of_block (a := ⟨ga, j, none⟩) (hbwc.block ga HGL.out)).trans HFR.out
        refine wpAnyH_ready (rs := [24]) (by kernel_rfl) (by simp) ?_
        refine AllReadyH.cons (o := ⟨none, _, _, _, _, _⟩) rfl (fun K hK => ?_) AllReadyH.nil
        go_simp
        have hms : Moved (· = ga) wc (wc.setCell ⟨ga, j, none⟩ (.string Z)) := (Moved.refl (· = ga) wc).setCell ⟨ga, j, none⟩ _ (.inl rfl)
        have hcs := fun (o : Nat) => World.cell?_of_block (a := ⟨pb, o, none⟩) (hms.block pb (Nat.lt_of_lt_of_le HLT.out hbwc.size) HPN.out)
        refine hK.out _ _ (⟨⟨(hcs _).trans hS.1.1, (hcs _).trans hS.1.2⟩, hvc.bs.moved hms (fun x hx e => by have := (hvc.out.lt x hx).1; have := HGL.out; omega)⟩) (fun hS => ?_)
        clear hK K
        try simp only [Act.put, List.setIfInBounds_toArray, List.set_cons_zero, List.set_cons_succ]
        refine wpAnyH_done (by kernel_rfl) ?_ _
        have HMN := Lib.hid ((HM.out.trans (Moved.of_below hbwc (fun _ => False)) (fun _ h => h.elim)).trans hms (fun x hx => .inl hx))
        have hrn := (HRS.out.moved (Moved.of_below hbwc (fun _ => False)) (fun h => h)).set j Z
        rw [HZ.out, ← HSET.out, ← HZ.out] at hrn
        have HRN := Lib.hid hrn
        clear hrn hms hcs hS hvc hga3 hgf3
        go_wp2_with fail
        go_roundw
        case rel => exact ⟨k + 1, by omega, by go_num, HMN.out, by rw [← HNX.out]; exact HRN.out⟩
        case measure => simp [intOf]; omega
      · obtain rfl : k = nb := by omega
        have hrs := HRS.out
        rw [show b.take k = b by rw [HNB.out]; exact List.take_length] at hrs
        have h8 := H7.out.mv HM.out (fun x hx => by subst hx; exact ⟨HXA.out, HWA.out⟩)
        have hpb8 := (HPB7.out.moved HM.out (fun g hg e => (HPS.out g hg).1 e)).mono (fun g hg => (HPS.out g hg).2)
        have hrb8 := HRB7.out.moved HM.out (fun e => HAG.out e.symm)
        have H8 := Lib.hid h8
        have HPB8 := Lib.hid hpb8
        have HRB8 := Lib.hid hrb8
        have HRA8 := Lib.hid hrs
        clear hrs h8 hpb8 hrb8 H7 HPB7 HRB7 HRA7 HRS HM hlt hk
        go_wp2_with fail
        refine (HW.out _).mono ?_
        rintro e wz ⟨rfl, hwz⟩
        replace hwz := hwz.symm
        subst hwz
        go_wp2_with fail
        refine (sx_stop (1 + s) H8.out).mono ?_
        rintro e w9 ⟨rfl, h9, hm9⟩
        have hsm9 : Small (A1.stopAt (1 + s)) 100 := stop_small HM5.out (by omega)
        have hsy9 := HS5.out.stopAt (1 + s)
        have hpb9 := hm9.pus HPB8.out (fun g hg => hg)
        have hrb9 := HRB8.out.moved hm9 (fun hj => hj.2 HXG.out)
        have hra9 := HRA8.out.moved hm9 (fun hj => hj.2 HXA.out)
        obtain ⟨A2, hA2⟩ : ∃ A, A = A1.stopAt (1 + s) := ⟨_, rfl⟩
        rw [← hA2] at h9 hsm9 hsy9
        have hcc := commit_crash hsy9 HK5.out HLP.out keep
        have hcs := commit_small b hsm9
        have H9 := Lib.hid h9
        have HPB9 := Lib.hid hpb9
        have HRB9 := Lib.hid hrb9
        have HRA9 := Lib.hid hra9
        have HS9 := Lib.hid hsm9
        clear h9 hm9 hsm9 hsy9 hpb9 hrb9 hra9 hA2 H8 HPB8 HRB8 HRA8 HW
        go_wp2_with fail
        refine (sx_commit _ b _ H9.out HPB9.out (fun g hg => hg) (HS9.out.mono (by omega))).mono ?_
        rintro e w10 ⟨rfl, h10, hm10⟩
        have hrb10 := HRB9.out.moved hm10 (fun hj => hj.2 HXG.out)
        have hra10 := HRA9.out.moved hm10 (fun hj => hj.2 HXA.out)
        have hbl10 := HK.out.moved (Moved.of_below h10.below (fun _ => False)) (fun _ _ _ h => h)
        obtain ⟨e2, he2⟩ : ∃ e, e = (A2.commit b).1 := ⟨_, rfl⟩
        obtain ⟨A3, hA3⟩ : ∃ A, A = (A2.commit b).2 := ⟨_, rfl⟩
        rw [← hA3] at hcc hcs h10
        rw [← he2] at hcc ⊢
        have HCC := Lib.hid hcc
        have HS10 := Lib.hid (hcs.mono (m := 200) (by have := HNB.out; omega))
        have H10 := Lib.hid h10
        have HRB10 := Lib.hid hrb10
        have HRA10 := Lib.hid hra10
        have HBL10 := Lib.hid hbl10
        clear hcc hcs h10 hm10 hrb10 hra10 hbl10 he2 hA3 H9 HPB9 HRB9 HRA9 HS9
        go_wp2_with fail
        refine (sx_crash _ keep H10.out HBL10.out (fun h0 q hq => .inl (HKB.out h0 q hq)) (HS10.out.mono (by omega))).mono ?_
        rintro e w11 ⟨rfl, h11, hm11⟩
        have hrb11 := HRB10.out.moved hm11 (fun hj => hj.2 HXG.out)
        have hra11 := HRA10.out.moved hm11 (fun hj => hj.2 HXA.out)
        have hs11 := crash_small keep HS10.out
        obtain ⟨K4, k1, k2, k3⟩ := HCC.out
        obtain ⟨A4, hA4⟩ : ∃ A, A = A3.crash keep := ⟨_, rfl⟩
        rw [← hA4] at k1 k2 h11 hs11
        have k4 : Some3 K4 K1 b := by
          rcases k3 with h | h
          · exact .inr (.inr h.2)
          · exact h.2
        have k5 : e2 = 0 → After K4 K1 b := fun h0 => by
          rcases k3 with h | h
          · exact h.2
          · omega
        have H11 := Lib.hid h11
        have HRB11 := Lib.hid hrb11
        have HRA11 := Lib.hid hra11
        have HS11 := Lib.hid hs11
        have HK1 := Lib.hid k1
        have HK2 := Lib.hid k2
        have HK4 := Lib.hid k4
        have HK5' := Lib.hid k5
        clear h11 hm11 hrb11 hra11 hs11 k1 k2 k3 k4 k5 hA4 HCC H10 HRB10 HRA10 HBL10 HS10
        go_wp2_with fail
        go_loopw [18] (fun i wr => ∃ k2 : Nat, k2 ≤ ls ∧ k2 ≤ 6 ∧ i = .int .i64 k2 ∧ Mx w X2 w11 wr ∧ ∃ A K, Sx w wr X2 r A ∧ Synced A K ∧ A.stop = 0 ∧ Small A (200 + 500 * k2) ∧ Some3 K K1 b ∧ (e2 = 0 → After K K1 b)) (fun i _ => 6 - (intOf i).toNat)
        case atStart => exact ⟨0, Nat.zero_le _, by omega, rfl, Mx.refl _ _ _, A4, K4, H11.out, HK1.out, HK2.out, HS11.out, HK4.out, HK5'.out⟩
        case round =>
          obtain ⟨k2, hk2, hk6, rfl, hmr, A, K, hx, hsy, hst, hsm, h3, hdn⟩ := hrel
          have HMR := Lib.hid hmr
          have HX := Lib.hid hx
          have HSY := Lib.hid hsy
          have HSP := Lib.hid hst
          have HSM := Lib.hid hsm
          have HS3 := Lib.hid h3
          have HDN := Lib.hid hdn
          clear hmr hx hsy hst hsm h3 hdn
          by_cases hlt2 : (k2 : Int) < ls
          · by_cases hlt6 : (k2 : Int) < 6
            · have hkl2 : k2 < stops.length := by rw [← HLS.out]; omega
              obtain ⟨ab, aoff, ac, ea, -, -, hcell⟩ := (HST.out.below HX.out.below).at (by omega)
              rw [← HLS.out] at ea
              simp only [Value.slice.injEq, true_and] at ea
              obtain ⟨rfl, rfl⟩ := ea
              have y1 := hcell k2 hkl2
              obtain ⟨a0, ha0⟩ : ∃ a : Int, a = stops[k2] := ⟨_, rfl⟩
              rw [← ha0] at y1
              have hw20 := within3_any a0 20 (by decide) (by decide)
              have hwr := within_range a0 20 (by decide)
              obtain ⟨s3, hs3⟩ : ∃ s, s = withinOf a0 20 := ⟨_, rfl⟩
              rw [← hs3] at hw20 hwr
              obtain ⟨hs30, hs31⟩ := hwr
              have HW20 := Lib.hid hw20
              have hk20 : (0 : Int) ≤ k2 := by omega
              clear hcell ha0 hw20 hs3
              go_wp2_with fail
              refine (HW20.out _).mono ?_
              rintro e wz ⟨rfl, hwz⟩
              replace hwz := hwz.symm
              subst hwz
              clear HW20 y1
              go_wp2_with fail
              refine (sx_stop (1 + s3) HX.out).mono ?_
              rintro e wa ⟨rfl, ha, hma⟩
              have hsa : Small (A.stopAt (1 + s3)) (200 + 500 * k2) := stop_small HSM.out (by omega)
              have hya := HSY.out.stopAt (1 + s3)
              obtain ⟨B, hB⟩ : ∃ B, B = A.stopAt (1 + s3) := ⟨_, rfl⟩
              rw [← hB] at ha hsa hya
              obtain ⟨K', j1, j2, j3, j4⟩ := recover_crash hya HS3.out HLP.out (by rw [HN5.out]; omega) keep
              have HA' := Lib.hid ha
              have HSA := Lib.hid hsa
              have HMA := Lib.hid (HMR.out.trans hma)
              have J1 := Lib.hid j1
              have J2 := Lib.hid j2
              have J3 := Lib.hid j3
              have J4 := Lib.hid (fun h0 => j4 (HDN.out h0))
              clear ha hma hsa hya hB j1 j2 j3 j4 HX HSY HSP HSM HS3 HDN HMR
              go_wp2_with fail
              refine (sx_recover HA'.out (HSA.out.mono (by omega))).mono ?_
              rintro e wb ⟨rfl, hb, hmb⟩
              have hsb := recover_small HSA.out
              have hblb := HK.out.moved (Moved.of_below hb.below (fun _ => False)) (fun _ _ _ h => h)
              have HB' := Lib.hid hb
              have HSB := Lib.hid hsb
              have HMB := Lib.hid (HMA.out.trans hmb)
              have HBLB := Lib.hid hblb
              clear hb hmb hsb hblb HA' HMA HSA
              go_wp2_with fail
              refine (sx_crash _ keep HB'.out HBLB.out (fun h0 q hq => .inl (HKB.out h0 q hq)) (HSB.out.mono (by omega))).mono ?_
              rintro e wc ⟨rfl, hc, hmc⟩
              have HC' := Lib.hid hc
              have HMC := Lib.hid (HMB.out.trans hmc)
              clear hc hmc HB' HMB HBLB
              go_wp2_with fail
              go_roundw
              case rel => exact ⟨k2 + 1, by omega, by omega, by go_num, HMC.out, _, K', HC'.out, J1.out, J2.out, (crash_small keep HSB.out).mono (by omega), J3.out, J4.out⟩
              case measure => simp [intOf]; omega
            · obtain ⟨n9, K', r1, r2, r3, r4, -⟩ := recover_ends HSY.out HS3.out HLP.out (by rw [HN5.out]; omega) HSP.out
              have hend : After K' K1 b ∨ Before K' K1 ∧ e2 ≠ 0 := by
                by_cases h0 : e2 = 0
                · have ha := HDN.out h0
                  have hrn := recover_none HSY.out ha.head
                  rw [hrn] at r3
                  have hKK : K' = K := r3.now.symm.trans HSY.out.now
                  rw [hKK]
                  exact .inl ha
                · rcases r4 with h | h
                  · exact .inr ⟨h, h0⟩
                  · exact .inl h
              have hl9 : K'.length = 420 := by
                rcases r4 with h | h
                · rw [h.len, HN5.out]
                · rw [h.len, HN5.out]
              have hsr := recover_small HSM.out
              have hrc := sx_recover HX.out (HSM.out.mono (by omega))
              rw [r2] at hrc
              obtain ⟨A9, hA9⟩ : ∃ B : Ab, B = A.recover.2.2 := ⟨_, rfl⟩
              rw [← hA9] at hrc r3
              have HRC := Lib.hid hrc
              have R3 := Lib.hid r3
              have HEND := Lib.hid hend
              have HL9 := Lib.hid hl9
              clear r1 r2 r3 r4 hend hl9 hsr hrc hA9 HSY HSP HSM HS3 HDN HX
              go_wp2_with fail
              refine HRC.out.mono ?_
              rintro e wx ⟨rfl, hx, hmx⟩
              have HX := Lib.hid hx
              have HMX := Lib.hid (HMR.out.trans hmx)
              clear hx hmx HRC HMR
              go_wp2_with fail
              refine (sx_homes HX.out R3.out.live (by rw [R3.out.now, HL9.out]; omega)).mono ?_
              rintro e wy ⟨nv, rfl, hrown, hy, hby⟩
              have hmy := HMX.out.trans (Mx.of hby)
              have hra := HRA11.out.moved hmy (fun hj => hj.2 HXA.out)
              have hrb := HRB11.out.moved hmy (fun hj => hj.2 HXG.out)
              have hho : homesOf A9 = texts (K'.drop 401) := by rw [homesOf_texts, R3.out.now]
              have hsn := hrown.ss
              rw [hho] at hsn
              have hwl : (texts (wants (K1.drop 401) b)).length = 19 := by rw [texts_length, wants_length, List.length_drop, HN5.out]
              have hsa := hra.ss 19 c7 hwl.symm (by omega) (by simp [maxLen]; omega)
              have hsb := hrb.ss 19 c6 HL19.out.symm (by have := HL19.out; omega) (by simp [maxLen]; omega)
              have HSN := Lib.hid hsn
              have HSA := Lib.hid hsa
              have HSB := Lib.hid hsb
              have HBY := Lib.hid hy.below
              obtain ⟨no, nc, rfl, -⟩ := hrown.ss
              clear hrown hy hby hmy hra hrb hsn hwl hsa hsb HX HMX
              rw [hho] at *
              go_wp2_with fail
              refine (lsame_any _ _ _ _ _ HSN.out HSA.out).mono ?_
              obtain ⟨D, hD⟩ : ∃ D, D = decide (texts (K'.drop 401) = texts (wants (K1.drop 401) b)) := ⟨_, rfl⟩
              rw [← hD]
              rintro e wq ⟨rfl, hbq⟩
              cases D
              · have hne : e2 ≠ 0 ∧ Before K' K1 := by
                  rcases HEND.out with h | h
                  · rw [decide_eq_true (by rw [after_homes h HLP.out])] at hD
                    exact absurd hD (by decide)
                  · exact ⟨h.2, h.1⟩
                have hb2 : (e2 == 0) = false := by simpa using hne.1
                have hsn2 := HSN.out.moved (Moved.of_below hbq (fun _ => False)) (fun _ _ _ h => h)
                have hsb2 := HSB.out.moved (Moved.of_below hbq (fun _ => False)) (fun _ _ _ h => h)
                have hsm2 := lsame_any _ _ _ _ _ hsn2 hsb2
                rw [decide_eq_true (by rw [before_homes hne.2])] at hsm2
                have HS2 := Lib.hid hsm2
                have HBQ := Lib.hid (HBY.out.trans (hbq.mono HBY.out.size))
                clear hD hne hsn2 hsb2 hsm2 hbq
                go_wp2_with fail
                refine HS2.out.mono ?_
                rintro e wv ⟨rfl, hbv⟩
                go_wp2_with fail
                go_ret
                exact ⟨rfl, HBQ.out.trans (hbv.mono HBQ.out.size)⟩
              · clear hD
                go_wp2_with fail
                go_ret
                exact ⟨rfl, HBY.out.trans (hbq.mono HBY.out.size)⟩
          · obtain ⟨n9, K', r1, r2, r3, r4, -⟩ := recover_ends HSY.out HS3.out HLP.out (by rw [HN5.out]; omega) HSP.out
            have hend : After K' K1 b ∨ Before K' K1 ∧ e2 ≠ 0 := by
              by_cases h0 : e2 = 0
              · have ha := HDN.out h0
                have hrn := recover_none HSY.out ha.head
                rw [hrn] at r3
                have hKK : K' = K := r3.now.symm.trans HSY.out.now
                rw [hKK]
                exact .inl ha
              · rcases r4 with h | h
                · exact .inr ⟨h, h0⟩
                · exact .inl h
            have hl9 : K'.length = 420 := by
              rcases r4 with h | h
              · rw [h.len, HN5.out]
              · rw [h.len, HN5.out]
            have hsr := recover_small HSM.out
            have hrc := sx_recover HX.out (HSM.out.mono (by omega))
            rw [r2] at hrc
            obtain ⟨A9, hA9⟩ : ∃ B : Ab, B = A.recover.2.2 := ⟨_, rfl⟩
            rw [← hA9] at hrc r3
            have HRC := Lib.hid hrc
            have R3 := Lib.hid r3
            have HEND := Lib.hid hend
            have HL9 := Lib.hid hl9
            clear r1 r2 r3 r4 hend hl9 hsr hrc hA9 HSY HSP HSM HS3 HDN HX
            go_wp2_with fail
            refine HRC.out.mono ?_
            rintro e wx ⟨rfl, hx, hmx⟩
            have HX := Lib.hid hx
            have HMX := Lib.hid (HMR.out.trans hmx)
            clear hx hmx HRC HMR
            go_wp2_with fail
            refine (sx_homes HX.out R3.out.live (by rw [R3.out.now, HL9.out]; omega)).mono ?_
            rintro e wy ⟨nv, rfl, hrown, hy, hby⟩
            have hmy := HMX.out.trans (Mx.of hby)
            have hra := HRA11.out.moved hmy (fun hj => hj.2 HXA.out)
            have hrb := HRB11.out.moved hmy (fun hj => hj.2 HXG.out)
            have hho : homesOf A9 = texts (K'.drop 401) := by rw [homesOf_texts, R3.out.now]
            have hsn := hrown.ss
            rw [hho] at hsn
            have hwl : (texts (wants (K1.drop 401) b)).length = 19 := by rw [texts_length, wants_length, List.length_drop, HN5.out]
            have hsa := hra.ss 19 c7 hwl.symm (by omega) (by simp [maxLen]; omega)
            have hsb := hrb.ss 19 c6 HL19.out.symm (by have := HL19.out; omega) (by simp [maxLen]; omega)
            have HSN := Lib.hid hsn
            have HSA := Lib.hid hsa
            have HSB := Lib.hid hsb
            have HBY := Lib.hid hy.below
            obtain ⟨no, nc, rfl, -⟩ := hrown.ss
            clear hrown hy hby hmy hra hrb hsn hwl hsa hsb HX HMX
            rw [hho] at *
            go_wp2_with fail
            refine (lsame_any _ _ _ _ _ HSN.out HSA.out).mono ?_
            obtain ⟨D, hD⟩ : ∃ D, D = decide (texts (K'.drop 401) = texts (wants (K1.drop 401) b)) := ⟨_, rfl⟩
            rw [← hD]
            rintro e wq ⟨rfl, hbq⟩
            cases D
            · have hne : e2 ≠ 0 ∧ Before K' K1 := by
                rcases HEND.out with h | h
                · rw [decide_eq_true (by rw [after_homes h HLP.out])] at hD
                  exact absurd hD (by decide)
                · exact ⟨h.2, h.1⟩
              have hb2 : (e2 == 0) = false := by simpa using hne.1
              have hsn2 := HSN.out.moved (Moved.of_below hbq (fun _ => False)) (fun _ _ _ h => h)
              have hsb2 := HSB.out.moved (Moved.of_below hbq (fun _ => False)) (fun _ _ _ h => h)
              have hsm2 := lsame_any _ _ _ _ _ hsn2 hsb2
              rw [decide_eq_true (by rw [before_homes hne.2])] at hsm2
              have HS2 := Lib.hid hsm2
              have HBQ := Lib.hid (HBY.out.trans (hbq.mono HBY.out.size))
              clear hD hne hsn2 hsb2 hsm2 hbq
              go_wp2_with fail
              refine HS2.out.mono ?_
              rintro e wv ⟨rfl, hbv⟩
              go_wp2_with fail
              go_ret
              exact ⟨rfl, HBQ.out.trans (hbv.mono HBQ.out.size)⟩
            · clear hD
              go_wp2_with fail
              go_ret
              exact ⟨rfl, HBY.out.trans (hbq.mono HBY.out.size)⟩
end Go.Proofs.Ytkhdahipnfloeaa
