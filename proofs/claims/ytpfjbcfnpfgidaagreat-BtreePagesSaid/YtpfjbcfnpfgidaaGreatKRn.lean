/- Rn -/
import Derived.Test.YtpfjbcfnpfgidaaGreatKHl
import Derived.Test.YtpfjbcfnpfgidaaGreatKRm
namespace Go.Proofs.YtpfjbcfnpfgidaaGreat
open Go.RowKit Go.Maps
set_option maxRecDepth 100000
set_option linter.unusedVariables false
set_option maxHeartbeats 8000000 in
theorem pages5_walk (v : Value) (l : Acts5) (W : World) (h : Acs5 W v l) :
 Calls Tryz.prog 4 #[v] W fun e w' => e = .returned (.bool true) ∧ Below W.heap.size W w' := by
 obtain ⟨ao, cap, hv, hc1, hc2, hE⟩ := id h
 have hc2' : cap ≤ 9223372036854775807 := hc2
 obtain ⟨n, hn⟩ : ∃ n, n = l.length := ⟨_, rfl⟩
 rw [← hn] at hc1 hv
 subst hv
 have HN := Lib.hid hn
 have HA := Lib.hid h
 clear hn hE hc2 h
 go_enter Tryz.func4, Tryz.ntmps4
 go_wp2_with fail
 refine (known5_any W).mono ?_
 rintro e w1 ⟨rfl, h1⟩
 have H1 := Lib.hid h1
 clear h1
 go_wp2_with fail
 refine (few5_any (HA.out.below H1.out)).mono ?_
 rintro e w2 ⟨t, rfl, hw, hf⟩
 obtain rfl := hw.symm
 have HF := Lib.hid hf
 clear hf
 cases t with
 | false =>
  go_wp2_with fail
  go_ret
  exact ⟨rfl, H1.out⟩
 | true =>
  have HFEW := Lib.hid (HF.out rfl)
  go_wp2_with fail
  refine (open5_any W _ H1.out).mono ?_
  rintro e w3 ⟨r, p, rfl, h3⟩
  have H3 := Lib.hid h3
  clear h3
  go_wp2_with fail
  refine (pb_free H3.out).mono ?_
  rintro e w3' ⟨he, hw3⟩
  obtain rfl := hw3.symm
  rw [show ((some (Lg.new 1199)).getD (Lg.new 1199)).free.length = 1198 from new5_len] at he
  subst he
  go_wp2_with fail
  refine (bt_new H3.out (by omega) new5_free).mono ?_
  rintro e w4 ⟨rfl, h4, -⟩
  have H4 := Lib.hid (Bo.start h4)
  clear h4
  go_wp2_with fail
  go_loopw [5, 8] (fun root i wr => Rel5 W n r p (w4.alloc (.cells #[.slice none 0 0, .slice none 0 0] 33)).heap.size w4.heap.size root i wr) (fun _ i _ => n - (intOf i).toNat)
  case atStart => exact ⟨0, _, 0, BT.leaf 1 [], _, 2, _, _, Nat.zero_le _, rfl, rfl, by omega, Nat.le_refl _, H4.out⟩
  case round =>
   obtain ⟨k, X, m, t, H, c, kv, vv, hk, rfl, rfl, hc, hfl, hbo⟩ := hrel
   obtain ⟨hn100, hsz⟩ := HFEW.out
   have hnn := HN.out
   have HBO := Lib.hid hbo
   obtain ⟨pg, hpg⟩ : ∃ pg : Int, pg = (t.page : Int) := ⟨_, rfl⟩
   rw [← hpg]
   have HPG := Lib.hid hpg
   by_cases hlt : k < n
   ·have hkl : k < l.length := by rw [← hnn]; exact hlt
    have hacs := HA.out.below hbo.pb.below
    obtain ⟨ao', cap', e', -, -, hE'⟩ := hacs
    rw [← hnn] at e'
    simp only [Value.slice.injEq, true_and] at e'
    obtain ⟨rfl, rfl⟩ := e'
    obtain ⟨b, off, rfl, -, ⟨c0, c1, c2, c3⟩⟩ := hE' k hkl
    have hsk := hsz k hkl
    obtain ⟨q, hq⟩ : ∃ q, q = l[k] := ⟨_, rfl⟩
    rw [← hq] at c0 c1 c2 c3 hsk
    obtain ⟨kd, nm, ky, vl⟩ := q
    dsimp only at c0 c1 c2 c3 hsk
    have hroom := hbo.room
    have hdo := do5_any hbo kd nm ky vl (by omega) (by omega) (by omega) (by omega) (by omega)
    rw [← hpg] at hdo
    have HDO := Lib.hid hdo
    have hlt' : (k : Int) < n := by omega
    have HBD := Lib.hid (show c ≤ 2 + 110 * k ∧ t.flat.length ≤ k ∧ n ≤ 100 ∧ k < n from ⟨hc, hfl, by omega, hlt⟩)
    clear hdo hsk hq hE' hbo hpg hnn hn100 hsz hc hfl hroom hkl
    go_wp2_with fail
    refine HDO.out.mono ?_
    rintro e w5 ⟨X', m', t', H', c', kv', vv', rfl, hc', hfl', hbo'⟩
    obtain ⟨pg', hpg'⟩ : ∃ pg' : Int, pg' = (t'.page : Int) := ⟨_, rfl⟩
    rw [← hpg']
    have HBO' := Lib.hid hbo'
    have hcnt := BT.count_root t' hbo'.tree.root
    have hall := hbo'.all
    obtain ⟨ao1, cap1, e1, q1, q2⟩ := (show OwnS _ _ kv' _ from Live.at1 hbo'.map).ss.form
    have hkl1 : (keysL t'.flat).length = t'.flat.length := by unfold keysL; rw [List.length_map]
    rw [hkl1] at e1 q1
    obtain ⟨fl, hfl1⟩ : ∃ fl, fl = t'.flat.length := ⟨_, rfl⟩
    have hfr := fun u hu => pb_free (hbo'.read (w' := u) hu).pb
    have hfr2 : ∀ u, Below w5.heap.size w5 u → Calls Tryz.prog 15 #[.pointer (some ⟨p, 0, none⟩)] u fun e w' => e = .returned (.int .i64 (H'.free.length : Nat)) ∧ w' = u := fun u hu => hfr u hu
    obtain ⟨fr, hfr1⟩ : ∃ fr, fr = H'.free.length := ⟨_, rfl⟩
    rw [← hfr1] at hfr2 hall
    rw [← hfl1] at e1 q1 hcnt
    obtain ⟨d, hd⟩ : ∃ d, d = t'.pages.length := ⟨_, rfl⟩
    rw [← hd] at hall hcnt
    have je1 : IntKind.i64.wrap ((1198 : Int) - fr) = d := by rw [IntWalk.i64_in _ (by omega)]; omega
    obtain ⟨e2, he2⟩ : ∃ e2 : Int, e2 = 2 * (fl : Int) := ⟨_, rfl⟩
    obtain ⟨e3, he3⟩ : ∃ e3 : Int, e3 = 1 + e2 := ⟨_, rfl⟩
    have je2 : IntKind.i64.wrap (2 * (fl : Int)) = e2 := by rw [IntWalk.i64_in _ (by have := HBD.out; omega)]; omega
    have je3 : IntKind.i64.wrap (1 + e2) = e3 := by rw [IntWalk.i64_in _ (by have := HBD.out; omega)]; omega
    have je4 : ¬ e3 < (d : Int) := by omega
    have je5 : decide (e3 < (d : Int)) = false := by simpa using je4
    have hx1 := hbo'.map.x.1
    replace c0 : w5.cell? ⟨w4.heap.size, 0, none⟩ = some (.slice ao1 fl cap1) := by rw [hx1.cell, e1]; rfl
    have HFR := Lib.hid hfr2
    have HC' := Lib.hid (And.intro hc' (And.intro hfl' hpg'))
    have HJ := Lib.hid (And.intro je1 (And.intro je2 (And.intro je3 (And.intro je4 je5))))
    clear hbo' hc' hfl' hpg' HDO c1 c2 c3 hcnt hall e1 hkl1 hfl1 hfr hfr2 hfr1 hd he2 he3 hx1 je1 je2 je3 je4 je5
    have hk0 : (0 : Int) ≤ k := by omega
    go_wp2_with fail
    obtain ⟨je1, je2, je3, je4, je5⟩ := HJ.out
    refine wp_region_any (by kernel_rfl) ?_
    change wpAny _ _ _ _ _ _ _ (World.drew _)
    refine wpAny_of_held (S := fun (w' : World) => w'.cell? ⟨w4.heap.size, 0, none⟩ = some (.slice ao1 fl cap1) ∧ Below w5.heap.size w5 w') _ _ _ _ ?_
    have hS : (fun (w' : World) => w'.cell? ⟨w4.heap.size, 0, none⟩ = some (.slice ao1 fl cap1) ∧ Below w5.heap.size w5 w') _ := ⟨(show w5.drew.cell? ⟨w4.heap.size, 0, none⟩ = some (.slice ao1 fl cap1) from c0), (Below.refl _ w5).drew⟩
    try simp only [Act.put, List.setIfInBounds_toArray, List.set_cons_zero, List.set_cons_succ]
    refine wpAnyH_take (i := 0) (oi := ⟨some 45, _, _, _, _, _⟩) (v := ?_) rfl (by kernel_rfl) (by kernel_rfl) (by kernel_rfl) (fun _ _ _ h => h) (Or.inl ⟨by simp only [Region.wanted], ?_⟩) hS ?_
    rotate_left
    ·intro wz hSw
     clear hSw
     go_simp
     first | done | with_reducible rfl
    try simp only [Act.put, List.setIfInBounds_toArray, List.set_cons_zero, List.set_cons_succ]
    refine wpAnyH_take (i := 1) (oi := ⟨some 46, _, _, _, _, _⟩) (v := ?_) rfl (by kernel_rfl) (by kernel_rfl) (by kernel_rfl) (fun _ _ _ h => h) (Or.inl ⟨by simp only [Region.wanted], ?_⟩) hS ?_
    rotate_left
    ·intro wz hSw
     clear hSw
     go_simp
     first | done | with_reducible rfl
    try simp only [Act.put, List.setIfInBounds_toArray, List.set_cons_zero, List.set_cons_succ]
    refine wpAnyH_take (i := 2) (oi := ⟨some 47, _, _, _, _, _⟩) (v := ?_) rfl (by kernel_rfl) (by kernel_rfl) (by kernel_rfl) (fun _ _ _ h => h) (Or.inl ⟨by simp only [Region.wanted], ?_⟩) hS ?_
    rotate_left
    ·intro wz hSw
     clear hSw
     go_simp
     first | done | with_reducible rfl
    try simp only [Act.put, List.setIfInBounds_toArray, List.set_cons_zero, List.set_cons_succ]
    refine wpAnyH_take (i := 3) (oi := ⟨some 48, _, _, _, _, _⟩) (v := ?_) rfl (by kernel_rfl) (by kernel_rfl) (by kernel_rfl) (fun _ _ _ h => h) (Or.inl ⟨by first | rfl | (simp [Region.wanted, yielded]; done), ?_⟩) hS ?_
    rotate_left
    ·intro wz hSw
     clear hSw
     go_simp
     first | done | with_reducible rfl
    try simp only [Act.put, List.setIfInBounds_toArray, List.set_cons_zero, List.set_cons_succ]
    refine wpAnyH_take (i := 4) (oi := ⟨some 49, _, _, _, _, _⟩) (v := ?_) rfl (by kernel_rfl) (by kernel_rfl) (by kernel_rfl) (fun _ _ _ h => h) (Or.inl ⟨by first | rfl | (simp [Region.wanted, yielded]; done), ?_⟩) hS ?_
    rotate_left
    ·intro wz hSw
     clear hSw
     go_simp
     first | done | with_reducible rfl
    try simp only [Act.put, List.setIfInBounds_toArray, List.set_cons_zero, List.set_cons_succ]
    refine wpAnyH_take (i := 7) (oi := ⟨some 52, _, _, _, _, _⟩) (v := ?_) rfl (by kernel_rfl) (by kernel_rfl) (by kernel_rfl) (fun _ _ _ h => h) (Or.inl ⟨by first | rfl | (simp [Region.wanted, yielded]; done), ?_⟩) hS ?_
    rotate_left
    ·intro wz hSw
     clear hSw
     go_simp
     first | done | with_reducible rfl
    try simp only [Act.put, List.setIfInBounds_toArray, List.set_cons_zero, List.set_cons_succ]
    refine wpAnyH_take (i := 8) (oi := ⟨some 53, _, _, _, _, _⟩) (v := ?_) rfl (by kernel_rfl) (by kernel_rfl) (by kernel_rfl) (fun _ _ _ h => h) (Or.inl ⟨by first | rfl | (simp [Region.wanted, yielded]; done), ?_⟩) hS ?_
    rotate_left
    ·intro wz hSw
     clear hSw
     go_simp
     first | done | with_reducible rfl
    try simp only [Act.put, List.setIfInBounds_toArray, List.set_cons_zero, List.set_cons_succ]
    refine wpAnyH_take (i := 9) (oi := ⟨some 54, _, _, _, _, _⟩) (v := ?_) rfl (by kernel_rfl) (by kernel_rfl) (by kernel_rfl) (fun _ _ _ h => h) (Or.inl ⟨by first | rfl | (simp [Region.wanted, yielded]; done), ?_⟩) hS ?_
    rotate_left
    ·intro wz hSw
     clear hSw
     go_simp
     first | done | with_reducible rfl
    try simp only [Act.put, List.setIfInBounds_toArray, List.set_cons_zero, List.set_cons_succ]
    refine wpAnyH_take (i := 10) (oi := ⟨some 55, _, _, _, _, _⟩) (v := ?_) rfl (by kernel_rfl) (by kernel_rfl) (by kernel_rfl) (fun _ _ _ h => h) (Or.inl ⟨by first | rfl | (simp [Region.wanted, yielded]; done), ?_⟩) hS ?_
    rotate_left
    ·intro wz hSw
     (try dsimp only at hSw)
     (try go_split_ands)
     go_simp
     first | done | with_reducible rfl
    try simp only [Act.put, List.setIfInBounds_toArray, List.set_cons_zero, List.set_cons_succ]
    refine wpAnyH_take (i := 11) (oi := ⟨some 56, _, _, _, _, _⟩) (v := ?_) rfl (by kernel_rfl) (by kernel_rfl) (by kernel_rfl) (fun _ _ _ h => h) (Or.inl ⟨by first | rfl | (simp [Region.wanted, yielded]; done), ?_⟩) hS ?_
    rotate_left
    ·intro wz hSw
     clear hSw
     go_simp
     first | done | with_reducible rfl
    try simp only [Act.put, List.setIfInBounds_toArray, List.set_cons_zero, List.set_cons_succ]
    refine wpAnyH_take (i := 12) (oi := ⟨some 57, _, _, _, _, _⟩) (v := ?_) rfl (by kernel_rfl) (by kernel_rfl) (by kernel_rfl) (fun _ _ _ h => h) (Or.inl ⟨by first | rfl | (simp [Region.wanted, yielded]; done), ?_⟩) hS ?_
    rotate_left
    ·intro wz hSw
     clear hSw
     go_simp
     first | done | with_reducible rfl
    try simp only [Act.put, List.setIfInBounds_toArray, List.set_cons_zero, List.set_cons_succ]
    refine wpAnyH_take (i := 13) (oi := ⟨some 58, _, _, _, _, _⟩) (v := ?_) rfl (by kernel_rfl) (by kernel_rfl) (by kernel_rfl) (fun _ _ _ h => h) (Or.inl ⟨by first | rfl | (simp [Region.wanted, yielded]; done), ?_⟩) hS ?_
    rotate_left
    ·intro wz hSw
     clear hSw
     go_simp
     first | done | with_reducible rfl
    try simp only [Act.put, List.setIfInBounds_toArray, List.set_cons_zero, List.set_cons_succ]
    refine wpAnyH_ready (rs := [5]) (by kernel_rfl) (by simp) ?_
    refine AllReadyH.cons (o := ⟨some 50, _, _, _, _, _⟩) rfl (fun K hK => ?_) AllReadyH.nil
    go_simp
    refine (HFR.out _ hS.2).mono ?_
    rintro en u1 ⟨rfl, hu1⟩
    obtain rfl := hu1.symm
    refine hK.out _ _ (hS) (fun hS => ?_)
    clear hK K
    try simp only [Act.put, List.setIfInBounds_toArray, List.set_cons_zero, List.set_cons_succ]
    refine wpAnyH_take (i := 6) (oi := ⟨some 51, _, _, _, _, _⟩) (v := ?_) rfl (by kernel_rfl) (by kernel_rfl) (by kernel_rfl) (fun _ _ _ h => h) (Or.inl ⟨by first | rfl | (simp [Region.wanted, yielded]; done), ?_⟩) hS ?_
    rotate_left
    ·intro wz hSw
     clear hSw
     go_simp
     first | done | with_reducible rfl
    try simp only [Act.put, List.setIfInBounds_toArray, List.set_cons_zero, List.set_cons_succ]
    refine wpAnyH_take (i := 14) (oi := ⟨some 59, _, _, _, _, _⟩) (v := ?_) rfl (by kernel_rfl) (by kernel_rfl) (by kernel_rfl) (fun _ _ _ h => h) (Or.inl ⟨by first | rfl | (simp [Region.wanted, yielded]; done), ?_⟩) hS ?_
    rotate_left
    ·intro wz hSw
     clear hSw
     go_simp
     first | done | with_reducible rfl
    try simp only [Act.put, List.setIfInBounds_toArray, List.set_cons_zero, List.set_cons_succ]
    refine wpAnyH_take (i := 15) (oi := ⟨some 60, _, _, _, _, _⟩) (v := ?_) rfl (by kernel_rfl) (by kernel_rfl) (by kernel_rfl) (fun _ _ _ h => h) (Or.inl ⟨by simp only [Region.wanted], ?_⟩) hS ?_
    rotate_left
    ·intro wz hSw
     clear hSw
     go_simp
     first | done | with_reducible rfl
    try simp only [Act.put, List.setIfInBounds_toArray, List.set_cons_zero, List.set_cons_succ]
    refine wpAnyH_done (by kernel_rfl) ?_ _
    clear je1 je2 je3 je4 je5 hS
    have HB6 := Lib.hid ((Below.refl w5.heap.size w5).drew)
    go_wp2_with fail
    go_roundw
    case rel =>
     have hb := HBD.out
     have hc := HC'.out
     refine ⟨k + 1, X', m', t', H', c', kv', vv', by omega, by go_num, by rw [hc.2.2], by omega, by omega, HBO'.out.read HB6.out⟩
    case measure => simp [intOf]; omega
   ·obtain rfl : k = n := by omega
    have hdr := drop_tree hbo.pb hbo.tree (by omega)
    have hall := hbo.all
    rw [← hpg] at hdr
    have HDR := Lib.hid hdr
    have HALL := Lib.hid hall
    clear hbo hdr hpg hnn hn100 hsz hc hfl hall
    go_wp2_with fail
    refine HDR.out.mono ?_
    rintro e w6 ⟨rfl, H6, h6, -, hperm, -⟩
    have hlen := hperm.length_eq
    rw [List.length_append, HALL.out] at hlen
    have hfr := pb_free h6
    rw [show ((some H6).getD (Lg.new 1199)).free.length = 1198 from hlen] at hfr
    have HFR := Lib.hid hfr
    have HB6 := Lib.hid h6.below
    clear hperm h6 hlen hfr HDR
    go_wp2_with fail
    refine HFR.out.mono ?_
    rintro e w7 ⟨rfl, hw7⟩
    obtain rfl := hw7.symm
    clear HFR
    go_wp2_with fail
    go_ret
    exact ⟨rfl, HB6.out⟩
end Go.Proofs.YtpfjbcfnpfgidaaGreat
