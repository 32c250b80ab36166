/- Package value: fits; own.Term, sol.Get. -/
import Derived.Test.YtecomfhbdonkbaaGreatDoorAk
import Derived.Test.YtecomfhbdonkbaaGreatDoorKb
import Derived.Test.YtecomfhbdonkbaaGreatDoorKv
import Derived.LaidEqlPtr
namespace Go.Proofs.YtecomfhbdonkbaaGreatDoor
open Go.RowKit Go.Shelf Flo
set_option maxRecDepth 100000
set_option linter.unusedVariables false
set_option linter.unusedSimpArgs false

set_option maxHeartbeats 4000000 in
theorem fits_any (op : Int) (n : Nat) (hn : n ≤ 1000) (w : World) : Calls Tryz.prog 44 #[.int .i64 op, .int .i64 (n : Int)] w fun e w' => e = .returned (.bool (fitsO op n)) ∧ w = w' := by
  by_cases h : 1 ≤ op ∧ op ≤ 26
  · rcases (show op = 1 ∨ op = 2 ∨ op = 3 ∨ op = 4 ∨ op = 5 ∨ op = 6 ∨ op = 7 ∨ op = 8 ∨ op = 9 ∨ op = 10 ∨ op = 11 ∨ op = 12 ∨ op = 13 ∨ op = 14 ∨ op = 15 ∨ op = 16 ∨ op = 17 ∨ op = 18 ∨ op = 19 ∨ op = 20 ∨ op = 21 ∨ op = 22 ∨ op = 23 ∨ op = 24 ∨ op = 25 ∨ op = 26 by omega) with rfl | rfl | rfl | rfl | rfl | rfl | rfl | rfl | rfl | rfl | rfl | rfl | rfl | rfl | rfl | rfl | rfl | rfl | rfl | rfl | rfl | rfl | rfl | rfl | rfl | rfl
    all_goals
      clear h
      go_enter Tryz.func44, Tryz.ntmps44
      go_wp2
    all_goals
      go_ret
      refine ⟨ret_bool ?_, rfl⟩
      rw [Bool.eq_iff_iff]
      unfold fitsO
      simp
      try omega
  · have hf : fitsO op n = false := by
      unfold fitsO
      rw [if_neg (by omega), if_neg (by omega), if_neg (by omega), if_neg (by omega), if_neg (by omega)]
    rw [hf]
    have n1 : ¬ op = 1 := by omega
    have n2 : ¬ op = 2 := by omega
    have n3 : ¬ op = 3 := by omega
    have n4 : ¬ op = 4 := by omega
    have n5 : ¬ op = 5 := by omega
    have n6 : ¬ op = 6 := by omega
    have n7 : ¬ op = 7 := by omega
    have n8 : ¬ op = 8 := by omega
    have n9 : ¬ op = 9 := by omega
    have n10 : ¬ op = 10 := by omega
    have n11 : ¬ op = 11 := by omega
    have n12 : ¬ op = 12 := by omega
    have n13 : ¬ op = 13 := by omega
    have n14 : ¬ op = 14 := by omega
    have n15 : ¬ op = 15 := by omega
    have n16 : ¬ op = 16 := by omega
    have n17 : ¬ op = 17 := by omega
    have n18 : ¬ op = 18 := by omega
    have n19 : ¬ op = 19 := by omega
    have n20 : ¬ op = 20 := by omega
    have n21 : ¬ op = 21 := by omega
    have n22 : ¬ op = 22 := by omega
    have n23 : ¬ op = 23 := by omega
    have n24 : ¬ op = 24 := by omega
    have n25 : ¬ op = 25 := by omega
    have n26 : ¬ op = 26 := by omega
    clear h hf
    go_enter Tryz.func44, Tryz.ntmps44
    go_wp2
    go_ret
    exact ⟨rfl, rfl⟩
theorem sclone15 (s : ByteArray) (w : World) (hs : s.size ≤ 200) : Calls Tryz.prog 48 #[.string s] w fun e w' => e = .returned (.string s) ∧ Below w.heap.size w w' := by
  have HC := Lib.hid (fun w => Any.stringslite_Clone Tryz.laysM316 s w (by omega))
  go_enter Tryz.func48, Tryz.ntmps48
  go_wp2_with fail
  refine (HC.out _).mono ?_
  rintro e w' ⟨rfl, hb⟩
  go_wp2_with fail
  go_ret
  exact ⟨rfl, hb⟩
set_option maxHeartbeats 1000000 in
theorem ownTerm_any (t : Tm) (ht : t.Sm) (w : World) : Calls Tryz.prog 28 #[t.val] w fun e w' => e = .returned t.val ∧ Below w.heap.size w w' := by
  have H1 := Lib.hid (fun w => sclone15 t.s w ht.s)
  have H2 := Lib.hid (fun w => sclone15 t.l w ht.l)
  have H3 := Lib.hid (fun w => sclone15 t.t w ht.t)
  have HN := Lib.hid (TwoA.new w t 25)
  clear ht
  unfold Tm.val
  go_enter Tryz.func28, Tryz.ntmps28
  go_upto_region 1 with fail
  generalize World.alloc (World.alloc w _) _ = wr at HN ⊢
  refine wp_region_any (by kernel_rfl) ?_
  change wpAny _ _ _ _ _ _ _ (World.drew _)
  refine wpAny_of_held (S := fun v => TwoA w t v) _ _ _ _ ?_
  have hS : (fun v => TwoA w t v) _ := HN.out.below (below_drew15 _)
  refine wpAnyH_take (i := 0) (oi := ⟨some 3, _, _, _, _, _⟩) (v := ?_) rfl (by kernel_rfl) (by kernel_rfl) (by kernel_rfl) (fun _ _ _ h => h) (Or.inl ⟨by simp only [Region.wanted], ?_⟩) hS ?_
  rotate_left
  · intro wz hSw
    clear hSw
    go_simp
    first | done | with_reducible rfl
  try simp only [Act.put, List.setIfInBounds_toArray, List.set_cons_zero, List.set_cons_succ]
  refine wpAnyH_take (i := 1) (oi := ⟨some 4, _, _, _, _, _⟩) (v := ?_) rfl (by kernel_rfl) (by kernel_rfl) (by kernel_rfl) (fun _ _ _ h => h) (Or.inl ⟨by simp only [Region.wanted], ?_⟩) hS ?_
  rotate_left
  · intro wz hSw; obtain ⟨-, k0, k1, k2, k3⟩ := hSw.2.1
    clear hSw
    go_simp
    first | done | with_reducible rfl
  try simp only [Act.put, List.setIfInBounds_toArray, List.set_cons_zero, List.set_cons_succ]
  refine wpAnyH_take (i := 2) (oi := ⟨some 5, _, _, _, _, _⟩) (v := ?_) rfl (by kernel_rfl) (by kernel_rfl) (by kernel_rfl) (fun _ _ _ h => h) (Or.inl ⟨by simp only [Region.wanted], ?_⟩) hS ?_
  rotate_left
  · intro wz hSw
    clear hSw
    go_simp
    first | done | with_reducible rfl
  try simp only [Act.put, List.setIfInBounds_toArray, List.set_cons_zero, List.set_cons_succ]
  refine wpAnyH_take (i := 3) (oi := ⟨some 6, _, _, _, _, _⟩) (v := ?_) rfl (by kernel_rfl) (by kernel_rfl) (by kernel_rfl) (fun _ _ _ h => h) (Or.inl ⟨by simp only [Region.wanted], ?_⟩) hS ?_
  rotate_left
  · intro wz hSw; obtain ⟨-, k0, k1, k2, k3⟩ := hSw.2.1
    clear hSw
    go_simp
    first | done | with_reducible rfl
  try simp only [Act.put, List.setIfInBounds_toArray, List.set_cons_zero, List.set_cons_succ]
  refine wpAnyH_take (i := 5) (oi := ⟨some 8, _, _, _, _, _⟩) (v := ?_) rfl (by kernel_rfl) (by kernel_rfl) (by kernel_rfl) (fun _ _ _ h => h) (Or.inl ⟨by simp only [Region.wanted], ?_⟩) hS ?_
  rotate_left
  · intro wz hSw
    clear hSw
    go_simp
    first | done | with_reducible rfl
  try simp only [Act.put, List.setIfInBounds_toArray, List.set_cons_zero, List.set_cons_succ]
  refine wpAnyH_take (i := 6) (oi := ⟨some 9, _, _, _, _, _⟩) (v := ?_) rfl (by kernel_rfl) (by kernel_rfl) (by kernel_rfl) (fun _ _ _ h => h) (Or.inl ⟨by simp only [Region.wanted], ?_⟩) hS ?_
  rotate_left
  · intro wz hSw; obtain ⟨-, k0, k1, k2, k3⟩ := hSw.2.1
    clear hSw
    go_simp
    first | done | with_reducible rfl
  try simp only [Act.put, List.setIfInBounds_toArray, List.set_cons_zero, List.set_cons_succ]
  refine wpAnyH_take (i := 8) (oi := ⟨some 11, _, _, _, _, _⟩) (v := ?_) rfl (by kernel_rfl) (by kernel_rfl) (by kernel_rfl) (fun _ _ _ h => h) (Or.inl ⟨by simp only [Region.wanted], ?_⟩) hS ?_
  rotate_left
  · intro wz hSw
    clear hSw
    go_simp
    first | done | with_reducible rfl
  try simp only [Act.put, List.setIfInBounds_toArray, List.set_cons_zero, List.set_cons_succ]
  refine wpAnyH_take (i := 9) (oi := ⟨some 12, _, _, _, _, _⟩) (v := ?_) rfl (by kernel_rfl) (by kernel_rfl) (by kernel_rfl) (fun _ _ _ h => h) (Or.inl ⟨by simp only [Region.wanted], ?_⟩) hS ?_
  rotate_left
  · intro wz hSw; obtain ⟨-, k0, k1, k2, k3⟩ := hSw.2.1
    clear hSw
    go_simp
    first | done | with_reducible rfl
  try simp only [Act.put, List.setIfInBounds_toArray, List.set_cons_zero, List.set_cons_succ]
  refine wpAnyH_ready (rs := [4]) (by kernel_rfl) (by simp) ?_
  refine AllReadyH.cons (o := ⟨some 7, _, _, _, _, _⟩) rfl (fun K hK => ?_) AllReadyH.nil
  go_simp
  refine (H1.out _).mono ?_
  rintro e wn ⟨rfl, hbn⟩
  have hSn := hS.below hbn
  clear hbn
  go_wp2_with fail
  refine hK.out _ _ (hSn) (fun hS => ?_)
  clear hK K
  try simp only [Act.put, List.setIfInBounds_toArray, List.set_cons_zero, List.set_cons_succ]
  refine wpAnyH_ready (rs := [7]) (by kernel_rfl) (by simp) ?_
  refine AllReadyH.cons (o := ⟨some 10, _, _, _, _, _⟩) rfl (fun K hK => ?_) AllReadyH.nil
  go_simp
  refine (H2.out _).mono ?_
  rintro e wn ⟨rfl, hbn⟩
  have hSn := hS.below hbn
  clear hbn
  go_wp2_with fail
  refine hK.out _ _ (hSn) (fun hS => ?_)
  clear hK K
  try simp only [Act.put, List.setIfInBounds_toArray, List.set_cons_zero, List.set_cons_succ]
  refine wpAnyH_ready (rs := [10]) (by kernel_rfl) (by simp) ?_
  refine AllReadyH.cons (o := ⟨some 13, _, _, _, _, _⟩) rfl (fun K hK => ?_) AllReadyH.nil
  go_simp
  refine (H3.out _).mono ?_
  rintro e wn ⟨rfl, hbn⟩
  have hSn := hS.below hbn
  clear hbn
  go_wp2_with fail
  refine hK.out _ _ (hSn) (fun hS => ?_)
  clear hK K
  try simp only [Act.put, List.setIfInBounds_toArray, List.set_cons_zero, List.set_cons_succ]
  refine wpAnyH_take (i := 11) (oi := ⟨some 14, _, _, _, _, _⟩) (v := ?_) rfl (by kernel_rfl) (by kernel_rfl) (by kernel_rfl) (fun _ _ _ h => h) (Or.inl ⟨by simp only [Region.wanted], ?_⟩) hS ?_
  rotate_left
  · intro wz hSw
    clear hSw
    go_simp
    first | done | with_reducible rfl
  try simp only [Act.put, List.setIfInBounds_toArray, List.set_cons_zero, List.set_cons_succ]
  refine wpAnyH_ready (rs := [12]) (by kernel_rfl) (by simp) ?_
  refine AllReadyH.cons (o := ⟨none, _, _, _, _, _⟩) rfl (fun K hK => ?_) AllReadyH.nil
  go_simp
  obtain ⟨⟨xz, -, kz0, kz1, kz2, kz3⟩, fz⟩ := hS.2.2
  have fz0 := fz 0
  have fz1 := fz 1
  have fz2 := fz 2
  have fz3 := fz 3
  clear fz
  go_simp
  refine hK.out _ _ (hS.put t) (fun hS => ?_)
  clear hK K
  try simp only [Act.put, List.setIfInBounds_toArray, List.set_cons_zero, List.set_cons_succ]
  refine wpAnyH_done (by kernel_rfl) ?_ _
  go_wp2_with fail
  refine bodyPost_ret (v := .agg #[.int .i64 t.k, .string t.s, .string t.l, .string t.t]) (by simp [results, Tryz.results28, go_sem, kz0, kz1, kz2, kz3]) rfl ⟨rfl, hS.1⟩
/-- A solution, in blocks below B. -/
def SolAt (B : Nat) (w : World) (v : Value) (s : Slt) : Prop :=
  s.length ≤ 1000 ∧ ∃ ao cap, v = .slice ao s.length cap ∧ ∀ i (h : i < s.length), ∃ b o nm, ao = some ⟨b, o, none⟩ ∧ b < B ∧ nm.data.toList = s[i].1 ∧ w.cell? ⟨b, o + i * 5, none⟩ = some (.string nm) ∧
    w.cell? ⟨b, o + i * 5 + 1, none⟩ = some (.int .i64 s[i].2.k) ∧ w.cell? ⟨b, o + i * 5 + 2, none⟩ = some (.string s[i].2.s) ∧ w.cell? ⟨b, o + i * 5 + 3, none⟩ = some (.string s[i].2.l) ∧ w.cell? ⟨b, o + i * 5 + 4, none⟩ = some (.string s[i].2.t) ∧ s[i].2.Sm
theorem SolAt.keep {B : Nat} {w w' : World} {v : Value} {s : Slt} (h : SolAt B w v s) (hw : Below B w w') : SolAt B w' v s := by
  obtain ⟨h0, ao, cap, h1, h2⟩ := h
  refine ⟨h0, ao, cap, h1, fun i hi => ?_⟩
  obtain ⟨b, o, nm, g1, g2, g3, c0, c1, c2, c3, c4, g4⟩ := h2 i hi
  have c : ∀ j, w'.cell? ⟨b, j, none⟩ = w.cell? ⟨b, j, none⟩ := fun j => hw.cell (p := ⟨b, j, none⟩) g2
  exact ⟨b, o, nm, g1, g2, g3, (c _).trans c0, (c _).trans c1, (c _).trans c2, (c _).trans c3, (c _).trans c4, g4⟩
/-- What Get answers. -/
def optV (o : Option Tm) : Value := .tuple #[(o.getD zeroT).val, .bool o.isSome]
theorem getO_at {s : Slt} {nm : List UInt8} {j : Nat} (hj : j < s.length) (hp : ∀ i (h : i < j), (s[i]'(Nat.lt_trans h hj)).1 ≠ nm) (he : s[j].1 = nm) : getO s nm = some s[j].2 := by
  unfold getO
  have : s.find? (fun p => p.1 == nm) = some s[j] := by
    rw [List.find?_eq_some_iff_getElem]
    refine ⟨by simp [he], j, hj, rfl, fun i hi => by simpa using hp i hi⟩
  rw [this]; rfl
theorem getO_none {s : Slt} {nm : List UInt8} (hp : ∀ i (h : i < s.length), s[i].1 ≠ nm) : getO s nm = none := by
  unfold getO
  have : s.find? (fun p => p.1 == nm) = none := by
    rw [List.find?_eq_none]
    intro x hx
    obtain ⟨i, hi, rfl⟩ := List.getElem_of_mem hx
    simpa using hp i hi
  rw [this]; rfl
end Go.Proofs.YtecomfhbdonkbaaGreatDoor
/- sol.Get; value.bound; tell. -/
namespace Go.Proofs.YtecomfhbdonkbaaGreatDoor
open Go.RowKit Go.Shelf Flo
set_option maxRecDepth 100000
set_option linter.unusedVariables false
set_option linter.unusedSimpArgs false

/-- An answer's box ahead of all that is made. -/
def AnsQ (w : World) (v : World) : Prop := Below w.heap.size w v ∧ AnsB v w.heap.size
theorem AnsQ.below {w v v' : World} (h : AnsQ w v) (hb : Below v.heap.size v v') : AnsQ w v' := ⟨h.1.trans (hb.mono h.1.size), h.2.below hb⟩
theorem AnsQ.put {w v : World} (h : AnsQ w v) (x : Tm) : Below w.heap.size w ((((v.setCell ⟨w.heap.size, 0, none⟩ (.int .i64 x.k)).setCell ⟨w.heap.size, 1, none⟩ (.string x.s)).setCell ⟨w.heap.size, 2, none⟩ (.string x.l)).setCell ⟨w.heap.size, 3, none⟩ (.string x.t)) :=
  (((h.1.setCell (Nat.le_refl _) _).setCell (Nat.le_refl _) _).setCell (Nat.le_refl _) _).setCell (Nat.le_refl _) _
set_option maxHeartbeats 2000000 in
theorem solGet_any (B : Nat) (v : Value) (s : Slt) (name : ByteArray) (w : World) (hs : SolAt B w v s) (hB : B ≤ w.heap.size) : Calls Tryz.prog 46 #[v, .string name] w fun e w' => e = .returned (optV (getO s name.data.toList)) ∧ Below w.heap.size w w' := by
  obtain ⟨hl, ao, cap, rfl, hat⟩ := hs
  have HAT := Lib.hid hat
  have HBB := Lib.hid hB
  have HLL := Lib.hid hl
  clear hat hB hl
  obtain ⟨n, hn⟩ : ∃ n, n = s.length := ⟨_, rfl⟩
  have HNN := Lib.hid hn
  have hn9 : n ≤ 1000 := by rw [hn]; exact HLL.out
  rw [← hn]
  clear hn
  have HX := Lib.hid (show AnsQ w (w.alloc (.cells #[.int .i64 0, .string ⟨#[]⟩, .string ⟨#[]⟩, .string ⟨#[]⟩] 25)) from ⟨(Below.refl _ _).alloc (Nat.le_refl _) _, AnsB.new w _⟩)
  go_enter Tryz.func46, Tryz.ntmps46
  go_wp2_with fail
  generalize World.alloc w _ = w1 at HX ⊢
  go_loopw [10] (fun i wx => ∃ j : Nat, i = .int .i64 (j : Int) ∧ j ≤ n ∧ AnsQ w wx ∧ ∀ k (h : k < s.length), k < j → s[k].1 ≠ name.data.toList) (fun i _ => n - (intOf i).toNat)
  case atStart => exact ⟨0, rfl, Nat.zero_le _, HX.out, fun k h hk => absurd hk (Nat.not_lt_zero _)⟩
  case round =>
    obtain ⟨j, rfl, hj, hq, hne⟩ := hrel
    have HQ := Lib.hid hq
    have HE := Lib.hid hne
    clear hq hne
    by_cases hlt : j < n
    · have hjs : j < s.length := by rw [← HNN.out]; exact hlt
      obtain ⟨b, o, nm, hao, hbB, hnm, c0, c1, c2, c3, c4, hsm⟩ := HAT.out j hjs
      have hb0 : b < w.heap.size := Nat.lt_of_lt_of_le hbB HBB.out
      have cc : ∀ i, wr.cell? ⟨b, i, none⟩ = w.cell? ⟨b, i, none⟩ := fun i => HQ.out.1.cell (p := ⟨b, i, none⟩) hb0
      rw [← cc] at c0 c1 c2 c3 c4
      have hbr : b < wr.heap.size := Nat.lt_of_lt_of_le hb0 HQ.out.1.size
      have hbn : ¬ b = wr.heap.size := by omega
      subst hao
      have HN := Lib.hid hnm
      have HSM := Lib.hid hsm
      obtain ⟨t, ht⟩ : ∃ t, t = s[j].2 := ⟨_, rfl⟩
      rw [← ht] at c1 c2 c3 c4
      have HT := Lib.hid ht
      have HO := Lib.hid (fun w (h : t.Sm) => ownTerm_any t h w)
      unfold Tm.val at HO
      have hlti : (j : Int) < (n : Int) := by omega
      have hb1 := (Below.refl wr.heap.size wr).alloc (Nat.le_refl _) (.cells #[.string nm, .int .i64 t.k, .string t.s, .string t.l, .string t.t] 65)
      have HQ2 := Lib.hid (HQ.out.below hb1)
      have HBP := Lib.hid (Blk.new wr #[.string nm, .int .i64 t.k, .string t.s, .string t.l, .string t.t] 65)
      clear ht hsm hnm cc hb1 hbB hb0
      by_cases hg : nm.data.toList = name.data.toList
      · have hg2 : (nm.toList == name.toList) = true := by rw [Lib.toList_data, Lib.toList_data]; exact beq_iff_eq.2 hg
        have HF := Lib.hid (show getO s name.data.toList = some t by
          rw [HT.out]
          exact getO_at hjs (fun i hi => HE.out i _ hi) (by rw [← HN.out]; exact hg))
        clear hg
        go_wp2_with fail
        generalize World.alloc wr _ = w2 at HQ2 HBP ⊢
        refine (HO.out _ (by rw [HT.out]; exact HSM.out)).mono ?_
        rintro e w3 ⟨rfl, hb3⟩
        have HQ3 := Lib.hid (HQ2.out.below hb3)
        clear hb3
        obtain ⟨⟨xz, -, kz0, kz1, kz2, kz3⟩, fz⟩ := HQ3.out.2
        have fz0 := fz 0
        have fz1 := fz 1
        have fz2 := fz 2
        have fz3 := fz 3
        clear fz c0 c1 c2 c3 c4 hbr hbn
        go_wp2_with fail
        refine bodyPost_ret (v := .tuple #[.agg #[.int .i64 t.k, .string t.s, .string t.l, .string t.t], .bool true]) (by simp [results, Tryz.results46, go_sem, kz0, kz1, kz2, kz3]) rfl ⟨?_, HQ3.out.put t⟩
        rw [HF.out]
        rfl
      · have hg2 : (nm.toList == name.toList) = false := by rw [Lib.toList_data, Lib.toList_data]; exact beq_eq_false_iff_ne.2 hg
        have HG := Lib.hid hg
        clear hg
        go_wp2_with fail
        go_roundw
        case rel =>
          refine ⟨j + 1, by go_num, by omega, HQ2.out, fun k h hk => ?_⟩
          rcases Nat.lt_or_ge k j with h1 | h1
          · exact HE.out k h h1
          · obtain rfl : k = j := by omega
            rw [← HN.out]; exact HG.out
        case measure => simp [intOf]; omega
    · have HF := Lib.hid (show getO s name.data.toList = none from getO_none (fun i hi => HE.out i hi (by rw [← HNN.out] at hi; omega)))
      have hlti : ¬ (j : Int) < (n : Int) := by omega
      obtain ⟨⟨xz, -, kz0, kz1, kz2, kz3⟩, fz⟩ := HQ.out.2
      have fz0 := fz 0
      have fz1 := fz 1
      have fz2 := fz 2
      have fz3 := fz 3
      clear fz
      go_wp2_with fail
      refine bodyPost_ret (v := .tuple #[.agg #[.int .i64 0, .string ⟨#[]⟩, .string ⟨#[]⟩, .string ⟨#[]⟩], .bool false]) (by simp [results, Tryz.results46, go_sem, kz0, kz1, kz2, kz3]) rfl ⟨?_, HQ.out.put zeroT⟩
      rw [HF.out]
      rfl
end Go.Proofs.YtecomfhbdonkbaaGreatDoor
/- Package value: a run: tell, endless; bound. -/
namespace Go.Proofs.YtecomfhbdonkbaaGreatDoor
open Go.RowKit Go.Shelf Flo
set_option maxRecDepth 100000
set_option linter.unusedVariables false
set_option linter.unusedSimpArgs false

/-- Only r's block, and new ones, differ. -/
abbrev MvR (r : Nat) (w w' : World) : Prop := Moved (fun k => k = r) w w'
def runC (sv way : Value) (t : Tm) (ok : Bool) : Array Value := #[sv, way, .int .i64 t.k, .string t.s, .string t.l, .string t.t, .bool ok]
/-- What is told of a term that may be none. -/
def toldT (x : Tm) (ok : Bool) : Tm := if ok then x else zeroT
theorem tell_true (r : Nat) (sv way : Value) (t0 t : Tm) (ok0 : Bool) (w : World) (h : Blk w r (runC sv way t0 ok0) 68) :
    Calls Tryz.prog 45 #[.pointer (some ⟨r, 0, none⟩), t.val, .bool true] w fun e w' => e = .returned (.tuple #[]) ∧ Blk w' r (runC sv way t true) 68 ∧ MvR r w w' := by
  have hlt := h.lt
  have h1 := h.alloc (.cells #[.int .i64 t.k, .string t.s, .string t.l, .string t.t] 25)
  have m1 := (Moved.refl (fun k => k = r) w).alloc (.cells #[.int .i64 t.k, .string t.s, .string t.l, .string t.t] 25)
  have hb0 := Blk.new w #[.int .i64 t.k, .string t.s, .string t.l, .string t.t] 25
  unfold Tm.val
  go_enter Tryz.func45, Tryz.ntmps45
  go_upto_region 1 with fail
  generalize World.alloc w _ = w1 at h1 m1 hb0 ⊢
  have k0 : w1.cell? ⟨w.heap.size, 0, none⟩ = some (.int .i64 t.k) := hb0.cell 0
  have k1 : w1.cell? ⟨w.heap.size, 1, none⟩ = some (.string t.s) := hb0.cell 1
  have k2 : w1.cell? ⟨w.heap.size, 2, none⟩ = some (.string t.l) := hb0.cell 2
  have k3 : w1.cell? ⟨w.heap.size, 3, none⟩ = some (.string t.t) := hb0.cell 3
  have g0 := hb0.frozen 0
  have g1 := hb0.frozen 1
  have g2 := hb0.frozen 2
  have g3 := hb0.frozen 3
  have h2 := h1
  have m2 := m1
  have c2 : w1.cell? ⟨r, 2, none⟩ = some (.int .i64 t0.k) := h1.cell 2
  have c3 : w1.cell? ⟨r, 3, none⟩ = some (.string t0.s) := h1.cell 3
  have c4 : w1.cell? ⟨r, 4, none⟩ = some (.string t0.l) := h1.cell 4
  have c5 : w1.cell? ⟨r, 5, none⟩ = some (.string t0.t) := h1.cell 5
  have c6 : w1.cell? ⟨r, 6, none⟩ = some (.bool ok0) := h1.cell 6
  have f2 := h1.frozen 2
  have f3 := h1.frozen 3
  have f4 := h1.frozen 4
  have f5 := h1.frozen 5
  have f6 := h1.frozen 6
  have HS := Lib.hid (((((h2.set 2 (.int .i64 t.k)).set 3 (.string t.s)).set 4 (.string t.l)).set 5 (.string t.t)).set 6 (.bool true))
  have HM := Lib.hid (((((m2.setCell ⟨r, 2, none⟩ (.int .i64 t.k) (.inl rfl)).setCell ⟨r, 3, none⟩ (.string t.s) (.inl rfl)).setCell ⟨r, 4, none⟩ (.string t.l) (.inl rfl)).setCell ⟨r, 5, none⟩ (.string t.t) (.inl rfl)).setCell ⟨r, 6, none⟩ (.bool true) (.inl rfl))
  have hne : ¬ w.heap.size = r := by omega
  clear h h1 m1 h2 m2 hb0
  go_wp2_with fail
  go_end0
  exact ⟨rfl, HS.out, HM.out⟩
theorem tell_false (r : Nat) (sv way : Value) (t0 t : Tm) (ok0 : Bool) (w : World) (h : Blk w r (runC sv way t0 ok0) 68) :
    Calls Tryz.prog 45 #[.pointer (some ⟨r, 0, none⟩), t.val, .bool false] w fun e w' => e = .returned (.tuple #[]) ∧ Blk w' r (runC sv way zeroT false) 68 ∧ MvR r w w' := by
  have hlt := h.lt
  have h1 := h.alloc (.cells #[.int .i64 t.k, .string t.s, .string t.l, .string t.t] 25)
  have m1 := (Moved.refl (fun k => k = r) w).alloc (.cells #[.int .i64 t.k, .string t.s, .string t.l, .string t.t] 25)
  have hb0 := Blk.new w #[.int .i64 t.k, .string t.s, .string t.l, .string t.t] 25
  unfold Tm.val
  go_enter Tryz.func45, Tryz.ntmps45
  go_upto_region 1 with fail
  generalize World.alloc w _ = w1 at h1 m1 hb0 ⊢
  have k0 : w1.cell? ⟨w.heap.size, 0, none⟩ = some (.int .i64 t.k) := hb0.cell 0
  have k1 : w1.cell? ⟨w.heap.size, 1, none⟩ = some (.string t.s) := hb0.cell 1
  have k2 : w1.cell? ⟨w.heap.size, 2, none⟩ = some (.string t.l) := hb0.cell 2
  have k3 : w1.cell? ⟨w.heap.size, 3, none⟩ = some (.string t.t) := hb0.cell 3
  have g0 := hb0.frozen 0
  have g1 := hb0.frozen 1
  have g2 := hb0.frozen 2
  have g3 := hb0.frozen 3
  have hne0 : r ≠ w.heap.size := by omega
  have h2 := ((((h1.other ⟨w.heap.size, 0, none⟩ (.int .i64 0) hne0).other ⟨w.heap.size, 1, none⟩ (.string ⟨#[]⟩) hne0).other ⟨w.heap.size, 2, none⟩ (.string ⟨#[]⟩) hne0).other ⟨w.heap.size, 3, none⟩ (.string ⟨#[]⟩) hne0)
  have m2 := ((((m1.setCell ⟨w.heap.size, 0, none⟩ (.int .i64 0) (.inr (Nat.le_refl _))).setCell ⟨w.heap.size, 1, none⟩ (.string ⟨#[]⟩) (.inr (Nat.le_refl _))).setCell ⟨w.heap.size, 2, none⟩ (.string ⟨#[]⟩) (.inr (Nat.le_refl _))).setCell ⟨w.heap.size, 3, none⟩ (.string ⟨#[]⟩) (.inr (Nat.le_refl _)))
  have c2 : w1.cell? ⟨r, 2, none⟩ = some (.int .i64 t0.k) := h1.cell 2
  have c3 : w1.cell? ⟨r, 3, none⟩ = some (.string t0.s) := h1.cell 3
  have c4 : w1.cell? ⟨r, 4, none⟩ = some (.string t0.l) := h1.cell 4
  have c5 : w1.cell? ⟨r, 5, none⟩ = some (.string t0.t) := h1.cell 5
  have c6 : w1.cell? ⟨r, 6, none⟩ = some (.bool ok0) := h1.cell 6
  have f2 := h1.frozen 2
  have f3 := h1.frozen 3
  have f4 := h1.frozen 4
  have f5 := h1.frozen 5
  have f6 := h1.frozen 6
  have HS := Lib.hid (((((h2.set 2 (.int .i64 0)).set 3 (.string ⟨#[]⟩)).set 4 (.string ⟨#[]⟩)).set 5 (.string ⟨#[]⟩)).set 6 (.bool false))
  have HM := Lib.hid (((((m2.setCell ⟨r, 2, none⟩ (.int .i64 0) (.inl rfl)).setCell ⟨r, 3, none⟩ (.string ⟨#[]⟩) (.inl rfl)).setCell ⟨r, 4, none⟩ (.string ⟨#[]⟩) (.inl rfl)).setCell ⟨r, 5, none⟩ (.string ⟨#[]⟩) (.inl rfl)).setCell ⟨r, 6, none⟩ (.bool false) (.inl rfl))
  have hne : ¬ w.heap.size = r := by omega
  clear h h1 m1 h2 m2 hb0
  go_wp2_with fail
  go_end0
  exact ⟨rfl, HS.out, HM.out⟩
theorem tell_any (r : Nat) (sv way : Value) (t0 t : Tm) (ok0 ok : Bool) (w : World) (h : Blk w r (runC sv way t0 ok0) 68) :
    Calls Tryz.prog 45 #[.pointer (some ⟨r, 0, none⟩), t.val, .bool ok] w fun e w' => e = .returned (.tuple #[]) ∧ Blk w' r (runC sv way (toldT t ok) ok) 68 ∧ MvR r w w' := by
  cases ok
  · exact tell_false r sv way t0 t ok0 w h
  · exact tell_true r sv way t0 t ok0 w h
theorem len_any (n : Nat) (hn : n ≤ 1000) (w : World) : Calls Tryz.prog 66 #[.int .u64 (n : Int)] w fun e w' => e = .returned (.int .i64 (Lib.bitLen n)) ∧ w' = w := by
  have HL := Lib.hid (fun w => len64_any (n : Int) w (by omega) (by omega))
  rw [Int.toNat_natCast] at HL
  go_enter Tryz.func66, Tryz.ntmps66
  go_wp2_with fail
  refine (HL.out _).mono ?_
  rintro e w' ⟨rfl, rfl⟩
  go_wp2_with fail
  go_ret
  exact ⟨rfl, rfl⟩
/-- A block of cells, as any that the program makes. -/
def PlB (w : World) (b : Nat) : Prop := ∃ ca ta, w.heap[b]? = some (.cells ca ta (0, 0))
theorem ptr_ne {w : World} {b o b' o' : Nat} (h1 : PlB w b) (h2 : PlB w b') (hne : ¬ (b = b' ∧ o = o')) (n : Nat) :
    Sem.run Tryz.prog (binOp .eql 69 (.pointer (some ⟨b, o, none⟩)) (.pointer (some ⟨b', o', none⟩))) (w.drewN n) = .ok (.bool false) (w.drewN n) := by
  obtain ⟨ca, ta, ha⟩ := h1
  obtain ⟨cb, tb, hb⟩ := h2
  have h6 : (Tryz.prog.info? 28).map (fun i => i.size) = some 6 := by kernel_rfl
  cases hj : Tryz.prog.info? 28 with
  | none => rw [hj] at h6; cases h6
  | some j =>
    have hsz : j.size ≠ 0 := by
      rw [hj] at h6
      have : j.size = 6 := by simpa using h6
      omega
    exact run_eql_ptr_other (w.drewN n) Tryz.underlying69 hj hsz (a := ⟨b, o, none⟩) (b := ⟨b', o', none⟩) (by simpa using hne) (ca := ca) (cb := cb) (ta := ta) (tb := tb) ha hb
theorem bl_small {n : Nat} (h0 : n ≠ 0) (hn : n ≤ 100) : ∃ k, k ≤ 6 ∧ Lib.bitLen n = k + 1 ∧ 2 ^ k ≤ n := by
  obtain ⟨h1, h2⟩ := bl_bounds n n (Nat.le_refl _) h0 (by omega)
  have hL : Lib.bitLen n ≠ 0 := by
    intro hz
    rw [hz] at h2
    omega
  refine ⟨Lib.bitLen n - 1, ?_, by omega, h1⟩
  rcases Nat.lt_or_ge (Lib.bitLen n - 1) 7 with h | h
  · omega
  · have : 2 ^ 7 ≤ 2 ^ (Lib.bitLen n - 1) := Nat.pow_le_pow_right (by decide) h
    omega
set_option maxHeartbeats 1000000 in
theorem endless_none (r : Nat) (sv way : Value) (t0 : Tm) (ok0 : Bool) (l : List Wc) (eb eo : Nat) (w : World) (h : Blk w r (runC sv way t0 ok0) 68) (hw : OwW w (r + 1) way l) (hl : l.length ≤ 100) (hne : ∀ x ∈ l, ¬ (x.b = eb ∧ x.o = eo) ∧ PlB w x.b) (hpe : PlB w eb) (h0 : l = []) :
    Calls Tryz.prog 43 #[.pointer (some ⟨r, 0, none⟩), .pointer (some ⟨eb, eo, none⟩)] w fun e w' => e = .returned (.bool false) ∧ ∃ d, w' = w.drewN d := by
  have c1 : w.cell? ⟨r, 1, none⟩ = some way := h.cell 1
  subst h0
  obtain ⟨ao, cap, rfl, -, -⟩ := hw.form
  rw [List.length_nil] at c1
  clear h hw hne hl hpe
  go_enter Tryz.func43, Tryz.ntmps43
  go_wp2_with fail
  go_quiet (fail)
  go_wp2_with fail
  go_ret
  exact ⟨rfl, _, rfl⟩
set_option maxHeartbeats 1000000 in
theorem endless_at0 (r : Nat) (sv way : Value) (t0 : Tm) (ok0 : Bool) (l : List Wc) (eb eo : Nat) (w : World) (h : Blk w r (runC sv way t0 ok0) 68) (hw : OwW w (r + 1) way l) (hl : l.length ≤ 100) (hne : ∀ x ∈ l, ¬ (x.b = eb ∧ x.o = eo) ∧ PlB w x.b) (hpe : PlB w eb) (hb : Lib.bitLen l.length = 1) (hk : 1 ≤ l.length) :
    Calls Tryz.prog 43 #[.pointer (some ⟨r, 0, none⟩), .pointer (some ⟨eb, eo, none⟩)] w fun e w' => e = .returned (.bool false) ∧ ∃ d, w' = w.drewN d := by
  have c1 : w.cell? ⟨r, 1, none⟩ = some way := h.cell 1
  obtain ⟨g, cap, rfl, -, hlt, hc1, hc2, -, hat⟩ := hw.at waitC_len (by omega)
  have hx := hne l[0] (List.getElem_mem (by omega))
  have hpq := fun n => ptr_ne hx.2 hpe hx.1 n
  clear hx
  have q2 := hat 0 (by omega) 0 (.pointer (some ⟨l[0].b, l[0].o, none⟩)) rfl
  have HL := Lib.hid (fun w => len_any l.length (by omega) w)
  rw [hb] at HL
  generalize l[0].b = xb at hpq q2
  generalize l[0].o = xo at hpq q2
  generalize l.length = n at hk hc1 HL c1 hl ⊢
  have hn9 : 0 < n := by omega
  have hwu : IntKind.u64.wrap (n : Int) = (n : Int) := by rw [IntKind.wrap_u64]; omega
  have hn8 : decide (0 < n) = true := decide_eq_true hn9
  have hn0 : (0 : Int) < (n : Int) := by omega
  have hn1 : (0 : Int) < (n : Int) := by omega
  have hw1 : IntKind.i64.wrap 0 = 0 := by decide
  have hw2 : IntKind.i64.wrap 0 = 0 := by decide
  have hw3 : IntKind.i64.wrap 1 = 1 := by decide
  have hw4 : IntKind.i64.wrap (1 - 1) = 0 := by decide
  have hn2 : 0 < n := by omega
  have hsh : ∀ tt w, Sem.run Tryz.prog (binOp .shl tt (.int .i64 1) (.int .i64 0)) w = .ok (.int .i64 1) w := fun tt w => rfl
  simp at q2
  clear h hw hne hat hb hpe
  go_enter Tryz.func43, Tryz.ntmps43
  go_wp2_with fail
  go_quiet ((go_at_call 66; exact Calls.quiet_of_same (HL.out _)))
  go_wp2_with fail
  go_ret
  exact ⟨rfl, _, rfl⟩
set_option maxHeartbeats 1000000 in
theorem endless_at1 (r : Nat) (sv way : Value) (t0 : Tm) (ok0 : Bool) (l : List Wc) (eb eo : Nat) (w : World) (h : Blk w r (runC sv way t0 ok0) 68) (hw : OwW w (r + 1) way l) (hl : l.length ≤ 100) (hne : ∀ x ∈ l, ¬ (x.b = eb ∧ x.o = eo) ∧ PlB w x.b) (hpe : PlB w eb) (hb : Lib.bitLen l.length = 2) (hk : 2 ≤ l.length) :
    Calls Tryz.prog 43 #[.pointer (some ⟨r, 0, none⟩), .pointer (some ⟨eb, eo, none⟩)] w fun e w' => e = .returned (.bool false) ∧ ∃ d, w' = w.drewN d := by
  have c1 : w.cell? ⟨r, 1, none⟩ = some way := h.cell 1
  obtain ⟨g, cap, rfl, -, hlt, hc1, hc2, -, hat⟩ := hw.at waitC_len (by omega)
  have hx := hne l[1] (List.getElem_mem (by omega))
  have hpq := fun n => ptr_ne hx.2 hpe hx.1 n
  clear hx
  have q2 := hat 1 (by omega) 0 (.pointer (some ⟨l[1].b, l[1].o, none⟩)) rfl
  have HL := Lib.hid (fun w => len_any l.length (by omega) w)
  rw [hb] at HL
  generalize l[1].b = xb at hpq q2
  generalize l[1].o = xo at hpq q2
  generalize l.length = n at hk hc1 HL c1 hl ⊢
  have hn9 : 0 < n := by omega
  have hwu : IntKind.u64.wrap (n : Int) = (n : Int) := by rw [IntKind.wrap_u64]; omega
  have hn8 : decide (0 < n) = true := decide_eq_true hn9
  have hn0 : (0 : Int) < (n : Int) := by omega
  have hn1 : (1 : Int) < (n : Int) := by omega
  have hw1 : IntKind.i64.wrap 1 = 1 := by decide
  have hw2 : IntKind.i64.wrap 1 = 1 := by decide
  have hw3 : IntKind.i64.wrap 2 = 2 := by decide
  have hw4 : IntKind.i64.wrap (2 - 1) = 1 := by decide
  have hn2 : 1 < n := by omega
  have hsh : ∀ tt w, Sem.run Tryz.prog (binOp .shl tt (.int .i64 1) (.int .i64 1)) w = .ok (.int .i64 2) w := fun tt w => rfl
  simp at q2
  clear h hw hne hat hb hpe
  go_enter Tryz.func43, Tryz.ntmps43
  go_wp2_with fail
  go_quiet ((go_at_call 66; exact Calls.quiet_of_same (HL.out _)))
  go_wp2_with fail
  go_ret
  exact ⟨rfl, _, rfl⟩
set_option maxHeartbeats 1000000 in
theorem endless_at2 (r : Nat) (sv way : Value) (t0 : Tm) (ok0 : Bool) (l : List Wc) (eb eo : Nat) (w : World) (h : Blk w r (runC sv way t0 ok0) 68) (hw : OwW w (r + 1) way l) (hl : l.length ≤ 100) (hne : ∀ x ∈ l, ¬ (x.b = eb ∧ x.o = eo) ∧ PlB w x.b) (hpe : PlB w eb) (hb : Lib.bitLen l.length = 3) (hk : 4 ≤ l.length) :
    Calls Tryz.prog 43 #[.pointer (some ⟨r, 0, none⟩), .pointer (some ⟨eb, eo, none⟩)] w fun e w' => e = .returned (.bool false) ∧ ∃ d, w' = w.drewN d := by
  have c1 : w.cell? ⟨r, 1, none⟩ = some way := h.cell 1
  obtain ⟨g, cap, rfl, -, hlt, hc1, hc2, -, hat⟩ := hw.at waitC_len (by omega)
  have hx := hne l[3] (List.getElem_mem (by omega))
  have hpq := fun n => ptr_ne hx.2 hpe hx.1 n
  clear hx
  have q2 := hat 3 (by omega) 0 (.pointer (some ⟨l[3].b, l[3].o, none⟩)) rfl
  have HL := Lib.hid (fun w => len_any l.length (by omega) w)
  rw [hb] at HL
  generalize l[3].b = xb at hpq q2
  generalize l[3].o = xo at hpq q2
  generalize l.length = n at hk hc1 HL c1 hl ⊢
  have hn9 : 0 < n := by omega
  have hwu : IntKind.u64.wrap (n : Int) = (n : Int) := by rw [IntKind.wrap_u64]; omega
  have hn8 : decide (0 < n) = true := decide_eq_true hn9
  have hn0 : (0 : Int) < (n : Int) := by omega
  have hn1 : (3 : Int) < (n : Int) := by omega
  have hw1 : IntKind.i64.wrap 2 = 2 := by decide
  have hw2 : IntKind.i64.wrap 3 = 3 := by decide
  have hw3 : IntKind.i64.wrap 4 = 4 := by decide
  have hw4 : IntKind.i64.wrap (4 - 1) = 3 := by decide
  have hn2 : 3 < n := by omega
  have hsh : ∀ tt w, Sem.run Tryz.prog (binOp .shl tt (.int .i64 1) (.int .i64 2)) w = .ok (.int .i64 4) w := fun tt w => rfl
  simp at q2
  clear h hw hne hat hb hpe
  go_enter Tryz.func43, Tryz.ntmps43
  go_wp2_with fail
  go_quiet ((go_at_call 66; exact Calls.quiet_of_same (HL.out _)))
  go_wp2_with fail
  go_ret
  exact ⟨rfl, _, rfl⟩
set_option maxHeartbeats 1000000 in
theorem endless_at3 (r : Nat) (sv way : Value) (t0 : Tm) (ok0 : Bool) (l : List Wc) (eb eo : Nat) (w : World) (h : Blk w r (runC sv way t0 ok0) 68) (hw : OwW w (r + 1) way l) (hl : l.length ≤ 100) (hne : ∀ x ∈ l, ¬ (x.b = eb ∧ x.o = eo) ∧ PlB w x.b) (hpe : PlB w eb) (hb : Lib.bitLen l.length = 4) (hk : 8 ≤ l.length) :
    Calls Tryz.prog 43 #[.pointer (some ⟨r, 0, none⟩), .pointer (some ⟨eb, eo, none⟩)] w fun e w' => e = .returned (.bool false) ∧ ∃ d, w' = w.drewN d := by
  have c1 : w.cell? ⟨r, 1, none⟩ = some way := h.cell 1
  obtain ⟨g, cap, rfl, -, hlt, hc1, hc2, -, hat⟩ := hw.at waitC_len (by omega)
  have hx := hne l[7] (List.getElem_mem (by omega))
  have hpq := fun n => ptr_ne hx.2 hpe hx.1 n
  clear hx
  have q2 := hat 7 (by omega) 0 (.pointer (some ⟨l[7].b, l[7].o, none⟩)) rfl
  have HL := Lib.hid (fun w => len_any l.length (by omega) w)
  rw [hb] at HL
  generalize l[7].b = xb at hpq q2
  generalize l[7].o = xo at hpq q2
  generalize l.length = n at hk hc1 HL c1 hl ⊢
  have hn9 : 0 < n := by omega
  have hwu : IntKind.u64.wrap (n : Int) = (n : Int) := by rw [IntKind.wrap_u64]; omega
  have hn8 : decide (0 < n) = true := decide_eq_true hn9
  have hn0 : (0 : Int) < (n : Int) := by omega
  have hn1 : (7 : Int) < (n : Int) := by omega
  have hw1 : IntKind.i64.wrap 3 = 3 := by decide
  have hw2 : IntKind.i64.wrap 7 = 7 := by decide
  have hw3 : IntKind.i64.wrap 8 = 8 := by decide
  have hw4 : IntKind.i64.wrap (8 - 1) = 7 := by decide
  have hn2 : 7 < n := by omega
  have hsh : ∀ tt w, Sem.run Tryz.prog (binOp .shl tt (.int .i64 1) (.int .i64 3)) w = .ok (.int .i64 8) w := fun tt w => rfl
  simp at q2
  clear h hw hne hat hb hpe
  go_enter Tryz.func43, Tryz.ntmps43
  go_wp2_with fail
  go_quiet ((go_at_call 66; exact Calls.quiet_of_same (HL.out _)))
  go_wp2_with fail
  go_ret
  exact ⟨rfl, _, rfl⟩
set_option maxHeartbeats 1000000 in
theorem endless_at4 (r : Nat) (sv way : Value) (t0 : Tm) (ok0 : Bool) (l : List Wc) (eb eo : Nat) (w : World) (h : Blk w r (runC sv way t0 ok0) 68) (hw : OwW w (r + 1) way l) (hl : l.length ≤ 100) (hne : ∀ x ∈ l, ¬ (x.b = eb ∧ x.o = eo) ∧ PlB w x.b) (hpe : PlB w eb) (hb : Lib.bitLen l.length = 5) (hk : 16 ≤ l.length) :
    Calls Tryz.prog 43 #[.pointer (some ⟨r, 0, none⟩), .pointer (some ⟨eb, eo, none⟩)] w fun e w' => e = .returned (.bool false) ∧ ∃ d, w' = w.drewN d := by
  have c1 : w.cell? ⟨r, 1, none⟩ = some way := h.cell 1
  obtain ⟨g, cap, rfl, -, hlt, hc1, hc2, -, hat⟩ := hw.at waitC_len (by omega)
  have hx := hne l[15] (List.getElem_mem (by omega))
  have hpq := fun n => ptr_ne hx.2 hpe hx.1 n
  clear hx
  have q2 := hat 15 (by omega) 0 (.pointer (some ⟨l[15].b, l[15].o, none⟩)) rfl
  have HL := Lib.hid (fun w => len_any l.length (by omega) w)
  rw [hb] at HL
  generalize l[15].b = xb at hpq q2
  generalize l[15].o = xo at hpq q2
  generalize l.length = n at hk hc1 HL c1 hl ⊢
  have hn9 : 0 < n := by omega
  have hwu : IntKind.u64.wrap (n : Int) = (n : Int) := by rw [IntKind.wrap_u64]; omega
  have hn8 : decide (0 < n) = true := decide_eq_true hn9
  have hn0 : (0 : Int) < (n : Int) := by omega
  have hn1 : (15 : Int) < (n : Int) := by omega
  have hw1 : IntKind.i64.wrap 4 = 4 := by decide
  have hw2 : IntKind.i64.wrap 15 = 15 := by decide
  have hw3 : IntKind.i64.wrap 16 = 16 := by decide
  have hw4 : IntKind.i64.wrap (16 - 1) = 15 := by decide
  have hn2 : 15 < n := by omega
  have hsh : ∀ tt w, Sem.run Tryz.prog (binOp .shl tt (.int .i64 1) (.int .i64 4)) w = .ok (.int .i64 16) w := fun tt w => rfl
  simp at q2
  clear h hw hne hat hb hpe
  go_enter Tryz.func43, Tryz.ntmps43
  go_wp2_with fail
  go_quiet ((go_at_call 66; exact Calls.quiet_of_same (HL.out _)))
  go_wp2_with fail
  go_ret
  exact ⟨rfl, _, rfl⟩
set_option maxHeartbeats 1000000 in
theorem endless_at5 (r : Nat) (sv way : Value) (t0 : Tm) (ok0 : Bool) (l : List Wc) (eb eo : Nat) (w : World) (h : Blk w r (runC sv way t0 ok0) 68) (hw : OwW w (r + 1) way l) (hl : l.length ≤ 100) (hne : ∀ x ∈ l, ¬ (x.b = eb ∧ x.o = eo) ∧ PlB w x.b) (hpe : PlB w eb) (hb : Lib.bitLen l.length = 6) (hk : 32 ≤ l.length) :
    Calls Tryz.prog 43 #[.pointer (some ⟨r, 0, none⟩), .pointer (some ⟨eb, eo, none⟩)] w fun e w' => e = .returned (.bool false) ∧ ∃ d, w' = w.drewN d := by
  have c1 : w.cell? ⟨r, 1, none⟩ = some way := h.cell 1
  obtain ⟨g, cap, rfl, -, hlt, hc1, hc2, -, hat⟩ := hw.at waitC_len (by omega)
  have hx := hne l[31] (List.getElem_mem (by omega))
  have hpq := fun n => ptr_ne hx.2 hpe hx.1 n
  clear hx
  have q2 := hat 31 (by omega) 0 (.pointer (some ⟨l[31].b, l[31].o, none⟩)) rfl
  have HL := Lib.hid (fun w => len_any l.length (by omega) w)
  rw [hb] at HL
  generalize l[31].b = xb at hpq q2
  generalize l[31].o = xo at hpq q2
  generalize l.length = n at hk hc1 HL c1 hl ⊢
  have hn9 : 0 < n := by omega
  have hwu : IntKind.u64.wrap (n : Int) = (n : Int) := by rw [IntKind.wrap_u64]; omega
  have hn8 : decide (0 < n) = true := decide_eq_true hn9
  have hn0 : (0 : Int) < (n : Int) := by omega
  have hn1 : (31 : Int) < (n : Int) := by omega
  have hw1 : IntKind.i64.wrap 5 = 5 := by decide
  have hw2 : IntKind.i64.wrap 31 = 31 := by decide
  have hw3 : IntKind.i64.wrap 32 = 32 := by decide
  have hw4 : IntKind.i64.wrap (32 - 1) = 31 := by decide
  have hn2 : 31 < n := by omega
  have hsh : ∀ tt w, Sem.run Tryz.prog (binOp .shl tt (.int .i64 1) (.int .i64 5)) w = .ok (.int .i64 32) w := fun tt w => rfl
  simp at q2
  clear h hw hne hat hb hpe
  go_enter Tryz.func43, Tryz.ntmps43
  go_wp2_with fail
  go_quiet ((go_at_call 66; exact Calls.quiet_of_same (HL.out _)))
  go_wp2_with fail
  go_ret
  exact ⟨rfl, _, rfl⟩
set_option maxHeartbeats 1000000 in
theorem endless_at6 (r : Nat) (sv way : Value) (t0 : Tm) (ok0 : Bool) (l : List Wc) (eb eo : Nat) (w : World) (h : Blk w r (runC sv way t0 ok0) 68) (hw : OwW w (r + 1) way l) (hl : l.length ≤ 100) (hne : ∀ x ∈ l, ¬ (x.b = eb ∧ x.o = eo) ∧ PlB w x.b) (hpe : PlB w eb) (hb : Lib.bitLen l.length = 7) (hk : 64 ≤ l.length) :
    Calls Tryz.prog 43 #[.pointer (some ⟨r, 0, none⟩), .pointer (some ⟨eb, eo, none⟩)] w fun e w' => e = .returned (.bool false) ∧ ∃ d, w' = w.drewN d := by
  have c1 : w.cell? ⟨r, 1, none⟩ = some way := h.cell 1
  obtain ⟨g, cap, rfl, -, hlt, hc1, hc2, -, hat⟩ := hw.at waitC_len (by omega)
  have hx := hne l[63] (List.getElem_mem (by omega))
  have hpq := fun n => ptr_ne hx.2 hpe hx.1 n
  clear hx
  have q2 := hat 63 (by omega) 0 (.pointer (some ⟨l[63].b, l[63].o, none⟩)) rfl
  have HL := Lib.hid (fun w => len_any l.length (by omega) w)
  rw [hb] at HL
  generalize l[63].b = xb at hpq q2
  generalize l[63].o = xo at hpq q2
  generalize l.length = n at hk hc1 HL c1 hl ⊢
  have hn9 : 0 < n := by omega
  have hwu : IntKind.u64.wrap (n : Int) = (n : Int) := by rw [IntKind.wrap_u64]; omega
  have hn8 : decide (0 < n) = true := decide_eq_true hn9
  have hn0 : (0 : Int) < (n : Int) := by omega
  have hn1 : (63 : Int) < (n : Int) := by omega
  have hw1 : IntKind.i64.wrap 6 = 6 := by decide
  have hw2 : IntKind.i64.wrap 63 = 63 := by decide
  have hw3 : IntKind.i64.wrap 64 = 64 := by decide
  have hw4 : IntKind.i64.wrap (64 - 1) = 63 := by decide
  have hn2 : 63 < n := by omega
  have hsh : ∀ tt w, Sem.run Tryz.prog (binOp .shl tt (.int .i64 1) (.int .i64 6)) w = .ok (.int .i64 64) w := fun tt w => rfl
  simp at q2
  clear h hw hne hat hb hpe
  go_enter Tryz.func43, Tryz.ntmps43
  go_wp2_with fail
  go_quiet ((go_at_call 66; exact Calls.quiet_of_same (HL.out _)))
  go_wp2_with fail
  go_ret
  exact ⟨rfl, _, rfl⟩
theorem endless_any (r : Nat) (sv way : Value) (t0 : Tm) (ok0 : Bool) (l : List Wc) (eb eo : Nat) (w : World) (h : Blk w r (runC sv way t0 ok0) 68) (hw : OwW w (r + 1) way l) (hl : l.length ≤ 100) (hne : ∀ x ∈ l, ¬ (x.b = eb ∧ x.o = eo) ∧ PlB w x.b) (hpe : PlB w eb) :
    Calls Tryz.prog 43 #[.pointer (some ⟨r, 0, none⟩), .pointer (some ⟨eb, eo, none⟩)] w fun e w' => e = .returned (.bool false) ∧ ∃ d, w' = w.drewN d := by
  by_cases h0 : l = []
  · exact endless_none r sv way t0 ok0 l eb eo w h hw hl hne hpe h0
  · obtain ⟨k, hk, hb, h2⟩ := bl_small (n := l.length) (by rw [ne_eq, List.length_eq_zero_iff]; exact h0) hl
    rcases (show k = 0 ∨ k = 1 ∨ k = 2 ∨ k = 3 ∨ k = 4 ∨ k = 5 ∨ k = 6 by omega) with rfl | rfl | rfl | rfl | rfl | rfl | rfl
    · exact endless_at0 r sv way t0 ok0 l eb eo w h hw hl hne hpe hb h2
    · exact endless_at1 r sv way t0 ok0 l eb eo w h hw hl hne hpe hb h2
    · exact endless_at2 r sv way t0 ok0 l eb eo w h hw hl hne hpe hb h2
    · exact endless_at3 r sv way t0 ok0 l eb eo w h hw hl hne hpe hb h2
    · exact endless_at4 r sv way t0 ok0 l eb eo w h hw hl hne hpe hb h2
    · exact endless_at5 r sv way t0 ok0 l eb eo w h hw hl hne hpe hb h2
    · exact endless_at6 r sv way t0 ok0 l eb eo w h hw hl hne hpe hb h2
/-- What goes into bound. -/
def expV (op : Int) (t : Tm) (kv : Value) : Value := .agg #[.int .i64 op, .int .i64 t.k, .string t.s, .string t.l, .string t.t, kv]
set_option maxHeartbeats 1000000 in
theorem bound_any (B : Nat) (op : Int) (t : Tm) (n : Nat) (kp : Option Addr) (cap : Nat) (sv : Value) (s : Slt) (w : World) (hs : SolAt B w sv s) (hB : B ≤ w.heap.size) (hn : n ≤ 1000) :
    Calls Tryz.prog 47 #[expV op t (.slice kp n cap), sv] w fun e w' => Tells e (if op = 1 ∧ t.k = 4 ∧ n = 0 then some (boolT (getO s t.sl).isSome) else none) ∧ Below w.heap.size w w' := by
  have b1 := (Below.refl w.heap.size w).alloc (Nat.le_refl _) (.cells #[.int .i64 op, .int .i64 t.k, .string t.s, .string t.l, .string t.t, .slice kp n cap] 28)
  have hbx := Blk.new w #[.int .i64 op, .int .i64 t.k, .string t.s, .string t.l, .string t.t, .slice kp n cap] 28
  have z1 : (w.alloc (.cells #[.int .i64 op, .int .i64 t.k, .string t.s, .string t.l, .string t.t, .slice kp n cap] 28)).heap.size = w.heap.size + 1 := by simp
  have HG := Lib.hid (fun w1 (h : Below w.heap.size w w1) => solGet_any B sv s t.s w1 (hs.keep ⟨h.os, h.tape, h.output, h.size, fun k hk => h.block k (Nat.lt_of_lt_of_le hk hB)⟩) (Nat.le_trans hB h.size))
  clear hs hB
  unfold expV
  have hg : ∃ q, q = getO s t.s.data.toList := ⟨_, rfl⟩
  obtain ⟨q, hq⟩ := hg
  obtain ⟨V, hV⟩ : ∃ V : Option Tm, V = if op = 1 ∧ t.k = 4 ∧ n = 0 then some (boolT (getO s t.sl).isSome) else none := ⟨_, rfl⟩
  rw [← hV]
  rw [show getO s t.sl = q from hq.symm] at hV
  rw [← hq] at HG
  have HV := Lib.hid hV
  clear hV hq
  go_enter Tryz.func47, Tryz.ntmps47
  go_upto_region 1 with fail
  generalize World.alloc w _ = w1 at b1 hbx z1 ⊢
  have hans := AnsB.new w1 25
  have b2 := (Below.refl w1.heap.size w1).alloc (Nat.le_refl _) (.cells #[.int .i64 0, .string ⟨#[]⟩, .string ⟨#[]⟩, .string ⟨#[]⟩] 25)
  have hbx2 := hbx.alloc (.cells #[.int .i64 0, .string ⟨#[]⟩, .string ⟨#[]⟩, .string ⟨#[]⟩] 25)
  generalize World.alloc w1 _ = w2 at hans b2 hbx2 ⊢
  rw [z1] at hans
  try rw [z1]
  have HX := Lib.hid (show Below w.heap.size w w2 ∧ Blk w2 w.heap.size #[.int .i64 op, .int .i64 t.k, .string t.s, .string t.l, .string t.t, .slice kp n cap] 28 ∧ AnsB w2 (w.heap.size + 1) from ⟨b1.trans (b2.mono (by omega)), hbx2, hans⟩)
  have c2 : w2.cell? ⟨w.heap.size, 2, none⟩ = some (.string t.s) := hbx2.cell 2
  clear b1 hbx z1 hans b2 hbx2
  go_wp2_with fail
  refine (HG.out _ HX.out.1).mono ?_
  rintro e w3 ⟨rfl, hb3⟩
  have hbk := HX.out.2.1.moved (Moved.of_below hb3 (fun _ => False)) (fun h => h)
  have hn3 : w.heap.size + 1 < w3.heap.size := Nat.lt_of_lt_of_le (by obtain ⟨⟨z, hz⟩, -⟩ := HX.out.2.2; exact hz.1) hb3.size
  have HY := Lib.hid (show Below w.heap.size w w3 ∧ AnsB w3 (w.heap.size + 1) from ⟨HX.out.1.trans (hb3.mono HX.out.1.size), HX.out.2.2.below hb3⟩)
  have d0 : w3.cell? ⟨w.heap.size, 0, none⟩ = some (.int .i64 op) := hbk.cell 0
  have d1 : w3.cell? ⟨w.heap.size, 1, none⟩ = some (.int .i64 t.k) := hbk.cell 1
  have d5 : w3.cell? ⟨w.heap.size, 5, none⟩ = some (.slice kp n cap) := hbk.cell 5
  have hlt : w.heap.size < w3.heap.size := by omega
  have hne : ¬ w.heap.size = w3.heap.size := by omega
  have HBO := Lib.hid (fun b ok w => boolean_ex b ok w)
  have hv := HV.out
  clear hb3 hbk c2 HX HV HG
  unfold optV Tm.val
  generalize q.isSome = qi at hv ⊢
  generalize q.getD zeroT = qx
  have HW3 := Lib.hid (fun o => HY.out.1.alloc HY.out.1.size o)
  have HA3 := Lib.hid (fun o => HY.out.2.below ((Below.refl w3.heap.size w3).alloc (Nat.le_refl _) o))
  by_cases h1 : op = 1
  · have e1 : (op == 1) = true := beq_iff_eq.2 h1
    by_cases h4 : t.k = 4
    · have e4 : (t.k == 4) = true := beq_iff_eq.2 h4
      by_cases h0 : n = 0
      · rw [if_pos ⟨h1, h4, h0⟩] at hv
        subst h0
        have HV := Lib.hid hv
        clear hv h1 h4
        go_wp2_with fail
        have HW4 := Lib.hid (HW3.out (.cells #[.int .i64 qx.k, .string qx.s, .string qx.l, .string qx.t] 25))
        have HA4 := Lib.hid (HA3.out (.cells #[.int .i64 qx.k, .string qx.s, .string qx.l, .string qx.t] 25))
        generalize World.alloc w3 _ = w4 at HW4 HA4 ⊢
        refine (HBO.out _ _ _).mono ?_
        rintro e w5 ⟨k, s, l, y, o, rfl, hx, ho, hb5⟩
        have HXX := Lib.hid (And.intro hx ho)
        have HW5 := Lib.hid (HW4.out.trans (hb5.mono HW4.out.size))
        have HA5 := Lib.hid (HA4.out.below hb5)
        clear hx ho hb5
        obtain ⟨⟨xz, -, kz0, kz1, kz2, kz3⟩, fz⟩ := HA5.out
        have fz0 := fz 0
        have fz1 := fz 1
        have fz2 := fz 2
        have fz3 := fz 3
        clear fz
        go_wp2_with fail
        refine bodyPost_ret (v := .tuple #[.agg #[.int .i64 k, .string s, .string l, .string y], .bool o]) (by simp [results, Tryz.results47, go_sem, kz0, kz1, kz2, kz3]) rfl ⟨?_, ?_⟩
        · rw [HV.out]
          obtain ⟨hx, ho⟩ := HXX.out
          subst ho
          first | exact hx ▸ Tells.some (x := ⟨k, s, l, y⟩) rfl | exact Tells.none (x := ⟨k, s, l, y⟩) rfl
        · exact (((HW5.out.setCell (Nat.le_succ _) _).setCell (Nat.le_succ _) _).setCell (Nat.le_succ _) _).setCell (Nat.le_succ _) _
      · rw [if_neg (fun h => h0 h.2.2)] at hv
        have e0 : ((n : Int) == 0) = false := beq_eq_false_iff_ne.2 (by omega)
        have HV := Lib.hid hv
        clear hv h1 h4
        go_wp2_with fail
        have HW4 := Lib.hid (HW3.out (.cells #[.int .i64 qx.k, .string qx.s, .string qx.l, .string qx.t] 25))
        have HA4 := Lib.hid (HA3.out (.cells #[.int .i64 qx.k, .string qx.s, .string qx.l, .string qx.t] 25))
        generalize World.alloc w3 _ = w4 at HW4 HA4 ⊢
        refine (HBO.out _ _ _).mono ?_
        rintro e w5 ⟨k, s, l, y, o, rfl, hx, ho, hb5⟩
        have HXX := Lib.hid (And.intro hx ho)
        have HW5 := Lib.hid (HW4.out.trans (hb5.mono HW4.out.size))
        have HA5 := Lib.hid (HA4.out.below hb5)
        clear hx ho hb5
        obtain ⟨⟨xz, -, kz0, kz1, kz2, kz3⟩, fz⟩ := HA5.out
        have fz0 := fz 0
        have fz1 := fz 1
        have fz2 := fz 2
        have fz3 := fz 3
        clear fz
        go_wp2_with fail
        refine bodyPost_ret (v := .tuple #[.agg #[.int .i64 k, .string s, .string l, .string y], .bool o]) (by simp [results, Tryz.results47, go_sem, kz0, kz1, kz2, kz3]) rfl ⟨?_, ?_⟩
        · rw [HV.out]
          obtain ⟨hx, ho⟩ := HXX.out
          subst ho
          first | exact hx ▸ Tells.some (x := ⟨k, s, l, y⟩) rfl | exact Tells.none (x := ⟨k, s, l, y⟩) rfl
        · exact (((HW5.out.setCell (Nat.le_succ _) _).setCell (Nat.le_succ _) _).setCell (Nat.le_succ _) _).setCell (Nat.le_succ _) _
    · rw [if_neg (fun h => h4 h.2.1)] at hv
      have e4 : (t.k == 4) = false := beq_eq_false_iff_ne.2 h4
      have HV := Lib.hid hv
      clear hv h1 h4
      go_wp2_with fail
      have HW4 := Lib.hid (HW3.out (.cells #[.int .i64 qx.k, .string qx.s, .string qx.l, .string qx.t] 25))
      have HA4 := Lib.hid (HA3.out (.cells #[.int .i64 qx.k, .string qx.s, .string qx.l, .string qx.t] 25))
      generalize World.alloc w3 _ = w4 at HW4 HA4 ⊢
      refine (HBO.out _ _ _).mono ?_
      rintro e w5 ⟨k, s, l, y, o, rfl, hx, ho, hb5⟩
      have HXX := Lib.hid (And.intro hx ho)
      have HW5 := Lib.hid (HW4.out.trans (hb5.mono HW4.out.size))
      have HA5 := Lib.hid (HA4.out.below hb5)
      clear hx ho hb5
      obtain ⟨⟨xz, -, kz0, kz1, kz2, kz3⟩, fz⟩ := HA5.out
      have fz0 := fz 0
      have fz1 := fz 1
      have fz2 := fz 2
      have fz3 := fz 3
      clear fz
      go_wp2_with fail
      refine bodyPost_ret (v := .tuple #[.agg #[.int .i64 k, .string s, .string l, .string y], .bool o]) (by simp [results, Tryz.results47, go_sem, kz0, kz1, kz2, kz3]) rfl ⟨?_, ?_⟩
      · rw [HV.out]
        obtain ⟨hx, ho⟩ := HXX.out
        subst ho
        first | exact hx ▸ Tells.some (x := ⟨k, s, l, y⟩) rfl | exact Tells.none (x := ⟨k, s, l, y⟩) rfl
      · exact (((HW5.out.setCell (Nat.le_succ _) _).setCell (Nat.le_succ _) _).setCell (Nat.le_succ _) _).setCell (Nat.le_succ _) _
  · rw [if_neg (fun h => h1 h.1)] at hv
    have e1 : (op == 1) = false := beq_eq_false_iff_ne.2 h1
    have HV := Lib.hid hv
    clear hv h1
    go_wp2_with fail
    have HW4 := Lib.hid (HW3.out (.cells #[.int .i64 qx.k, .string qx.s, .string qx.l, .string qx.t] 25))
    have HA4 := Lib.hid (HA3.out (.cells #[.int .i64 qx.k, .string qx.s, .string qx.l, .string qx.t] 25))
    generalize World.alloc w3 _ = w4 at HW4 HA4 ⊢
    refine (HBO.out _ _ _).mono ?_
    rintro e w5 ⟨k, s, l, y, o, rfl, hx, ho, hb5⟩
    have HXX := Lib.hid (And.intro hx ho)
    have HW5 := Lib.hid (HW4.out.trans (hb5.mono HW4.out.size))
    have HA5 := Lib.hid (HA4.out.below hb5)
    clear hx ho hb5
    obtain ⟨⟨xz, -, kz0, kz1, kz2, kz3⟩, fz⟩ := HA5.out
    have fz0 := fz 0
    have fz1 := fz 1
    have fz2 := fz 2
    have fz3 := fz 3
    clear fz
    go_wp2_with fail
    refine bodyPost_ret (v := .tuple #[.agg #[.int .i64 k, .string s, .string l, .string y], .bool o]) (by simp [results, Tryz.results47, go_sem, kz0, kz1, kz2, kz3]) rfl ⟨?_, ?_⟩
    · rw [HV.out]
      obtain ⟨hx, ho⟩ := HXX.out
      subst ho
      first | exact hx ▸ Tells.some (x := ⟨k, s, l, y⟩) rfl | exact Tells.none (x := ⟨k, s, l, y⟩) rfl
    · exact (((HW5.out.setCell (Nat.le_succ _) _).setCell (Nat.le_succ _) _).setCell (Nat.le_succ _) _).setCell (Nat.le_succ _) _
end Go.Proofs.YtecomfhbdonkbaaGreatDoor
/- Expressions in plain blocks; a run with its stack. -/
namespace Go.Proofs.YtecomfhbdonkbaaGreatDoor
open Go.RowKit Go.Shelf Flo
set_option maxRecDepth 100000
set_option linter.unusedVariables false
set_option linter.unusedSimpArgs false
theorem PlB.keep {w w' : World} {b B : Nat} (h : PlB w b) (hb : b < B) (hw : Below B w w') : PlB w' b := by
  obtain ⟨ca, ta, h⟩ := h
  exact ⟨ca, ta, (hw.block b hb).trans h⟩
/-- The slice kv reads as the expressions l, so deep, in blocks below B. -/
def KidsP (B : Nat) (w : World) : Nat → Value → List Exp → Prop
  | 0, kv, l => l = [] ∧ ∃ kp cap, kv = .slice kp 0 cap
  | n + 1, kv, l => l.length ≤ 1000 ∧ ∃ kp cap, kv = .slice kp l.length cap ∧ ∀ i (h : i < l.length), ∃ kb ko kv', kp = some ⟨kb, ko, none⟩ ∧ kb < B ∧ PlB w kb ∧ XCells w kb (ko + i * 6) l[i].op l[i].tm kv' ∧ opIn l[i].op ∧ l[i].tm.Sm ∧ KidsP B w n kv' l[i].kids
/-- The expression e lies at a place below B; its Kids so deep. -/
def XP (B : Nat) (w : World) (n b o : Nat) (e : Exp) : Prop := b < B ∧ PlB w b ∧ ∃ kv, XCells w b o e.op e.tm kv ∧ opIn e.op ∧ e.tm.Sm ∧ KidsP B w n kv e.kids
theorem KidsP.keep {B : Nat} {w w' : World} (hw : Below B w w') : ∀ {n : Nat} {kv : Value} {l : List Exp}, KidsP B w n kv l → KidsP B w' n kv l
  | 0, _, _, h => h
  | n + 1, kv, l, ⟨h0, kp, cap, h1, h2⟩ => ⟨h0, kp, cap, h1, fun i hi => by
    obtain ⟨kb, ko, kv', g1, g2, gp, g3, g4, g5, g6⟩ := h2 i hi
    exact ⟨kb, ko, kv', g1, g2, gp.keep g2 hw, g3.keep g2 hw, g4, g5, KidsP.keep hw g6⟩⟩
theorem KidsP.mono {B B' : Nat} {w : World} (hw : B ≤ B') : ∀ {n : Nat} {kv : Value} {l : List Exp}, KidsP B w n kv l → KidsP B' w n kv l
  | 0, _, _, h => h
  | n + 1, kv, l, ⟨h0, kp, cap, h1, h2⟩ => ⟨h0, kp, cap, h1, fun i hi => by
    obtain ⟨kb, ko, kv', g1, g2, gp, g3, g4, g5, g6⟩ := h2 i hi
    exact ⟨kb, ko, kv', g1, Nat.lt_of_lt_of_le g2 hw, gp, g3, g4, g5, KidsP.mono hw g6⟩⟩
theorem KidsP.deeper {B : Nat} {w : World} : ∀ {n : Nat} {kv : Value} {l : List Exp}, KidsP B w n kv l → KidsP B w (n + 1) kv l
  | 0, kv, l, ⟨h, kp, cap, h2⟩ => by
    subst h
    exact ⟨by simp, kp, cap, h2, fun i hi => absurd hi (by simp)⟩
  | n + 1, kv, l, ⟨h0, kp, cap, h1, h2⟩ => ⟨h0, kp, cap, h1, fun i hi => by
    obtain ⟨kb, ko, kv', g1, g2, gp, g3, g4, g5, g6⟩ := h2 i hi
    exact ⟨kb, ko, kv', g1, g2, gp, g3, g4, g5, KidsP.deeper g6⟩⟩
theorem KidsP.deep {B : Nat} {w : World} {n m : Nat} {kv : Value} {l : List Exp} (h : KidsP B w n kv l) (hm : n ≤ m) : KidsP B w m kv l := by
  obtain ⟨d, rfl⟩ : ∃ d, m = n + d := ⟨m - n, by omega⟩
  clear hm
  induction d with
  | zero => exact h
  | succ d ih => exact ih.deeper
theorem KidsP.form {B : Nat} {w : World} {n : Nat} {kv : Value} {l : List Exp} (h : KidsP B w n kv l) : l.length ≤ 1000 ∧ ∃ kp cap, kv = .slice kp l.length cap := by
  cases n with
  | zero => obtain ⟨rfl, kp, cap, h⟩ := h; exact ⟨by simp, kp, cap, h⟩
  | succ n => obtain ⟨h0, kp, cap, h, -⟩ := h; exact ⟨h0, kp, cap, h⟩
theorem KidsP.uniq {B : Nat} {w : World} : ∀ {n m : Nat} {kv : Value} {l l' : List Exp}, KidsP B w n kv l → KidsP B w m kv l' → l = l'
  | 0, m, kv, l, l', h, h' => by
    obtain ⟨rfl, kp, cap, rfl⟩ := h
    obtain ⟨-, kp', cap', e⟩ := h'.form
    simp only [Value.slice.injEq] at e
    exact (List.length_eq_zero_iff.1 e.2.1.symm).symm
  | n + 1, 0, kv, l, l', h, h' => by
    obtain ⟨rfl, kp, cap, rfl⟩ := h'
    obtain ⟨-, kp', cap', e⟩ := h.form
    simp only [Value.slice.injEq] at e
    exact List.length_eq_zero_iff.1 e.2.1.symm
  | n + 1, m + 1, kv, l, l', h, h' => by
    obtain ⟨-, kp, cap, e1, h2⟩ := h
    obtain ⟨-, kp', cap', e2, h2'⟩ := h'
    rw [e1] at e2
    simp only [Value.slice.injEq] at e2
    obtain ⟨rfl, hlen, rfl⟩ := e2
    refine List.ext_getElem hlen fun i hi hi' => ?_
    obtain ⟨kb, ko, kv1, g1, g2, -, g3, -, -, g6⟩ := h2 i hi
    obtain ⟨kb', ko', kv1', g1', g2', -, g3', -, -, g6'⟩ := h2' i hi'
    rw [g1] at g1'
    simp only [Option.some.injEq, Addr.mk.injEq, and_true] at g1'
    obtain ⟨rfl, rfl⟩ := g1'
    obtain ⟨u1, u2, u3⟩ := g3.uniq g3'
    subst u3
    exact exp_ext u1 u2 (KidsP.uniq g6 g6')
theorem XP.uniq {B : Nat} {w : World} {n m b o : Nat} {e e' : Exp} (h : XP B w n b o e) (h' : XP B w m b o e') : e = e' := by
  obtain ⟨-, -, kv, g3, -, -, g6⟩ := h
  obtain ⟨-, -, kv', g3', -, -, g6'⟩ := h'
  obtain ⟨u1, u2, u3⟩ := g3.uniq g3'
  subst u3
  exact exp_ext u1 u2 (KidsP.uniq g6 g6')
theorem XP.keep {B : Nat} {w w' : World} {n b o : Nat} {e : Exp} (h : XP B w n b o e) (hw : Below B w w') : XP B w' n b o e := by
  obtain ⟨h0, hp, kv, g3, g4, g5, g6⟩ := h
  exact ⟨h0, hp.keep h0 hw, kv, g3.keep h0 hw, g4, g5, g6.keep hw⟩
/-- A Kid's place. -/
theorem XP.kid {B : Nat} {w : World} {n b o i : Nat} {e : Exp} (h : XP B w n b o e) (hi : i < e.kids.length) :
    ∃ kb ko cap m, n = m + 1 ∧ w.cell? ⟨b, o + 5, none⟩ = some (.slice (some ⟨kb, ko, none⟩) e.kids.length cap) ∧ kb < B ∧ XP B w m kb (ko + i * 6) (e.kid i) ∧ SizeOf.sizeOf (e.kid i) < SizeOf.sizeOf e := by
  obtain ⟨h0, hp, kv, g3, g4, g5, g6⟩ := h
  cases n with
  | zero => obtain ⟨g6, -⟩ := g6; rw [g6] at hi; simp at hi
  | succ m =>
    obtain ⟨-, kp, cap, rfl, g7⟩ := g6
    obtain ⟨kb, ko, kv', rfl, q2, qp, q3, q4, q5, q6⟩ := g7 i hi
    refine ⟨kb, ko, cap, m, rfl, g3.2.2.2.2.2, q2, ?_, ?_⟩
    · rw [kid_at hi]
      exact ⟨q2, qp, kv', q3, q4, q5, q6⟩
    · rw [kid_at hi]
      have := List.sizeOf_lt_of_mem (List.getElem_mem hi)
      cases e with
      | mk op t kids =>
        simp only [Exp.kids] at this ⊢
        simp only [Exp.mk.sizeOf_spec]
        omega


/-- An Eval on its way, at r. -/
def RunP (w : World) (r : Nat) (sv : Value) (S : Stk) (v : Option Tm) : Prop :=
  ∃ way, Blk w r (runC sv way (v.getD zeroT) v.isSome) 68 ∧ OwW w (r + 1) way (S.reverse.map wcOf)
structure StkP (B : Nat) (w : World) (S : Stk) : Prop where
  at_ : ∀ x ∈ S, XP B w x.1.n x.2.1 x.2.2 x.1.e ∧ x.1.Ok ∧ x.1.f.Sm
  len : S.length ≤ 100
  sub : S.Pairwise (fun x y => SizeOf.sizeOf x.1.e < SizeOf.sizeOf y.1.e)
theorem StkP.keep {B : Nat} {w w' : World} {S : Stk} (h : StkP B w S) (hw : Below B w w') : StkP B w' S := ⟨fun x hx => ⟨(h.at_ x hx).1.keep hw, (h.at_ x hx).2⟩, h.len, h.sub⟩
/-- Nothing that waits is e. -/
theorem StkP.apart {B : Nat} {w : World} {S : Stk} {n b o : Nat} {e : Exp} (h : StkP B w S) (hx : XP B w n b o e) (hs : ∀ x ∈ S, SizeOf.sizeOf e < SizeOf.sizeOf x.1.e) : ∀ x ∈ S.reverse.map wcOf, ¬ (x.b = b ∧ x.o = o) ∧ PlB w x.b := by
  intro y hy
  obtain ⟨x, hx1, rfl⟩ := List.mem_map.1 hy
  have hx2 := List.mem_reverse.1 hx1
  obtain ⟨g1, g2, -⟩ := h.at_ x hx2
  refine ⟨?_, g1.2.1⟩
  rintro ⟨e1, e2⟩
  have e1' : x.2.1 = b := e1
  have e2' : x.2.2 = o := e2
  rw [e1', e2'] at g1
  have := g1.uniq hx
  have h2 := hs x hx2
  rw [this] at h2
  exact Nat.lt_irrefl _ h2
end Go.Proofs.YtecomfhbdonkbaaGreatDoor
/- Package value: a run: enter. -/
namespace Go.Proofs.YtecomfhbdonkbaaGreatDoor
open Go.RowKit Go.Shelf Flo
set_option maxRecDepth 100000
set_option linter.unusedVariables false
set_option linter.unusedSimpArgs false

theorem toldT_eq (x : Tm) (ok : Bool) : toldT x ok = ((if ok then some x else none : Option Tm).getD zeroT) ∧ ok = (if ok then some x else none : Option Tm).isSome := by
  cases ok <;> exact ⟨rfl, rfl⟩
theorem RunP.lt {w : World} {r : Nat} {sv : Value} {S : Stk} {v : Option Tm} (h : RunP w r sv S v) : r < w.heap.size := by
  obtain ⟨way, h, -⟩ := h
  exact h.lt
/-- What others make leaves it alone. -/
theorem RunP.below {w w' : World} {r : Nat} {sv : Value} {S : Stk} {v : Option Tm} (h : RunP w r sv S v) (hb : Below w.heap.size w w') : RunP w' r sv S v := by
  obtain ⟨way, h1, h2⟩ := h
  exact ⟨way, h1.moved (Moved.of_below hb (fun _ => False)) (fun h => h), h2.below hb⟩
theorem tellP (r : Nat) (sv : Value) (S : Stk) (v : Option Tm) (x : Tm) (ok : Bool) (w : World) (h : RunP w r sv S v) :
    Calls Tryz.prog 45 #[.pointer (some ⟨r, 0, none⟩), x.val, .bool ok] w fun e w' => e = .returned (.tuple #[]) ∧ RunP w' r sv S (if ok then some x else none) ∧ Below r w w' := by
  obtain ⟨way, h1, h2⟩ := h
  refine (tell_any r sv way (v.getD zeroT) x v.isSome ok w h1).mono ?_
  rintro e w' ⟨rfl, g1, g2⟩
  obtain ⟨e1, e2⟩ := toldT_eq x ok
  refine ⟨rfl, ⟨way, ?_, h2.moved g2 (fun q hq => ?_)⟩, g2.below (fun j hj => by rw [hj]; exact Nat.le_refl _) (Nat.le_of_lt h1.lt)⟩
  · rw [← e1, ← e2]; exact g1
  · have := (h2.lt q hq).1
    omega
theorem opt_tells {x : Tm} {o : Option Tm} (h : ∀ y, o = some y → x = y) : (if o.isSome then some x else none) = o := by
  cases o with
  | none => rfl
  | some y => rw [h y rfl]; rfl
theorem endlessP (B r : Nat) (sv : Value) (S : Stk) (v : Option Tm) (n b o : Nat) (e : Exp) (w : World) (h : RunP w r sv S v) (hS : StkP B w S) (hx : XP B w n b o e) (hs : ∀ x ∈ S, SizeOf.sizeOf e < SizeOf.sizeOf x.1.e) :
    Calls Tryz.prog 43 #[.pointer (some ⟨r, 0, none⟩), .pointer (some ⟨b, o, none⟩)] w fun e w' => e = .returned (.bool false) ∧ Below w.heap.size w w' := by
  obtain ⟨way, h1, h2⟩ := h
  refine (endless_any r sv way (v.getD zeroT) v.isSome (S.reverse.map wcOf) b o w h1 h2 (by simpa using hS.len) (hS.apart hx hs) hx.2.1).mono ?_
  rintro e w' ⟨rfl, d, rfl⟩
  exact ⟨rfl, ⟨rfl, rfl, rfl, Nat.le_refl _, fun _ _ => rfl⟩⟩
theorem fits_same (op : Int) (n : Nat) (hn : n ≤ 1000) (w : World) : Calls Tryz.prog 44 #[.int .i64 op, .int .i64 (n : Int)] w fun e w' => e = .returned (.bool (fitsO op n)) ∧ w' = w := by
  refine (fits_any op n hn w).mono ?_
  rintro e w' ⟨h, rfl⟩
  exact ⟨h, rfl⟩
set_option maxHeartbeats 1000000 in
theorem enter_nofit (B r : Nat) (sv : Value) (s : Slt) (S : Stk) (v : Option Tm) (n b o : Nat) (e : Exp) (w : World) (h : RunP w r sv S v) (hB : B ≤ r) (hS : StkP B w S) (hx : XP B w n b o e) (hs : ∀ x ∈ S, SizeOf.sizeOf e < SizeOf.sizeOf x.1.e) (hsol : SolAt B w sv s) (hf : fitsO e.op e.kids.length = false) :
    Calls Tryz.prog 27 #[.pointer (some ⟨r, 0, none⟩), .pointer (some ⟨b, o, none⟩)] w fun e' w' => e' = .returned (.bool false) ∧ RunP w' r sv S none ∧ Below r w w' := by
  have HR := Lib.hid h
  have HEN := Lib.hid (endlessP B r sv S v n b o e w h hS hx hs)
  obtain ⟨hbB, hpl, kv, hxc, hop, hsm, hk⟩ := hx
  obtain ⟨hk1000, kp, cap, rfl⟩ := hk.form
  have HFI := Lib.hid (fun w => fits_same e.op e.kids.length hk1000 w)
  have HRL := Lib.hid (h.lt)
  have HXC := Lib.hid (fun wz (hz : Below w.heap.size w wz) => hxc.keep (B := w.heap.size) (Nat.lt_of_lt_of_le hbB (Nat.le_trans hB (Nat.le_of_lt h.lt))) hz)
  have HSM := Lib.hid hsm
  clear hk hpl hxc hsm h hS hs
  rw [hf] at HFI
  go_enter Tryz.func27, Tryz.ntmps27
  go_wp2_with fail
  refine HEN.out.mono ?_
  rintro e' w1 ⟨rfl, hb1⟩
  have HB1 := Lib.hid hb1
  have HR1 := Lib.hid (HR.out.below hb1)
  obtain ⟨x0, x1, x2, x3, x4, x5⟩ := HXC.out w1 hb1
  clear hb1
  go_wp2_with fail
  go_quiet ((go_at_call 44; exact Calls.quiet_of_same (HFI.out _)))
  go_wp2_with fail
  refine (tellP r sv S v zeroT false (w1.drewN _) (HR1.out.below ⟨rfl, rfl, rfl, Nat.le_refl _, fun _ _ => rfl⟩)).mono ?_
  rintro e' w3 ⟨rfl, hr3, hb3⟩
  have HR3 := Lib.hid hr3
  have HB3 := Lib.hid (show Below r w w3 from (HB1.out.mono (Nat.le_of_lt HRL.out)).trans ⟨hb3.os, hb3.tape, hb3.output, hb3.size, hb3.block⟩)
  clear hr3 hb3
  go_wp2_with fail
  go_ret
  exact ⟨rfl, HR3.out, HB3.out⟩
set_option maxHeartbeats 1000000 in
theorem enter_term (B r : Nat) (sv : Value) (s : Slt) (S : Stk) (v : Option Tm) (n b o : Nat) (e : Exp) (w : World) (h : RunP w r sv S v) (hB : B ≤ r) (hS : StkP B w S) (hx : XP B w n b o e) (hs : ∀ x ∈ S, SizeOf.sizeOf e < SizeOf.sizeOf x.1.e) (hsol : SolAt B w sv s) (hf : fitsO e.op e.kids.length = true) (h1 : e.op = 1) (h4 : e.tm.k ≠ 4) :
    Calls Tryz.prog 27 #[.pointer (some ⟨r, 0, none⟩), .pointer (some ⟨b, o, none⟩)] w fun e' w' => e' = .returned (.bool false) ∧ RunP w' r sv S (some e.tm) ∧ Below r w w' := by
  have HR := Lib.hid h
  have HEN := Lib.hid (endlessP B r sv S v n b o e w h hS hx hs)
  obtain ⟨hbB, hpl, kv, hxc, hop, hsm, hk⟩ := hx
  obtain ⟨hk1000, kp, cap, rfl⟩ := hk.form
  have HFI := Lib.hid (fun w => fits_same e.op e.kids.length hk1000 w)
  have HRL := Lib.hid (h.lt)
  have HXC := Lib.hid (fun wz (hz : Below w.heap.size w wz) => hxc.keep (B := w.heap.size) (Nat.lt_of_lt_of_le hbB (Nat.le_trans hB (Nat.le_of_lt h.lt))) hz)
  have HSM := Lib.hid hsm
  clear hk hpl hxc hsm h hS hs
  rw [hf] at HFI
  have e1 : (e.op == 1) = true := beq_iff_eq.2 h1
  have e4 : (e.tm.k == 4) = false := beq_eq_false_iff_ne.2 h4
  clear hf h1 h4
  generalize e.op = op at *
  go_enter Tryz.func27, Tryz.ntmps27
  go_wp2_with fail
  refine HEN.out.mono ?_
  rintro e' w1 ⟨rfl, hb1⟩
  have HB1 := Lib.hid hb1
  have HR1 := Lib.hid (HR.out.below hb1)
  obtain ⟨x0, x1, x2, x3, x4, x5⟩ := HXC.out w1 hb1
  clear hb1
  go_wp2_with fail
  go_quiet ((go_at_call 44; exact Calls.quiet_of_same (HFI.out _)))
  go_wp2_with fail
  refine (tellP r sv S v e.tm true (w1.drewN _) (HR1.out.below ⟨rfl, rfl, rfl, Nat.le_refl _, fun _ _ => rfl⟩)).mono ?_
  rintro e' w3 ⟨rfl, hr3, hb3⟩
  have HR3 := Lib.hid hr3
  have HB3 := Lib.hid (show Below r w w3 from (HB1.out.mono (Nat.le_of_lt HRL.out)).trans ⟨hb3.os, hb3.tape, hb3.output, hb3.size, hb3.block⟩)
  clear hr3 hb3
  go_wp2_with fail
  go_ret
  exact ⟨rfl, HR3.out, HB3.out⟩
end Go.Proofs.YtecomfhbdonkbaaGreatDoor
