/- node.put; has; kids; good. -/
import Derived.Test.YtcnfnpccbnnplaaB5g
namespace Go.Proofs.Ytcnfnpccbnnplaa
open Go.RowKit Go.Maps
set_option maxRecDepth 100000
set_option linter.unusedVariables false

set_option maxHeartbeats 2000000 in
theorem put_any (b o : Nat) (fr to : Nat) (v lv : Value) (es l : List Ent) (w : World) (hc : w.cell? ⟨b, o + 2, none⟩ = some v) (hf : w.frozen? ⟨b, o + 2, none⟩ = false) (hes : Ens w v es) (hl : Ens w lv l) (h1 : fr ≤ es.length) (h2 : to ≤ es.length) (h3 : es.length ≤ 10000) (h4 : l.length ≤ 10000) :
    Calls Try.prog 65 #[.pointer (some ⟨b, o, none⟩), .int .i64 fr, .int .i64 to, lv] w fun e w' => e = .returned (.tuple #[]) ∧ ∃ v' w3, w' = w3.setCell ⟨b, o + 2, none⟩ v' ∧ Below w.heap.size w w3 ∧ Owe w3 w.heap.size v' (es.take fr ++ l ++ es.drop to) := by
  obtain ⟨ao, cap, rfl, hc1, hc2⟩ := hes.form
  obtain ⟨lo, lc, rfl, hd1, hd2⟩ := hl.form
  obtain ⟨n, hn⟩ : ∃ n, n = es.length := ⟨_, rfl⟩
  obtain ⟨m, hm⟩ : ∃ m, m = l.length := ⟨_, rfl⟩
  have hlt := World.block_lt_of_cell? w _ hc
  have hta := hes.takes fr h1
  have htd := hes.drops to h2
  rw [← hn] at hc hc1 h1 h2 h3 htd
  rw [← hm] at hd1 h4 ⊢
  have HC := Lib.hid hc
  have HF := Lib.hid hf
  have HN := Lib.hid hn
  have HM := Lib.hid hm
  rw [← hm] at hl
  have HL := Lib.hid hl
  have HTA := Lib.hid hta
  have HTD := Lib.hid htd
  have HLT := Lib.hid hlt
  have htot : [es.take fr, l, es.drop to].flatten.length ≤ 100000 := by
    simp only [List.flatten_cons, List.flatten_nil, List.append_nil, List.length_append, List.length_take, List.length_drop]
    omega
  have HTOT := Lib.hid htot
  have i1 : (fr : Int) ≤ n := by omega
  have i2 : (to : Int) ≤ n := by omega
  have i3 : (n : Int) ≤ cap := by omega
  have i4 : ¬ cap < fr := by omega
  have i5 : ¬ ((cap : Int) < fr) := by omega
  clear hes hl hn hm hta htd hc hf hlt htot
  go_enter Try.func65, Try.ntmps65
  have c0 := HC.out
  go_wp2_with fail
  refine wp_region_any (by kernel_rfl) ?_
  change wpAny _ _ _ _ _ _ _ (World.drew _)
  refine wpAny_of_held (S := fun (w' : World) => w.heap.size ≤ w'.heap.size) _ _ _ _ ?_
  have hS : (fun (w' : World) => w.heap.size ≤ w'.heap.size) _ := (show w.heap.size ≤ w.drew.heap.size from Nat.le_refl _)
  try simp only [Act.put, List.setIfInBounds_toArray, List.set_cons_zero, List.set_cons_succ]
  refine wpAnyH_take (i := 0) (oi := ⟨some 8, _, _, _, _, _⟩) (v := ?_) rfl (by kernel_rfl) (by kernel_rfl) (by kernel_rfl) (fun _ _ _ h => h) (Or.inl ⟨by simp only [Region.wanted], ?_⟩) hS ?_
  rotate_left
  · intro wz hSw
    clear hSw
    go_simp
    first | done | with_reducible rfl
  try simp only [Act.put, List.setIfInBounds_toArray, List.set_cons_zero, List.set_cons_succ]
  refine wpAnyH_take (i := 1) (oi := ⟨some 9, _, _, _, _, _⟩) (v := ?_) rfl (by kernel_rfl) (by kernel_rfl) (by kernel_rfl) (fun _ _ _ h => h) (Or.inl ⟨by simp only [Region.wanted], ?_⟩) hS ?_
  rotate_left
  · intro wz hSw
    clear hSw
    go_simp
    first | done | with_reducible rfl
  try simp only [Act.put, List.setIfInBounds_toArray, List.set_cons_zero, List.set_cons_succ]
  refine wpAnyH_take (i := 2) (oi := ⟨some 10, _, _, _, _, _⟩) (v := ?_) rfl (by kernel_rfl) (by kernel_rfl) (by kernel_rfl) (fun _ _ _ h => h) (Or.inl ⟨by simp only [Region.wanted], ?_⟩) hS ?_
  rotate_left
  · intro wz hSw
    clear hSw
    go_simp
    first | done | with_reducible rfl
  try simp only [Act.put, List.setIfInBounds_toArray, List.set_cons_zero, List.set_cons_succ]
  refine wpAnyH_take (i := 3) (oi := ⟨some 11, _, _, _, _, _⟩) (v := ?_) rfl (by kernel_rfl) (by kernel_rfl) (by kernel_rfl) (fun _ _ _ h => h) (Or.inl ⟨by simp only [Region.wanted], ?_⟩) hS ?_
  rotate_left
  · intro wz hSw
    clear hSw
    go_simp
    first | done | with_reducible rfl
  try simp only [Act.put, List.setIfInBounds_toArray, List.set_cons_zero, List.set_cons_succ]
  refine wpAnyH_take (i := 5) (oi := ⟨some 13, _, _, _, _, _⟩) (v := ?_) rfl (by kernel_rfl) (by kernel_rfl) (by kernel_rfl) (fun _ _ _ h => h) (Or.inl ⟨by simp only [Region.wanted], ?_⟩) hS ?_
  rotate_left
  · intro wz hSw
    clear hSw
    go_simp
    first | done | with_reducible rfl
  try simp only [Act.put, List.setIfInBounds_toArray, List.set_cons_zero, List.set_cons_succ]
  refine wpAnyH_take (i := 7) (oi := ⟨some 15, _, _, _, _, _⟩) (v := ?_) rfl (by kernel_rfl) (by kernel_rfl) (by kernel_rfl) (fun _ _ _ h => h) (Or.inl ⟨by simp only [Region.wanted], ?_⟩) hS ?_
  rotate_left
  · intro wz hSw
    clear hSw
    go_simp
    first | done | with_reducible rfl
  try simp only [Act.put, List.setIfInBounds_toArray, List.set_cons_zero, List.set_cons_succ]
  refine wpAnyH_take (i := 8) (oi := ⟨some 16, _, _, _, _, _⟩) (v := ?_) rfl (by kernel_rfl) (by kernel_rfl) (by kernel_rfl) (fun _ _ _ h => h) (Or.inl ⟨by simp only [Region.wanted], ?_⟩) hS ?_
  rotate_left
  · intro wz hSw
    clear hSw
    go_simp
    first | done | with_reducible rfl
  try simp only [Act.put, List.setIfInBounds_toArray, List.set_cons_zero, List.set_cons_succ]
  refine wpAnyH_take (i := 9) (oi := ⟨some 17, _, _, _, _, _⟩) (v := ?_) rfl (by kernel_rfl) (by kernel_rfl) (by kernel_rfl) (fun _ _ _ h => h) (Or.inl ⟨by simp only [Region.wanted], ?_⟩) hS ?_
  rotate_left
  · intro wz hSw
    clear hSw
    go_simp
    first | done | with_reducible rfl
  try simp only [Act.put, List.setIfInBounds_toArray, List.set_cons_zero, List.set_cons_succ]
  refine wpAnyH_take (i := 10) (oi := ⟨some 18, _, _, _, _, _⟩) (v := ?_) rfl (by kernel_rfl) (by kernel_rfl) (by kernel_rfl) (fun _ _ _ h => h) (Or.inl ⟨by simp only [Region.wanted], ?_⟩) hS ?_
  rotate_left
  · intro wz hSw
    clear hSw
    go_simp
    first | done | with_reducible rfl
  try simp only [Act.put, List.setIfInBounds_toArray, List.set_cons_zero, List.set_cons_succ]
  refine wpAnyH_take (i := 12) (oi := ⟨some 20, _, _, _, _, _⟩) (v := ?_) rfl (by kernel_rfl) (by kernel_rfl) (by kernel_rfl) (fun _ _ _ h => h) (Or.inl ⟨by simp only [Region.wanted], ?_⟩) hS ?_
  rotate_left
  · intro wz hSw
    clear hSw
    go_simp
    first | done | with_reducible rfl
  try simp only [Act.put, List.setIfInBounds_toArray, List.set_cons_zero, List.set_cons_succ]
  refine wpAnyH_ready (rs := [4, 11]) (by kernel_rfl) (by simp) ?_
  refine AllReadyH.cons (o := ⟨some 12, _, _, _, _, _⟩) rfl (fun K hK => ?_) (AllReadyH.cons (o := ⟨some 19, _, _, _, _, _⟩) rfl (fun K hK => ?_) AllReadyH.nil)
  · go_simp
    refine hK.out _ _ (Nat.le_refl _) (fun hS => ?_)
    clear hK K
    try simp only [Act.put, List.setIfInBounds_toArray, List.set_cons_zero, List.set_cons_succ]
    refine wpAnyH_take (i := 6) (oi := ⟨some 14, _, _, _, _, _⟩) (v := .slice ao fr cap) rfl (by kernel_rfl) (by kernel_rfl) (by kernel_rfl) (fun _ _ _ h => h) (Or.inl ⟨by simp only [Region.wanted], ?_⟩) hS ?_
    · intro wz hSw
      clear hSw
      go_simp
      first | done | with_reducible rfl
    try simp only [Act.put, List.setIfInBounds_toArray, List.set_cons_zero, List.set_cons_succ]
    refine wpAnyH_ready (rs := [11]) (by kernel_rfl) (by simp) ?_
    refine AllReadyH.cons (o := ⟨some 19, _, _, _, _, _⟩) rfl (fun K hK => ?_) AllReadyH.nil
    go_simp
    refine hK.out _ _ (Nat.le_refl _) (fun hS => ?_)
    clear hK K
    try simp only [Act.put, List.setIfInBounds_toArray, List.set_cons_zero, List.set_cons_succ]
    refine wpAnyH_take (i := 13) (oi := ⟨some 21, _, _, _, _, _⟩) (v := ?_) rfl (by kernel_rfl) (by kernel_rfl) (by kernel_rfl) (fun _ _ _ h => h) (Or.inl ⟨by simp only [Region.wanted], ?_⟩) hS ?_
    rotate_left
    · intro wz hSw
      clear hSw
      go_simp
      first | done | with_reducible rfl
    try simp only [Act.put, List.setIfInBounds_toArray, List.set_cons_zero, List.set_cons_succ]
    refine wpAnyH_ready (rs := [14]) (by kernel_rfl) (by simp) ?_
    refine AllReadyH.cons (o := ⟨some 22, _, _, _, _, _⟩) rfl (fun K hK => ?_) AllReadyH.nil
    go_simp
    have hal := Lib.hid ((Below.refl w.heap.size w).drew.alloc (Nat.le_refl _) (.cells #[.slice ao fr cap, .slice lo m lc, .slice (if cap = to then ao else Option.map (fun x => x.add (to * 3)) ao) (n - to) (cap - to)] 109))
    have HBK := Lib.hid (show Blk _ w.heap.size _ _ from Blk.new w.drew #[.slice ao fr cap, .slice lo m lc, .slice (if cap = to then ao else Option.map (fun x => x.add (to * 3)) ao) (n - to) (cap - to)] 109)
    refine hK.out _ _ (hal.out.size) (fun hS => ?_)
    clear hK K
    try simp only [Act.put, List.setIfInBounds_toArray, List.set_cons_zero, List.set_cons_succ]
    have hrws : Rws (w.drew.alloc (.cells #[.slice ao fr cap, .slice lo m lc, .slice (if cap = to then ao else Option.map (fun x => x.add (to * 3)) ao) (n - to) (cap - to)] 109)) (.slice (some ⟨w.heap.size, 0, none⟩) 3 3) [es.take fr, l, es.drop to] := by
      refine ⟨_, 3, rfl, Nat.le_refl _, by decide, fun k hk => ⟨w.heap.size, 0, rfl, HBK.out.lt, ?_⟩⟩
      have hk3 : k < 3 := hk
      rcases (show k = 0 ∨ k = 1 ∨ k = 2 by omega) with rfl | rfl | rfl
      · exact ⟨_, by rw [HBK.out.cell]; rfl, HTA.out.below hal.out⟩
      · exact ⟨_, by rw [HBK.out.cell]; rfl, HL.out.below hal.out⟩
      · exact ⟨_, by rw [HBK.out.cell]; rfl, HTD.out.below hal.out⟩
    have HRWS := Lib.hid hrws
    clear hrws
    refine wpAnyH_ready (rs := [15]) (by kernel_rfl) (by simp) ?_
    refine AllReadyH.cons (o := ⟨some 23, _, _, _, _, _⟩) rfl (fun K hK => ?_) AllReadyH.nil
    go_simp
    refine (concat_any _ [es.take fr, l, es.drop to] _ ?hrw ?htot (show 3 ≤ 1000 by decide)).mono ?_
    case hrw => exact HRWS.out
    case htot => exact HTOT.out
    rintro en w4 ⟨v4, rfl, ho4, hb4⟩
    obtain ⟨ao4, cap4, rfl, -⟩ := ho4.form
    have HO4 := Lib.hid ho4
    have HB4 := Lib.hid (hal.out.trans (hb4.mono hal.out.size))
    have c4 : w4.cell? ⟨b, o + 2, none⟩ = some (.slice ao n cap) := (HB4.out.cell (show (⟨b, o + 2, none⟩ : Addr).block < _ from HLT.out)).trans HC.out
    have f4 : w4.frozen? ⟨b, o + 2, none⟩ = false := (World.frozen?_of_block (HB4.out.block b HLT.out)).trans HF.out
    clear ho4 hb4
    refine hK.out _ _ (HB4.out.size) (fun hS => ?_)
    clear hK K
    try simp only [Act.put, List.setIfInBounds_toArray, List.set_cons_zero, List.set_cons_succ]
    refine wpAnyH_take (i := 16) (oi := ⟨some 24, _, _, _, _, _⟩) (v := ?_) rfl (by kernel_rfl) (by kernel_rfl) (by kernel_rfl) (fun _ _ _ h => h) (Or.inl ⟨by simp only [Region.wanted], ?_⟩) hS ?_
    rotate_left
    · intro wz hSw
      clear hSw
      go_simp
      first | done | with_reducible rfl
    try simp only [Act.put, List.setIfInBounds_toArray, List.set_cons_zero, List.set_cons_succ]
    refine wpAnyH_take (i := 17) (oi := ⟨some 25, _, _, _, _, _⟩) (v := ?_) rfl (by kernel_rfl) (by kernel_rfl) (by kernel_rfl) (fun _ _ _ h => h) (Or.inl ⟨by simp only [Region.wanted], ?_⟩) hS ?_
    rotate_left
    · intro wz hSw
      clear hSw
      go_simp
      first | done | with_reducible rfl
    try simp only [Act.put, List.setIfInBounds_toArray, List.set_cons_zero, List.set_cons_succ]
    refine wpAnyH_ready (rs := [18]) (by kernel_rfl) (by simp) ?_
    refine AllReadyH.cons (o := ⟨none, _, _, _, _, _⟩) rfl (fun K hK => ?_) AllReadyH.nil
    go_simp
    refine hK.out _ _ (by have := HB4.out.size; simpa using this) (fun hS => ?_)
    clear hK K
    try simp only [Act.put, List.setIfInBounds_toArray, List.set_cons_zero, List.set_cons_succ]
    refine wpAnyH_done (by kernel_rfl) ?_ _
    clear hS
    go_wp2_with fail
    all_goals
      go_end0
      exact ⟨rfl, _, w4, rfl, HB4.out, by have := HO4.out.mono hal.out.size; simpa using this⟩
  · go_simp
    refine hK.out _ _ (Nat.le_refl _) (fun hS => ?_)
    clear hK K
    try simp only [Act.put, List.setIfInBounds_toArray, List.set_cons_zero, List.set_cons_succ]
    refine wpAnyH_take (i := 13) (oi := ⟨some 21, _, _, _, _, _⟩) (v := ?_) rfl (by kernel_rfl) (by kernel_rfl) (by kernel_rfl) (fun _ _ _ h => h) (Or.inl ⟨by simp only [Region.wanted], ?_⟩) hS ?_
    rotate_left
    · intro wz hSw
      clear hSw
      go_simp
      first | done | with_reducible rfl
    try simp only [Act.put, List.setIfInBounds_toArray, List.set_cons_zero, List.set_cons_succ]
    refine wpAnyH_ready (rs := [4]) (by kernel_rfl) (by simp) ?_
    refine AllReadyH.cons (o := ⟨some 12, _, _, _, _, _⟩) rfl (fun K hK => ?_) AllReadyH.nil
    go_simp
    refine hK.out _ _ (Nat.le_refl _) (fun hS => ?_)
    clear hK K
    try simp only [Act.put, List.setIfInBounds_toArray, List.set_cons_zero, List.set_cons_succ]
    refine wpAnyH_take (i := 6) (oi := ⟨some 14, _, _, _, _, _⟩) (v := .slice ao fr cap) rfl (by kernel_rfl) (by kernel_rfl) (by kernel_rfl) (fun _ _ _ h => h) (Or.inl ⟨by simp only [Region.wanted], ?_⟩) hS ?_
    · intro wz hSw
      clear hSw
      go_simp
      first | done | with_reducible rfl
    try simp only [Act.put, List.setIfInBounds_toArray, List.set_cons_zero, List.set_cons_succ]
    refine wpAnyH_ready (rs := [14]) (by kernel_rfl) (by simp) ?_
    refine AllReadyH.cons (o := ⟨some 22, _, _, _, _, _⟩) rfl (fun K hK => ?_) AllReadyH.nil
    go_simp
    have hal := Lib.hid ((Below.refl w.heap.size w).drew.alloc (Nat.le_refl _) (.cells #[.slice ao fr cap, .slice lo m lc, .slice (if cap = to then ao else Option.map (fun x => x.add (to * 3)) ao) (n - to) (cap - to)] 109))
    have HBK := Lib.hid (show Blk _ w.heap.size _ _ from Blk.new w.drew #[.slice ao fr cap, .slice lo m lc, .slice (if cap = to then ao else Option.map (fun x => x.add (to * 3)) ao) (n - to) (cap - to)] 109)
    refine hK.out _ _ (hal.out.size) (fun hS => ?_)
    clear hK K
    try simp only [Act.put, List.setIfInBounds_toArray, List.set_cons_zero, List.set_cons_succ]
    have hrws : Rws (w.drew.alloc (.cells #[.slice ao fr cap, .slice lo m lc, .slice (if cap = to then ao else Option.map (fun x => x.add (to * 3)) ao) (n - to) (cap - to)] 109)) (.slice (some ⟨w.heap.size, 0, none⟩) 3 3) [es.take fr, l, es.drop to] := by
      refine ⟨_, 3, rfl, Nat.le_refl _, by decide, fun k hk => ⟨w.heap.size, 0, rfl, HBK.out.lt, ?_⟩⟩
      have hk3 : k < 3 := hk
      rcases (show k = 0 ∨ k = 1 ∨ k = 2 by omega) with rfl | rfl | rfl
      · exact ⟨_, by rw [HBK.out.cell]; rfl, HTA.out.below hal.out⟩
      · exact ⟨_, by rw [HBK.out.cell]; rfl, HL.out.below hal.out⟩
      · exact ⟨_, by rw [HBK.out.cell]; rfl, HTD.out.below hal.out⟩
    have HRWS := Lib.hid hrws
    clear hrws
    refine wpAnyH_ready (rs := [15]) (by kernel_rfl) (by simp) ?_
    refine AllReadyH.cons (o := ⟨some 23, _, _, _, _, _⟩) rfl (fun K hK => ?_) AllReadyH.nil
    go_simp
    refine (concat_any _ [es.take fr, l, es.drop to] _ ?hrw ?htot (show 3 ≤ 1000 by decide)).mono ?_
    case hrw => exact HRWS.out
    case htot => exact HTOT.out
    rintro en w4 ⟨v4, rfl, ho4, hb4⟩
    obtain ⟨ao4, cap4, rfl, -⟩ := ho4.form
    have HO4 := Lib.hid ho4
    have HB4 := Lib.hid (hal.out.trans (hb4.mono hal.out.size))
    have c4 : w4.cell? ⟨b, o + 2, none⟩ = some (.slice ao n cap) := (HB4.out.cell (show (⟨b, o + 2, none⟩ : Addr).block < _ from HLT.out)).trans HC.out
    have f4 : w4.frozen? ⟨b, o + 2, none⟩ = false := (World.frozen?_of_block (HB4.out.block b HLT.out)).trans HF.out
    clear ho4 hb4
    refine hK.out _ _ (HB4.out.size) (fun hS => ?_)
    clear hK K
    try simp only [Act.put, List.setIfInBounds_toArray, List.set_cons_zero, List.set_cons_succ]
    refine wpAnyH_take (i := 16) (oi := ⟨some 24, _, _, _, _, _⟩) (v := ?_) rfl (by kernel_rfl) (by kernel_rfl) (by kernel_rfl) (fun _ _ _ h => h) (Or.inl ⟨by simp only [Region.wanted], ?_⟩) hS ?_
    rotate_left
    · intro wz hSw
      clear hSw
      go_simp
      first | done | with_reducible rfl
    try simp only [Act.put, List.setIfInBounds_toArray, List.set_cons_zero, List.set_cons_succ]
    refine wpAnyH_take (i := 17) (oi := ⟨some 25, _, _, _, _, _⟩) (v := ?_) rfl (by kernel_rfl) (by kernel_rfl) (by kernel_rfl) (fun _ _ _ h => h) (Or.inl ⟨by simp only [Region.wanted], ?_⟩) hS ?_
    rotate_left
    · intro wz hSw
      clear hSw
      go_simp
      first | done | with_reducible rfl
    try simp only [Act.put, List.setIfInBounds_toArray, List.set_cons_zero, List.set_cons_succ]
    refine wpAnyH_ready (rs := [18]) (by kernel_rfl) (by simp) ?_
    refine AllReadyH.cons (o := ⟨none, _, _, _, _, _⟩) rfl (fun K hK => ?_) AllReadyH.nil
    go_simp
    refine hK.out _ _ (by have := HB4.out.size; simpa using this) (fun hS => ?_)
    clear hK K
    try simp only [Act.put, List.setIfInBounds_toArray, List.set_cons_zero, List.set_cons_succ]
    refine wpAnyH_done (by kernel_rfl) ?_ _
    clear hS
    go_wp2_with fail
    all_goals
      go_end0
      exact ⟨rfl, _, w4, rfl, HB4.out, by have := HO4.out.mono hal.out.size; simpa using this⟩
end Go.Proofs.Ytcnfnpccbnnplaa
