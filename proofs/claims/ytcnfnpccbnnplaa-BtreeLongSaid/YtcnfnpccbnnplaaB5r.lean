/- Set: at a tree of one leaf that stays one. -/
import Derived.Test.YtcnfnpccbnnplaaB5q
namespace Go.Proofs.Ytcnfnpccbnnplaa
open Go.RowKit Go.Maps
set_option maxRecDepth 100000
set_option linter.unusedVariables false

/-- A leaf's entries with a key set. -/
def setEs (es : List Ent) (key val : ByteArray) (m : Nat) : List Ent := es.take m ++ [⟨key, val, 0⟩] ++ es.drop (if hasOf es m key then m + 1 else m)

set_option maxHeartbeats 4000000 in
theorem set_leaf {w0 w : World} {X : Nat → Prop} {r p N M c : Nat} {G H : Lg} (h : Pb w0 w X r p N M c G (some H)) {root : Int} {es : List Ent} (hn : NodeAt N H root 0 es) (hl : ∀ e ∈ es, LeafE e) (key val : ByteArray) (hk : key.size ≤ 140) (hkv : key.size + val.size ≤ 150)
    (hfit : ∀ m, PlaceOf es key m → sizes 0 (setEs es key val m) ≤ 502) (hwf : (Lit.int .i64 root).wf = true) (hc : c + 200000 < 500000) :
    Calls Try.prog 29 #[.pointer (some ⟨p, 0, none⟩), .int .i64 root, .string key, .string val] w fun e w' => ∃ m c', PlaceOf es key m ∧ e = .returned (.tuple #[.int .i64 root, .int .i64 0]) ∧ c' ≤ c + 200000 ∧ Pb w0 w' X r p N M c' G (some { H with page := upd H.page root.toNat (page (enc 0 (setEs es key val m))) }) ∧ Mx w0 X w w' := by
  have HCH := Lib.hid (changing_leaf h hn key)
  have HU := Lib.hid hn.used
  have HFEW := Lib.hid hn.few
  have HL := Lib.hid hl
  have HFIT := Lib.hid hfit
  have HWF := Lib.hid hwf
  have i1 : ¬ (140 : Int) < key.size := by omega
  have i2 : ¬ (150 : Int) < (key.size : Int) + val.size := by omega
  have i3 : (key.size : Int) + val.size ≤ 1000 := by omega
  clear h hn hl hfit hwf
  go_enter Try.func29, Try.ntmps29
  go_wp2_with fail
  go_step3
  go_wp2_with fail
  refine HCH.out.mono ?_
  rintro en w2 ⟨w1, m, g, cp, v, rfl, h1, hm1, ⟨hpl, hx1, hx2, hst, ho⟩, hb2⟩
  have hcell : ∀ j u, [Value.int .i64 root, .int .i64 0, v, .int .i64 m][j]? = some u → w2.cell? ⟨g, j, none⟩ = some u ∧ w2.frozen? ⟨g, j, none⟩ = false := by
    intro j u hj
    have hlt : j < 4 := by have := (List.getElem?_eq_some_iff.1 hj).1; exact this
    rcases hst.2 with ⟨e, -⟩ | ⟨g', cap', cur, e, -, hh, k1, k2, k3, k4⟩
    · cases e
    · simp only [Value.slice.injEq, Option.some.injEq, Addr.mk.injEq, and_true] at e
      obtain ⟨rfl, -, rfl⟩ := e
      refine ⟨?_, frozen_of_row w2 g j cur _ hh⟩
      rw [cell_of_row w2 g j cur _ (0, 0) hh, ← Array.getElem?_toList, ← hj, ← k4, List.getElem?_take, if_pos (by omega)]
  obtain ⟨k0, -⟩ := hcell 0 _ rfl
  obtain ⟨k1, -⟩ := hcell 1 _ rfl
  obtain ⟨k2, f2⟩ := hcell 2 _ rfl
  obtain ⟨k3, -⟩ := hcell 3 _ rfl
  have hg : w1.heap.size ≤ g ∧ g < w2.heap.size := hst.lt g rfl
  have hob := ho.lt
  have hen := ho.ens
  obtain ⟨ao, cap, rfl, -⟩ := hen.form
  have hhas := fun w => has_any root 0 (.slice ao es.length cap) es m key w
  obtain ⟨n, hn⟩ : ∃ n, n = es.length := ⟨_, rfl⟩
  have hmn := hpl.1
  rw [← hn] at k2 hhas hen hob hmn
  have HN := Lib.hid hn
  have HP2 := Lib.hid (h1.take hb2)
  have HM1 := Lib.hid hm1
  have HW01 := Lib.hid h1.below.size
  have HB2 := Lib.hid hb2
  have HPL := Lib.hid hpl
  have HEN := Lib.hid hen
  have HOB := Lib.hid hob
  have HG := Lib.hid hg
  have HHAS := Lib.hid hhas
  have K0 := Lib.hid k0
  have K1 := Lib.hid k1
  have K2 := Lib.hid k2
  have K3 := Lib.hid k3
  have F2 := Lib.hid f2
  clear h1 hm1 hpl hst ho hb2 hcell hob hen hhas hn hg f2 HCH
  go_wp2_with fail
  refine (HHAS.out _ HEN.out (by have := HN.out; have := HFEW.out; omega) hmn).mono ?_
  rintro en w3 ⟨rfl, hb3⟩
  have hb23 := hb3
  have d0 := (hb3.cell (World.block_lt_of_cell? w2 _ K0.out)).trans K0.out
  have d1 := (hb3.cell (World.block_lt_of_cell? w2 _ K1.out)).trans K1.out
  have d2 := (hb3.cell (World.block_lt_of_cell? w2 _ K2.out)).trans K2.out
  have d3 := (hb3.cell (World.block_lt_of_cell? w2 _ K3.out)).trans K3.out
  have D0 := Lib.hid d0
  have D1 := Lib.hid d1
  have D2 := Lib.hid d2
  have D3 := Lib.hid d3
  have hg2 : g < w2.heap.size := HG.out.2
  have DF := Lib.hid ((World.frozen?_of_block (a := ⟨g, 2, none⟩) (hb3.block g hg2)).trans F2.out)
  have HB3 := Lib.hid (HB2.out.trans (hb3.mono HB2.out.size))
  have HB23 := Lib.hid hb3
  have HEN3 := Lib.hid (Ens.below HEN.out hb3)
  have HG3 := Lib.hid (show w1.heap.size ≤ g ∧ g < w3.heap.size from ⟨HG.out.1, Nat.lt_of_lt_of_le hg2 hb3.size⟩)
  obtain ⟨t, ht⟩ : ∃ t, t = hasOf es m key := ⟨_, rfl⟩
  rw [← ht]
  have HT := Lib.hid ht
  have hml : t = true → m < n := fun e => by
    rw [ht] at e
    unfold hasOf at e
    by_cases hlt : m < es.length
    · rw [HN.out]; exact hlt
    · rw [List.getElem?_eq_none (by omega)] at e; cases e
  have hn4 : n ≤ 10000 := by have := HN.out; have := HFEW.out; omega
  clear hb3 hb23 ht k0 k1 k2 k3 hg2
  cases t with
  | true =>
    have hmt := hml rfl
    have hto : m + 1 ≤ n := by omega
    have hto' : ((m + 1 : Nat) : Int) ≤ n := by omega
    clear hml
    have hal : Below w3.heap.size w3 (w3.drew.alloc (.cells #[.string key, .string val, .int .i64 0] 117)) := (Below.refl w3.heap.size w3).drew.alloc (Nat.le_refl _) _
    have hone := Ens.one (w := w3.drew.alloc (.cells #[.string key, .string val, .int .i64 0] 117)) (g := w3.heap.size) ⟨key, val, 0⟩ (Blk.new w3.drew #[.string key, .string val, .int .i64 0] 117)
    have hput := put_any g 0 m (m + 1) (.slice ao n cap) (.slice (some ⟨w3.heap.size, 0, none⟩) 1 1) es [⟨key, val, 0⟩] (w3.drew.alloc (.cells #[.string key, .string val, .int .i64 0] 117)) ((hal.cell (show (⟨g, 0 + 2, none⟩ : Addr).block < _ from HG3.out.2)).trans D2.out) ((World.frozen?_of_block (a := ⟨g, 0 + 2, none⟩) (hal.block g HG3.out.2)).trans DF.out) (Ens.below HEN3.out hal) hone (by rw [← HN.out]; exact hmn) (by rw [← HN.out]; exact hto) (by have := HFEW.out; omega) (show 1 ≤ 10000 by decide)
    rw [show (((m + 1 : Nat)) : Int) = (m : Int) + 1 by omega] at hput
    have HPUT := Lib.hid hput
    have HAL := Lib.hid hal
    clear hal hone hput
    go_wp2_with fail
    refine wp_region_any (by kernel_rfl) ?_
    change wpAny _ _ _ _ _ _ _ (World.drew _)
    refine wpAny_of_held (S := fun (w' : World) => w'.cell? ⟨g, 3, none⟩ = some (.int .i64 m)) _ _ _ _ ?_
    have hS : (fun (w' : World) => w'.cell? ⟨g, 3, none⟩ = some (.int .i64 m)) _ := D3.out
    try simp only [Act.put, List.setIfInBounds_toArray, List.set_cons_zero, List.set_cons_succ]
    refine wpAnyH_take (i := 0) (oi := ⟨some 50, _, _, _, _, _⟩) (v := ?_) rfl (by kernel_rfl) (by kernel_rfl) (by kernel_rfl) (fun _ _ _ h => h) (Or.inl ⟨by simp only [Region.wanted], ?_⟩) hS ?_
    rotate_left
    · intro wz hSw
      clear hSw
      go_simp
      first | done | with_reducible rfl
    try simp only [Act.put, List.setIfInBounds_toArray, List.set_cons_zero, List.set_cons_succ]
    refine wpAnyH_take (i := 1) (oi := ⟨some 51, _, _, _, _, _⟩) (v := ?_) rfl (by kernel_rfl) (by kernel_rfl) (by kernel_rfl) (fun _ _ _ h => h) (Or.inl ⟨by simp only [Region.wanted], ?_⟩) hS ?_
    rotate_left
    · intro wz hSw
      clear hSw
      go_simp
      first | done | with_reducible rfl
    try simp only [Act.put, List.setIfInBounds_toArray, List.set_cons_zero, List.set_cons_succ]
    refine wpAnyH_take (i := 2) (oi := ⟨some 52, _, _, _, _, _⟩) (v := ?_) rfl (by kernel_rfl) (by kernel_rfl) (by kernel_rfl) (fun _ _ _ h => h) (Or.inl ⟨by simp only [Region.wanted], ?_⟩) hS ?_
    rotate_left
    · intro wz hSw
      clear hSw
      go_simp
      first | done | with_reducible rfl
    try simp only [Act.put, List.setIfInBounds_toArray, List.set_cons_zero, List.set_cons_succ]
    refine wpAnyH_take (i := 3) (oi := ⟨some 53, _, _, _, _, _⟩) (v := ?_) rfl (by kernel_rfl) (by kernel_rfl) (by kernel_rfl) (fun _ _ _ h => h) (Or.inl ⟨by simp only [Region.wanted], ?_⟩) hS ?_
    rotate_left
    · intro wz hSw
      clear hSw
      go_simp
      first | done | with_reducible rfl
    try simp only [Act.put, List.setIfInBounds_toArray, List.set_cons_zero, List.set_cons_succ]
    refine wpAnyH_take (i := 4) (oi := ⟨some 54, _, _, _, _, _⟩) (v := ?_) rfl (by kernel_rfl) (by kernel_rfl) (by kernel_rfl) (fun _ _ _ h => h) (Or.inl ⟨by simp only [Region.wanted], ?_⟩) hS ?_
    rotate_left
    · intro wz hSw
      clear hSw
      go_simp
      first | done | with_reducible rfl
    try simp only [Act.put, List.setIfInBounds_toArray, List.set_cons_zero, List.set_cons_succ]
    refine wpAnyH_take (i := 5) (oi := ⟨some 55, _, _, _, _, _⟩) (v := ?_) rfl (by kernel_rfl) (by kernel_rfl) (by kernel_rfl) (fun _ _ _ h => h) (Or.inl ⟨by simp only [Region.wanted], ?_⟩) hS ?_
    rotate_left
    · intro wz hSw
      clear hSw
      go_simp
      first | done | with_reducible rfl
    try simp only [Act.put, List.setIfInBounds_toArray, List.set_cons_zero, List.set_cons_succ]
    refine wpAnyH_take (i := 6) (oi := ⟨some 56, _, _, _, _, _⟩) (v := ?_) rfl (by kernel_rfl) (by kernel_rfl) (by kernel_rfl) (fun _ _ _ h => h) (Or.inl ⟨by simp only [Region.wanted], ?_⟩) hS ?_
    rotate_left
    · intro wz hSw
      (try dsimp only at hSw)
      (try go_split_ands)
      go_simp
      first | done | with_reducible rfl
    try simp only [Act.put, List.setIfInBounds_toArray, List.set_cons_zero, List.set_cons_succ]
    refine wpAnyH_take (i := 7) (oi := ⟨some 57, _, _, _, _, _⟩) (v := ?_) rfl (by kernel_rfl) (by kernel_rfl) (by kernel_rfl) (fun _ _ _ h => h) (Or.inl ⟨by simp only [Region.wanted], ?_⟩) hS ?_
    rotate_left
    · intro wz hSw
      clear hSw
      go_simp
      first | done | with_reducible rfl
    try simp only [Act.put, List.setIfInBounds_toArray, List.set_cons_zero, List.set_cons_succ]
    refine wpAnyH_take (i := 8) (oi := ⟨some 58, _, _, _, _, _⟩) (v := ?_) rfl (by kernel_rfl) (by kernel_rfl) (by kernel_rfl) (fun _ _ _ h => h) (Or.inl ⟨by simp only [Region.wanted], ?_⟩) hS ?_
    rotate_left
    · intro wz hSw
      clear hSw
      go_simp
      first | done | with_reducible rfl
    try simp only [Act.put, List.setIfInBounds_toArray, List.set_cons_zero, List.set_cons_succ]
    refine wpAnyH_take (i := 9) (oi := ⟨some 59, _, _, _, _, _⟩) (v := ?_) rfl (by kernel_rfl) (by kernel_rfl) (by kernel_rfl) (fun _ _ _ h => h) (Or.inl ⟨by simp only [Region.wanted], ?_⟩) hS ?_
    rotate_left
    · intro wz hSw
      clear hSw
      go_simp
      first | done | with_reducible rfl
    try simp only [Act.put, List.setIfInBounds_toArray, List.set_cons_zero, List.set_cons_succ]
    refine wpAnyH_take (i := 10) (oi := ⟨some 60, _, _, _, _, _⟩) (v := ?_) rfl (by kernel_rfl) (by kernel_rfl) (by kernel_rfl) (fun _ _ _ h => h) (Or.inl ⟨by simp only [Region.wanted], ?_⟩) hS ?_
    rotate_left
    · intro wz hSw
      clear hSw
      go_simp
      first | done | with_reducible rfl
    try simp only [Act.put, List.setIfInBounds_toArray, List.set_cons_zero, List.set_cons_succ]
    refine wpAnyH_ready (rs := [11]) (by kernel_rfl) (by simp) ?_
    refine AllReadyH.cons (o := ⟨some 61, _, _, _, _, _⟩) rfl (fun K hK => ?_) AllReadyH.nil
    go_simp
    refine hK.out _ _ ((HAL.out.cell (show (⟨g, 3, none⟩ : Addr).block < _ from HG3.out.2)).trans D3.out) (fun hS => ?_)
    clear hK K
    try simp only [Act.put, List.setIfInBounds_toArray, List.set_cons_zero, List.set_cons_succ]
    refine wpAnyH_ready (rs := [12]) (by kernel_rfl) (by simp) ?_
    refine AllReadyH.cons (o := ⟨some 62, _, _, _, _, _⟩) rfl (fun K hK => ?_) AllReadyH.nil
    go_simp
    refine HPUT.out.mono ?_
    rintro en w5 ⟨rfl, v', w4, rfl, hb4, ho4⟩
    generalize hLE : es.take m ++ [⟨key, val, 0⟩] ++ es.drop (m + 1) = L at ho4
    have HLE := Lib.hid hLE
    clear hLE
    obtain ⟨ao4, cap4, rfl, -⟩ := ho4.form
    obtain ⟨nL, hnL⟩ : ∃ nL, nL = L.length := ⟨_, rfl⟩
    rw [← hnL] at ho4 ⊢
    have HNL := Lib.hid hnL
    clear hnL
    have HB4 := Lib.hid (HAL.out.trans (hb4.mono HAL.out.size))
    have HO4 := Lib.hid ho4
    clear hb4 ho4
    refine hK.out _ _ (by rw [World.cell?_setCell_other _ _ _ _ (by simp)]; exact (HB4.out.cell (show (⟨g, 3, none⟩ : Addr).block < _ from HG3.out.2)).trans D3.out) (fun hS => ?_)
    clear hK K
    try simp only [Act.put, List.setIfInBounds_toArray, List.set_cons_zero, List.set_cons_succ]
    refine wpAnyH_done (by kernel_rfl) ?_ _
    clear hS
    have hes' : es.take m ++ [⟨key, val, 0⟩] ++ es.drop (m + 1) = setEs es key val m := by unfold setEs; rw [← HT.out]; rfl
    have hLs : L = setEs es key val m := by rw [← HLE.out]; exact hes'
    have hms : Moved (· = g) w4 (w4.setCell ⟨g, 0 + 2, none⟩ (.slice ao4 nL cap4)) := (Moved.refl (· = g) w4).setCell _ _ (.inl rfl)
    have hmw : Moved (fun q => w1.heap.size ≤ q) w1 (w4.setCell ⟨g, 0 + 2, none⟩ (.slice ao4 nL cap4)) := (Moved.of_below (HB3.out.trans (HB4.out.mono HB3.out.size)) (fun q => w1.heap.size ≤ q)).trans hms (fun j hj => by rw [hj]; exact .inl HG3.out.1)
    have e0 : (w4.setCell ⟨g, 0 + 2, none⟩ (.slice ao4 nL cap4)).cell? ⟨g, 0, none⟩ = some (.int .i64 root) := by rw [World.cell?_setCell_other _ _ _ _ (by simp)]; exact (HB4.out.cell (show (⟨g, 0, none⟩ : Addr).block < _ from HG3.out.2)).trans D0.out
    have e1 : (w4.setCell ⟨g, 0 + 2, none⟩ (.slice ao4 nL cap4)).cell? ⟨g, 1, none⟩ = some (.int .i64 0) := by rw [World.cell?_setCell_other _ _ _ _ (by simp)]; exact (HB4.out.cell (show (⟨g, 1, none⟩ : Addr).block < _ from HG3.out.2)).trans D1.out
    have e2 : (w4.setCell ⟨g, 0 + 2, none⟩ (.slice ao4 nL cap4)).cell? ⟨g, 2, none⟩ = some (.slice ao4 nL cap4) := World.cell?_setCell_same w4 _ _ ((HB4.out.cell (show (⟨g, 2, none⟩ : Addr).block < _ from HG3.out.2)).trans D2.out)
    have hbt := HB2.out.trans ((show Below w2.heap.size w2 w3 from HB23.out).mono HB2.out.size)
    have hb24 : Below w2.heap.size w2 w4 := HB23.out.trans (HB4.out.mono HB23.out.size)
    have hmo : Ens (w4.setCell ⟨g, 0 + 2, none⟩ (.slice ao4 nL cap4)) (.slice ao4 nL cap4) L := (HO4.out.moved hms (fun q hq e => by have := (HO4.out.lt q hq).1; have := HAL.out.size; have := HG3.out.2; omega)).ens
    have hp5 := (HP2.out.take hb24).mv hms (fun k e => ⟨.inl (.inr (by rw [e]; exact HG.out)), by rw [e]; exact Nat.le_trans HW01.out HG.out.1⟩)
    have hset := settle_leaf hp5 root g cp (.slice ao4 nL cap4) L e0 e1 e2 hmo (fun q hq => .inr (.inr ⟨by have := (HO4.out.lt q hq).1; have := HAL.out.size; have := HB23.out.size; omega, (HO4.out.lt q hq).2⟩))
      (fun e he => by
        rw [hLs] at he
        unfold setEs at he
        rcases List.mem_append.1 he with he | he
        · rcases List.mem_append.1 he with he | he
          · exact HL.out e (List.mem_of_mem_take he)
          · simp only [List.mem_singleton] at he
            subst he
            exact ⟨rfl, by show key.size ≤ 255; omega, by show val.size ≤ 60000; omega⟩
        · exact HL.out e (List.mem_of_mem_drop he))
      (by rw [hLs]; exact HFIT.out m HPL.out) HU.out HWF.out hx1 hc
    have HSET := Lib.hid hset
    have HLS := Lib.hid hLs
    have HMM := Lib.hid (Moved.trans (P := fun k => w0.heap.size ≤ k ∧ ¬ X k) HM1.out hmw (fun j hj => .inr (Nat.le_trans HM1.out.size hj)))
    clear hes' hLs hms hmw e0 e1 e2 hbt hb24 hmo hp5 hset d0 d1 d2 d3
    go_wp2_with fail
    refine HSET.out.mono ?_
    rintro en w6 ⟨c', rfl, hc', hp6, hm6⟩
    have HP6 := Lib.hid hp6
    have HM6 := Lib.hid (Mx.trans (w0 := w0) (X := X) HMM.out (hm6.mono (fun j hj => ⟨hj.1, fun e => hj.2 (.inl (.inl e))⟩)))
    clear hp6 hm6 HSET
    go_wp2_with fail
    repeat rw [Exit.noGoto_ret]
    go_ret2
    refine ⟨m, c', HPL.out, rfl, hc', ?_, HM6.out⟩
    have hp := HP6.out.less (X' := X) (fun j hj => .inl (.inl hj))
    rw [HLS.out] at hp
    exact hp
  | false =>
    have hto : m ≤ n := by omega
    have hto' : ((m : Nat) : Int) ≤ n := by omega
    clear hml
    have hal : Below w3.heap.size w3 (w3.drew.alloc (.cells #[.string key, .string val, .int .i64 0] 117)) := (Below.refl w3.heap.size w3).drew.alloc (Nat.le_refl _) _
    have hone := Ens.one (w := w3.drew.alloc (.cells #[.string key, .string val, .int .i64 0] 117)) (g := w3.heap.size) ⟨key, val, 0⟩ (Blk.new w3.drew #[.string key, .string val, .int .i64 0] 117)
    have hput := put_any g 0 m (m) (.slice ao n cap) (.slice (some ⟨w3.heap.size, 0, none⟩) 1 1) es [⟨key, val, 0⟩] (w3.drew.alloc (.cells #[.string key, .string val, .int .i64 0] 117)) ((hal.cell (show (⟨g, 0 + 2, none⟩ : Addr).block < _ from HG3.out.2)).trans D2.out) ((World.frozen?_of_block (a := ⟨g, 0 + 2, none⟩) (hal.block g HG3.out.2)).trans DF.out) (Ens.below HEN3.out hal) hone (by rw [← HN.out]; exact hmn) (by rw [← HN.out]; exact hto) (by have := HFEW.out; omega) (show 1 ≤ 10000 by decide)
    have HPUT := Lib.hid hput
    have HAL := Lib.hid hal
    clear hal hone hput
    go_wp2_with fail
    refine wp_region_any (by kernel_rfl) ?_
    change wpAny _ _ _ _ _ _ _ (World.drew _)
    refine wpAny_of_held (S := fun (w' : World) => w'.cell? ⟨g, 3, none⟩ = some (.int .i64 m)) _ _ _ _ ?_
    have hS : (fun (w' : World) => w'.cell? ⟨g, 3, none⟩ = some (.int .i64 m)) _ := D3.out
    try simp only [Act.put, List.setIfInBounds_toArray, List.set_cons_zero, List.set_cons_succ]
    refine wpAnyH_take (i := 0) (oi := ⟨some 50, _, _, _, _, _⟩) (v := ?_) rfl (by kernel_rfl) (by kernel_rfl) (by kernel_rfl) (fun _ _ _ h => h) (Or.inl ⟨by simp only [Region.wanted], ?_⟩) hS ?_
    rotate_left
    · intro wz hSw
      clear hSw
      go_simp
      first | done | with_reducible rfl
    try simp only [Act.put, List.setIfInBounds_toArray, List.set_cons_zero, List.set_cons_succ]
    refine wpAnyH_take (i := 1) (oi := ⟨some 51, _, _, _, _, _⟩) (v := ?_) rfl (by kernel_rfl) (by kernel_rfl) (by kernel_rfl) (fun _ _ _ h => h) (Or.inl ⟨by simp only [Region.wanted], ?_⟩) hS ?_
    rotate_left
    · intro wz hSw
      clear hSw
      go_simp
      first | done | with_reducible rfl
    try simp only [Act.put, List.setIfInBounds_toArray, List.set_cons_zero, List.set_cons_succ]
    refine wpAnyH_take (i := 2) (oi := ⟨some 52, _, _, _, _, _⟩) (v := ?_) rfl (by kernel_rfl) (by kernel_rfl) (by kernel_rfl) (fun _ _ _ h => h) (Or.inl ⟨by simp only [Region.wanted], ?_⟩) hS ?_
    rotate_left
    · intro wz hSw
      clear hSw
      go_simp
      first | done | with_reducible rfl
    try simp only [Act.put, List.setIfInBounds_toArray, List.set_cons_zero, List.set_cons_succ]
    refine wpAnyH_take (i := 3) (oi := ⟨some 53, _, _, _, _, _⟩) (v := ?_) rfl (by kernel_rfl) (by kernel_rfl) (by kernel_rfl) (fun _ _ _ h => h) (Or.inl ⟨by simp only [Region.wanted], ?_⟩) hS ?_
    rotate_left
    · intro wz hSw
      clear hSw
      go_simp
      first | done | with_reducible rfl
    try simp only [Act.put, List.setIfInBounds_toArray, List.set_cons_zero, List.set_cons_succ]
    refine wpAnyH_take (i := 4) (oi := ⟨some 54, _, _, _, _, _⟩) (v := ?_) rfl (by kernel_rfl) (by kernel_rfl) (by kernel_rfl) (fun _ _ _ h => h) (Or.inl ⟨by simp only [Region.wanted], ?_⟩) hS ?_
    rotate_left
    · intro wz hSw
      clear hSw
      go_simp
      first | done | with_reducible rfl
    try simp only [Act.put, List.setIfInBounds_toArray, List.set_cons_zero, List.set_cons_succ]
    refine wpAnyH_take (i := 5) (oi := ⟨some 55, _, _, _, _, _⟩) (v := ?_) rfl (by kernel_rfl) (by kernel_rfl) (by kernel_rfl) (fun _ _ _ h => h) (Or.inl ⟨by simp only [Region.wanted], ?_⟩) hS ?_
    rotate_left
    · intro wz hSw
      clear hSw
      go_simp
      first | done | with_reducible rfl
    try simp only [Act.put, List.setIfInBounds_toArray, List.set_cons_zero, List.set_cons_succ]
    refine wpAnyH_take (i := 6) (oi := ⟨some 56, _, _, _, _, _⟩) (v := ?_) rfl (by kernel_rfl) (by kernel_rfl) (by kernel_rfl) (fun _ _ _ h => h) (Or.inl ⟨by simp only [Region.wanted], ?_⟩) hS ?_
    rotate_left
    · intro wz hSw
      (try dsimp only at hSw)
      (try go_split_ands)
      go_simp
      first | done | with_reducible rfl
    try simp only [Act.put, List.setIfInBounds_toArray, List.set_cons_zero, List.set_cons_succ]
    refine wpAnyH_take (i := 7) (oi := ⟨some 57, _, _, _, _, _⟩) (v := ?_) rfl (by kernel_rfl) (by kernel_rfl) (by kernel_rfl) (fun _ _ _ h => h) (Or.inl ⟨by simp only [Region.wanted], ?_⟩) hS ?_
    rotate_left
    · intro wz hSw
      clear hSw
      go_simp
      first | done | with_reducible rfl
    try simp only [Act.put, List.setIfInBounds_toArray, List.set_cons_zero, List.set_cons_succ]
    refine wpAnyH_take (i := 8) (oi := ⟨some 58, _, _, _, _, _⟩) (v := ?_) rfl (by kernel_rfl) (by kernel_rfl) (by kernel_rfl) (fun _ _ _ h => h) (Or.inl ⟨by simp only [Region.wanted], ?_⟩) hS ?_
    rotate_left
    · intro wz hSw
      clear hSw
      go_simp
      first | done | with_reducible rfl
    try simp only [Act.put, List.setIfInBounds_toArray, List.set_cons_zero, List.set_cons_succ]
    refine wpAnyH_take (i := 9) (oi := ⟨some 59, _, _, _, _, _⟩) (v := ?_) rfl (by kernel_rfl) (by kernel_rfl) (by kernel_rfl) (fun _ _ _ h => h) (Or.inl ⟨by simp only [Region.wanted], ?_⟩) hS ?_
    rotate_left
    · intro wz hSw
      clear hSw
      go_simp
      first | done | with_reducible rfl
    try simp only [Act.put, List.setIfInBounds_toArray, List.set_cons_zero, List.set_cons_succ]
    refine wpAnyH_take (i := 10) (oi := ⟨some 60, _, _, _, _, _⟩) (v := ?_) rfl (by kernel_rfl) (by kernel_rfl) (by kernel_rfl) (fun _ _ _ h => h) (Or.inl ⟨by simp only [Region.wanted], ?_⟩) hS ?_
    rotate_left
    · intro wz hSw
      clear hSw
      go_simp
      first | done | with_reducible rfl
    try simp only [Act.put, List.setIfInBounds_toArray, List.set_cons_zero, List.set_cons_succ]
    refine wpAnyH_ready (rs := [11]) (by kernel_rfl) (by simp) ?_
    refine AllReadyH.cons (o := ⟨some 61, _, _, _, _, _⟩) rfl (fun K hK => ?_) AllReadyH.nil
    go_simp
    refine hK.out _ _ ((HAL.out.cell (show (⟨g, 3, none⟩ : Addr).block < _ from HG3.out.2)).trans D3.out) (fun hS => ?_)
    clear hK K
    try simp only [Act.put, List.setIfInBounds_toArray, List.set_cons_zero, List.set_cons_succ]
    refine wpAnyH_ready (rs := [12]) (by kernel_rfl) (by simp) ?_
    refine AllReadyH.cons (o := ⟨some 62, _, _, _, _, _⟩) rfl (fun K hK => ?_) AllReadyH.nil
    go_simp
    refine HPUT.out.mono ?_
    rintro en w5 ⟨rfl, v', w4, rfl, hb4, ho4⟩
    generalize hLE : es.take m ++ [⟨key, val, 0⟩] ++ es.drop (m) = L at ho4
    have HLE := Lib.hid hLE
    clear hLE
    obtain ⟨ao4, cap4, rfl, -⟩ := ho4.form
    obtain ⟨nL, hnL⟩ : ∃ nL, nL = L.length := ⟨_, rfl⟩
    rw [← hnL] at ho4 ⊢
    have HNL := Lib.hid hnL
    clear hnL
    have HB4 := Lib.hid (HAL.out.trans (hb4.mono HAL.out.size))
    have HO4 := Lib.hid ho4
    clear hb4 ho4
    refine hK.out _ _ (by rw [World.cell?_setCell_other _ _ _ _ (by simp)]; exact (HB4.out.cell (show (⟨g, 3, none⟩ : Addr).block < _ from HG3.out.2)).trans D3.out) (fun hS => ?_)
    clear hK K
    try simp only [Act.put, List.setIfInBounds_toArray, List.set_cons_zero, List.set_cons_succ]
    refine wpAnyH_done (by kernel_rfl) ?_ _
    clear hS
    have hes' : es.take m ++ [⟨key, val, 0⟩] ++ es.drop (m) = setEs es key val m := by unfold setEs; rw [← HT.out]; rfl
    have hLs : L = setEs es key val m := by rw [← HLE.out]; exact hes'
    have hms : Moved (· = g) w4 (w4.setCell ⟨g, 0 + 2, none⟩ (.slice ao4 nL cap4)) := (Moved.refl (· = g) w4).setCell _ _ (.inl rfl)
    have hmw : Moved (fun q => w1.heap.size ≤ q) w1 (w4.setCell ⟨g, 0 + 2, none⟩ (.slice ao4 nL cap4)) := (Moved.of_below (HB3.out.trans (HB4.out.mono HB3.out.size)) (fun q => w1.heap.size ≤ q)).trans hms (fun j hj => by rw [hj]; exact .inl HG3.out.1)
    have e0 : (w4.setCell ⟨g, 0 + 2, none⟩ (.slice ao4 nL cap4)).cell? ⟨g, 0, none⟩ = some (.int .i64 root) := by rw [World.cell?_setCell_other _ _ _ _ (by simp)]; exact (HB4.out.cell (show (⟨g, 0, none⟩ : Addr).block < _ from HG3.out.2)).trans D0.out
    have e1 : (w4.setCell ⟨g, 0 + 2, none⟩ (.slice ao4 nL cap4)).cell? ⟨g, 1, none⟩ = some (.int .i64 0) := by rw [World.cell?_setCell_other _ _ _ _ (by simp)]; exact (HB4.out.cell (show (⟨g, 1, none⟩ : Addr).block < _ from HG3.out.2)).trans D1.out
    have e2 : (w4.setCell ⟨g, 0 + 2, none⟩ (.slice ao4 nL cap4)).cell? ⟨g, 2, none⟩ = some (.slice ao4 nL cap4) := World.cell?_setCell_same w4 _ _ ((HB4.out.cell (show (⟨g, 2, none⟩ : Addr).block < _ from HG3.out.2)).trans D2.out)
    have hbt := HB2.out.trans ((show Below w2.heap.size w2 w3 from HB23.out).mono HB2.out.size)
    have hb24 : Below w2.heap.size w2 w4 := HB23.out.trans (HB4.out.mono HB23.out.size)
    have hmo : Ens (w4.setCell ⟨g, 0 + 2, none⟩ (.slice ao4 nL cap4)) (.slice ao4 nL cap4) L := (HO4.out.moved hms (fun q hq e => by have := (HO4.out.lt q hq).1; have := HAL.out.size; have := HG3.out.2; omega)).ens
    have hp5 := (HP2.out.take hb24).mv hms (fun k e => ⟨.inl (.inr (by rw [e]; exact HG.out)), by rw [e]; exact Nat.le_trans HW01.out HG.out.1⟩)
    have hset := settle_leaf hp5 root g cp (.slice ao4 nL cap4) L e0 e1 e2 hmo (fun q hq => .inr (.inr ⟨by have := (HO4.out.lt q hq).1; have := HAL.out.size; have := HB23.out.size; omega, (HO4.out.lt q hq).2⟩))
      (fun e he => by
        rw [hLs] at he
        unfold setEs at he
        rcases List.mem_append.1 he with he | he
        · rcases List.mem_append.1 he with he | he
          · exact HL.out e (List.mem_of_mem_take he)
          · simp only [List.mem_singleton] at he
            subst he
            exact ⟨rfl, by show key.size ≤ 255; omega, by show val.size ≤ 60000; omega⟩
        · exact HL.out e (List.mem_of_mem_drop he))
      (by rw [hLs]; exact HFIT.out m HPL.out) HU.out HWF.out hx1 hc
    have HSET := Lib.hid hset
    have HLS := Lib.hid hLs
    have HMM := Lib.hid (Moved.trans (P := fun k => w0.heap.size ≤ k ∧ ¬ X k) HM1.out hmw (fun j hj => .inr (Nat.le_trans HM1.out.size hj)))
    clear hes' hLs hms hmw e0 e1 e2 hbt hb24 hmo hp5 hset d0 d1 d2 d3
    go_wp2_with fail
    refine HSET.out.mono ?_
    rintro en w6 ⟨c', rfl, hc', hp6, hm6⟩
    have HP6 := Lib.hid hp6
    have HM6 := Lib.hid (Mx.trans (w0 := w0) (X := X) HMM.out (hm6.mono (fun j hj => ⟨hj.1, fun e => hj.2 (.inl (.inl e))⟩)))
    clear hp6 hm6 HSET
    go_wp2_with fail
    repeat rw [Exit.noGoto_ret]
    go_ret2
    refine ⟨m, c', HPL.out, rfl, hc', ?_, HM6.out⟩
    have hp := HP6.out.less (X' := X) (fun j hj => .inl (.inl hj))
    rw [HLS.out] at hp
    exact hp
end Go.Proofs.Ytcnfnpccbnnplaa
