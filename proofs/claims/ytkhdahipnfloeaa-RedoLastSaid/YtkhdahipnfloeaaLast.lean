/- The walk of the law RedoLast. -/
import Derived.Test.YtkhdahipnfloeaaWhole
namespace Go.Proofs.Ytkhdahipnfloeaa
open Go.RowKit
set_option maxRecDepth 100000

/-- The block g, of type t, is a row of texts. -/
def RowT (t : TypeId) (w : World) (g : Nat) (L : List ByteArray) : Prop := Blk w g (strs L).toArray t
theorem RowT.lt {t : TypeId} {w : World} {g : Nat} {L : List ByteArray} (h : RowT t w g L) : g < w.heap.size := Blk.lt h
theorem RowT.cell {t : TypeId} {w : World} {g : Nat} {L : List ByteArray} (h : RowT t w g L) (j : Nat) (hj : j < L.length) : w.cell? ⟨g, j, none⟩ = some (.string L[j]) := by
  rw [Blk.cell h]
  simp [strs, hj]
theorem RowT.frozen {t : TypeId} {w : World} {g : Nat} {L : List ByteArray} (h : RowT t w g L) (j : Nat) : w.frozen? ⟨g, j, none⟩ = false := Blk.frozen h j
theorem RowT.set {t : TypeId} {w : World} {g : Nat} {L : List ByteArray} (h : RowT t w g L) (j : Nat) (b : ByteArray) : RowT t (w.setCell ⟨g, j, none⟩ (.string b)) g (L.set j b) := by
  have := Blk.set h j (.string b)
  unfold RowT
  have e : (strs (L.set j b)).toArray = (strs L).toArray.setIfInBounds j (.string b) := by
    rw [List.setIfInBounds_toArray]
    simp [strs, List.map_set]
  rw [e]
  exact this
theorem RowT.moved {t : TypeId} {P : Nat → Prop} {w w' : World} {g : Nat} {L : List ByteArray} (h : RowT t w g L) (hm : Moved P w w') (hP : ¬ P g) : RowT t w' g L := Blk.moved h hm hP
theorem RowT.ss {t : TypeId} {w : World} {g : Nat} {L : List ByteArray} (h : RowT t w g L) (n cap : Nat) (hn : n = L.length) (hc : L.length ≤ cap) (hm : cap ≤ maxLen) : Ss w (.slice (some ⟨g, 0, none⟩) n cap) L := by
  refine ⟨_, cap, by rw [hn], hc, hm, (fun h => by cases h), fun ad had j u hu => ?_⟩
  cases had
  have hj : j < L.length := by
    have := (List.getElem?_eq_some_iff.1 hu).1
    rwa [strs_length] at this
  have hcell := h.cell j hj
  rw [Addr.add_lit, Nat.zero_add, hcell]
  simpa [strs, hj] using hu
/-- k texts of noughts, and empty ones behind. -/
def begun (k : Nat) : List ByteArray := List.replicate k ⟨(zeros 512).toArray⟩ ++ List.replicate (19 - k) ⟨#[]⟩
theorem begun_length (k : Nat) (h : k ≤ 19) : (begun k).length = 19 := by simp [begun]; omega
theorem begun_set (k : Nat) (h : k < 19) : (begun k).set k ⟨(zeros 512).toArray⟩ = begun (k + 1) := by
  unfold begun
  have e : 19 - k = (19 - (k + 1)) + 1 := by omega
  rw [e, List.replicate_succ, List.set_append, List.length_replicate, if_neg (Nat.lt_irrefl k), Nat.sub_self, List.set_cons_zero, List.replicate_succ', List.append_assoc]
  rfl
theorem begun_all : begun 19 = texts (((List.replicate 420 (zeros 512))).drop 401) := by
  simp [begun, texts, List.drop_replicate]

theorem RowAt.mv {P : Nat → Prop} {w0 w w' : World} {X : Nat → Prop} {b k : Nat} {l : Pages} (h : RowAt w0 w X b k l) (hm : Moved P w w') (hP : ∀ g, (g < w0.heap.size ∨ X g) → ¬ P g) : RowAt w0 w' X b k l := by
  obtain ⟨ao, cap, h1, h2, h3⟩ := h
  have hlt := World.block_lt_of_cell? w _ h1
  exact ⟨ao, cap, (World.cell?_of_block (a := ⟨b, k, none⟩) (hm.block b hlt (hP b (.inr h3)))).trans h1, h2.moved hm hP, h3⟩

set_option maxHeartbeats 8000000 in
theorem last_walk (v1 v2 v3 : Value) (la lb lc : Pages) (w : World) (hp : Pus w (fun g => g < w.heap.size) v1 la) (hq : Pus w (fun g => g < w.heap.size) v2 lb) (hr : Pus w (fun g => g < w.heap.size) v3 lc) :
    Calls Try.prog 9 #[v1, v2, v3] w fun e w' => e = .returned (.bool true) ∧ Below w.heap.size w w' := by
  obtain ⟨ao, acap, rfl, -⟩ := id hp
  obtain ⟨bo, bcap, rfl, -⟩ := id hq
  obtain ⟨co, ccap, rfl, -⟩ := id hr
  have HP := Lib.hid hp
  have HQ := Lib.hid hq
  have HR := Lib.hid hr
  clear hp hq hr
  go_enter Try.func9, Try.ntmps9
  go_wp2_with fail
  refine (l3_known _).mono ?_
  rintro e w1 ⟨rfl, hb1⟩
  have HB1 := Lib.hid hb1
  clear hb1
  go_wp2_with fail
  refine (pfew_any _ la _ w1 (HP.out.below HB1.out)).mono ?_
  rintro e w2 (⟨rfl, hw2⟩ | ⟨rfl, hw2, -⟩)
  · replace hw2 := hw2.symm
    subst hw2
    go_wp2_with fail
    go_ret
    exact ⟨rfl, HB1.out⟩
  replace hw2 := hw2.symm
  subst hw2
  go_wp2_with fail
  refine (pfew_any _ lb _ w1 (HQ.out.below HB1.out)).mono ?_
  rintro e w2 (⟨rfl, hw2⟩ | ⟨rfl, hw2, -⟩)
  · replace hw2 := hw2.symm
    subst hw2
    go_wp2_with fail
    go_ret
    exact ⟨rfl, HB1.out⟩
  replace hw2 := hw2.symm
  subst hw2
  go_wp2_with fail
  refine (pfew_any _ lc _ w1 (HR.out.below HB1.out)).mono ?_
  rintro e w2 (⟨rfl, hw2⟩ | ⟨rfl, hw2, -⟩)
  · replace hw2 := hw2.symm
    subst hw2
    go_wp2_with fail
    go_ret
    exact ⟨rfl, HB1.out⟩
  replace hw2 := hw2.symm
  subst hw2
  go_wp2_with fail
  refine (sx_new (w0 := w) (X := fun _ => False) 420 HB1.out (fun _ h => h.elim)).mono ?_
  rintro e w2 ⟨r, rfl, h2, -⟩
  rw [show sizeOf' 420 = 420 from rfl] at h2
  have H2 := Lib.hid h2
  clear h2
  go_wp2_with fail
  have hal : Below w2.heap.size w2 (w2.alloc (.cells (strs (begun 0)).toArray 63)) := (Below.refl _ _).alloc (Nat.le_refl _) _
  have h3 := H2.out.take hal
  have hrow3 : RowT 63 (w2.alloc (.cells (strs (begun 0)).toArray 63)) w2.heap.size (begun 0) := Blk.new w2 _ _
  have hgw : w.heap.size ≤ w2.heap.size := H2.out.size
  have hX3 : ∀ k, (False ∨ (w2.heap.size ≤ k ∧ k < (w2.alloc (.cells (strs (begun 0)).toArray 63)).heap.size)) → k = w2.heap.size := fun k hk => by
    simp at hk; omega
  have hX3' : (False ∨ (w2.heap.size ≤ w2.heap.size ∧ w2.heap.size < (w2.alloc (.cells (strs (begun 0)).toArray 63)).heap.size)) := by simp
  obtain ⟨X1, hX1⟩ : ∃ X1 : Nat → Prop, X1 = fun k => False ∨ (w2.heap.size ≤ k ∧ k < (w2.alloc (.cells (strs (begun 0)).toArray 63)).heap.size) := ⟨_, rfl⟩
  have hX4 : ∀ k, X1 k → k = w2.heap.size := by rw [hX1]; exact hX3
  have hX5 : X1 w2.heap.size := by rw [hX1]; exact hX3'
  rw [← hX1] at h3
  change Code.wp _ _ _ _ (w2.alloc (.cells (strs (begun 0)).toArray 63))
  obtain ⟨w3, hw3⟩ : ∃ w3, w3 = w2.alloc (.cells (strs (begun 0)).toArray 63) := ⟨_, rfl⟩
  rw [← hw3] at h3 hrow3 ⊢
  clear hX3 hX3' hX1 hal hw3 H2
  obtain ⟨ga, hga⟩ : ∃ g, g = w2.heap.size := ⟨_, rfl⟩
  rw [← hga] at hrow3 hgw hX4 hX5 ⊢
  clear hga
  have H3 := Lib.hid h3
  have HROW3 := Lib.hid hrow3
  have HGW := Lib.hid hgw
  have HX4 := Lib.hid hX4
  have HX5 := Lib.hid hX5
  clear h3 hrow3 hgw hX4 hX5
  go_loopw [9] (fun i wr => ∃ k : Nat, k ≤ 19 ∧ i = .int .i64 k ∧ Moved (· = ga) w3 wr ∧ RowT 63 wr ga (begun k)) (fun i _ => 19 - (intOf i).toNat)
  case atStart => exact ⟨0, Nat.zero_le _, rfl, Moved.refl _ _, HROW3.out⟩
  case round =>
    obtain ⟨k, hk, rfl, hm, hrs⟩ := hrel
    have HM := Lib.hid hm
    have HRS := Lib.hid hrs
    clear hm hrs
    by_cases hlt : k < 19
    · have hk0 : (0 : Int) ≤ k := by omega
      have hk19 : (k : Int) < 19 := by omega
      have hmk := run_make_bytes 512 512 rfl (by omega)
      obtain ⟨Z, hZ⟩ : ∃ Z : ByteArray, Z = ⟨(zeros 512).toArray⟩ := ⟨_, rfl⟩
      obtain ⟨C0, hC0⟩ : ∃ C : Array Value, C = (vbs (zeros 512)).toArray := ⟨_, rfl⟩
      simp only [← hC0] at hmk
      have hal : Below wr.heap.size wr (wr.alloc (.cells C0 5)) := (Below.refl _ _).alloc (Nat.le_refl _) _
      have hbs : Bs (wr.alloc (.cells C0 5)) (.slice (some ⟨wr.heap.size, 0, none⟩) 512 512) (zeros 512) := by
        have hb := (Blk.new wr C0 5)
        rw [hC0] at hb ⊢
        have := (hb.own (base := wr.heap.size) (Nat.le_refl _) (by rw [zeros_length]; simp [maxLen])).bs
        rwa [zeros_length] at this
      have hcv := run_conv_bytes hbs
      rw [← hZ] at hcv
      have hra := HRS.out.moved (Moved.of_below hal (fun _ => False)) (fun h => h)
      have hlen := begun_length k (by omega)
      have old := hra.cell k (by omega)
      obtain ⟨Z0, hZ0⟩ : ∃ Z0 : ByteArray, Z0 = (begun k)[k]'(by omega) := ⟨_, rfl⟩
      rw [← hZ0] at old
      have hfr := hra.frozen k
      have hset := begun_set k hlt
      rw [← hZ] at hset
      have hrn := hra.set k Z
      rw [hset] at hrn
      have HRN := Lib.hid hrn
      have HMN := Lib.hid ((HM.out.trans (Moved.of_below hal (fun _ => False)) (fun _ h => h.elim)).trans ((Moved.refl (· = ga) (wr.alloc (.cells C0 5))).setCell ⟨ga, k, none⟩ (.string Z) (.inl rfl)) (fun x hx => .inl hx))
      clear hC0 hZ hbs hra hlen hZ0 hset hrn hal hlt HM HRS
      go_wp2_with fail
      go_roundw
      case rel => exact ⟨k + 1, by omega, by go_num, HMN.out, HRN.out⟩
      case measure => simp [intOf]; omega
    · obtain rfl : k = 19 := by omega
      have h4 := H3.out.mv HM.out (fun x hx => by subst hx; exact ⟨HX5.out, HGW.out⟩)
      have hrs4 := HRS.out
      rw [begun_all] at hrs4
      have H4 := Lib.hid h4
      have HRS4 := Lib.hid hrs4
      clear h4 hrs4 HM HRS H3 HROW3 hk hlt HB1
      generalize wr = w4 at H4 HRS4 ⊢
      go_wp2_with fail
      refine (good_any _ la _ w4 (HP.out.below H4.out.below) (fun g hg => Nat.lt_of_lt_of_le hg H4.out.size)).mono ?_
      rintro e w5 ⟨av, rfl, hrowa, hb5⟩
      have hpa := hrowa.pus
      have ha8 := good_short la
      have hga := good_pagess la
      obtain ⟨ao2, ca, rfl, hca1, hca2⟩ := hrowa.form
      have hca2' : ca ≤ 9223372036854775807 := hca2
      have HPA := Lib.hid hpa
      have HB5 := Lib.hid hb5
      have HGA := Lib.hid hga
      have HA8 := Lib.hid ha8
      have hs5 := H4.out.size
      have hs45 := hb5.size
      clear hrowa hpa hca2 hb5 hga ha8
      generalize goodOf la = a at HPA HGA HA8 hca1 ⊢
      go_wp2_with fail
      refine (good_any _ lb _ w5 ((HQ.out.below H4.out.below).below HB5.out) (fun g hg => by omega)).mono ?_
      rintro e w6 ⟨bv, rfl, hrowb, hb6⟩
      have hpb := hrowb.pus
      have hb8 := good_short lb
      have hgb := good_pagess lb
      obtain ⟨bo2, cb, rfl, hcb1, hcb2⟩ := hrowb.form
      have hcb2' : cb ≤ 9223372036854775807 := hcb2
      have HPB := Lib.hid hpb
      have HB6 := Lib.hid hb6
      have HGB := Lib.hid hgb
      have HB8 := Lib.hid hb8
      have hs56 := hb6.size
      clear hrowb hpb hcb2 hb6 hgb hb8
      generalize goodOf lb = b at HPB HGB HB8 hcb1 ⊢
      go_wp2_with fail
      refine (good_any _ lc _ w6 (((HR.out.below H4.out.below).below HB5.out).below HB6.out) (fun g hg => by omega)).mono ?_
      rintro e w7 ⟨cv, rfl, hrowc, hb7⟩
      have hpc := hrowc.pus
      have hc8 := good_short lc
      have hgc := good_pagess lc
      obtain ⟨co2, cc, rfl, hcc1, hcc2⟩ := hrowc.form
      have hcc2' : cc ≤ 9223372036854775807 := hcc2
      have HPC := Lib.hid hpc
      have HB7 := Lib.hid hb7
      have HGC := Lib.hid hgc
      have HC8 := Lib.hid hc8
      have hs67 := hb7.size
      clear hrowc hpc hcc2 hb7 hgc hc8
      generalize goodOf lc = c at HPC HGC HC8 hcc1 ⊢
      go_wp2_with fail
      obtain ⟨cells, hcells⟩ : ∃ cells : Array Value, cells = #[.slice ao2 a.length ca, .slice bo2 b.length cb, .slice co2 c.length cc] := ⟨_, rfl⟩
      have hal7 : Below w7.heap.size w7 (w7.alloc (.cells cells 22)) := (Below.refl _ _).alloc (Nat.le_refl _) _
      have hbk := Blk.new w7 cells 22
      have hsz : (w7.alloc (.cells cells 22)).heap.size = w7.heap.size + 1 := by simp
      rw [← hcells]
      have c0 : (w7.alloc (.cells cells 22)).cell? ⟨w7.heap.size, 0, none⟩ = some (.slice ao2 a.length ca) := by rw [hbk.cell, hcells]; rfl
      have c1 : (w7.alloc (.cells cells 22)).cell? ⟨w7.heap.size, 1, none⟩ = some (.slice bo2 b.length cb) := by rw [hbk.cell, hcells]; rfl
      have c2 : (w7.alloc (.cells cells 22)).cell? ⟨w7.heap.size, 2, none⟩ = some (.slice co2 c.length cc) := by rw [hbk.cell, hcells]; rfl
      obtain ⟨w8, hw8⟩ : ∃ w8, w8 = w7.alloc (.cells cells 22) := ⟨_, rfl⟩
      rw [← hw8] at hal7 hbk hsz c0 c1 c2 ⊢
      have h57 : Below w4.heap.size w4 w7 := (HB5.out.trans (HB6.out.mono hs45)).trans (HB7.out.mono (by omega))
      have hal : Below w4.heap.size w4 w8 := h57.trans (hal7.mono (by omega))
      have h8 := H4.out.take hal
      obtain ⟨X2, hX2⟩ : ∃ X : Nat → Prop, X = fun k => X1 k ∨ (w4.heap.size ≤ k ∧ k < w8.heap.size) := ⟨_, rfl⟩
      obtain ⟨X0, hX0⟩ : ∃ X : Nat → Prop, X = fun k => w4.heap.size ≤ k ∧ k < w8.heap.size := ⟨_, rfl⟩
      rw [← hX2] at h8
      have hX2a : X2 ga := by rw [hX2]; exact .inl HX5.out
      have hX02 : ∀ g, X0 g → X2 g := by rw [hX0, hX2]; exact fun g hg => .inr hg
      have hbi : X0 w7.heap.size := by rw [hX0]; exact ⟨by omega, by omega⟩
      have hgl := HRS4.out.lt
      have hgw := HGW.out
      have hSg : ∀ g, (g < w.heap.size ∨ X0 g) → g ≠ ga ∧ (g < w.heap.size ∨ X2 g) := fun g hg => by
        rcases hg with h | h
        · exact ⟨by omega, .inl h⟩
        · refine ⟨?_, .inr (hX02 g h)⟩
          rw [hX0] at h
          have := h.1
          omega
      have hrs8 := HRS4.out.moved (Moved.of_below hal (fun _ => False)) (fun h => h)
      have r0 : RowAt w w8 X0 w7.heap.size 0 a := ⟨_, _, c0, (((HPA.out.below HB6.out).below HB7.out).below hal7).mono (fun q hq => by rcases hq with h | h; exact .inl h; exact .inr (by rw [hX0]; exact ⟨h.1, by omega⟩)), hbi⟩
      have r1 : RowAt w w8 X0 w7.heap.size 1 b := ⟨_, _, c1, ((HPB.out.below HB7.out).below hal7).mono (fun q hq => by rcases hq with h | h; exact .inl h; exact .inr (by rw [hX0]; exact ⟨by omega, by omega⟩)), hbi⟩
      have r2 : RowAt w w8 X0 w7.heap.size 2 c := ⟨_, _, c2, (HPC.out.below hal7).mono (fun q hq => by rcases hq with h | h; exact .inl h; exact .inr (by rw [hX0]; exact ⟨by omega, by omega⟩)), hbi⟩
      have rows : ∀ k, k < 3 → ∃ lk : Pages, (lk.length ≠ 0 → Pagess 420 lk) ∧ lk.length ≤ 8 ∧ RowAt w w8 X0 w7.heap.size k lk := by
        intro k hk
        match k, hk with
        | 0, _ => exact ⟨a, HGA.out, HA8.out, r0⟩
        | 1, _ => exact ⟨b, HGB.out, HB8.out, r1⟩
        | 2, _ => exact ⟨c, HGC.out, HC8.out, r2⟩
      have H8 := Lib.hid h8
      have HRS8 := Lib.hid hrs8
      have ROWS := Lib.hid rows
      have HSG := Lib.hid hSg
      have HX2A := Lib.hid hX2a
      have HX02 := Lib.hid hX02
      have HBI := Lib.hid hbi
      have HBG := Lib.hid (hSg _ (.inr hbi)).1
      clear r0 r1 r2 rows h8 hrs8 hSg hX2a hX02 hbi hgl hgw hal h57 hX2 hX0 hw8 c0 c1 c2 hal7 hbk hsz hcells HPA HPB HPC HB5 HB6 HB7 HGA HGB HGC HA8 HB8 HC8 H4 HRS4 hs5 hs45 hs56 hs67 hca1 hcb1 hcc1 hca2' hcb2' hcc2' HP HQ HR HX4 HX5
      generalize w7.heap.size = bi at ROWS HBI HBG ⊢
      have hP6 : ∀ g, (g < w.heap.size ∨ X0 g) → ¬ (g = ga ∨ (w.heap.size ≤ g ∧ ¬ X2 g)) := fun g hg h => by
        have h1 := HSG.out g hg
        rcases h with h | ⟨h, h2⟩
        · exact h1.1 h
        · rcases h1.2 with h3 | h3
          · omega
          · exact h2 h3
      have HP6 := Lib.hid hP6
      clear hP6
      go_wp2_with fail
      go_loopw [11] (fun i wr => ∃ ko : Nat, ko ≤ 3 ∧ i = .int .i64 ko ∧ Moved (fun j => j = ga ∨ (w.heap.size ≤ j ∧ ¬ X2 j)) w8 wr ∧ ∃ A K, Sx w wr X2 r A ∧ Synced A K ∧ K[0]? = some (zeros 512) ∧ K.length = 420 ∧ A.stop = 0 ∧ Small A (100 * ko) ∧ RowT 63 wr ga (texts (K.drop 401))) (fun i _ => 3 - (intOf i).toNat)
      case atStart => exact ⟨0, Nat.zero_le _, rfl, Moved.refl _ _, _, _, H8.out, new_synced 420, new_head 420 (by omega), List.length_replicate .., rfl, new_small _ _, HRS8.out⟩
      case round =>
        obtain ⟨ko, hko, rfl, hmo, A1, K1, hx, hsy, hhd, hn5, hst, hsm, hrs⟩ := hrel
        have HMO := Lib.hid hmo
        have HX := Lib.hid hx
        have HSY := Lib.hid hsy
        have HHD := Lib.hid hhd
        have HN5 := Lib.hid hn5
        have HST := Lib.hid hst
        have HSM := Lib.hid hsm
        have HRO := Lib.hid hrs
        clear hmo hx hsy hhd hn5 hst hsm hrs
        by_cases hlto : ko < 3
        · have hko0 : (0 : Int) ≤ ko := by omega
          have hko3 : (ko : Int) < 3 := by omega
          obtain ⟨b, hbp, hb8, hrow⟩ := ROWS.out ko hlto
          obtain ⟨ao, ac, cI, hpb, -⟩ := hrow.mv HMO.out HP6.out
          have hac1 : b.length ≤ ac := by obtain ⟨_, _, e, h1, h2, -⟩ := id hpb; cases e; exact h1
          have hac2 : ac ≤ 9223372036854775807 := by obtain ⟨_, _, e, h1, h2, -⟩ := id hpb; cases e; exact h2
          have HPB := Lib.hid hpb
          have HBP := Lib.hid hbp
          clear hrow hpb hbp
          obtain ⟨nb, hnb⟩ : ∃ n, n = b.length := ⟨_, rfl⟩
          have HNB := Lib.hid hnb
          rw [← hnb] at HPB HBP hb8 cI hac1
          clear hnb
          by_cases hz : nb = 0
          · subst hz
            go_wp2_with fail
            go_loopw [12] (fun i w' => i = .int .i64 0 ∧ w' = wr) (fun i _ => 0 - (intOf i).toNat)
            case atStart => exact ⟨rfl, rfl⟩
            case round =>
              obtain ⟨rfl, hww⟩ := hrel
              subst hww
              go_wp2_with fail
              go_roundw
              case rel => exact ⟨ko + 1, by omega, by go_num, HMO.out, A1, K1, HX.out, HSY.out, HHD.out, HN5.out, HST.out, HSM.out.mono (by omega), HRO.out⟩
              case measure => simp [intOf]; omega
          · have hz' : (0 : Int) < nb := by omega
            have hlp : Pagess K1.length b := by rw [HN5.out]; exact HBP.out hz
            obtain ⟨q1, ⟨K2, q2, q3⟩, -, q5⟩ := commit_good HSY.out HHD.out hlp HST.out
            have hsm2 := commit_small b HSM.out
            have hcm := sx_commit _ b _ HX.out HPB.out (fun g hg => (HSG.out g hg).2) (HSM.out.mono (by omega))
            rw [q1] at hcm
            obtain ⟨A2, hA2⟩ : ∃ A, A = (A1.commit b).2 := ⟨_, rfl⟩
            rw [← hA2] at q2 q5 hsm2 hcm
            rw [← HNB.out] at hsm2
            have HAH := Lib.hid (after_homes q3 hlp)
            have HLP := Lib.hid hlp
            have HQ2 := Lib.hid q2
            have HH2 := Lib.hid q3.head
            have HN2 := Lib.hid (q3.len.trans HN5.out)
            have HQ5 := Lib.hid q5
            have HSM2 := Lib.hid (hsm2.mono (m := 100 * (ko + 1)) (by omega))
            have HCM := Lib.hid hcm
            clear q1 q2 q3 q5 hsm2 hcm hA2 hlp HSY HST HSM HX HHD
            go_wp2_with fail
            refine HCM.out.mono ?_
            rintro e w9 ⟨rfl, h9, hm9⟩
            have hblt := World.block_lt_of_cell? _ _ cI
            have hpb9 := HPB.out.moved hm9 (fun g hg hj => by
              rcases (HSG.out g hg).2 with h | h
              · have := hj.1; omega
              · exact hj.2 h)
            have cI9 := (World.cell?_of_block (a := ⟨bi, ko, none⟩) (hm9.block bi hblt (fun hj => hj.2 (HX02.out _ HBI.out)))).trans cI
            have HRA9 := Lib.hid (HRO.out.moved hm9 (fun hj => hj.2 HX2A.out))
            have HMO9 := Lib.hid (HMO.out.trans hm9 (fun j hj => .inl (.inr hj)))
            have HBL9 := Lib.hid (Nat.lt_of_lt_of_le hblt hm9.size)
            have HX9 := Lib.hid h9
            have HPB7 := Lib.hid hpb9
            have CI9 := Lib.hid cI9
            have HPS := HSG
            clear h9 hm9 hpb9 cI9 hblt cI HCM HRO HMO HPB
            go_wp2_with fail
            go_loopw [12] (fun i wr => ∃ k : Nat, k ≤ nb ∧ i = .int .i64 k ∧ Moved (· = ga) w9 wr ∧ RowT 63 wr ga (texts (wants (K1.drop 401) (b.take k)))) (fun i _ => nb - (intOf i).toNat)
            case atStart => exact ⟨0, Nat.zero_le _, rfl, Moved.refl _ _, HRA9.out⟩
            case round =>
              obtain ⟨k, hk, rfl, hm, hrs⟩ := hrel
              have cI := (World.cell?_of_block (a := ⟨bi, ko, none⟩) (hm.block bi HBL9.out HBG.out)).trans CI9.out
              have HLB := Lib.hid (World.block_lt_of_cell? _ _ cI)
              have HM := Lib.hid hm
              have HRS := Lib.hid hrs
              clear hm hrs
              by_cases hlt : k < nb
              · have hkl : k < b.length := by rw [← HNB.out]; exact hlt
                have hpw := HPB7.out.moved HM.out (fun g hg e => (HPS.out g hg).1 e)
                obtain ⟨po, pc, ep, -, -, hE⟩ := hpw
                simp only [Value.slice.injEq] at ep
                obtain ⟨rfl, -, rfl⟩ := ep
                obtain ⟨pb, poff, rfl, hSp, c0, u, c1, hbs, -⟩ := hE k hkl
                have hok := HLP.out.ok _ (List.getElem_mem hkl)
                rw [HN5.out] at hok
                have hpn : pb ≠ ga := (HPS.out pb hSp).1
                have hnext := wants_succ (K1.drop 401) b k hkl
                obtain ⟨bs, hbb⟩ : ∃ m, m = b[k].2 := ⟨_, rfl⟩
                obtain ⟨j, hj⟩ : ∃ j : Nat, b[k].1 = 401 + (j : Int) := ⟨(b[k].1 - 401).toNat, by omega⟩
                rw [hj] at c0 hok
                rw [← hbb] at hbs hok
                rw [← hbb, hj, show (401 + (j : Int)).toNat - 401 = j by omega] at hnext
                obtain ⟨bo3, bc3, rfl, hbc1, hbc2, -⟩ := id hbs
                have hbc2' : bc3 ≤ 9223372036854775807 := hbc2
                obtain ⟨m1, hm1⟩ : ∃ m, m = bs.length := ⟨_, rfl⟩
                obtain ⟨q, hq⟩ : ∃ q, q = 512 - m1 := ⟨_, rfl⟩
                rw [← hm1] at hok hbc1 c1
                have hj19 : j < 19 := by omega
                have hwr1 : IntKind.i64.wrap (401 + (j : Int) - 401) = j := by rw [IntKind.wrap_i64]; omega
                have hwr2 : IntKind.i64.wrap (j : Int) = j := by rw [IntKind.wrap_i64]; omega
                have hwr3 : IntKind.i64.wrap (512 - (m1 : Int)) = q := by rw [IntKind.wrap_i64]; omega
                have hq0 : 0 < q ∧ m1 + q = 512 := by omega
                obtain ⟨hq1, hq2⟩ := hq0
                have hsec : bs ++ zeros q = sec bs := by unfold sec; rw [hq, ← hm1]
                obtain ⟨NX, hNX⟩ : ∃ N, N = texts (wants (K1.drop 401) (b.take (k + 1))) := ⟨_, rfl⟩
                obtain ⟨CU, hCU⟩ : ∃ N, N = texts (wants (K1.drop 401) (b.take k)) := ⟨_, rfl⟩
                have hcl : CU.length = 19 := by rw [hCU, texts_length, wants_length, List.length_drop, HN5.out]
                have hset : NX = CU.set j ⟨(sec bs).toArray⟩ := by rw [hNX, hCU, hnext, texts_set]
                rw [← hCU] at HRS
                have old := HRS.out.cell j (by omega)
                have HBS := Lib.hid hbs
                have HM1 := Lib.hid hm1
                have HSEC := Lib.hid hsec
                have HSET := Lib.hid hset
                have HNX := Lib.hid hNX
                have hlt0 := World.block_lt_of_cell? _ _ c0
                have hgal := HRS.out.lt
                have HLT := Lib.hid hlt0
                have HGL := Lib.hid hgal
                have HPN := Lib.hid hpn
                obtain ⟨Z0, hZ0⟩ : ∃ Z : ByteArray, Z = CU[j] := ⟨_, rfl⟩
                rw [← hZ0] at old
                have hfr := HRS.out.frozen j
                have HOLD := Lib.hid old
                have HFR := Lib.hid hfr
                have hkn : (k : Int) < nb := by omega
                clear hpn hE hbb hj hok hnext hbs hbc2 hm1 hq hsec hNX hCU hset hlt0 hgal hZ0 old hfr hcl hlt
                have hk0 : (0 : Int) ≤ k := by omega
                have hj0 : (0 : Int) ≤ j := by omega
                have hj19' : (j : Int) < 19 := by omega
                go_wp2_with fail
                refine wp_region_any (by kernel_rfl) ?_
                change wpAny _ _ _ _ _ _ _ (World.drew _)
                refine wpAny_of_held (S := fun (w' : World) => w'.cell? ⟨pb, poff + k * 2, none⟩ = some (Value.int .i64 (401 + (j : Int))) ∧ w'.cell? ⟨pb, poff + k * 2 + 1, none⟩ = some (Value.slice bo3 m1 bc3) ∧ w'.cell? ⟨bi, ko, none⟩ = some (Value.slice (some ⟨pb, poff, none⟩) nb ac)) _ _ _ _ ?_
                have hS : (fun (w' : World) => w'.cell? ⟨pb, poff + k * 2, none⟩ = some (Value.int .i64 (401 + (j : Int))) ∧ w'.cell? ⟨pb, poff + k * 2 + 1, none⟩ = some (Value.slice bo3 m1 bc3) ∧ w'.cell? ⟨bi, ko, none⟩ = some (Value.slice (some ⟨pb, poff, none⟩) nb ac)) _ := ⟨c0, c1, cI⟩
                refine wpAnyH_take (i := 0) (oi := ⟨some 72, _, _, _, _, _⟩) (v := ?_) rfl (by kernel_rfl) (by kernel_rfl) (by kernel_rfl) (fun _ _ _ h => h) (Or.inl ⟨by rfl, ?_⟩) hS ?_
                rotate_left
                · intro wz hSw
                  clear hSw
                  go_simp
                  first | done | with_reducible rfl
                try simp only [Act.put, List.setIfInBounds_toArray, List.set_cons_zero, List.set_cons_succ]
                refine wpAnyH_take (i := 1) (oi := ⟨some 73, _, _, _, _, _⟩) (v := ?_) rfl (by kernel_rfl) (by kernel_rfl) (by kernel_rfl) (fun _ _ _ h => h) (Or.inl ⟨by rfl, ?_⟩) hS ?_
                rotate_left
                · intro wz hSw
                  clear hSw
                  go_simp
                  first | done | with_reducible rfl
                try simp only [Act.put, List.setIfInBounds_toArray, List.set_cons_zero, List.set_cons_succ]
                refine wpAnyH_take (i := 2) (oi := ⟨some 74, _, _, _, _, _⟩) (v := ?_) rfl (by kernel_rfl) (by kernel_rfl) (by kernel_rfl) (fun _ _ _ h => h) (Or.inl ⟨by rfl, ?_⟩) hS ?_
                rotate_left
                · intro wz hSw
                  clear hSw
                  go_simp
                  first | done | with_reducible rfl
                try simp only [Act.put, List.setIfInBounds_toArray, List.set_cons_zero, List.set_cons_succ]
                refine wpAnyH_take (i := 3) (oi := ⟨some 75, _, _, _, _, _⟩) (v := ?_) rfl (by kernel_rfl) (by kernel_rfl) (by kernel_rfl) (fun _ _ _ h => h) (Or.inl ⟨by rfl, ?_⟩) hS ?_
                rotate_left
                · intro wz hSw
                  (try dsimp only at hSw)
                  (try go_split_ands)
                  go_simp
                  first | done | with_reducible rfl
                try simp only [Act.put, List.setIfInBounds_toArray, List.set_cons_zero, List.set_cons_succ]
                refine wpAnyH_take (i := 4) (oi := ⟨some 76, _, _, _, _, _⟩) (v := ?_) rfl (by kernel_rfl) (by kernel_rfl) (by kernel_rfl) (fun _ _ _ h => h) (Or.inl ⟨by rfl, ?_⟩) hS ?_
                rotate_left
                · intro wz hSw
                  clear hSw
                  go_simp
                  first | done | with_reducible rfl
                try simp only [Act.put, List.setIfInBounds_toArray, List.set_cons_zero, List.set_cons_succ]
                refine wpAnyH_take (i := 5) (oi := ⟨some 77, _, _, _, _, _⟩) (v := ?_) rfl (by kernel_rfl) (by kernel_rfl) (by kernel_rfl) (fun _ _ _ h => h) (Or.inl ⟨by rfl, ?_⟩) hS ?_
                rotate_left
                · intro wz hSw
                  clear hSw
                  go_simp
                  first | done | with_reducible rfl
                try simp only [Act.put, List.setIfInBounds_toArray, List.set_cons_zero, List.set_cons_succ]
                refine wpAnyH_take (i := 6) (oi := ⟨some 78, _, _, _, _, _⟩) (v := ?_) rfl (by kernel_rfl) (by kernel_rfl) (by kernel_rfl) (fun _ _ _ h => h) (Or.inl ⟨by rfl, ?_⟩) hS ?_
                rotate_left
                · intro wz hSw
                  clear hSw
                  go_simp
                  first | done | with_reducible rfl
                try simp only [Act.put, List.setIfInBounds_toArray, List.set_cons_zero, List.set_cons_succ]
                refine wpAnyH_take (i := 7) (oi := ⟨some 79, _, _, _, _, _⟩) (v := ?_) rfl (by kernel_rfl) (by kernel_rfl) (by kernel_rfl) (fun _ _ _ h => h) (Or.inl ⟨by rfl, ?_⟩) hS ?_
                rotate_left
                · intro wz hSw
                  (try dsimp only at hSw)
                  (try go_split_ands)
                  go_simp
                  first | done | with_reducible rfl
                try simp only [Act.put, List.setIfInBounds_toArray, List.set_cons_zero, List.set_cons_succ]
                refine wpAnyH_take (i := 8) (oi := ⟨some 80, _, _, _, _, _⟩) (v := ?_) rfl (by kernel_rfl) (by kernel_rfl) (by kernel_rfl) (fun _ _ _ h => h) (Or.inl ⟨by rfl, ?_⟩) hS ?_
                rotate_left
                · intro wz hSw
                  clear hSw
                  go_simp
                  first | done | with_reducible rfl
                try simp only [Act.put, List.setIfInBounds_toArray, List.set_cons_zero, List.set_cons_succ]
                refine wpAnyH_take (i := 10) (oi := ⟨some 82, _, _, _, _, _⟩) (v := ?_) rfl (by kernel_rfl) (by kernel_rfl) (by kernel_rfl) (fun _ _ _ h => h) (Or.inl ⟨by rfl, ?_⟩) hS ?_
                rotate_left
                · intro wz hSw
                  clear hSw
                  go_simp
                  first | done | with_reducible rfl
                try simp only [Act.put, List.setIfInBounds_toArray, List.set_cons_zero, List.set_cons_succ]
                refine wpAnyH_take (i := 11) (oi := ⟨some 83, _, _, _, _, _⟩) (v := ?_) rfl (by kernel_rfl) (by kernel_rfl) (by kernel_rfl) (fun _ _ _ h => h) (Or.inl ⟨by rfl, ?_⟩) hS ?_
                rotate_left
                · intro wz hSw
                  clear hSw
                  go_simp
                  first | done | with_reducible rfl
                try simp only [Act.put, List.setIfInBounds_toArray, List.set_cons_zero, List.set_cons_succ]
                refine wpAnyH_take (i := 12) (oi := ⟨some 84, _, _, _, _, _⟩) (v := ?_) rfl (by kernel_rfl) (by kernel_rfl) (by kernel_rfl) (fun _ _ _ h => h) (Or.inl ⟨by rfl, ?_⟩) hS ?_
                rotate_left
                · intro wz hSw
                  clear hSw
                  go_simp
                  first | done | with_reducible rfl
                try simp only [Act.put, List.setIfInBounds_toArray, List.set_cons_zero, List.set_cons_succ]
                refine wpAnyH_take (i := 13) (oi := ⟨some 85, _, _, _, _, _⟩) (v := ?_) rfl (by kernel_rfl) (by kernel_rfl) (by kernel_rfl) (fun _ _ _ h => h) (Or.inl ⟨by rfl, ?_⟩) hS ?_
                rotate_left
                · intro wz hSw
                  (try dsimp only at hSw)
                  (try go_split_ands)
                  go_simp
                  first | done | with_reducible rfl
                try simp only [Act.put, List.setIfInBounds_toArray, List.set_cons_zero, List.set_cons_succ]
                refine wpAnyH_take (i := 14) (oi := ⟨some 86, _, _, _, _, _⟩) (v := ?_) rfl (by kernel_rfl) (by kernel_rfl) (by kernel_rfl) (fun _ _ _ h => h) (Or.inl ⟨by rfl, ?_⟩) hS ?_
                rotate_left
                · intro wz hSw
                  clear hSw
                  go_simp
                  first | done | with_reducible rfl
                try simp only [Act.put, List.setIfInBounds_toArray, List.set_cons_zero, List.set_cons_succ]
                refine wpAnyH_take (i := 15) (oi := ⟨some 87, _, _, _, _, _⟩) (v := ?_) rfl (by kernel_rfl) (by kernel_rfl) (by kernel_rfl) (fun _ _ _ h => h) (Or.inl ⟨by rfl, ?_⟩) hS ?_
                rotate_left
                · intro wz hSw
                  clear hSw
                  go_simp
                  first | done | with_reducible rfl
                try simp only [Act.put, List.setIfInBounds_toArray, List.set_cons_zero, List.set_cons_succ]
                refine wpAnyH_take (i := 16) (oi := ⟨some 88, _, _, _, _, _⟩) (v := ?_) rfl (by kernel_rfl) (by kernel_rfl) (by kernel_rfl) (fun _ _ _ h => h) (Or.inl ⟨by rfl, ?_⟩) hS ?_
                rotate_left
                · intro wz hSw
                  clear hSw
                  go_simp
                  first | done | with_reducible rfl
                try simp only [Act.put, List.setIfInBounds_toArray, List.set_cons_zero, List.set_cons_succ]
                refine wpAnyH_take (i := 17) (oi := ⟨some 89, _, _, _, _, _⟩) (v := ?_) rfl (by kernel_rfl) (by kernel_rfl) (by kernel_rfl) (fun _ _ _ h => h) (Or.inl ⟨by rfl, ?_⟩) hS ?_
                rotate_left
                · intro wz hSw
                  (try dsimp only at hSw)
                  (try go_split_ands)
                  go_simp
                  first | done | with_reducible rfl
                try simp only [Act.put, List.setIfInBounds_toArray, List.set_cons_zero, List.set_cons_succ]
                refine wpAnyH_take (i := 19) (oi := ⟨some 91, _, _, _, _, _⟩) (v := ?_) rfl (by kernel_rfl) (by kernel_rfl) (by kernel_rfl) (fun _ _ _ h => h) (Or.inl ⟨by rfl, ?_⟩) hS ?_
                rotate_left
                · intro wz hSw
                  clear hSw
                  go_simp
                  first | done | with_reducible rfl
                try simp only [Act.put, List.setIfInBounds_toArray, List.set_cons_zero, List.set_cons_succ]
                refine wpAnyH_take (i := 20) (oi := ⟨some 92, _, _, _, _, _⟩) (v := ?_) rfl (by kernel_rfl) (by kernel_rfl) (by kernel_rfl) (fun _ _ _ h => h) (Or.inl ⟨by rfl, ?_⟩) hS ?_
                rotate_left
                · intro wz hSw
                  clear hSw
                  go_simp
                  first | done | with_reducible rfl
                try simp only [Act.put, List.setIfInBounds_toArray, List.set_cons_zero, List.set_cons_succ]
                refine wpAnyH_take (i := 21) (oi := ⟨some 93, _, _, _, _, _⟩) (v := ?_) rfl (by kernel_rfl) (by kernel_rfl) (by kernel_rfl) (fun _ _ _ h => h) (Or.inl ⟨by rfl, ?_⟩) hS ?_
                rotate_left
                · intro wz hSw
                  clear hSw
                  go_simp
                  first | done | with_reducible rfl
                try simp only [Act.put, List.setIfInBounds_toArray, List.set_cons_zero, List.set_cons_succ]
                refine wpAnyH_take (i := 22) (oi := ⟨some 94, _, _, _, _, _⟩) (v := ?_) rfl (by kernel_rfl) (by kernel_rfl) (by kernel_rfl) (fun _ _ _ h => h) (Or.inl ⟨by rfl, ?_⟩) hS ?_
                rotate_left
                · intro wz hSw
                  (try dsimp only at hSw)
                  (try go_split_ands)
                  go_simp
                  first | done | with_reducible rfl
                try simp only [Act.put, List.setIfInBounds_toArray, List.set_cons_zero, List.set_cons_succ]
                refine wpAnyH_take (i := 23) (oi := ⟨some 95, _, _, _, _, _⟩) (v := ?_) rfl (by kernel_rfl) (by kernel_rfl) (by kernel_rfl) (fun _ _ _ h => h) (Or.inl ⟨by rfl, ?_⟩) hS ?_
                rotate_left
                · intro wz hSw
                  clear hSw
                  go_simp
                  first | done | with_reducible rfl
                try simp only [Act.put, List.setIfInBounds_toArray, List.set_cons_zero, List.set_cons_succ]
                refine wpAnyH_take (i := 24) (oi := ⟨some 96, _, _, _, _, _⟩) (v := ?_) rfl (by kernel_rfl) (by kernel_rfl) (by kernel_rfl) (fun _ _ _ h => h) (Or.inl ⟨by rfl, ?_⟩) hS ?_
                rotate_left
                · intro wz hSw
                  clear hSw
                  go_simp
                  first | done | with_reducible rfl
                try simp only [Act.put, List.setIfInBounds_toArray, List.set_cons_zero, List.set_cons_succ]
                refine wpAnyH_take (i := 25) (oi := ⟨some 97, _, _, _, _, _⟩) (v := ?_) rfl (by kernel_rfl) (by kernel_rfl) (by kernel_rfl) (fun _ _ _ h => h) (Or.inl ⟨by rfl, ?_⟩) hS ?_
                rotate_left
                · intro wz hSw
                  clear hSw
                  go_simp
                  first | done | with_reducible rfl
                try simp only [Act.put, List.setIfInBounds_toArray, List.set_cons_zero, List.set_cons_succ]
                refine wpAnyH_take (i := 26) (oi := ⟨some 98, _, _, _, _, _⟩) (v := ?_) rfl (by kernel_rfl) (by kernel_rfl) (by kernel_rfl) (fun _ _ _ h => h) (Or.inl ⟨by rfl, ?_⟩) hS ?_
                rotate_left
                · intro wz hSw
                  (try dsimp only at hSw)
                  (try go_split_ands)
                  go_simp
                  first | done | with_reducible rfl
                try simp only [Act.put, List.setIfInBounds_toArray, List.set_cons_zero, List.set_cons_succ]
                refine wpAnyH_take (i := 27) (oi := ⟨some 99, _, _, _, _, _⟩) (v := ?_) rfl (by kernel_rfl) (by kernel_rfl) (by kernel_rfl) (fun _ _ _ h => h) (Or.inl ⟨by rfl, ?_⟩) hS ?_
                rotate_left
                · intro wz hSw
                  clear hSw
                  go_simp
                  first | done | with_reducible rfl
                try simp only [Act.put, List.setIfInBounds_toArray, List.set_cons_zero, List.set_cons_succ]
                refine wpAnyH_take (i := 28) (oi := ⟨some 100, _, _, _, _, _⟩) (v := ?_) rfl (by kernel_rfl) (by kernel_rfl) (by kernel_rfl) (fun _ _ _ h => h) (Or.inl ⟨by rfl, ?_⟩) hS ?_
                rotate_left
                · intro wz hSw
                  clear hSw
                  go_simp
                  first | done | with_reducible rfl
                try simp only [Act.put, List.setIfInBounds_toArray, List.set_cons_zero, List.set_cons_succ]
                refine wpAnyH_ready (rs := [9]) (by kernel_rfl) (by simp) ?_
                refine AllReadyH.cons (o := ⟨some 81, _, _, _, _, _⟩) rfl (fun K hK => ?_) AllReadyH.nil
                go_simp
                refine hK.out _ _ (⟨((Below.refl _ wr).drew.alloc (Nat.le_refl _) _).cell HLT.out |>.trans c0, ((Below.refl _ wr).drew.alloc (Nat.le_refl _) _).cell HLT.out |>.trans c1, ((Below.refl _ wr).drew.alloc (Nat.le_refl _) _).cell HLB.out |>.trans cI⟩) (fun hS => ?_)
                clear hK K
                try simp only [Act.put, List.setIfInBounds_toArray, List.set_cons_zero, List.set_cons_succ]
                have ho8 := (Own.empty wr wr.heap.size (Nat.le_refl _)).below (Below.refl _ _).drew
                have hal8 := ((Below.refl wr.heap.size wr).alloc (Nat.le_refl _) (.cells #[] 5)).drew
                have hbt8 := HBS.out.below hal8
                rw [← HM1.out] at hbt8
                refine wpAnyH_ready (rs := [18]) (by kernel_rfl) (by simp) ?_
                refine AllReadyH.cons (o := ⟨some 90, _, _, _, _, _⟩) rfl (fun K hK => ?_) AllReadyH.nil
                refine step_append_bytes rfl (.tmp 81) (.tmp 89) rfl wr.heap.size _ [] rfl ho8 _ bs rfl hbt8 ?_ ?_ ?_
                · rw [List.length_nil, ← HM1.out]; omega
                · exact hal8.size
                intro va wa hva hga
                have hbwa := hal8.grown hga hal8.size (fun q hq => (ho8.out.lt q hq).1)
                rw [List.nil_append] at hva
                refine hK.out _ _ (⟨(hbwa.cell HLT.out).trans c0, (hbwa.cell HLT.out).trans c1, (hbwa.cell HLB.out).trans cI⟩) (fun hS => ?_)
                clear hK K ho8 hbt8 hal8 hga
                try simp only [Act.put, List.setIfInBounds_toArray, List.set_cons_zero, List.set_cons_succ]
                refine wpAnyH_ready (rs := [29]) (by kernel_rfl) (by simp) ?_
                refine AllReadyH.cons (o := ⟨some 101, _, _, _, _, _⟩) rfl (fun K hK => ?_) AllReadyH.nil
                refine step_append_zeros rfl (.tmp 90) (.tmp 100) rfl wr.heap.size _ bs rfl hva q rfl hq1 ?_ ?_ ?_
                · rw [← HM1.out]; omega
                · exact hbwa.size
                intro vc wc hvc hgc
                have hbwc := hbwa.grown hgc hbwa.size (fun q hq => (hva.out.lt q hq).1)
                rw [HSEC.out] at hvc
                refine hK.out _ _ (⟨(hbwc.cell HLT.out).trans c0, (hbwc.cell HLT.out).trans c1, (hbwc.cell HLB.out).trans cI⟩) (fun hS => ?_)
                clear hK K hva hgc hbwa
                try simp only [Act.put, List.setIfInBounds_toArray, List.set_cons_zero, List.set_cons_succ]
                have hS' : (fun (w' : World) => (fun (w' : World) => w'.cell? ⟨pb, poff + k * 2, none⟩ = some (Value.int .i64 (401 + (j : Int))) ∧ w'.cell? ⟨pb, poff + k * 2 + 1, none⟩ = some (Value.slice bo3 m1 bc3) ∧ w'.cell? ⟨bi, ko, none⟩ = some (Value.slice (some ⟨pb, poff, none⟩) nb ac)) w' ∧ Bs w' vc (sec bs)) (wc) := ⟨hS, hvc.bs⟩
                refine wpAnyH_mono (S' := fun (w' : World) => (fun (w' : World) => w'.cell? ⟨pb, poff + k * 2, none⟩ = some (Value.int .i64 (401 + (j : Int))) ∧ w'.cell? ⟨pb, poff + k * 2 + 1, none⟩ = some (Value.slice bo3 m1 bc3) ∧ w'.cell? ⟨bi, ko, none⟩ = some (Value.slice (some ⟨pb, poff, none⟩) nb ac)) w' ∧ Bs w' vc (sec bs)) (fun _ h => h.1) _ _ _ _ ?_
                clear hS
                have hS := hS'
                clear hS'
                obtain ⟨Z, hZ⟩ : ∃ Z : ByteArray, Z = ⟨(sec bs).toArray⟩ := ⟨_, rfl⟩
                have HZ := Lib.hid hZ
                clear hZ
                refine wpAnyH_take (i := 30) (oi := ⟨some 102, _, _, _, _, _⟩) (v := ?_) rfl (by kernel_rfl) (by kernel_rfl) (by kernel_rfl) (fun _ _ _ h => h) (Or.inl ⟨by rfl, ?_⟩) hS ?_
                rotate_left
                · intro wz hSw; have hcz := run_conv_bytes hSw.2; rw [← HZ.out] at hcz
                  clear hSw
                  go_simp
                  first | done | with_reducible rfl
                try simp only [Act.put, List.setIfInBounds_toArray, List.set_cons_zero, List.set_cons_succ]
                refine wpAnyH_take (i := 31) (oi := ⟨some 103, _, _, _, _, _⟩) (v := ?_) rfl (by kernel_rfl) (by kernel_rfl) (by kernel_rfl) (fun _ _ _ h => h) (Or.inl ⟨by rfl, ?_⟩) hS ?_
                rotate_left
                · intro wz hSw
                  clear hSw
                  go_simp
                  first | done | with_reducible rfl
                try simp only [Act.put, List.setIfInBounds_toArray, List.set_cons_zero, List.set_cons_succ]
                have hga3 : wc.cell? ⟨ga, j, none⟩ = some (.string Z0) := (hbwc.cell HGL.out).trans HOLD.out
                have hgf3 : wc.frozen? ⟨ga, j, none⟩ = false := (World.frozen?_of_block (a := ⟨ga, j, none⟩) (hbwc.block ga HGL.out)).trans HFR.out
                refine wpAnyH_ready (rs := [32]) (by kernel_rfl) (by simp) ?_
                refine AllReadyH.cons (o := ⟨none, _, _, _, _, _⟩) rfl (fun K hK => ?_) AllReadyH.nil
                go_simp
                have hms : Moved (· = ga) wc (wc.setCell ⟨ga, j, none⟩ (.string Z)) := (Moved.refl (· = ga) wc).setCell ⟨ga, j, none⟩ _ (.inl rfl)
                have hcs := fun (o : Nat) => World.cell?_of_block (a := ⟨pb, o, none⟩) (hms.block pb (Nat.lt_of_lt_of_le HLT.out hbwc.size) HPN.out)
                have hci := World.cell?_of_block (a := ⟨bi, ko, none⟩) (hms.block bi (Nat.lt_of_lt_of_le HLB.out hbwc.size) HBG.out)
                refine hK.out _ _ (⟨⟨(hcs _).trans hS.1.1, (hcs _).trans hS.1.2.1, hci.trans hS.1.2.2⟩, hvc.bs.moved hms (fun x hx e => by have := (hvc.out.lt x hx).1; have := HGL.out; omega)⟩) (fun hS => ?_)
                clear hK K
                try simp only [Act.put, List.setIfInBounds_toArray, List.set_cons_zero, List.set_cons_succ]
                refine wpAnyH_done (by kernel_rfl) ?_ _
                have HMN := Lib.hid ((HM.out.trans (Moved.of_below hbwc (fun _ => False)) (fun _ h => h.elim)).trans hms (fun x hx => .inl hx))
                have hrn := (HRS.out.moved (Moved.of_below hbwc (fun _ => False)) (fun h => h)).set j Z
                rw [HZ.out, ← HSET.out, ← HZ.out] at hrn
                have HRN := Lib.hid hrn
                clear hrn hms hcs hS hvc hga3 hgf3
                go_wp2_with fail
                go_roundw
                case rel => exact ⟨k + 1, by omega, by go_num, HMN.out, by rw [← HNX.out]; exact HRN.out⟩
                case measure => simp [intOf]; omega
              · obtain rfl : k = nb := by omega
                have hrs := HRS.out
                rw [show b.take k = b by rw [HNB.out]; exact List.take_length, ← HAH.out] at hrs
                have HRN := Lib.hid hrs
                have HMN := Lib.hid (HMO9.out.trans HM.out (fun j hj => .inl (.inl hj)))
                have HXN := Lib.hid (HX9.out.mv HM.out (fun x hx => by subst hx; exact ⟨HX2A.out, HGW.out⟩))
                clear hrs HRS HM HX9 HMO9
                go_wp2_with fail
                go_roundw
                case rel => exact ⟨ko + 1, by omega, by go_num, HMN.out, A2, K2, HXN.out, HQ2.out, HH2.out, HN2.out, HQ5.out, HSM2.out, HRN.out⟩
                case measure => simp [intOf]; omega
        · obtain rfl : ko = 3 := by omega
          have hcr := HSY.out.crash []
          go_wp2_with fail
          refine (sx_crash _ [] HX.out (Bl.nil _) (fun h => absurd h (by simp)) (HSM.out.mono (by omega))).mono ?_
          rintro e w9 ⟨rfl, h9, hm9⟩
          have HRA9 := Lib.hid (HRO.out.moved hm9 (fun hj => hj.2 HX2A.out))
          obtain ⟨A9, hA9⟩ : ∃ B, B = A1.crash [] := ⟨_, rfl⟩
          rw [← hA9] at h9 hcr
          have HX9 := Lib.hid h9
          have HSY9 := Lib.hid hcr.1
          clear h9 hm9 hA9 hcr HSY HX HRO HMO HSM HST HHD
          have HHO := Lib.hid (show homesOf A9 = texts (K1.drop 401) by rw [homesOf_texts, HSY9.out.now])
          have HWL := Lib.hid (show (texts (K1.drop 401)).length = 19 by rw [texts_length, List.length_drop, HN5.out])
          have HXD := Lib.hid (HX9.out.grow (drewBelow w9))
          have HRD := Lib.hid (HRA9.out.moved (Moved.of_below (drewBelow w9) (fun _ => False)) (fun h => h))
          go_wp2_with fail
          go_region_held3 (fun _ => True) (exact trivial)
            (first
              | (go_at_call 29; refine (sx_homes HXD.out HSY9.out.live (by rw [HSY9.out.now, HN5.out]; omega)).mono ?_; rintro e wy ⟨nv, rfl, hrown, hy, hby⟩; have hsn := hrown.ss; rw [HHO.out] at hsn; have hsa := (HRD.out.moved (Moved.of_below hby (fun _ => False)) (fun h => h)).ss 19 19 HWL.out.symm (by rw [HWL.out]; exact Nat.le_refl _) (by simp [maxLen]); have hsm := lsame_any _ _ _ _ _ hsn hsa; rw [decide_eq_true rfl] at hsm; have HSAME := Lib.hid hsm; have HBY := Lib.hid hy.below; obtain ⟨no, nc, rfl, -⟩ := hrown.ss; clear hrown hsn hsa hsm hy hby)
              | (go_at_call 30; refine HSAME.out.mono ?_; rintro e wq ⟨rfl, hbq⟩; have HBQ := Lib.hid (HBY.out.trans (hbq.mono HBY.out.size))))
          go_wp2_with fail
          go_ret
          exact ⟨rfl, HBQ.out⟩
end Go.Proofs.Ytkhdahipnfloeaa
