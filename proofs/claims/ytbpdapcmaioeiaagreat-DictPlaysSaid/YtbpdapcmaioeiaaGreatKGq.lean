/- Gq -/
import Derived.Test.YtbpdapcmaioeiaaGreatKGp
namespace Go.Proofs.YtbpdapcmaioeiaaGreat
open Go.RowKit Go.Maps
set_option maxRecDepth 100000
set_option linter.unusedVariables false
set_option maxHeartbeats 2000000 in
theorem search_even (n : Nat) (hn : n ≤ 1000000) (P : Nat → Bool) (c1 c2 c3 : Value) (w : World) (hf : ∀ h : Nat, h < n → ∀ w1, Below w.heap.size w w1 → Calls Tryz.prog 161 #[.int .i64 h, c1, c2, c3] w1 fun e w2 => e = .returned (.bool (P h)) ∧ Below w1.heap.size w1 w2) :
 Calls Tryz.prog 160 #[.int .i64 n, .func (.func 161) #[] #[c1, c2, c3]] w fun e w' => ∃ m : Nat, e = .returned (.int .i64 m) ∧ m ≤ n ∧ (m = n ∨ P m = true) ∧ (m = 0 ∨ P (m - 1) = false) ∧ Below w.heap.size w w' := by
 have HF := Lib.hid hf
 clear hf
 go_enter Tryz.func160, Tryz.ntmps160
 go_wp2_with fail
 go_loopw [5, 6] (fun v5 v6 wr => ∃ i j : Nat, i ≤ j ∧ j ≤ n ∧ v5 = .int .i64 i ∧ v6 = .int .i64 j ∧ (j = n ∨ P j = true) ∧ (i = 0 ∨ P (i - 1) = false) ∧ Below w.heap.size w wr) (fun v5 v6 _ => (intOf v6 - intOf v5).toNat)
 case atStart => exact ⟨0, n, Nat.zero_le _, Nat.le_refl _, rfl, rfl, .inl rfl, .inl rfl, Below.refl _ _⟩
 case round =>
  obtain ⟨i, j, hij, hjn, rfl, rfl, h1, h2, hb⟩ := hrel
  have H1 := Lib.hid h1
  have H2 := Lib.hid h2
  have HB := Lib.hid hb
  clear h1 h2 hb
  by_cases hlt : i < j
  ·have hlt' : (i : Int) < j := by omega
   obtain ⟨h, hh⟩ : ∃ h : Nat, h = (i + j) / 2 := ⟨_, rfl⟩
   have hhi : ((i : Int) + j) / 2 = h := by omega
   have hi1 : i ≤ h := by omega
   have hj1 : h < j := by omega
   have hfh := HF.out h (by omega) wr HB.out
   have HFH := Lib.hid hfh
   clear hfh hh
   go_wp2_with fail
   refine HFH.out.mono ?_
   rintro e w2 ⟨rfl, hb2⟩
   have HB2 := Lib.hid (HB.out.trans (hb2.mono HB.out.size))
   obtain ⟨t, ht⟩ : ∃ t, t = P h := ⟨_, rfl⟩
   rw [← ht]
   have HT := Lib.hid ht
   clear hb2 ht HFH
   cases t with
   | false =>
    go_wp2_with fail
    go_roundw
    case rel => exact ⟨h + 1, j, by omega, hjn, by go_num, rfl, H1.out, .inr (by simpa using HT.out.symm), HB2.out⟩
    case measure => simp [intOf]; omega
   | true =>
    go_wp2_with fail
    go_roundw
    case rel => exact ⟨i, h, hi1, by omega, rfl, rfl, .inr HT.out.symm, H2.out, HB2.out⟩
    case measure => simp [intOf]; omega
  ·obtain rfl : i = j := by omega
   go_wp2_with fail
   go_ret
   exact ⟨i, rfl, hjn, H1.out, H2.out, HB.out⟩
/-- A node: its page, its level, its entries. -/
structure Nd' where
 at' : Int
 lvl : Int
 es : List Ent
/-- A row of nodes. -/
def Nds (w : World) (S : Nat → Prop) (v : Value) (ns : List Nd') : Prop :=
 ∃ ao cap, v = .slice ao ns.length cap ∧ ns.length ≤ cap ∧ cap ≤ 9223372036854775807 ∧ ∀ k (hk : k < ns.length), ∃ b off, ao = some ⟨b, off, none⟩ ∧ b < w.heap.size ∧ S b ∧ ∃ u, w.cell? ⟨b, off + k * 3, none⟩ = some (.int .i64 ns[k].at') ∧ w.cell? ⟨b, off + k * 3 + 1, none⟩ = some (.int .i64 ns[k].lvl) ∧ w.cell? ⟨b, off + k * 3 + 2, none⟩ = some u ∧ Ens w u ns[k].es ∧ ∀ q, u.ownBlock = some q → S q
theorem Nds.moved {P : Nat → Prop} {w w' : World} {S : Nat → Prop} {v : Value} {ns : List Nd'} (h : Nds w S v ns) (hm : Moved P w w') (hS : ∀ q, S q → ¬ P q) : Nds w' S v ns := by
 obtain ⟨ao, cap, e, h1, h2, h3⟩ := h
 refine ⟨ao, cap, e, h1, h2, fun k hk => ?_⟩
 obtain ⟨b, off, e', hlt, hb, u, c0, c1, c2, hu, hq⟩ := h3 k hk
 have hbk : ∀ j, w'.cell? ⟨b, j, none⟩ = w.cell? ⟨b, j, none⟩ := fun j => World.cell?_of_block (a := ⟨b, j, none⟩) (hm.block b hlt (hS b hb))
 have hs := hm.size
 exact ⟨b, off, e', by omega, hb, u, (hbk _).trans c0, (hbk _).trans c1, (hbk _).trans c2, hu.moved hm (fun _ q h => hS q (hq q h)), hq⟩
theorem Nds.below {w w' : World} {S : Nat → Prop} {v : Value} {ns : List Nd'} (h : Nds w S v ns) (hb : Below w.heap.size w w') : Nds w' S v ns := h.moved (Moved.of_below hb (fun _ => False)) (fun _ _ h => h)
def allEs (ns : List Nd') : List Ent := ns.flatMap (·.es)
theorem allEs_take {ns : List Nd'} {k : Nat} (hk : k < ns.length) : allEs (ns.take (k + 1)) = allEs (ns.take k) ++ ns[k].es := by
 unfold allEs
 rw [List.take_succ_eq_append_getElem hk, List.flatMap_append]; simp
theorem allEs_le (ns : List Nd') (k : Nat) : (allEs (ns.take k)).length ≤ (allEs ns).length := by
 have h : allEs ns = allEs (ns.take k) ++ allEs (ns.drop k) := by unfold allEs; rw [← List.flatMap_append, List.take_append_drop]
 rw [h, List.length_append]; omega
set_option maxHeartbeats 2000000 in
/-- even's question: does so much make so few parts? -/
theorem evenq_any (b3 b6 b7 : Nat) (v : Value) (es : List Ent) (lvl fewest : Int) (h : Nat) (w : World) (c3 : w.cell? ⟨b3, 0, none⟩ = some v) (c6 : w.cell? ⟨b6, 0, none⟩ = some (.int .i64 lvl)) (c7 : w.cell? ⟨b7, 0, none⟩ = some (.int .i64 fewest))
 (hes : Ens w v es) (hn : es.length ≤ 10000) (hok : ∀ e ∈ es, EntOk e) (hvb : ∀ q, v.ownBlock = some q → q < w.heap.size) :
 Calls Tryz.prog 161 #[.int .i64 h, .pointer (some ⟨b3, 0, none⟩), .pointer (some ⟨b6, 0, none⟩), .pointer (some ⟨b7, 0, none⟩)] w fun e w2 => e = .returned (.bool (((partedOf lvl h es).length : Int) == fewest)) ∧ Below w.heap.size w w2 := by
 obtain ⟨ao, cap, rfl, -⟩ := hes.form
 have HES := Lib.hid hes
 have HOK := Lib.hid hok
 have HVB := Lib.hid hvb
 have HN := Lib.hid hn
 have C3 := Lib.hid c3
 have C6 := Lib.hid c6
 have C7 := Lib.hid c7
 have L3 := Lib.hid (World.block_lt_of_cell? w _ c3)
 have L6 := Lib.hid (World.block_lt_of_cell? w _ c6)
 have L7 := Lib.hid (World.block_lt_of_cell? w _ c7)
 have hpl : (partedOf lvl h es).length ≤ 10001 := by
  unfold partedOf
  rw [List.length_append]
  have := pstate_len lvl h es
  simp only [List.length_cons, List.length_nil]; omega
 have HPL := Lib.hid hpl
 obtain ⟨n, hn'⟩ : ∃ n, n = es.length := ⟨_, rfl⟩
 rw [← hn'] at C3 HES HVB
 clear hes hok hvb hn c3 c6 c7 hpl hn'
 go_enter Tryz.func161, Tryz.ntmps161
 go_wp2_with fail
 refine wp_region_any (by kernel_rfl) ?_
 change wpAny _ _ _ _ _ _ _ (World.drew _)
 refine wpAny_of_held (S := fun (w' : World) => w'.cell? ⟨b3, 0, none⟩ = some (.slice ao n cap) ∧ w'.cell? ⟨b6, 0, none⟩ = some (.int .i64 lvl) ∧ w'.cell? ⟨b7, 0, none⟩ = some (.int .i64 fewest)) _ _ _ _ ?_
 have hS : (fun (w' : World) => w'.cell? ⟨b3, 0, none⟩ = some (.slice ao n cap) ∧ w'.cell? ⟨b6, 0, none⟩ = some (.int .i64 lvl) ∧ w'.cell? ⟨b7, 0, none⟩ = some (.int .i64 fewest)) _ := ⟨C3.out, C6.out, C7.out⟩
 try simp only [Act.put, List.setIfInBounds_toArray, List.set_cons_zero, List.set_cons_succ]
 refine wpAnyH_take (i := 0) (oi := ⟨some 6, _, _, _, _, _⟩) (v := ?_) rfl (by kernel_rfl) (by kernel_rfl) (by kernel_rfl) (fun _ _ _ h => h) (Or.inl ⟨by simp only [Region.wanted], ?_⟩) hS ?_
 rotate_left
 ·intro wz hSw
  (try dsimp only at hSw)
  (try go_split_ands)
  go_simp
  first | done | with_reducible rfl
 try simp only [Act.put, List.setIfInBounds_toArray, List.set_cons_zero, List.set_cons_succ]
 refine wpAnyH_take (i := 1) (oi := ⟨some 7, _, _, _, _, _⟩) (v := ?_) rfl (by kernel_rfl) (by kernel_rfl) (by kernel_rfl) (fun _ _ _ h => h) (Or.inl ⟨by simp only [Region.wanted], ?_⟩) hS ?_
 rotate_left
 ·intro wz hSw
  (try dsimp only at hSw)
  (try go_split_ands)
  go_simp
  first | done | with_reducible rfl
 try simp only [Act.put, List.setIfInBounds_toArray, List.set_cons_zero, List.set_cons_succ]
 refine wpAnyH_take (i := 2) (oi := ⟨some 8, _, _, _, _, _⟩) (v := ?_) rfl (by kernel_rfl) (by kernel_rfl) (by kernel_rfl) (fun _ _ _ h => h) (Or.inl ⟨by simp only [Region.wanted], ?_⟩) hS ?_
 rotate_left
 ·intro wz hSw
  clear hSw
  go_simp
  first | done | with_reducible rfl
 try simp only [Act.put, List.setIfInBounds_toArray, List.set_cons_zero, List.set_cons_succ]
 refine wpAnyH_take (i := 5) (oi := ⟨some 11, _, _, _, _, _⟩) (v := ?_) rfl (by kernel_rfl) (by kernel_rfl) (by kernel_rfl) (fun _ _ _ h => h) (Or.inl ⟨by simp only [Region.wanted], ?_⟩) hS ?_
 rotate_left
 ·intro wz hSw
  (try dsimp only at hSw)
  (try go_split_ands)
  go_simp
  first | done | with_reducible rfl
 try simp only [Act.put, List.setIfInBounds_toArray, List.set_cons_zero, List.set_cons_succ]
 refine wpAnyH_ready (rs := [3]) (by kernel_rfl) (by simp) ?_
 refine AllReadyH.cons (o := ⟨some 9, _, _, _, _, _⟩) rfl (fun K hK => ?_) AllReadyH.nil
 go_simp
 refine (parted_any _ es lvl h w.drew (show Ens w.drew _ es from HES.out) HN.out HOK.out HVB.out).mono ?_
 rintro en w4 ⟨v4, rfl, ho4, hb4⟩
 obtain ⟨ao4, cap4, rfl, k1, k2⟩ := ho4.form
 obtain ⟨np, hnp⟩ : ∃ np, np = (partedOf lvl h es).length := ⟨_, rfl⟩
 have hnp2 : np ≤ 10001 := by rw [hnp]; exact HPL.out
 rw [← hnp]
 have HNP := Lib.hid hnp
 have HB4 := Lib.hid ((Below.refl w.heap.size w).drew.trans hb4)
 clear ho4 hb4 hnp k1 k2
 refine hK.out _ _ (⟨(HB4.out.cell (show (⟨b3, 0, none⟩ : Addr).block < _ from L3.out)).trans C3.out, (HB4.out.cell (show (⟨b6, 0, none⟩ : Addr).block < _ from L6.out)).trans C6.out, (HB4.out.cell (show (⟨b7, 0, none⟩ : Addr).block < _ from L7.out)).trans C7.out⟩) (fun hS => ?_)
 clear hK K
 try simp only [Act.put, List.setIfInBounds_toArray, List.set_cons_zero, List.set_cons_succ]
 refine wpAnyH_take (i := 4) (oi := ⟨some 10, _, _, _, _, _⟩) (v := ?_) rfl (by kernel_rfl) (by kernel_rfl) (by kernel_rfl) (fun _ _ _ h => h) (Or.inl ⟨by simp only [Region.wanted], ?_⟩) hS ?_
 rotate_left
 ·intro wz hSw
  clear hSw
  go_simp
  first | done | with_reducible rfl
 try simp only [Act.put, List.setIfInBounds_toArray, List.set_cons_zero, List.set_cons_succ]
 refine wpAnyH_take (i := 6) (oi := ⟨some 12, _, _, _, _, _⟩) (v := ?_) rfl (by kernel_rfl) (by kernel_rfl) (by kernel_rfl) (fun _ _ _ h => h) (Or.inl ⟨by simp only [Region.wanted], ?_⟩) hS ?_
 rotate_left
 ·intro wz hSw
  clear hSw
  go_simp
  first | done | with_reducible rfl
 try simp only [Act.put, List.setIfInBounds_toArray, List.set_cons_zero, List.set_cons_succ]
 refine wpAnyH_take (i := 7) (oi := ⟨some 5, _, _, _, _, _⟩) (v := ?_) rfl (by kernel_rfl) (by kernel_rfl) (by kernel_rfl) (fun _ _ _ h => h) (Or.inl ⟨by simp only [Region.wanted], ?_⟩) hS ?_
 rotate_left
 ·intro wz hSw
  clear hSw
  go_simp
  first | done | with_reducible rfl
 try simp only [Act.put, List.setIfInBounds_toArray, List.set_cons_zero, List.set_cons_succ]
 refine wpAnyH_done (by kernel_rfl) ?_ _
 clear hS
 go_wp2_with fail
 go_ret
 refine ⟨?_, HB4.out⟩
 rw [← HNP.out]
 rfl
theorem partedOf_len (lvl most : Int) (es : List Ent) : (partedOf lvl most es).length ≤ es.length + 1 ∧ 1 ≤ (partedOf lvl most es).length := by
 unfold partedOf
 rw [List.length_append]
 have := pstate_len lvl most es
 simp only [List.length_cons, List.length_nil]; omega
/-- What even makes of entries: parts, for a number that makes as few as a whole page does. -/
def EvenOf (lvl : Int) (es : List Ent) (ls : List (List Ent)) : Prop :=
 ∃ m : Nat, m ≤ 502 ∧ ls = partedOf lvl m es ∧ ls.length = (partedOf lvl 502 es).length ∧ (m = 0 ∨ (partedOf lvl ((m - 1 : Nat) : Int) es).length ≠ (partedOf lvl 502 es).length)
set_option maxHeartbeats 4000000 in
theorem even_any (S : Nat → Prop) (v : Value) (ns : List Nd') (w : World) (hv : Nds w S v ns) (h0 : 0 < ns.length) (hn : ns.length ≤ 10) (hne : (allEs ns).length ≤ 10000) (hok : ∀ e ∈ allEs ns, EntOk e) (lvl : Int) (hlvl : ns[0].lvl = lvl) :
 Calls Tryz.prog 146 #[v] w fun e w' => ∃ v' ls, e = .returned v' ∧ EvenOf lvl (allEs ns) ls ∧ Owr w' w.heap.size (fun q => w.heap.size ≤ q ∧ q < w'.heap.size) v' ls ∧ Below w.heap.size w w' := by
 obtain ⟨ao, cap, rfl, hc1, hc2, -⟩ := id hv
 obtain ⟨n, hn'⟩ : ∃ n, n = ns.length := ⟨_, rfl⟩
 have hal : Below w.heap.size w (w.alloc (.cells #[.slice none 0 0] 132)) := (Below.refl _ w).alloc (Nat.le_refl _) _
 have hb := Blk.new w #[.slice none 0 0] 132
 have HN := Lib.hid hn'
 have HV := Lib.hid hv
 have HNE := Lib.hid hne
 have HOK := Lib.hid hok
 have HLV := Lib.hid hlvl
 rw [← hn'] at hc1 h0 hn HV ⊢
 have hsz : (w.alloc (.cells #[.slice none 0 0] 132)).heap.size = w.heap.size + 1 := by simp
 obtain ⟨w1, hw1⟩ : ∃ w1, w1 = w.alloc (.cells #[.slice none 0 0] 132) := ⟨_, rfl⟩
 rw [← hw1] at hal hb hsz
 have HAL := Lib.hid hal
 have HB0 := Lib.hid hb
 have HW1 := Lib.hid hw1
 have HSZ := Lib.hid hsz
 clear hv hn' hne hok hlvl hal hb hw1 hsz
 go_enter Tryz.func146, Tryz.ntmps146
 go_wp2_with fail
 rw [← HW1.out]
 go_loopw [5, 11] (fun _ i wr => ∃ (k q : Nat) (a3 : Option Addr) (c3 : Nat), k ≤ n ∧ i = .int .i64 k ∧ q = (allEs (ns.take k)).length ∧ q ≤ c3 ∧ c3 ≤ 9223372036854775807 ∧ Blk wr w.heap.size #[.slice a3 q c3] 132 ∧ Owe wr w1.heap.size (.slice a3 q c3) (allEs (ns.take k)) ∧ Moved (· = w.heap.size) w1 wr) (fun _ i _ => n - (intOf i).toNat)
 case atStart => exact ⟨0, 0, none, 0, Nat.zero_le _, rfl, by simp [allEs], Nat.le_refl _, by decide, HB0.out, by simpa [allEs] using Owe.nil w1 w1.heap.size, Moved.refl _ _⟩
 case round =>
  obtain ⟨k, q, a3, c3, hk, rfl, hq, hq1, hq2, hbk, ho, hm⟩ := hrel
  have HQ := Lib.hid hq
  have HBK := Lib.hid hbk
  have HO := Lib.hid ho
  have HM := Lib.hid hm
  have HBW := Lib.hid (HAL.out.trans (hm.below (B := w.heap.size) (fun j hj => by omega) (by have := HSZ.out; omega)))
  clear hq hbk ho hm
  have d3 : wr.cell? ⟨w.heap.size, 0, none⟩ = some (.slice a3 q c3) := by rw [HBK.out.cell]; rfl
  by_cases hlt : k < n
  ·have hkn : k < ns.length := by rw [← HN.out]; exact hlt
   obtain ⟨ao', cap', hsl, -, -, hE⟩ := HV.out.below HBW.out
   rw [← HN.out] at hsl
   simp only [Value.slice.injEq, true_and] at hsl
   obtain ⟨rfl, rfl⟩ := hsl
   obtain ⟨b, off, rfl, -, -, u, e0, e1, e2, hu, -⟩ := hE k hkn
   obtain ⟨bo, bc, rfl, -⟩ := hu.form
   obtain ⟨lk, hlk⟩ : ∃ lk, lk = ns[k].es := ⟨_, rfl⟩
   obtain ⟨av, hav⟩ : ∃ y, y = ns[k].at' := ⟨_, rfl⟩
   obtain ⟨lv, hlv⟩ : ∃ y, y = ns[k].lvl := ⟨_, rfl⟩
   obtain ⟨nk, hnk⟩ : ∃ nk, nk = lk.length := ⟨_, rfl⟩
   rw [← hlk] at e2 hu
   rw [← hnk] at e2 hu
   rw [← hav] at e0
   rw [← hlv] at e1
   have htk : allEs (ns.take (k + 1)) = allEs (ns.take k) ++ lk := by rw [allEs_take hkn, hlk]
   have hnx : q + nk = (allEs (ns.take k) ++ lk).length := by rw [List.length_append, ← HQ.out, hnk]
   have hqn : q + nk ≤ 1000000 := by
    rw [hnx, ← htk]
    have := allEs_le ns (k + 1)
    have := HNE.out
    omega
   have hal2 : Below wr.heap.size wr (wr.alloc (.cells #[.int .i64 av, .int .i64 lv, .slice bo nk bc] 140)) := (Below.refl _ wr).alloc (Nat.le_refl _) _
   have hbk2 := HBK.out.moved (Moved.of_below hal2 (fun _ => False)) (fun h => h)
   have HTK := Lib.hid htk
   have HNX := Lib.hid hnx
   have HQN := Lib.hid hqn
   have HU2 := Lib.hid (Ens.below hu hal2)
   have HO2 := Lib.hid (HO.out.below hal2)
   have HBK2 := Lib.hid hbk2
   have g3 : (wr.alloc (.cells #[.int .i64 av, .int .i64 lv, .slice bo nk bc] 140)).cell? ⟨w.heap.size, 0, none⟩ = some (.slice a3 q c3) := by rw [hbk2.cell]; rfl
   have HS2 := Lib.hid (Nat.le_trans HM.out.size hal2.size)
   have HOB := Lib.hid HO.out.lt
   have HFB := Lib.hid (show ∀ w5 : World, (wr.alloc (.cells #[.int .i64 av, .int .i64 lv, .slice bo nk bc] 140)).grownBy w5 (Value.slice a3 q c3).ownBlock → w5.cell? ⟨w.heap.size, 0, none⟩ = some (.slice a3 q c3) ∧ w5.frozen? ⟨w.heap.size, 0, none⟩ = false ∧ Blk w5 w.heap.size #[.slice a3 q c3] 132 from fun w5 hg => by
    have hl : w.heap.size < (wr.alloc (.cells #[.int .i64 av, .int .i64 lv, .slice bo nk bc] 140)).heap.size := hbk2.lt
    have hbb := hg.block w.heap.size hl (fun e => by have := (HO.out.lt _ e.symm).1; have := HSZ.out; omega)
    exact ⟨(World.cell?_of_block (a := ⟨w.heap.size, 0, none⟩) hbb).trans (by rw [hbk2.cell]; rfl), (World.frozen?_of_block (a := ⟨w.heap.size, 0, none⟩) hbb).trans (hbk2.frozen 0), hbb.trans hbk2⟩)
   have HM2 := Lib.hid (HM.out.trans (Moved.of_below hal2 (· = w.heap.size)) (fun j hj => .inl hj))
   have hlt' : (k : Int) < n := by omega
   clear hE hu hlk hav hlv hnk htk hnx hqn hal2 hbk2
   go_wp2_with (at_builtin; refine wpList_append_ens rfl _ _ rfl w1.heap.size HS2.out (.slice a3 q c3) (allEs (ns.take k)) rfl HO2.out (.slice bo nk bc) lk rfl HU2.out (q + nk) HNX.out HQN.out ?_; intro ao5 cap5 w5 ho5 hg5; obtain ⟨f0, f1, f2⟩ := HFB.out w5 hg5)
   obtain ⟨aox, capx, hslx, hx1, hx2⟩ := ho5.form
   simp only [Value.slice.injEq] at hslx
   obtain ⟨rfl, -, rfl⟩ := hslx
   have HF2 := Lib.hid f2
   have HO5 := Lib.hid ho5
   have HM5 := Lib.hid (HM2.out.grown hg5 (fun q hq => .inr (HOB.out q hq).1))
   clear ho5 hg5 f0 f1 f2
   go_roundw
   case rel =>
    refine ⟨k + 1, q + nk, _, _, by omega, by go_num, by rw [HTK.out]; exact HNX.out, by rw [HNX.out]; exact hx1, hx2, HF2.out.set 0 _, ?_, HM5.out.setCell _ _ (.inl rfl)⟩
    rw [HTK.out]
    exact HO5.out.moved ((Moved.refl (· = w.heap.size) w5).setCell ⟨w.heap.size, 0, none⟩ _ (.inl rfl)) (fun q hq e => by have := (HO5.out.lt q hq).1; have := HSZ.out; omega)
   case measure => simp [intOf]; omega
  ·obtain rfl : n = k := by omega
   have hall : ns.take n = ns := by rw [HN.out, List.take_length]
   have hq' := HQ.out
   have ho' := HO.out
   rw [hall] at hq' ho'
   obtain ⟨es, hes⟩ : ∃ es, es = allEs ns := ⟨_, rfl⟩
   have hok := HOK.out
   have hne := HNE.out
   rw [← hes] at hq' ho' hok hne
   have hn0 : 0 < ns.length := by rw [← HN.out]; exact h0
   obtain ⟨ao', cap', hsl, -, -, hE⟩ := HV.out.below HBW.out
   rw [← HN.out] at hsl
   simp only [Value.slice.injEq, true_and] at hsl
   obtain ⟨rfl, rfl⟩ := hsl
   obtain ⟨b, off, rfl, -, -, u, e0, e1, e2, -, -⟩ := hE 0 hn0
   rw [HLV.out, Nat.zero_mul, Nat.add_zero] at e1
   have hal6 : Below wr.heap.size wr (wr.alloc (.cells #[.int .i64 lvl] 3)) := (Below.refl _ wr).alloc (Nat.le_refl _) _
   have hb6 := Blk.new wr #[.int .i64 lvl] 3
   have hs6 : (wr.alloc (.cells #[.int .i64 lvl] 3)).heap.size = wr.heap.size + 1 := by simp
   obtain ⟨w6, hw6⟩ : ∃ w6, w6 = wr.alloc (.cells #[.int .i64 lvl] 3) := ⟨_, rfl⟩
   rw [← hw6] at hal6 hb6 hs6
   have g3 : w6.cell? ⟨w.heap.size, 0, none⟩ = some (.slice a3 q c3) := (hal6.cell (show (⟨w.heap.size, 0, none⟩ : Addr).block < _ from HBK.out.lt)).trans d3
   have g6 : w6.cell? ⟨wr.heap.size, 0, none⟩ = some (.int .i64 lvl) := by rw [hb6.cell]; rfl
   have hens : Ens w6 (.slice a3 q c3) es := ho'.ens.below hal6
   have hvb : ∀ q', (Value.slice a3 q c3).ownBlock = some q' → q' < w6.heap.size := fun q' h => Nat.lt_of_lt_of_le (ho'.lt q' h).2 hal6.size
   have hobk : ∀ q', (Value.slice a3 q c3).ownBlock = some q' → w.heap.size ≤ q' := fun q' h => Nat.le_trans HAL.out.size (ho'.lt q' h).1
   have hp := parted_any (.slice a3 q c3) es lvl 502 w6 hens hne hok hvb
   have HP := Lib.hid hp
   have HW6 := Lib.hid hw6
   have HENS := Lib.hid hens
   have HVB := Lib.hid hvb
   have HOBK := Lib.hid hobk
   have HNE2 := Lib.hid hne
   have HOK2 := Lib.hid hok
   have HES := Lib.hid hes
   have G3 := Lib.hid g3
   have G6 := Lib.hid g6
   have HS6 := Lib.hid hs6
   have HAL6 := Lib.hid hal6
   have HB06 := Lib.hid (HBW.out.trans (hal6.mono HBW.out.size))
   have HBLT := Lib.hid HBK.out.lt
   rw [hw6] at g3 g6
   clear hall hq' ho' hok hne hes hE e0 e2 hal6 hb6 hs6 hens hvb hobk hp hw6
   go_wp2_with fail
   rw [← HW6.out]
   refine HP.out.mono ?_
   rintro en w7 ⟨v7, rfl, ho7, hb7⟩
   obtain ⟨ao7, cap7, rfl, k7, k7'⟩ := ho7.form
   obtain ⟨fw, hfw⟩ : ∃ fw, fw = (partedOf lvl 502 es).length := ⟨_, rfl⟩
   have hfw2 : fw ≤ 10001 := by rw [hfw]; have := (partedOf_len lvl 502 es).1; have := HNE2.out; omega
   rw [← hfw]
   have hb7' : Below w7.heap.size w7 (w7.alloc (.cells #[.int .i64 fw] 3)) := (Below.refl _ w7).alloc (Nat.le_refl _) _
   have hbk7 := Blk.new w7 #[.int .i64 fw] 3
   obtain ⟨w8, hw8⟩ : ∃ w8, w8 = w7.alloc (.cells #[.int .i64 fw] 3) := ⟨_, rfl⟩
   rw [← hw8] at hb7' hbk7
   have hb68 : Below w6.heap.size w6 w8 := hb7.trans (hb7'.mono hb7.size)
   have G38 := Lib.hid ((hb68.cell (show (⟨w.heap.size, 0, none⟩ : Addr).block < _ from Nat.lt_of_lt_of_le HBLT.out HAL6.out.size)).trans G3.out)
   have G68 := Lib.hid ((hb68.cell (show (⟨wr.heap.size, 0, none⟩ : Addr).block < _ from by have := HS6.out; show wr.heap.size < _; omega)).trans G6.out)
   have G78 := Lib.hid (show w8.cell? ⟨w7.heap.size, 0, none⟩ = some (.int .i64 fw) by rw [hbk7.cell]; rfl)
   have HENS8 := Lib.hid (HENS.out.below hb68)
   have HB68 := Lib.hid hb68
   have HW8 := Lib.hid hw8
   have HFW := Lib.hid hfw
   have hse := search_even 502 (by decide) (fun h => ((partedOf lvl h es).length : Int) == fw) (.pointer (some ⟨w.heap.size, 0, none⟩)) (.pointer (some ⟨wr.heap.size, 0, none⟩)) (.pointer (some ⟨w7.heap.size, 0, none⟩)) w8 (fun h hh w1 hb1 =>
    evenq_any _ _ _ _ es lvl fw h w1 ((hb1.cell (World.block_lt_of_cell? w8 _ G38.out)).trans G38.out) ((hb1.cell (World.block_lt_of_cell? w8 _ G68.out)).trans G68.out) ((hb1.cell (World.block_lt_of_cell? w8 _ G78.out)).trans G78.out) (HENS8.out.below hb1) HNE2.out HOK2.out (fun q' h => Nat.lt_of_lt_of_le (HVB.out q' h) (Nat.le_trans hb68.size hb1.size)))
   have HSE := Lib.hid hse
   clear ho7 hb7 hfw hb7' hbk7 hw8 hb68 hse k7 k7' g3 g6
   go_wp2_with fail
   rw [← HW8.out]
   refine HSE.out.mono ?_
   rintro en w9 ⟨m, rfl, hm1, hm2, hm3, hb9⟩
   have g39 := (hb9.cell (World.block_lt_of_cell? w8 _ G38.out)).trans G38.out
   have g69 := (hb9.cell (World.block_lt_of_cell? w8 _ G68.out)).trans G68.out
   have hp := parted_any (.slice a3 q c3) es lvl m w9 (HENS8.out.below hb9) HNE2.out HOK2.out (fun q' h => Nat.lt_of_lt_of_le (HVB.out q' h) (Nat.le_trans HB68.out.size hb9.size))
   have HP9 := Lib.hid hp
   have HB9 := Lib.hid (HB06.out.trans ((HB68.out.trans (hb9.mono HB68.out.size)).mono HB06.out.size))
   have HM2 := Lib.hid hm2
   have HM3 := Lib.hid hm3
   have HM1 := Lib.hid hm1
   have HS69 := Lib.hid (Nat.le_trans HB68.out.size hb9.size)
   clear hp hb9 hm2 hm3 hm1 HSE
   go_wp2_with fail
   refine HP9.out.mono ?_
   rintro en w10 ⟨v10, rfl, ho10, hb10⟩
   have HO10 := Lib.hid ho10
   have HB10 := Lib.hid (HB9.out.trans (hb10.mono HB9.out.size))
   have HS9 := Lib.hid HB9.out.size
   have HS910 := Lib.hid (Nat.le_trans HS69.out hb10.size)
   clear ho10 hb10
   go_wp2_with fail
   go_ret
   rw [← HES.out]
   refine ⟨_, partedOf lvl m es, rfl, ⟨m, HM1.out, rfl, ?_, ?_⟩, ?_, HB10.out⟩
   ·rcases HM2.out with h | h
    ·rw [h]; rfl
    ·have := of_decide_eq_true h
     rw [HFW.out] at this
     omega
   ·rcases HM3.out with h | h
    ·exact .inl h
    ·refine .inr (fun e => ?_)
     rw [HFW.out, e] at h
     simp at h
   ·obtain ⟨vs, z1, z2, z3⟩ := HO10.out.mono HS9.out
    exact ⟨vs, z1, z2, fun j hj hv => ⟨(z3 j hj hv).1, fun g hg => ⟨HOBK.out g ((z3 j hj hv).2 g hg), Nat.lt_of_lt_of_le (HVB.out g ((z3 j hj hv).2 g hg)) HS910.out⟩⟩⟩
end Go.Proofs.YtbpdapcmaioeiaaGreat
namespace Go.Proofs.YtbpdapcmaioeiaaGreat
open Go.RowKit Go.Maps
set_option maxRecDepth 100000
set_option linter.unusedVariables false
section
variable {w0 w w' : World} {X : Nat → Prop} {r p N M c : Nat} {G : Lg} {H : Option Lg}
theorem Pb.less {X' : Nat → Prop} (h : Pb w0 w X r p N M c G H) (hX : ∀ k, X' k → X k) : Pb w0 w X' r p N M c G H := by
 obtain ⟨A, K, T, h, k⟩ := h; exact ⟨A, K, T, h.less hX, k⟩
/-- A row of X was written, or a new one was made. -/
theorem Pb.grown {X' : Nat → Prop} {row : Option Nat} (h : Pb w0 w X r p N M c G H) (hg : w.grownBy w' row) (hr : ∀ k, row = some k → X k ∧ w0.heap.size ≤ k) (hX : ∀ k, X' k → X k ∨ (w.heap.size ≤ k ∧ k < w'.heap.size)) :
 Pb w0 w' X' r p N M c G H := by
 obtain ⟨A, K, T, ⟨h1, h2, P, Q, h3, h4, h5, h6⟩, k⟩ := h
 have hm : Moved (fun k => row = some k) w w' := ⟨hg.os, hg.tape, hg.output, hg.size, fun k hk hne => hg.block k hk (fun e => hne e.symm)⟩
 have hs := hg.size
 refine ⟨A, K, T, ⟨h1.trans (hm.below (fun k hk => (hr k hk).2) h1.size), fun k hk => ?_, P, Q, h3.moved hm (fun k hk e => (h5 k hk).2.2 (hr k e).1), h4.moved hm (fun k hk e => (h6 k hk).2.2.1 (hr k e).1), fun k hk => ?_, fun k hk => ?_⟩, k⟩
 ·rcases hX k hk with e | e
  ·exact Nat.lt_of_lt_of_le (h2 k e) hs
  ·exact e.2
 ·have := h5 k hk
  exact ⟨this.1, by omega, fun e => by rcases hX k e with e | e; exact this.2.2 e; omega⟩
 ·have := h6 k hk
  exact ⟨this.1, by omega, fun e => by rcases hX k e with e | e; exact this.2.2.1 e; omega, this.2.2.2⟩
theorem Pb.lt (h : Pb w0 w X r p N M c G H) (k : Nat) (hk : X k) : k < w.heap.size := by
 obtain ⟨A, K, T, ⟨-, h2, -⟩, -⟩ := h; exact h2 k hk
end
/-- l = append(l, e) -/
theorem wpList_append_ent {w : World} {ops : Array Oper} {rest : List Oper} {o : Oper} {a : Act} {Q : Exit → Act → World → Prop} (hgd : o.guard = none) (s x : Operand)
 (ho : o.op = .call { callee := .builtin .append, args := #[s, x], argTypes := #[132, 132] }) (base : Nat) (hbase : base ≤ w.heap.size)
 (v : Value) (es : List Ent) (hs : a.eval s = v) (hown : Owe w base v es) (g0 : Nat) (hx : a.eval x = .slice (some ⟨g0, 0, none⟩) 1 1) (e : Ent) (hg : Blk w g0 #[.string e.key, .string e.val, .int .i64 e.kid] 121) (n : Nat) (hn : n = es.length + 1) (hl : n ≤ 1000000)
 (h : ∀ ao cap w', Owe w' base (.slice ao n cap) (es ++ [e]) → n ≤ cap → cap ≤ 9223372036854775807 → w.grownBy w' v.ownBlock → (∀ q, (Value.slice ao n cap).ownBlock = some q → v.ownBlock = some q ∨ w.heap.size ≤ q) → wpList Tryz.prog ops Q rest (a.put o.dst (.slice ao n cap)) w') :
 wpList Tryz.prog ops Q (o :: rest) a w := by
 obtain ⟨i0, hi, hz0, hz1, hz2⟩ := info_parts Tryz.infoEnt
 refine wpList_append_lies w hgd s x _ ho base 121 i0 _ 3 40 Tryz.underlying132 hi hz0 hz1 hz2 rfl (by decide) v es.length (ecells es) hs hown ⟨g0, 0, none⟩ 1 1 (Ent.cells e) hx rfl ?_ ?_ (by decide) (by simp [maxLen]; omega) (by omega) hbase _ rfl ?_
 ·intro j u hj
  rw [show (⟨g0, 0, none⟩ : Addr).add j = ⟨g0, j, none⟩ from by unfold Addr.add; split <;> simp_all, hg.cell]
  simpa [Ent.cells] using hj
 ·intro u hu
  simp [Ent.cells] at hu
  rcases hu with rfl | rfl | rfl <;> rfl
 ·intro g cap w' k1 k2 k3 k4
  subst hn
  obtain ⟨aox, capx, ex, hx1, hx2⟩ := owns_form k1
  simp only [Value.slice.injEq] at ex
  obtain ⟨-, -, rfl⟩ := ex
  refine h _ _ w' ?_ hx1 hx2 k2 (fun q hq => ?_)
  ·unfold Owe
   rw [ecells_append, List.length_append]
   simpa [ecells] using k1
  ·have : g = q := Option.some.inj hq
   subst this
   rcases k3 with k3 | k3
   ·exact .inl k3
   ·exact .inr (by omega)
def kidE (k : Int) : Ent := ⟨⟨#[]⟩, ⟨#[]⟩, k⟩
/-- The page of part k. -/
def kidAt (ats : List Int) (H : Lg) (k : Nat) : Int := if k < ats.length then ats.getD k 0 else ((H.free.getD (k - ats.length) 0 : Nat) : Int)
def kidsOf (ats : List Int) (H : Lg) (n : Nat) : List Int := (List.range n).map (kidAt ats H)
def layPage (lvl : Int) (ats : List Int) (ls : List (List Ent)) (H : Lg) : Nat → (Nat → List UInt8)
 | 0 => H.page
 | k + 1 => upd (layPage lvl ats ls H k) (kidAt ats H k).toNat (page (enc lvl (ls.getD k [])))
/-- The pages when k parts are laid. -/
def layH (lvl : Int) (ats : List Int) (ls : List (List Ent)) (H : Lg) (k : Nat) : Lg := { H with free := H.free.drop (k - ats.length), page := layPage lvl ats ls H k }
theorem layH_put {lvl : Int} {ats : List Int} {ls : List (List Ent)} {H : Lg} {k : Nat} (hk : k < ats.length) :
 layH lvl ats ls H (k + 1) = { layH lvl ats ls H k with page := upd (layH lvl ats ls H k).page (kidAt ats H k).toNat (page (enc lvl (ls.getD k []))) } := by
 unfold layH
 rw [show k + 1 - ats.length = k - ats.length by omega]
 rfl
theorem layH_new {lvl : Int} {ats : List Int} {ls : List (List Ent)} {H : Lg} {k : Nat} (hk : ats.length ≤ k) (hf : k - ats.length < H.free.length) :
 ∃ (a : Nat) (rest : List Nat), (layH lvl ats ls H k).free = a :: rest ∧ kidAt ats H k = (a : Int) ∧ layH lvl ats ls H (k + 1) = { layH lvl ats ls H k with free := rest, page := upd (layH lvl ats ls H k).page a (page (enc lvl (ls.getD k []))) } := by
 refine ⟨H.free[k - ats.length], H.free.drop (k - ats.length + 1), ?_, ?_, ?_⟩
 ·show H.free.drop _ = _
  exact List.drop_eq_getElem_cons hf
 ·unfold kidAt
  rw [if_neg (by omega), List.getD_eq_getElem?_getD, List.getElem?_eq_getElem hf]; rfl
 ·have e : kidAt ats H k = ((H.free[k - ats.length] : Nat) : Int) := by
   unfold kidAt
   rw [if_neg (by omega), List.getD_eq_getElem?_getD, List.getElem?_eq_getElem hf]; rfl
  unfold layH
  rw [show k + 1 - ats.length = k - ats.length + 1 by omega]
  show (⟨_, _, upd (layPage lvl ats ls H k) (kidAt ats H k).toNat _⟩ : Lg) = _
  rw [e]
  rfl
theorem layH_used {lvl : Int} {ats : List Int} {ls : List (List Ent)} {H : Lg} {N k : Nat} {i : Int} (hu : lgUsed N H i) : lgUsed N (layH lvl ats ls H k) i :=
 ⟨hu.1, hu.2.1, fun h => hu.2.2 (List.mem_of_mem_drop h)⟩
theorem layH_zero {lvl : Int} {ats : List Int} {ls : List (List Ent)} {H : Lg} : layH lvl ats ls H 0 = H := by
 unfold layH
 rw [Nat.zero_sub]
 rfl
theorem kidsOf_succ (ats : List Int) (H : Lg) (k : Nat) : (kidsOf ats H (k + 1)).map kidE = (kidsOf ats H k).map kidE ++ [kidE (kidAt ats H k)] := by
 unfold kidsOf
 rw [List.range_succ, List.map_append, List.map_append]; rfl
theorem kidsOf_len (ats : List Int) (H : Lg) (k : Nat) : ((kidsOf ats H k).map kidE).length = k := by unfold kidsOf; simp
/-- What a part must be to lie on a page. -/
structure PartOk (lvl : Int) (es : List Ent) : Prop where
 ok : ∀ e ∈ es, EntOk e
 size : (enc lvl es).length ≤ 504
 pre : ∀ k, (encs lvl (es.take k)).length ≤ 90000
 few : es.length ≤ 1000
end Go.Proofs.YtbpdapcmaioeiaaGreat
namespace Go.Proofs.YtbpdapcmaioeiaaGreat
open Go.RowKit Go.Maps
set_option maxRecDepth 100000
set_option linter.unusedVariables false
/-- closed: a transaction is open. -/
theorem closed_no {w0 w : World} {X : Nat → Prop} {r p N M c : Nat} {G H : Lg} (h : Pb w0 w X r p N M c G (some H)) :
 Calls Tryz.prog 87 #[.pointer (some ⟨p, 0, none⟩)] w fun e w' => e = .returned (.int .i64 0) ∧ Pb w0 w' X r p N M c G (some H) ∧ Mx w0 X w w' := by
 have hs := pb_setroot (-1) (by decide) h
 rw [if_neg (by decide), show lgRoot (some H) (-1) = 1 from rfl] at hs
 have HS := Lib.hid hs
 clear h hs
 go_enter Tryz.func87, Tryz.ntmps87
 go_wp2_with fail
 refine HS.out.mono ?_
 rintro e w1 ⟨rfl, h1, hm⟩
 have H1 := Lib.hid h1
 have HM := Lib.hid hm
 clear h1 hm HS
 go_wp2_with fail
 go_ret
 exact ⟨rfl, H1.out, HM.out⟩
end Go.Proofs.YtbpdapcmaioeiaaGreat
