/- Gr -/
import Derived.Test.YtpfjbcfnpfgidaaKGq
import Derived.Laws.Cover1
namespace Go.Proofs.Ytpfjbcfnpfgidaa
open Go.RowKit Go.Maps
set_option maxRecDepth 100000
set_option linter.unusedVariables false
set_option maxHeartbeats 2000000 in
theorem search_place (n : Nat) (hn : n ≤ 1000000) (P : Nat → Bool) (c1 c2 : Value) (w : World) (hf : ∀ h : Nat, h < n → ∀ w1, Below w.heap.size w w1 → Calls Try.prog 95 #[.int .i64 h, c1, c2] w1 fun e w2 => e = .returned (.bool (P h)) ∧ Below w1.heap.size w1 w2) :
 Calls Try.prog 88 #[.int .i64 n, .func (.func 95) #[] #[c1, c2]] w fun e w' => ∃ m : Nat, e = .returned (.int .i64 m) ∧ m ≤ n ∧ (m = n ∨ P m = true) ∧ (m = 0 ∨ P (m - 1) = false) ∧ Below w.heap.size w w' := by
 have HF := Lib.hid hf
 clear hf
 go_enter Try.func88, Try.ntmps88
 go_wp2_with fail
 go_loopw [5, 6] (fun v5 v6 wr => ∃ i j : Nat, i ≤ j ∧ j ≤ n ∧ v5 = .int .i64 i ∧ v6 = .int .i64 j ∧ (j = n ∨ P j = true) ∧ (i = 0 ∨ P (i - 1) = false) ∧ Below w.heap.size w wr) (fun v5 v6 _ => (intOf v6 - intOf v5).toNat)
 case atStart => exact ⟨0, n, Nat.zero_le _, Nat.le_refl _, rfl, rfl, .inl rfl, .inl rfl, Below.refl _ _⟩
 case round =>
  obtain ⟨i, j, hij, hjn, rfl, rfl, h1, h2, hb⟩ := hrel
  have H1 := Lib.hid h1
  have H2 := Lib.hid h2
  have HB := Lib.hid hb
  clear h1 h2 hb
  by_cases hlt : i < j
  ·have hlt' : (i : Int) < j := by omega
   obtain ⟨h, hh⟩ : ∃ h : Nat, h = (i + j) / 2 := ⟨_, rfl⟩
   have hhi : ((i : Int) + j) / 2 = h := by omega
   have hi1 : i ≤ h := by omega
   have hj1 : h < j := by omega
   have hfh := HF.out h (by omega) wr HB.out
   have HFH := Lib.hid hfh
   clear hfh hh
   go_wp2_with fail
   refine HFH.out.mono ?_
   rintro e w2 ⟨rfl, hb2⟩
   have HB2 := Lib.hid (HB.out.trans (hb2.mono HB.out.size))
   obtain ⟨t, ht⟩ : ∃ t, t = P h := ⟨_, rfl⟩
   rw [← ht]
   have HT := Lib.hid ht
   clear hb2 ht HFH
   cases t with
   | false =>
    go_wp2_with fail
    go_roundw
    case rel => exact ⟨h + 1, j, by omega, hjn, by go_num, rfl, H1.out, .inr (by simpa using HT.out.symm), HB2.out⟩
    case measure => simp [intOf]; omega
   | true =>
    go_wp2_with fail
    go_roundw
    case rel => exact ⟨i, h, hi1, by omega, rfl, rfl, .inr HT.out.symm, H2.out, HB2.out⟩
    case measure => simp [intOf]; omega
  ·obtain rfl : i = j := by omega
   go_wp2_with fail
   go_ret
   exact ⟨i, rfl, hjn, H1.out, H2.out, HB.out⟩
/-- Is one text not below another? -/
def geB (a b : ByteArray) : Bool := !(Op.bytesLess a.toList b.toList)
def geK (es : List Ent) (key : ByteArray) (h : Nat) : Bool := match es[h]? with
 | some e => geB e.key key
 | none => false
set_option maxHeartbeats 2000000 in
/-- place's question of a leaf: is the entry not below the key? -/
theorem placeq_any (b4 b5 : Nat) (v : Value) (es : List Ent) (key : ByteArray) (h : Nat) (hh : h < es.length) (w : World) (c4 : w.cell? ⟨b4, 2, none⟩ = some v) (c5 : w.cell? ⟨b5, 0, none⟩ = some (.string key)) (hes : Ens w v es) :
 Calls Try.prog 95 #[.int .i64 h, .pointer (some ⟨b4, 0, none⟩), .pointer (some ⟨b5, 0, none⟩)] w fun e w2 => e = .returned (.bool (geK es key h)) ∧ Below w.heap.size w w2 := by
 obtain ⟨b, off, cap, rfl, hc1, hc2, hbs, hce⟩ := hes.at (by omega)
 obtain ⟨d0, -, -⟩ := hce h hh
 obtain ⟨e, he⟩ : ∃ y, y = es[h] := ⟨_, rfl⟩
 obtain ⟨n, hn⟩ : ∃ n, n = es.length := ⟨_, rfl⟩
 have hg : geK es key h = geB e.key key := by unfold geK; rw [List.getElem?_eq_getElem hh, ← he]
 rw [hg]
 rw [← he] at d0
 rw [← hn] at c4 hh hc1
 have C4 := Lib.hid c4
 have C5 := Lib.hid c5
 have D0 := Lib.hid d0
 have i0 : (h : Int) < n := by omega
 clear hes hce he hn c4 c5 d0 hg
 go_enter Try.func95, Try.ntmps95
 go_wp2_with fail
 refine wp_region_any (by kernel_rfl) ?_
 change wpAny _ _ _ _ _ _ _ (World.drew _)
 refine wpAny_of_held (S := fun (w' : World) => w'.cell? ⟨b4, 2, none⟩ = some (.slice (some ⟨b, off, none⟩) n cap) ∧ w'.cell? ⟨b5, 0, none⟩ = some (.string key) ∧ w'.cell? ⟨b, off + h * 3, none⟩ = some (.string e.key)) _ _ _ _ ?_
 have hS : (fun (w' : World) => w'.cell? ⟨b4, 2, none⟩ = some (.slice (some ⟨b, off, none⟩) n cap) ∧ w'.cell? ⟨b5, 0, none⟩ = some (.string key) ∧ w'.cell? ⟨b, off + h * 3, none⟩ = some (.string e.key)) _ := ⟨C4.out, C5.out, D0.out⟩
 try simp only [Act.put, List.setIfInBounds_toArray, List.set_cons_zero, List.set_cons_succ]
 refine wpAnyH_take (i := 0) (oi := ⟨some 5, _, _, _, _, _⟩) (v := ?_) rfl (by kernel_rfl) (by kernel_rfl) (by kernel_rfl) (fun _ _ _ h => h) (Or.inl ⟨by simp only [Region.wanted], ?_⟩) hS ?_
 rotate_left
 ·intro wz hSw
  clear hSw
  go_simp
  first | done | with_reducible rfl
 try simp only [Act.put, List.setIfInBounds_toArray, List.set_cons_zero, List.set_cons_succ]
 refine wpAnyH_take (i := 1) (oi := ⟨some 6, _, _, _, _, _⟩) (v := ?_) rfl (by kernel_rfl) (by kernel_rfl) (by kernel_rfl) (fun _ _ _ h => h) (Or.inl ⟨by simp only [Region.wanted], ?_⟩) hS ?_
 rotate_left
 ·intro wz hSw
  (try dsimp only at hSw)
  (try go_split_ands)
  go_simp
  first | done | with_reducible rfl
 try simp only [Act.put, List.setIfInBounds_toArray, List.set_cons_zero, List.set_cons_succ]
 refine wpAnyH_take (i := 2) (oi := ⟨some 7, _, _, _, _, _⟩) (v := ?_) rfl (by kernel_rfl) (by kernel_rfl) (by kernel_rfl) (fun _ _ _ h => h) (Or.inl ⟨by simp only [Region.wanted], ?_⟩) hS ?_
 rotate_left
 ·intro wz hSw
  clear hSw
  go_simp
  first | done | with_reducible rfl
 try simp only [Act.put, List.setIfInBounds_toArray, List.set_cons_zero, List.set_cons_succ]
 refine wpAnyH_take (i := 3) (oi := ⟨some 8, _, _, _, _, _⟩) (v := ?_) rfl (by kernel_rfl) (by kernel_rfl) (by kernel_rfl) (fun _ _ _ h => h) (Or.inl ⟨by simp only [Region.wanted], ?_⟩) hS ?_
 rotate_left
 ·intro wz hSw
  clear hSw
  go_simp
  first | done | with_reducible rfl
 try simp only [Act.put, List.setIfInBounds_toArray, List.set_cons_zero, List.set_cons_succ]
 refine wpAnyH_take (i := 4) (oi := ⟨some 9, _, _, _, _, _⟩) (v := ?_) rfl (by kernel_rfl) (by kernel_rfl) (by kernel_rfl) (fun _ _ _ h => h) (Or.inl ⟨by simp only [Region.wanted], ?_⟩) hS ?_
 rotate_left
 ·intro wz hSw
  clear hSw
  go_simp
  first | done | with_reducible rfl
 try simp only [Act.put, List.setIfInBounds_toArray, List.set_cons_zero, List.set_cons_succ]
 refine wpAnyH_take (i := 5) (oi := ⟨some 10, _, _, _, _, _⟩) (v := ?_) rfl (by kernel_rfl) (by kernel_rfl) (by kernel_rfl) (fun _ _ _ h => h) (Or.inl ⟨by simp only [Region.wanted], ?_⟩) hS ?_
 rotate_left
 ·intro wz hSw
  (try dsimp only at hSw)
  (try go_split_ands)
  go_simp
  first | done | with_reducible rfl
 try simp only [Act.put, List.setIfInBounds_toArray, List.set_cons_zero, List.set_cons_succ]
 refine wpAnyH_take (i := 6) (oi := ⟨some 11, _, _, _, _, _⟩) (v := ?_) rfl (by kernel_rfl) (by kernel_rfl) (by kernel_rfl) (fun _ _ _ h => h) (Or.inl ⟨by simp only [Region.wanted], ?_⟩) hS ?_
 rotate_left
 ·intro wz hSw
  (try dsimp only at hSw)
  (try go_split_ands)
  go_simp
  first | done | with_reducible rfl
 try simp only [Act.put, List.setIfInBounds_toArray, List.set_cons_zero, List.set_cons_succ]
 refine wpAnyH_take (i := 7) (oi := ⟨some 12, _, _, _, _, _⟩) (v := ?_) rfl (by kernel_rfl) (by kernel_rfl) (by kernel_rfl) (fun _ _ _ h => h) (Or.inl ⟨by simp only [Region.wanted], ?_⟩) hS ?_
 rotate_left
 ·intro wz hSw
  clear hSw
  go_simp
  first | done | with_reducible rfl
 try simp only [Act.put, List.setIfInBounds_toArray, List.set_cons_zero, List.set_cons_succ]
 refine wpAnyH_take (i := 8) (oi := ⟨some 4, _, _, _, _, _⟩) (v := ?_) rfl (by kernel_rfl) (by kernel_rfl) (by kernel_rfl) (fun _ _ _ h => h) (Or.inl ⟨by simp only [Region.wanted], ?_⟩) hS ?_
 rotate_left
 ·intro wz hSw
  clear hSw
  go_simp
  first | done | with_reducible rfl
 try simp only [Act.put, List.setIfInBounds_toArray, List.set_cons_zero, List.set_cons_succ]
 refine wpAnyH_done (by kernel_rfl) ?_ _
 clear hS
 go_wp2_with fail
 go_ret
 exact ⟨rfl, (Below.refl w.heap.size w).drew⟩
end Go.Proofs.Ytpfjbcfnpfgidaa
namespace Go.Proofs.Ytpfjbcfnpfgidaa
open Go.RowKit Go.Maps
set_option maxRecDepth 100000
set_option linter.unusedVariables false
/-- Where a key stands in a leaf, or would. -/
def PlaceOf (es : List Ent) (key : ByteArray) (m : Nat) : Prop := m ≤ es.length ∧ (m = es.length ∨ geK es key m = true) ∧ (m = 0 ∨ geK es key (m - 1) = false)
set_option maxHeartbeats 2000000 in
theorem place_leaf (pv : Value) (at' : Int) (v : Value) (es : List Ent) (key : ByteArray) (w : World) (hes : Ens w v es) (hn : es.length ≤ 10000) :
 Calls Try.prog 86 #[pv, nodeV at' 0 v, .string key] w fun e w' => ∃ m : Nat, e = .returned (.tuple #[.int .i64 m, .int .i64 0]) ∧ PlaceOf es key m ∧ Below w.heap.size w w' := by
 obtain ⟨ao, cap, rfl, hc1, hc2⟩ := hes.form
 obtain ⟨n, hn'⟩ : ∃ n, n = es.length := ⟨_, rfl⟩
 rw [← hn'] at hes hc1 hn ⊢
 have hal1 : Below w.heap.size w (w.alloc (.cells #[.int .i64 at', .int .i64 0, .slice ao n cap] 62)) := (Below.refl _ w).alloc (Nat.le_refl _) _
 have hb1 := Blk.new w #[.int .i64 at', .int .i64 0, .slice ao n cap] 62
 have hs1 : (w.alloc (.cells #[.int .i64 at', .int .i64 0, .slice ao n cap] 62)).heap.size = w.heap.size + 1 := by simp
 obtain ⟨w1, hw1⟩ : ∃ w1, w1 = w.alloc (.cells #[.int .i64 at', .int .i64 0, .slice ao n cap] 62) := ⟨_, rfl⟩
 rw [← hw1] at hal1 hb1 hs1
 have hal2 : Below w1.heap.size w1 (w1.alloc (.cells #[.string key] 9)) := (Below.refl _ w1).alloc (Nat.le_refl _) _
 have hb2 := Blk.new w1 #[.string key] 9
 obtain ⟨w2, hw2⟩ : ∃ w2, w2 = w1.alloc (.cells #[.string key] 9) := ⟨_, rfl⟩
 rw [← hw2] at hal2 hb2
 have hb12 := hb1.moved (Moved.of_below hal2 (fun _ => False)) (fun h => h)
 rw [hs1] at hb2
 have d1 : w2.cell? ⟨w.heap.size, 1, none⟩ = some (.int .i64 0) := by rw [hb12.cell]; rfl
 have d2 : w2.cell? ⟨w.heap.size, 2, none⟩ = some (.slice ao n cap) := by rw [hb12.cell]; rfl
 have d5 : w2.cell? ⟨w.heap.size + 1, 0, none⟩ = some (.string key) := by rw [hb2.cell]; rfl
 have HB := Lib.hid (hal1.trans (hal2.mono hal1.size))
 have hens2 : Ens w2 (.slice ao n cap) es := Ens.below (Ens.below hes hal1) hal2
 have hse := search_place n (by omega) (geK es key) (.pointer (some ⟨w.heap.size, 0, none⟩)) (.pointer (some ⟨w.heap.size + 1, 0, none⟩)) w2 (fun h hh w3 hb3 =>
  placeq_any _ _ _ es key h (by rw [← hn']; exact hh) w3 ((hb3.cell (World.block_lt_of_cell? w2 _ d2)).trans d2) ((hb3.cell (World.block_lt_of_cell? w2 _ d5)).trans d5) (Ens.below hens2 hb3))
 have HSE := Lib.hid hse
 have HW := Lib.hid (show w2 = (w.alloc (.cells #[.int .i64 at', .int .i64 0, .slice ao n cap] 62)).alloc (.cells #[.string key] 9) by rw [hw2, hw1])
 have HN := Lib.hid hn'
 have HS1 := Lib.hid hs1
 rw [HW.out] at d1 d2 d5
 unfold nodeV
 clear hes hn' hal1 hb1 hs1 hal2 hb2 hb12 hens2 hse hw1 hw2
 go_enter Try.func86, Try.ntmps86
 go_wp2_with fail
 rw [← HW.out]
 refine HSE.out.mono ?_
 rintro en w3 ⟨m, rfl, hm1, hm2, hm3, hb3⟩
 have HP := Lib.hid (show PlaceOf es key m from ⟨by rw [← HN.out]; exact hm1, by rw [← HN.out]; exact hm2, hm3⟩)
 have HB3 := Lib.hid (HB.out.trans (hb3.mono HB.out.size))
 clear hm1 hm2 hm3 hb3 HSE d1 d2 d5
 go_wp2_with fail
 go_ret2
 exact ⟨m, rfl, HP.out, HB3.out⟩
theorem Try.infoStep : (Try.prog.info? 64).map (fun i => (i.zero, i.size, i.bytes)) = some (some (.agg #[.int .i64 0, .int .i64 0, .slice none 0 0, .int .i64 0]), 4, 48) := by kernel_rfl
set_option maxHeartbeats 4000000 in
/-- down, where the node is a leaf. -/
theorem down_leaf (pv : Value) (at' : Int) (v : Value) (es : List Ent) (key : ByteArray) (w : World) (hes : Ens w v es) (hn : es.length ≤ 10000) :
 Calls Try.prog 63 #[pv, .slice none 0 0, nodeV at' 0 v, .string key] w fun e w' => ∃ (m g cap : Nat), e = .returned (.tuple #[.slice (some ⟨g, 0, none⟩) 1 cap, .int .i64 0]) ∧ PlaceOf es key m ∧ 1 ≤ cap ∧ cap ≤ 9223372036854775807 ∧
  w'.ownsRow w.heap.size 64 4 (.slice (some ⟨g, 0, none⟩) 1 cap) 1 [.int .i64 at', .int .i64 0, v, .int .i64 m] ∧ Below w.heap.size w w' := by
 obtain ⟨ao, cap, rfl, hc1, hc2⟩ := hes.form
 obtain ⟨n, hn'⟩ : ∃ n, n = es.length := ⟨_, rfl⟩
 have hal1 : Below w.heap.size w (w.alloc (.cells #[.int .i64 at', .int .i64 0, .slice ao n cap] 62)) := (Below.refl _ w).alloc (Nat.le_refl _) _
 have hb1 := Blk.new w #[.int .i64 at', .int .i64 0, .slice ao n cap] 62
 have hpl := place_leaf pv at' _ es key _ (Ens.below hes hal1) hn
 rw [← hn'] at hes hc1 hn hpl ⊢
 have HPL := Lib.hid hpl
 have HAL := Lib.hid hal1
 have HB1 := Lib.hid hb1
 unfold nodeV at *
 clear hes hn' hal1 hpl
 have d0 : (w.alloc (.cells #[.int .i64 at', .int .i64 0, .slice ao n cap] 62)).cell? ⟨w.heap.size, 0, none⟩ = some (.int .i64 at') := by rw [hb1.cell]; rfl
 have d1 : (w.alloc (.cells #[.int .i64 at', .int .i64 0, .slice ao n cap] 62)).cell? ⟨w.heap.size, 1, none⟩ = some (.int .i64 0) := by rw [hb1.cell]; rfl
 have d2 : (w.alloc (.cells #[.int .i64 at', .int .i64 0, .slice ao n cap] 62)).cell? ⟨w.heap.size, 2, none⟩ = some (.slice ao n cap) := by rw [hb1.cell]; rfl
 clear hb1
 go_enter Try.func63, Try.ntmps63
 go_wp2_with fail
 go_step3
 go_wp2_with fail
 go_step3
 go_wp2_with fail
 refine HPL.out.mono ?_
 rintro en w2 ⟨m, rfl, hm, hb2⟩
 have hb := HB1.out.moved (Moved.of_below hb2 (fun _ => False)) (fun h => h)
 have e0 : w2.cell? ⟨w.heap.size, 0, none⟩ = some (.int .i64 at') := by rw [hb.cell]; rfl
 have e1 : w2.cell? ⟨w.heap.size, 1, none⟩ = some (.int .i64 0) := by rw [hb.cell]; rfl
 have e2 : w2.cell? ⟨w.heap.size, 2, none⟩ = some (.slice ao n cap) := by rw [hb.cell]; rfl
 have E1 := Lib.hid e1
 have HM := Lib.hid hm
 have HB2 := Lib.hid (HAL.out.trans (hb2.mono HAL.out.size))
 have hal3 : Below w2.heap.size w2 (w2.alloc (.cells #[.int .i64 at', .int .i64 0, .slice ao n cap, .int .i64 m] 64)) := (Below.refl _ w2).alloc (Nat.le_refl _) _
 have HB3 := Lib.hid (HB2.out.trans (hal3.mono HB2.out.size))
 have HBK := Lib.hid (Blk.new w2 #[.int .i64 at', .int .i64 0, .slice ao n cap, .int .i64 m] 64)
 have HLT := Lib.hid hb.lt
 have E13 := Lib.hid (show (w2.alloc (.cells #[.int .i64 at', .int .i64 0, .slice ao n cap, .int .i64 m] 64)).cell? ⟨w.heap.size, 1, none⟩ = some (.int .i64 0) from (hal3.cell (show (⟨w.heap.size, 1, none⟩ : Addr).block < _ from hb.lt)).trans e1)
 have hapd : ∀ (ty : TypeId), ∃ g cp w', (Builtin.append_ #[56, 56] ty #[.slice none 0 0, .slice (some ⟨w2.heap.size, 0, none⟩) 1 1]).run Try.prog (w2.alloc (.cells #[.int .i64 at', .int .i64 0, .slice ao n cap, .int .i64 m] 64)) = .ok (.slice (some ⟨g, 0, none⟩) 1 cp) w' ∧
  w'.ownsRow w.heap.size 64 4 (.slice (some ⟨g, 0, none⟩) 1 cp) 1 [.int .i64 at', .int .i64 0, .slice ao n cap, .int .i64 m] ∧ (w2.alloc (.cells #[.int .i64 at', .int .i64 0, .slice ao n cap, .int .i64 m] 64)).grownBy w' none ∧ 1 ≤ cp ∧ cp ≤ 9223372036854775807 := by
  intro ty
  obtain ⟨i0, hi, hz0, hz1, hz2⟩ := info_parts Try.infoStep
  obtain ⟨g, cp, w', hr, k1, k2, -, -⟩ := run_append_lies (P := Try.prog) (w2.alloc (.cells #[.int .i64 at', .int .i64 0, .slice ao n cap, .int .i64 m] 64)) 56 ty w.heap.size 64 i0 _ 4 48 Try.underlying56 hi hz0 hz1 hz2 rfl (by decide) (.slice none 0 0) 0 [] (World.ownsRow_nil _ _ _ _) ⟨w2.heap.size, 0, none⟩ 1 1 [.int .i64 at', .int .i64 0, .slice ao n cap, .int .i64 m] rfl
   (fun j u hj => by
    rw [show (⟨w2.heap.size, 0, none⟩ : Addr).add j = ⟨w2.heap.size, j, none⟩ from by unfold Addr.add; split <;> simp_all, HBK.out.cell]
    simpa using hj) (fun u hu => by simp at hu; rcases hu with rfl | rfl | rfl | rfl <;> rfl) (by decide) (by decide) (by decide) HB3.out.size _ rfl
  obtain ⟨aox, capx, ex, hx1, hx2⟩ := owns_form k1
  simp only [Value.slice.injEq] at ex
  obtain ⟨-, -, rfl⟩ := ex
  exact ⟨g, cp, w', hr, k1, k2, hx1, hx2⟩
 have HAPD := Lib.hid hapd
 clear hm hb2 hb hal3 hapd d0 d1 d2
 obtain ⟨g, cp, w5, hr5, ho5, hg5, hx5, hy5⟩ := HAPD.out 56
 have HR5 := Lib.hid hr5
 have f1 : w5.cell? ⟨w.heap.size, 1, none⟩ = some (.int .i64 0) := (hg5.cell_far ⟨w.heap.size, 1, none⟩ (Nat.lt_of_lt_of_le HLT.out (by simp)) (by simp)).trans E13.out
 have HO5 := Lib.hid ho5
 have HB5 := Lib.hid (HB3.out.grown hg5 HB3.out.size (fun q hq => by cases hq))
 clear hr5 ho5 hg5
 go_wp2_with (at_builtin; refine Lib.wpList_append_run _ rfl _ _ _ _ rfl _ _ rfl rfl _ _ HR5.out ?_)
 repeat rw [Exit.noGoto_ret]
 go_ret2
 exact ⟨m, g, cp, rfl, HM.out, hx5, hy5, HO5.out, HB5.out⟩
end Go.Proofs.Ytpfjbcfnpfgidaa
namespace Go.Proofs.Ytpfjbcfnpfgidaa
open Go.RowKit Go.Maps
set_option maxRecDepth 100000
set_option linter.unusedVariables false
/-- The way to a leaf: one step. -/
def Way1 (w : World) (base : Nat) (root : Int) (es : List Ent) (key : ByteArray) (m g cap : Nat) (v : Value) : Prop :=
 PlaceOf es key m ∧ 1 ≤ cap ∧ cap ≤ 9223372036854775807 ∧ w.ownsRow base 64 4 (.slice (some ⟨g, 0, none⟩) 1 cap) 1 [.int .i64 root, .int .i64 0, v, .int .i64 m] ∧ Owe w base v es
set_option maxHeartbeats 2000000 in
theorem way_leaf {w0 w : World} {X : Nat → Prop} {r p N M c : Nat} {G : Lg} {H : Option Lg} (h : Pb w0 w X r p N M c G H) {root : Int} {es : List Ent} (hn : NodeAt N (H.getD G) root 0 es) (key : ByteArray) :
 Calls Try.prog 42 #[.pointer (some ⟨p, 0, none⟩), .int .i64 root, .string key] w fun e w' => ∃ (m g cap : Nat) (v : Value), e = .returned (.tuple #[.slice (some ⟨g, 0, none⟩) 1 cap, .int .i64 0]) ∧ Way1 w' w.heap.size root es key m g cap v ∧ Below w.heap.size w w' := by
 have hrd := read_node h hn (.inl rfl)
 have HRD := Lib.hid hrd
 have HF := Lib.hid (show es.length ≤ 10000 from Nat.le_trans hn.few (by decide))
 clear hrd h hn
 go_enter Try.func42, Try.ntmps42
 go_wp2_with fail
 refine HRD.out.mono ?_
 rintro en w1 ⟨v, rfl, ho, hb1⟩
 obtain ⟨ao, cap, rfl, -⟩ := ho.form
 obtain ⟨n, hn⟩ : ∃ n, n = es.length := ⟨_, rfl⟩
 rw [← hn] at ho ⊢
 have hal : Below w1.heap.size w1 (w1.alloc (.cells #[.int .i64 root, .int .i64 0, .slice ao n cap] 62)) := (Below.refl _ w1).alloc (Nat.le_refl _) _
 have hdn := down_leaf (.pointer (some ⟨p, 0, none⟩)) root (.slice ao n cap) es key (w1.alloc (.cells #[.int .i64 root, .int .i64 0, .slice ao n cap] 62)) (ho.ens.below hal) HF.out
 have HO := Lib.hid ho
 have HAL := Lib.hid hal
 have HDN := Lib.hid hdn
 have HB1 := Lib.hid (hb1.trans (hal.mono hb1.size))
 unfold nodeV at *
 clear ho hal hdn hb1 hn HRD
 go_wp2_with fail
 refine HDN.out.mono ?_
 rintro en w2 ⟨m, g, cp, rfl, h1, h2, h3, h4, h5⟩
 have HW := Lib.hid (show Way1 w2 w.heap.size root es key m g cp (.slice ao n cap) from ⟨h1, h2, h3, ⟨h4.1, by
  rcases h4.2 with k | ⟨g', cap', cur, e, hg, k⟩
  ·exact .inl k
  ·exact .inr ⟨g', cap', cur, e, Nat.le_trans HB1.out.size hg, k⟩⟩, (HO.out.below HAL.out).below h5⟩)
 have HB2 := Lib.hid (HB1.out.trans (h5.mono HB1.out.size))
 clear h1 h2 h3 h4 h5 HDN
 go_wp2_with fail
 go_ret2
 exact ⟨m, g, cp, _, rfl, HW.out, HB2.out⟩
end Go.Proofs.Ytpfjbcfnpfgidaa
namespace Go.Proofs.Ytpfjbcfnpfgidaa
open Go.RowKit Go.Maps
set_option maxRecDepth 100000
set_option linter.unusedVariables false
theorem sizes_cons (lvl : Int) (e : Ent) (es : List Ent) : sizes lvl (e :: es) = esize lvl e + sizes lvl es := by unfold sizes; simp
theorem sizes_append (lvl : Int) (a b : List Ent) : sizes lvl (a ++ b) = sizes lvl a + sizes lvl b := by unfold sizes; simp
/-- An entry of a leaf. -/
def LeafE (e : Ent) : Prop := e.kid = 0 ∧ e.key.size ≤ 255 ∧ e.val.size ≤ 60000
theorem encE_leaf_len {e : Ent} (h : LeafE e) : (encE 0 e).length = esize 0 e := by
 unfold encE esize
 rw [if_neg (by decide), if_neg (by decide), List.length_append, le_length, tx_length, ByteArray.size_append]
 obtain ⟨-, h2, h3⟩ := h
 omega
theorem encs_leaf_len {es : List Ent} (h : ∀ e ∈ es, LeafE e) : (encs 0 es).length = sizes 0 es := by
 induction es with
 | nil => rfl
 | cons e t ih =>
  rw [sizes_cons, ← ih (fun x hx => h x (List.mem_cons_of_mem _ hx)), ← encE_leaf_len (h e (List.mem_cons_self ..)), show encs 0 (e :: t) = encE 0 e ++ encs 0 t from rfl, List.length_append]
theorem LeafE.ok {e : Ent} (h : LeafE e) : EntOk e := by obtain ⟨-, h2, h3⟩ := h; exact ⟨by omega, by omega⟩
theorem leaf_few {es : List Ent} (h : sizes 0 es ≤ 502) : es.length ≤ 167 := by
 have : es.length * 3 ≤ sizes 0 es := by
  clear h
  induction es with
  | nil => exact Nat.le_refl _
  | cons e t ih =>
   rw [sizes_cons, List.length_cons]
   have : 3 ≤ esize 0 e := by unfold esize; rw [if_neg (by decide)]; omega
   omega
 omega
theorem leaf_part {es : List Ent} (h : ∀ e ∈ es, LeafE e) (hs : sizes 0 es ≤ 502) : PartOk 0 es := by
 refine ⟨fun e he => (h e he).ok, ?_, fun k => ?_, by have := leaf_few hs; omega⟩
 ·unfold enc
  rw [List.length_append, List.length_append, le_length, le_length, encs_leaf_len h]
  omega
 ·rw [encs_leaf_len (fun e he => h e (List.mem_of_mem_take he))]
  have : sizes 0 es = sizes 0 (es.take k) + sizes 0 (es.drop k) := by rw [← sizes_append, List.take_append_drop]
  omega
end Go.Proofs.Ytpfjbcfnpfgidaa
namespace Go.Proofs.Ytpfjbcfnpfgidaa
open Go.RowKit Go.Maps
set_option maxRecDepth 100000
set_option linter.unusedVariables false
/-- A leaf's entries with a key set. -/
def setEs (es : List Ent) (key val : ByteArray) (m : Nat) : List Ent := es.take m ++ [⟨key, val, 0⟩] ++ es.drop (if hasOf es m key then m + 1 else m)
end Go.Proofs.Ytpfjbcfnpfgidaa
namespace Go.Proofs.Ytpfjbcfnpfgidaa
open Go.RowKit Go.Maps
set_option maxRecDepth 100000
set_option linter.unusedVariables false
theorem bt_new {w0 w : World} {X : Nat → Prop} {r p N M c : Nat} {G : Lg} {H : Lg} (h : Pb w0 w X r p N M c G (some H)) (hc : c + 1 < 500000) {a : Nat} {rest : List Nat} (hf : H.free = a :: rest) :
 Calls Try.prog 7 #[.pointer (some ⟨p, 0, none⟩)] w fun e w' => e = .returned (.tuple #[.int .i64 a, .int .i64 0]) ∧
  Pb w0 w' X r p N M (c + 2) G (some { H with free := rest, page := upd H.page a (page (enc 0 [])) }) ∧ Mx w0 X w w' := by
 have HA := Lib.hid (bt_add h hc hf 0 (.slice none 0 0) [] (Ens.nil w) (fun h => by simp at h) (fun e he => by simp at he) (fun k => by simp [encs]) (by simp) (by decide))
 clear h hf
 go_enter Try.func7, Try.ntmps7
 go_wp2_with fail
 refine HA.out.mono ?_
 rintro e w1 ⟨rfl, h1, hm⟩
 have H1 := Lib.hid h1
 have HM := Lib.hid hm
 clear h1 hm HA
 go_wp2_with fail
 go_ret2
 exact ⟨rfl, H1.out, HM.out⟩
end Go.Proofs.Ytpfjbcfnpfgidaa
namespace Go.Proofs.Ytpfjbcfnpfgidaa
open Go.RowKit Go.Maps
set_option maxRecDepth 100000
set_option linter.unusedVariables false
/-- onward: of a way of one step there is no next leaf. -/
theorem onward_leaf (pv : Value) (g cap : Nat) (w : World) :
 Calls Try.prog 48 #[pv, .slice (some ⟨g, 0, none⟩) 1 cap] w fun e w' => e = .returned (.tuple #[.slice none 0 0, .int .i64 0]) ∧ w' = w := by
 go_enter Try.func48, Try.ntmps48
 go_wp2_with fail
 refine wp_loop_rounds 1 ?_
 rw [rounds_succ]
 go_wp2_with fail
 go_ret2
 exact ⟨rfl, rfl⟩
/-- Count's look at an entry. -/
theorem countq_any (b : Nat) (k : Nat) (hk : k ≤ 1000000) (e : Ent) (w : World) (hb : Blk w b #[.int .i64 k] 3) :
 Calls Try.prog 31 #[e.agg, .pointer (some ⟨b, 0, none⟩)] w fun en w' => en = .returned (.bool true) ∧ Blk w' b #[.int .i64 ((k : Int) + 1)] 3 ∧ Moved (· = b) w w' := by
 have hal : Below w.heap.size w (w.alloc (.cells #[.string e.key, .string e.val, .int .i64 e.kid] 68)) := (Below.refl _ w).alloc (Nat.le_refl _) _
 have hb1 := hb.moved (Moved.of_below hal (fun _ => False)) (fun h => h)
 have c0 : (w.alloc (.cells #[.string e.key, .string e.val, .int .i64 e.kid] 68)).cell? ⟨b, 0, none⟩ = some (.int .i64 k) := by rw [hb1.cell]; rfl
 have f0 := hb1.frozen 0
 have HB1 := Lib.hid hb1
 have HAL := Lib.hid hal
 clear hb hal hb1
 unfold Ent.agg
 go_enter Try.func31, Try.ntmps31
 go_wp2_with fail
 go_ret
 exact ⟨rfl, HB1.out.set 0 _, (Moved.of_below HAL.out (· = b)).setCell _ _ (.inl rfl)⟩
end Go.Proofs.Ytpfjbcfnpfgidaa
namespace Go.Proofs.Ytpfjbcfnpfgidaa
open Go.RowKit Go.Maps
set_option maxRecDepth 100000
set_option linter.unusedVariables false
theorem ge_empty (a : ByteArray) : geB a ⟨#[]⟩ = true := by
 unfold geB
 have : (⟨#[]⟩ : ByteArray).toList = [] := by unfold ByteArray.toList; unfold ByteArray.toList.loop; rfl
 rw [this]
 cases a.toList <;> rfl
theorem place_empty {es : List Ent} {m : Nat} (h : PlaceOf es ⟨#[]⟩ m) : m = 0 := by
 obtain ⟨h1, -, h3⟩ := h
 rcases h3 with h3 | h3
 ·exact h3
 ·by_cases h0 : m = 0
  ·exact h0
  ·unfold geK at h3
   rw [List.getElem?_eq_getElem (by omega)] at h3
   simp only [ge_empty] at h3
   cases h3
set_option maxHeartbeats 4000000 in
theorem walk_count {w0 w : World} {X : Nat → Prop} {r p N M c : Nat} {G : Lg} {H : Option Lg} (h : Pb w0 w X r p N M c G H) {root : Int} {es : List Ent} (hn : NodeAt N (H.getD G) root 0 es) (b : Nat) (hb : Blk w b #[.int .i64 0] 3) :
 Calls Try.prog 29 #[.pointer (some ⟨p, 0, none⟩), .int .i64 root, .string ⟨#[]⟩, .func (.func 31) #[] #[.pointer (some ⟨b, 0, none⟩)]] w fun e w' => e = .returned (.int .i64 0) ∧ Blk w' b #[.int .i64 es.length] 3 ∧ Moved (· = b) w w' := by
 have HW := Lib.hid (way_leaf h (root := root) (es := es) hn ⟨#[]⟩)
 have HFEW := Lib.hid hn.few
 have HB := Lib.hid hb
 clear h hn hb
 go_enter Try.func29, Try.ntmps29
 go_wp2_with fail
 go_step3
 go_wp2_with fail
 refine HW.out.mono ?_
 rintro en w1 ⟨m, g, cp, v, rfl, ⟨hpl, hx1, hx2, hst, ho⟩, hb1⟩
 obtain rfl := place_empty hpl
 have hcell : ∀ j u, [Value.int .i64 root, .int .i64 0, v, .int .i64 (0 : Nat)][j]? = some u → w1.cell? ⟨g, j, none⟩ = some u := by
  intro j u hj
  have hlt : j < 4 := by have := (List.getElem?_eq_some_iff.1 hj).1; exact this
  rcases hst.2 with ⟨e, -⟩ | ⟨g', cap', cur, e, -, hh, k1, k2, k3, k4⟩
  ·cases e
  ·simp only [Value.slice.injEq, Option.some.injEq, Addr.mk.injEq, and_true] at e
   obtain ⟨rfl, -, rfl⟩ := e
   rw [cell_of_row w1 g j cur _ (0, 0) hh, ← Array.getElem?_toList, ← hj, ← k4, List.getElem?_take, if_pos (by omega)]
 have k0 := hcell 0 _ rfl
 have k1 := hcell 1 _ rfl
 have k2 := hcell 2 _ rfl
 have k3 : w1.cell? ⟨g, 3, none⟩ = some (.int .i64 0) := hcell 3 _ rfl
 have hen := ho.ens
 obtain ⟨ao, cap, rfl, hc1, hc2⟩ := hen.form
 obtain ⟨n, hn⟩ : ∃ n, n = es.length := ⟨_, rfl⟩
 rw [← hn] at k2 hen hc1
 have hn5 : n ≤ 255 := by rw [hn]; exact HFEW.out
 have hblt : b < w.heap.size := HB.out.lt
 have hob := ho.lt
 rw [← hn] at hob
 have HN := Lib.hid hn
 have HEN := Lib.hid hen
 have HOB := Lib.hid hob
 have HBL := Lib.hid hblt
 have HBB := Lib.hid (HB.out.moved (Moved.of_below hb1 (fun _ => False)) (fun h => h))
 have HB1 := Lib.hid hb1
 clear hpl hcell hst ho hn hen hob hb1 HW hblt
 go_wp2_with fail
 go_step3
 go_wp2_with fail
 refine wp_loop_rounds 2 ?_
 rw [rounds_succ]
 go_wp2_with fail
 obtain ⟨w2, hw2⟩ : ∃ y, y = w1.alloc (.cells #[.int .i64 root, .int .i64 0, .slice ao n cap, .int .i64 0] 64) := ⟨_, rfl⟩
 rw [← hw2]
 have hal : Below w1.heap.size w1 w2 := by rw [hw2]; exact (Below.refl _ w1).alloc (Nat.le_refl _) _
 have HB2 := Lib.hid (HBB.out.moved (Moved.of_below hal (fun _ => False)) (fun h => h))
 have HEN2 := Lib.hid (HEN.out.below hal)
 have HM2 := Lib.hid (Moved.of_below (HB1.out.trans (hal.mono HB1.out.size)) (· = b))
 have HNB : Hid (∀ q : Nat, (Value.slice ao n cap).ownBlock = some q → ¬ q = b) := Lib.hid (fun q hq e => by have h1 := (HOB.out q hq).1; have h2 := HBL.out; omega)
 have HBS : Hid (b < w2.heap.size) := Lib.hid HB2.out.lt
 clear hal hw2 k0 k1 k2 k3
 go_loopw [14, 46] (fun _ i wr => ∃ k : Nat, k ≤ n ∧ i = .int .i64 k ∧ Blk wr b #[.int .i64 k] 3 ∧ Moved (· = b) w2 wr) (fun _ i _ => n - (intOf i).toNat)
 case atStart => exact ⟨0, Nat.zero_le _, rfl, HB2.out, Moved.refl _ _⟩
 case round =>
  obtain ⟨k, hk, rfl, hbk, hmv⟩ := hrel
  have HBK := Lib.hid hbk
  have HMV := Lib.hid hmv
  clear hbk hmv
  by_cases hlt : k < n
  ·have hke : k < es.length := by rw [← HN.out]; exact hlt
   obtain ⟨b', off, cp', hsl, -, -, hbs, hce⟩ := (HEN2.out.moved HMV.out (fun _ => HNB.out)).at (by omega)
   rw [← HN.out] at hsl
   simp only [Value.slice.injEq, true_and] at hsl
   obtain ⟨rfl, rfl⟩ := hsl
   obtain ⟨d0, d1, d2⟩ := hce k hke
   obtain ⟨e, he⟩ : ∃ y, y = es[k] := ⟨_, rfl⟩
   rw [← he] at d0 d1 d2
   have hal2 : Below wr.heap.size wr (wr.alloc (.cells #[.string e.key, .string e.val, .int .i64 e.kid] 68)) := (Below.refl _ wr).alloc (Nat.le_refl _) _
   have HBK2 := Lib.hid (HBK.out.moved (Moved.of_below hal2 (fun _ => False)) (fun h => h))
   have HMV2 := Lib.hid (HMV.out.trans (Moved.of_below hal2 (· = b)) (fun _ h => .inl h))
   have hlt' : (k : Int) < n := by omega
   clear hce he hal2 hbs
   go_wp2_with fail
   refine (countq_any b k (by omega) e _ HBK2.out).mono ?_
   rintro en w4 ⟨rfl, hb4, hm4⟩
   have HB4 := Lib.hid hb4
   have HM4 := Lib.hid (HMV2.out.trans hm4 (fun _ h => .inl h))
   clear hb4 hm4
   go_wp2_with fail
   go_roundw
   case rel => exact ⟨k + 1, by omega, by go_num, HB4.out, HM4.out⟩
   case measure => simp [intOf]; omega
  ·obtain rfl : n = k := by omega
   go_wp2_with fail
   refine (onward_leaf _ g cp _).mono ?_
   rintro en w4 ⟨rfl, rfl⟩
   go_wp2_with fail
   rw [rounds_succ]
   go_wp2_with fail
   rw [Exit.noGoto_ret]
   go_ret
   exact ⟨rfl, by rw [← HN.out]; exact HBK.out, HM2.out.trans HMV.out (fun _ h => .inl h)⟩
set_option maxHeartbeats 4000000 in
/-- Count at a tree of one leaf. -/
theorem count_leaf {w0 w : World} {X : Nat → Prop} {r p N M c : Nat} {G : Lg} {H : Option Lg} (h : Pb w0 w X r p N M c G H) {root : Int} {es : List Ent} (hn : NodeAt N (H.getD G) root 0 es) :
 Calls Try.prog 16 #[.pointer (some ⟨p, 0, none⟩), .int .i64 root] w fun e w' => e = .returned (.tuple #[.int .i64 es.length, .int .i64 0]) ∧ Below w.heap.size w w' := by
 have hal : Below w.heap.size w (w.alloc (.cells #[.int .i64 0] 3)) := (Below.refl _ w).alloc (Nat.le_refl _) _
 have HH := Lib.hid (h.grow hal)
 have HN := Lib.hid hn
 have HAL := Lib.hid hal
 have HB := Lib.hid (Blk.new w #[.int .i64 0] 3)
 clear h hal hn
 go_enter Try.func16, Try.ntmps16
 go_wp2_with fail
 refine (walk_count HH.out HN.out w.heap.size HB.out).mono ?_
 rintro en w1 ⟨rfl, hb1, hm1⟩
 have c0 : w1.cell? ⟨w.heap.size, 0, none⟩ = some (.int .i64 es.length) := by rw [hb1.cell]; rfl
 have HM := Lib.hid hm1
 clear hb1 hm1
 go_wp2_with fail
 go_ret2
 exact ⟨rfl, HAL.out.trans (HM.out.below (fun k hk => by rw [hk]; exact Nat.le_refl _) HAL.out.size)⟩
end Go.Proofs.Ytpfjbcfnpfgidaa
namespace Go.Proofs.Ytpfjbcfnpfgidaa
open Go.RowKit Go.Maps
set_option maxRecDepth 100000
set_option linter.unusedVariables false
def NoX5 : Nat → Prop := fun _ => False
theorem nox5_lt (w : World) : ∀ k, NoX5 k → k < w.heap.size := fun _ h => h.elim
theorem open5_any (w0 w : World) (hb : Below w0.heap.size w0 w) : Calls Try.prog 6 #[] w fun e w' => ∃ r p, e = .returned (.pointer (some ⟨p, 0, none⟩)) ∧ Pb w0 w' NoX5 r p 1199 0 0 (Lg.new 1199) (some (Lg.new 1199)) := by
 have HB := Lib.hid hb
 clear hb
 go_enter Try.func6, Try.ntmps6
 go_wp2_with fail
 refine (nd_new (w0 := w0) (X := NoX5) 1600 1600 rfl (by omega) (by omega) HB.out (nox5_lt w)).mono ?_
 rintro e w1 ⟨r, rfl, h1, -⟩
 have H1 := Lib.hid h1
 clear h1
 go_wp2_with fail
 refine (ndb_open (N := 1199) H1.out (by omega) (by omega)).mono ?_
 rintro e w2 ⟨p, rfl, h2, -⟩
 have H2 := Lib.hid h2
 clear h2
 go_wp2_with fail
 refine (pb_begin H2.out).mono ?_
 rintro e w3 ⟨rfl, h3, -⟩
 have H3 := Lib.hid h3
 clear h3
 go_wp2_with fail
 go_ret
 exact ⟨r, p, rfl, H3.out⟩
theorem new5_free : (Lg.new 1199).free = 1 :: List.range' 2 1197 := by
 show List.range' 1 (1199 - 1) = _
 rw [show (1199 - 1 : Nat) = 1197 + 1 by omega, List.range'_succ]
theorem new5_len : (Lg.new 1199).free.length = 1198 := by rw [new5_free]; simp
theorem new5_used (pg : Nat → List UInt8) : lgUsed 1199 { Lg.new 1199 with free := List.range' 2 1197, page := pg } 1 := by
 unfold lgUsed
 refine ⟨by decide, by decide, fun h => ?_⟩
 have h' : 1 ∈ List.range' 2 1197 := h
 rw [List.mem_range'_1] at h'
 omega
/-- The tree of one empty leaf. -/
theorem node_empty {N : Nat} {H : Lg} {i : Int} (hu : lgUsed N H i) (hp : H.page i.toNat = page (enc 0 [])) : NodeAt N H i 0 [] :=
 ⟨hu, hp, by decide, by decide, by decide, by decide, fun e he => by cases he⟩
theorem known5_any (w : World) : Calls Try.prog 5 #[] w fun e w' => e = .returned (.bool true) ∧ Below w.heap.size w w' := by
 go_enter Try.func5, Try.ntmps5
 go_wp2_with fail
 refine (open5_any w w (Below.refl _ w)).mono ?_
 rintro e w1 ⟨r, p, rfl, h1⟩
 have H1 := Lib.hid h1
 clear h1
 go_wp2_with fail
 refine (pb_free H1.out).mono ?_
 rintro e w2 ⟨he, rfl⟩
 rw [show ((some (Lg.new 1199)).getD (Lg.new 1199)).free.length = 1198 from new5_len] at he
 subst he
 go_wp2_with fail
 refine (bt_new H1.out (by omega) new5_free).mono ?_
 rintro e w3 ⟨rfl, h3, -⟩
 have H3 := Lib.hid h3
 clear h3
 go_wp2_with fail
 refine (count_leaf H3.out (root := 1) (es := []) (node_empty ?_ (by simp [upd]))).mono ?_
 ·exact new5_used _
 rintro e w4 ⟨rfl, h4⟩
 have H4 := Lib.hid (H3.out.grow h4)
 clear h4
 go_wp2_with fail
 refine (pb_free H4.out).mono ?_
 rintro e w5 ⟨rfl, rfl⟩
 go_wp2_with fail
 go_ret
 exact ⟨rfl, H4.out.below⟩
end Go.Proofs.Ytpfjbcfnpfgidaa
