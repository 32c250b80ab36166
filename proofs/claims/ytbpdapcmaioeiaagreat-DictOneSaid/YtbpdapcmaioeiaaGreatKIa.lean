/- Ia -/
import Derived.Test.YtbpdapcmaioeiaaGreatKHh
import Derived.Deep.LoopGhost
import Derived.Lib.ConvBytes
namespace Go.Proofs.YtbpdapcmaioeiaaGreat
open Go.RowKit Go.Maps
set_option maxRecDepth 100000
set_option linter.unusedVariables false
set_option maxHeartbeats 4000000 in
theorem dset_any {w0 w : World} {X : Nat → Prop} {r p N M c : Nat} {G H : Lg} (h : Pb w0 w X r p N M c G (some H)) {n : Nat} {t : BT Ent n} (hi : InLg N H t) (hroom : 25 ≤ H.free.length) (b : Nat) (tg : TypeId) (hb : Blk w b #[.pointer (some ⟨p, 0, none⟩), .int .i64 (t.page : Int)] tg) (hX : X b) (hX0 : w0.heap.size ≤ b)
 (kv vv : Value) (key val : List UInt8) (hkb : Bs w kv key) (hvb : Bs w vv val) (hkx : ∀ g, kv.ownBlock = some g → g < w0.heap.size ∨ X g) (hvx : ∀ g, vv.ownBlock = some g → g < w0.heap.size ∨ X g) (hk : key.length ≤ 140) (hkv : key.length + val.length ≤ 150) (hc : c + 300000 < 500000) :
 Calls Tryz.prog 95 #[.pointer (some ⟨b, 0, none⟩), kv, vv] w fun e w' => e = .returned (.int .i64 0) ∧ ∃ (m : Nat) (t' : BT Ent m) (H' : Lg) (c' : Nat), c' ≤ c + 110 ∧ Changed N H H' t t' (setL ⟨key.toArray⟩ ⟨val.toArray⟩ t.flat) ∧ Pb w0 w' X r p N M c' G (some H') ∧
  Blk w' b #[.pointer (some ⟨p, 0, none⟩), .int .i64 (t'.page : Int)] tg ∧ Moved (fun j => (w0.heap.size ≤ j ∧ ¬ X j) ∨ j = b) w w' := by
 have hst := set_tree (h.grow ((Below.refl w.heap.size w).drew)) hi hroom ⟨key.toArray⟩ ⟨val.toArray⟩ (by simpa [ByteArray.size] using hk) (by simpa [ByteArray.size] using hkv) hc
 obtain ⟨pg, hpg⟩ : ∃ pg : Int, pg = (t.page : Int) := ⟨_, rfl⟩
 rw [← hpg] at hb hst
 have c0 : w.cell? ⟨b, 0, none⟩ = some (.pointer (some ⟨p, 0, none⟩)) := by rw [hb.cell]; rfl
 have c1 : w.cell? ⟨b, 1, none⟩ = some (.int .i64 pg) := by rw [hb.cell]; rfl
 have E0 := Lib.hid c0
 have E1 := Lib.hid c1
 have EK := Lib.hid hkb
 have EV := Lib.hid hvb
 have HST := Lib.hid hst
 have HB := Lib.hid hb
 have HX := Lib.hid hX
 have HKX := Lib.hid hkx
 have HVX := Lib.hid hvx
 have HX0 := Lib.hid hX0
 clear h hi hroom hb hX hX0 hkb hvb hkx hvx hk hkv hc hst c0 c1 hpg
 go_enter Tryz.func95, Tryz.ntmps95
 go_wp2_with fail
 refine wp_region_any (by kernel_rfl) ?_
 change wpAny _ _ _ _ _ _ _ (World.drew _)
 refine wpAny_of_held (S := fun (w' : World) => w'.cell? ⟨b, 0, none⟩ = some (.pointer (some ⟨p, 0, none⟩)) ∧ w'.cell? ⟨b, 1, none⟩ = some (.int .i64 pg) ∧ Bs w' kv key ∧ Bs w' vv val) _ _ _ _ ?_
 have hS : (fun (w' : World) => w'.cell? ⟨b, 0, none⟩ = some (.pointer (some ⟨p, 0, none⟩)) ∧ w'.cell? ⟨b, 1, none⟩ = some (.int .i64 pg) ∧ Bs w' kv key ∧ Bs w' vv val) _ := ⟨E0.out, E1.out, EK.out, EV.out⟩
 try simp only [Act.put, List.setIfInBounds_toArray, List.set_cons_zero, List.set_cons_succ]
 refine wpAnyH_take (i := 0) (oi := ⟨some 10, _, _, _, _, _⟩) (v := ?_) rfl (by kernel_rfl) (by kernel_rfl) (by kernel_rfl) (fun _ _ _ h => h) (Or.inl ⟨by simp only [Region.wanted], ?_⟩) hS ?_
 rotate_left
 ·intro wz hSw
  clear hSw
  go_simp
  first | done | with_reducible rfl
 try simp only [Act.put, List.setIfInBounds_toArray, List.set_cons_zero, List.set_cons_succ]
 refine wpAnyH_take (i := 1) (oi := ⟨some 11, _, _, _, _, _⟩) (v := ?_) rfl (by kernel_rfl) (by kernel_rfl) (by kernel_rfl) (fun _ _ _ h => h) (Or.inl ⟨by simp only [Region.wanted], ?_⟩) hS ?_
 rotate_left
 ·intro wz hSw
  clear hSw
  go_simp
  first | done | with_reducible rfl
 try simp only [Act.put, List.setIfInBounds_toArray, List.set_cons_zero, List.set_cons_succ]
 refine wpAnyH_take (i := 2) (oi := ⟨some 12, _, _, _, _, _⟩) (v := ?_) rfl (by kernel_rfl) (by kernel_rfl) (by kernel_rfl) (fun _ _ _ h => h) (Or.inl ⟨by simp only [Region.wanted], ?_⟩) hS ?_
 rotate_left
 ·intro wz hSw
  clear hSw
  go_simp
  first | done | with_reducible rfl
 try simp only [Act.put, List.setIfInBounds_toArray, List.set_cons_zero, List.set_cons_succ]
 refine wpAnyH_take (i := 3) (oi := ⟨some 13, _, _, _, _, _⟩) (v := ?_) rfl (by kernel_rfl) (by kernel_rfl) (by kernel_rfl) (fun _ _ _ h => h) (Or.inl ⟨by simp only [Region.wanted], ?_⟩) hS ?_
 rotate_left
 ·intro wz hSw
  (try dsimp only at hSw)
  (try go_split_ands)
  go_simp
  first | done | with_reducible rfl
 try simp only [Act.put, List.setIfInBounds_toArray, List.set_cons_zero, List.set_cons_succ]
 refine wpAnyH_take (i := 4) (oi := ⟨some 14, _, _, _, _, _⟩) (v := ?_) rfl (by kernel_rfl) (by kernel_rfl) (by kernel_rfl) (fun _ _ _ h => h) (Or.inl ⟨by simp only [Region.wanted], ?_⟩) hS ?_
 rotate_left
 ·intro wz hSw
  clear hSw
  go_simp
  first | done | with_reducible rfl
 try simp only [Act.put, List.setIfInBounds_toArray, List.set_cons_zero, List.set_cons_succ]
 refine wpAnyH_take (i := 5) (oi := ⟨some 15, _, _, _, _, _⟩) (v := ?_) rfl (by kernel_rfl) (by kernel_rfl) (by kernel_rfl) (fun _ _ _ h => h) (Or.inl ⟨by simp only [Region.wanted], ?_⟩) hS ?_
 rotate_left
 ·intro wz hSw
  clear hSw
  go_simp
  first | done | with_reducible rfl
 try simp only [Act.put, List.setIfInBounds_toArray, List.set_cons_zero, List.set_cons_succ]
 refine wpAnyH_take (i := 6) (oi := ⟨some 16, _, _, _, _, _⟩) (v := ?_) rfl (by kernel_rfl) (by kernel_rfl) (by kernel_rfl) (fun _ _ _ h => h) (Or.inl ⟨by simp only [Region.wanted], ?_⟩) hS ?_
 rotate_left
 ·intro wz hSw
  clear hSw
  go_simp
  first | done | with_reducible rfl
 try simp only [Act.put, List.setIfInBounds_toArray, List.set_cons_zero, List.set_cons_succ]
 refine wpAnyH_take (i := 7) (oi := ⟨some 17, _, _, _, _, _⟩) (v := ?_) rfl (by kernel_rfl) (by kernel_rfl) (by kernel_rfl) (fun _ _ _ h => h) (Or.inl ⟨by simp only [Region.wanted], ?_⟩) hS ?_
 rotate_left
 ·intro wz hSw
  (try dsimp only at hSw)
  (try go_split_ands)
  go_simp
  first | done | with_reducible rfl
 try simp only [Act.put, List.setIfInBounds_toArray, List.set_cons_zero, List.set_cons_succ]
 refine wpAnyH_take (i := 8) (oi := ⟨some 18, _, _, _, _, _⟩) (v := ?_) rfl (by kernel_rfl) (by kernel_rfl) (by kernel_rfl) (fun _ _ _ h => h) (Or.inl ⟨by simp only [Region.wanted], ?_⟩) hS ?_
 rotate_left
 ·intro wz hSw
  clear hSw
  go_simp
  first | done | with_reducible rfl
 try simp only [Act.put, List.setIfInBounds_toArray, List.set_cons_zero, List.set_cons_succ]
 refine wpAnyH_take (i := 9) (oi := ⟨some 19, _, _, _, _, _⟩) (v := ?_) rfl (by kernel_rfl) (by kernel_rfl) (by kernel_rfl) (fun _ _ _ h => h) (Or.inl ⟨by simp only [Region.wanted], ?_⟩) hS ?_
 rotate_left
 ·intro wz hSw; have hcv := run_conv_bytes hSw.2.2.1
  clear hSw
  go_simp
  first | done | with_reducible rfl
 try simp only [Act.put, List.setIfInBounds_toArray, List.set_cons_zero, List.set_cons_succ]
 refine wpAnyH_take (i := 10) (oi := ⟨some 20, _, _, _, _, _⟩) (v := ?_) rfl (by kernel_rfl) (by kernel_rfl) (by kernel_rfl) (fun _ _ _ h => h) (Or.inl ⟨by simp only [Region.wanted], ?_⟩) hS ?_
 rotate_left
 ·intro wz hSw
  clear hSw
  go_simp
  first | done | with_reducible rfl
 try simp only [Act.put, List.setIfInBounds_toArray, List.set_cons_zero, List.set_cons_succ]
 refine wpAnyH_take (i := 11) (oi := ⟨some 21, _, _, _, _, _⟩) (v := ?_) rfl (by kernel_rfl) (by kernel_rfl) (by kernel_rfl) (fun _ _ _ h => h) (Or.inl ⟨by simp only [Region.wanted], ?_⟩) hS ?_
 rotate_left
 ·intro wz hSw; have hcv := run_conv_bytes hSw.2.2.2
  clear hSw
  go_simp
  first | done | with_reducible rfl
 try simp only [Act.put, List.setIfInBounds_toArray, List.set_cons_zero, List.set_cons_succ]
 refine wpAnyH_ready (rs := [12]) (by kernel_rfl) (by simp) ?_
 refine AllReadyH.cons (o := ⟨some 22, _, _, _, _, _⟩) rfl (fun K hK => ?_) AllReadyH.nil
 go_simp
 refine (HST.out).mono ?_
 rintro en w2 ⟨m, t', H', c', rfl, hc', hch, h2, hm2⟩
 obtain ⟨pg', hpg'⟩ : ∃ pg' : Int, pg' = (t'.page : Int) := ⟨_, rfl⟩
 rw [← hpg']
 have HC' := Lib.hid hc'
 have HCH := Lib.hid hch
 have H2 := Lib.hid h2
 have HM2 := Lib.hid (Moved.trans (P := fun j => w0.heap.size ≤ j ∧ ¬ X j) (Moved.refl _ w).drew hm2 (fun j hj => .inl hj))
 have HPG' := Lib.hid hpg'
 clear hc' hch h2 hm2 hpg' HST
 have hb2 := HB.out.moved HM2.out (fun e => e.2 HX.out)
 refine hK.out _ _ (⟨by rw [hb2.cell]; rfl, by rw [hb2.cell]; rfl, EK.out.moved HM2.out (fun g hg e => (HKX.out g hg).elim (fun q => by omega) e.2), EV.out.moved HM2.out (fun g hg e => (HVX.out g hg).elim (fun q => by omega) e.2)⟩) (fun hS => ?_)
 clear hK K
 try simp only [Act.put, List.setIfInBounds_toArray, List.set_cons_zero, List.set_cons_succ]
 refine wpAnyH_take (i := 13) (oi := ⟨some 9, _, _, _, _, _⟩) (v := ?_) rfl (by kernel_rfl) (by kernel_rfl) (by kernel_rfl) (fun _ _ _ h => h) (Or.inl ⟨by simp only [Region.wanted], ?_⟩) hS ?_
 rotate_left
 ·intro wz hSw
  clear hSw
  go_simp
  first | done | with_reducible rfl
 try simp only [Act.put, List.setIfInBounds_toArray, List.set_cons_zero, List.set_cons_succ]
 refine wpAnyH_take (i := 14) (oi := ⟨some 23, _, _, _, _, _⟩) (v := ?_) rfl (by kernel_rfl) (by kernel_rfl) (by kernel_rfl) (fun _ _ _ h => h) (Or.inl ⟨by simp only [Region.wanted], ?_⟩) hS ?_
 rotate_left
 ·intro wz hSw
  clear hSw
  go_simp
  first | done | with_reducible rfl
 try simp only [Act.put, List.setIfInBounds_toArray, List.set_cons_zero, List.set_cons_succ]
 refine wpAnyH_take (i := 15) (oi := ⟨some 24, _, _, _, _, _⟩) (v := ?_) rfl (by kernel_rfl) (by kernel_rfl) (by kernel_rfl) (fun _ _ _ h => h) (Or.inl ⟨by simp only [Region.wanted], ?_⟩) hS ?_
 rotate_left
 ·intro wz hSw
  clear hSw
  go_simp
  first | done | with_reducible rfl
 try simp only [Act.put, List.setIfInBounds_toArray, List.set_cons_zero, List.set_cons_succ]
 refine wpAnyH_take (i := 16) (oi := ⟨some 7, _, _, _, _, _⟩) (v := ?_) rfl (by kernel_rfl) (by kernel_rfl) (by kernel_rfl) (fun _ _ _ h => h) (Or.inl ⟨by simp only [Region.wanted], ?_⟩) hS ?_
 rotate_left
 ·intro wz hSw
  clear hSw
  go_simp
  first | done | with_reducible rfl
 try simp only [Act.put, List.setIfInBounds_toArray, List.set_cons_zero, List.set_cons_succ]
 refine wpAnyH_take (i := 17) (oi := ⟨some 8, _, _, _, _, _⟩) (v := ?_) rfl (by kernel_rfl) (by kernel_rfl) (by kernel_rfl) (fun _ _ _ h => h) (Or.inl ⟨by simp only [Region.wanted], ?_⟩) hS ?_
 rotate_left
 ·intro wz hSw
  clear hSw
  go_simp
  first | done | with_reducible rfl
 try simp only [Act.put, List.setIfInBounds_toArray, List.set_cons_zero, List.set_cons_succ]
 refine wpAnyH_done (by kernel_rfl) ?_ _
 have c1 : w2.cell? ⟨b, 1, none⟩ = some (.int .i64 pg) := by rw [hb2.cell]; rfl
 have g1 := hb2.frozen 1
 have HB2 := Lib.hid hb2
 clear hS hb2
 go_wp2_with fail
 go_ret
 exact ⟨rfl, m, t', H', c', HC'.out, HCH.out, (H2.out.mv ((Moved.refl (· = b) w2).setCell ⟨b, 1, none⟩ (.int .i64 pg') (.inl rfl)) (fun j hj => by rw [hj]; exact ⟨HX.out, HX0.out⟩)), by rw [← HPG'.out]; exact HB2.out.set 1 _, (HM2.out.mono (fun j hj => .inl hj)).setCell _ _ (.inl (.inr rfl))⟩
end Go.Proofs.YtbpdapcmaioeiaaGreat
namespace Go.Proofs.YtbpdapcmaioeiaaGreat
open Go.RowKit Go.Maps
set_option maxRecDepth 100000
set_option linter.unusedVariables false
/-- []byte(s): a new block that holds the bytes of s. -/
theorem run_conv_str (w : World) (s : ByteArray) (hs : s.size ≤ maxLen) : ∃ v w', (convert 9 131 (.string s)).run Tryz.prog w = .ok v w' ∧ Bs w' v s.data.toList ∧ Below w.heap.size w w' ∧ ∀ q, v.ownBlock = some q → w.heap.size ≤ q ∧ q < w'.heap.size := by
 refine ⟨_, _, Go.Lib.run_convert_string_bytes w 9 131 5 s Tryz.underlying9 Tryz.underlying131 Tryz.underlying5, ?_, ?_, ?_⟩
 ·have hlen : s.data.toList.length = s.size := Array.length_toList
  refine ⟨some ⟨w.heap.size, 0, none⟩, _, by rw [hlen], by rw [hlen]; exact grownCap_ge _ _ _ _, grownCap_le_maxLen _ _ _ _ hs, (fun e => by cases e), fun ad had j u hu => ?_⟩
  obtain rfl := Option.some.inj had
  have hj : j < s.size := by
   have := (List.getElem?_eq_some_iff.1 hu).1
   simpa [vbs] using this
  rw [Addr.add_lit, Nat.zero_add, Go.Lib.bytesWorld_cell w _ s j hj]
  have hj' : j < s.data.toList.length := by simpa using hj
  rw [vbs, List.getElem?_map, List.getElem?_eq_getElem hj'] at hu
  rw [List.getD_eq_getElem?_getD, List.getElem?_eq_getElem hj']
  exact hu
 ·exact ⟨rfl, rfl, rfl, by rw [Go.Lib.bytesWorld_size]; omega, fun k hk => Go.Lib.bytesWorld_at_old w _ s k hk⟩
 ·intro q hq
  obtain rfl : w.heap.size = q := Option.some.inj hq
  rw [Go.Lib.bytesWorld_size]
  omega
set_option maxHeartbeats 4000000 in
theorem dget_any {w0 w : World} {X : Nat → Prop} {r p N M c : Nat} {G : Lg} {H : Option Lg} (h : Pb w0 w X r p N M c G H) {n : Nat} {t : BT Ent n} (hi : InLg N (H.getD G) t) (kv : Value) (key : List UInt8) (hkb : Bs w kv key) (hfew : ∀ x ∈ t.flat, x.val.size ≤ 1000) :
 Calls Tryz.prog 92 #[.agg #[.pointer (some ⟨p, 0, none⟩), .int .i64 (t.page : Int)], kv] w fun e w' => Below w.heap.size w w' ∧
  match t.flat.find? (sameK ⟨key.toArray⟩) with
  | none => e = .returned (.tuple #[.slice none 0 0, .int .i64 2])
  | some x => ∃ v, e = .returned (.tuple #[v, .int .i64 0]) ∧ Bs w' v x.val.data.toList ∧ ∀ q, v.ownBlock = some q → w.heap.size ≤ q ∧ q < w'.heap.size := by
 have hal : Below w.heap.size w (w.alloc (.cells #[.pointer (some ⟨p, 0, none⟩), .int .i64 (t.page : Int)] 108)) := (Below.refl _ w).alloc (Nat.le_refl _) _
 have hb := Blk.new w #[.pointer (some ⟨p, 0, none⟩), .int .i64 (t.page : Int)] 108
 have hlow := hi.low
 have hge := get_any (h.grow hal) hi.stored hi.root hi.sorted ⟨key.toArray⟩ (by omega)
 have hks := hkb.below hal
 obtain ⟨pg, hpg⟩ : ∃ pg : Int, pg = (t.page : Int) := ⟨_, rfl⟩
 rw [← hpg] at hb hge hal hks ⊢
 obtain ⟨fd, hfd⟩ : ∃ fd, fd = t.flat.find? (sameK ⟨key.toArray⟩) := ⟨_, rfl⟩
 have hval : ∀ x, fd = some x → x.val.size ≤ maxLen := fun x hx => by
  have := hfew x (List.mem_of_find?_eq_some (by rw [← hfd]; exact hx))
  simp only [maxLen]; omega
 rw [← hfd] at hge ⊢
 have c0 : (w.alloc (.cells #[.pointer (some ⟨p, 0, none⟩), .int .i64 pg] 108)).cell? ⟨w.heap.size, 0, none⟩ = some (.pointer (some ⟨p, 0, none⟩)) := by rw [hb.cell]; rfl
 have c1 : (w.alloc (.cells #[.pointer (some ⟨p, 0, none⟩), .int .i64 pg] 108)).cell? ⟨w.heap.size, 1, none⟩ = some (.int .i64 pg) := by rw [hb.cell]; rfl
 have hcv := run_conv_bytes hks
 have HGE := Lib.hid hge
 have HAL := Lib.hid hal
 have HVAL := Lib.hid hval
 clear h hi hkb hal hb hlow hge hks hpg hfd hval hfew
 go_enter Tryz.func92, Tryz.ntmps92
 go_wp2_with fail
 go_step3
 go_wp2_with fail
 refine HGE.out.mono ?_
 rintro en w2 ⟨rfl, hb2⟩
 have HB2 := Lib.hid (HAL.out.trans (hb2.mono HAL.out.size))
 clear hb2 HGE hcv c0 c1
 cases fd with
 | none =>
  go_wp2_with fail
  go_step3
  go_wp2_with fail
  repeat rw [Exit.noGoto_ret]
  go_ret2
  exact ⟨HB2.out, rfl⟩
 | some x =>
  obtain ⟨v, w3, hrun, hbs, hbl, hq⟩ := run_conv_str w2 x.val (HVAL.out x rfl)
  have HBS := Lib.hid hbs
  have HBL := Lib.hid hbl
  have HQ := Lib.hid hq
  clear hbs hbl hq
  go_wp2_with fail
  repeat rw [Exit.noGoto_ret]
  go_ret2
  exact ⟨HB2.out.trans (HBL.out.mono HB2.out.size), v, rfl, HBS.out, fun q hq => ⟨Nat.le_trans HB2.out.size (HQ.out q hq).1, (HQ.out q hq).2⟩⟩
end Go.Proofs.YtbpdapcmaioeiaaGreat
