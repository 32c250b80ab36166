/- Sk -/
import Derived.Test.YtbpdapcmaioeiaaGreatKTl
import Derived.Test.YtbpdapcmaioeiaaGreatKSj
import Derived.Test.YtbpdapcmaioeiaaGreatKSl
namespace Go.Proofs.YtbpdapcmaioeiaaGreat
open Go.RowKit Go.Maps
set_option maxRecDepth 100000
set_option linter.unusedVariables false
/-- The dictionary, the variable that holds its trees, and the row of the terms that were seen. -/
structure Dk1 (W w : World) (X : Nat → Prop) (r p c : Nat) (H : Lg) {n m : Nat} (tt : BT Ent n) (ty : BT Ent m) (Bd : Nat) (sv : Value) (L : List Tm) : Prop where
 dc : Dc W w X r p 1199 0 c (Lg.new 1199) H tt ty 1198 L
 blk : Blk w Bd #[.int .i64 (tt.page : Int), .int .i64 (ty.page : Int), .int .i64 ((L.length : Nat) : Int)] 52
 xd : X Bd
 low : ∀ j, X j → W.heap.size ≤ j
 row : OwT w W.heap.size sv L
 own : ∀ q, sv.ownBlock = some q → X q ∧ q ≠ Bd
theorem Dk1.read {W w w' : World} {X : Nat → Prop} {r p c : Nat} {H : Lg} {n m : Nat} {tt : BT Ent n} {ty : BT Ent m} {Bd : Nat} {sv : Value} {L : List Tm} (h : Dk1 W w X r p c H tt ty Bd sv L) (hb : Below w.heap.size w w') : Dk1 W w' X r p c H tt ty Bd sv L :=
 ⟨h.dc.read hb, (hb.block _ h.blk.lt).trans h.blk, h.xd, h.low, h.row.below hb, h.own⟩
theorem Dk1.take {W w w' : World} {X : Nat → Prop} {r p c : Nat} {H : Lg} {n m : Nat} {tt : BT Ent n} {ty : BT Ent m} {Bd : Nat} {sv : Value} {L : List Tm} (h : Dk1 W w X r p c H tt ty Bd sv L) (hb : Below w.heap.size w w') : Dk1 W w' (fun k => X k ∨ (w.heap.size ≤ k ∧ k < w'.heap.size)) r p c H tt ty Bd sv L :=
 ⟨h.dc.take hb, (hb.block _ h.blk.lt).trans h.blk, .inl h.xd, fun j hj => hj.elim (h.low j) (fun e => Nat.le_trans h.dc.pb.below.size e.1), h.row.below hb, fun q hq => ⟨.inl (h.own q hq).1, (h.own q hq).2⟩⟩
def Cut1 (W : World) (r p Bd : Nat) (sv : Value) (wr : World) : Prop :=
 ∃ (X : Nat → Prop) (n m : Nat) (tt : BT Ent n) (ty : BT Ent m) (H : Lg) (c : Nat) (L : List Tm) (sa : Option Addr) (sn sc : Nat), sv = .slice sa sn sc ∧ sn = L.length ∧ sn ≤ sc ∧ sc ≤ 9223372036854775807 ∧ L.length ≤ 60 ∧ c ≤ 300000 ∧ Dk1 W wr X r p c H tt ty Bd (.slice sa sn sc) L
def Rel1 (W : World) (nl na r p Bd : Nat) (i sv : Value) (wr : World) : Prop :=
 ∃ (k : Nat) (X : Nat → Prop) (n m : Nat) (tt : BT Ent n) (ty : BT Ent m) (H : Lg) (c : Nat) (L : List Tm) (sa : Option Addr) (sn sc : Nat), sv = .slice sa sn sc ∧ sn = L.length ∧ sn ≤ sc ∧ sc ≤ 9223372036854775807 ∧ k ≤ 60 ∧ k ≤ nl + na ∧ i = .int .i64 k ∧ c ≤ 4 + 220 * k ∧ L.length ≤ k ∧ Dk1 W wr X r p c H tt ty Bd (.slice sa sn sc) L
set_option maxHeartbeats 16000000 in
theorem one7_walk (v v2 : Value) (l : List Tm) (zs : List Int) (W : World) (h : Tms W v l) (h2 : Nl W v2 zs) :
 Calls Tryz.prog 5 #[v, v2] W fun e w' => e = .returned (.bool true) ∧ Below W.heap.size W w' := by
 obtain ⟨ao, cap, hv, hc1, hc2, hE⟩ := id h
 obtain ⟨ao2, cap2, hv2, hd1, hd2, -, -⟩ := id h2
 have hc2' : cap ≤ 9223372036854775807 := hc2
 have hd2' : cap2 ≤ 9223372036854775807 := hd2
 obtain ⟨nl, hn⟩ : ∃ n, n = l.length := ⟨_, rfl⟩
 obtain ⟨na, hn2⟩ : ∃ n, n = zs.length := ⟨_, rfl⟩
 rw [← hn] at hc1 hv
 rw [← hn2] at hd1 hv2
 subst hv hv2
 have HN := Lib.hid hn
 have HN2 := Lib.hid hn2
 have HA := Lib.hid h
 have HA2 := Lib.hid h2
 clear hn hn2 hE hc2 hd2 h h2
 go_enter Tryz.func5, Tryz.ntmps5
 go_wp2_with fail
 refine (known7_any W).mono ?_
 rintro e w1 ⟨rfl, h1⟩
 have H1 := Lib.hid h1
 clear h1
 go_wp2_with fail
 refine (few7_any (HA.out.below H1.out)).mono ?_
 intro e w2 hfw
 obtain ⟨t, rfl, hb2, hf⟩ := hfw.out
 have HF := Lib.hid hf
 have H2 := Lib.hid (H1.out.trans (hb2.mono H1.out.size))
 clear hf hfw hb2
 cases t with
 | false =>
  go_wp2_with fail
  go_ret
  exact ⟨rfl, H2.out⟩
 | true =>
  replace HF := Lib.hid (HF.out (by trivial))
  go_wp2_with fail
  refine (open5_any W _ H2.out).mono ?_
  rintro e w3 ⟨r, p, rfl, h3⟩
  have H3 := Lib.hid h3
  clear h3
  go_wp2_with fail
  refine (dictnew_any H3.out (by omega) new5_free).mono ?_
  rintro e w4 ⟨rfl, h4, -⟩
  have hal := (Below.refl w4.heap.size w4).alloc (Nat.le_refl _) (.cells #[.int .i64 1, .int .i64 2, .int .i64 0] 52)
  have hsz : (w4.alloc (.cells #[.int .i64 1, .int .i64 2, .int .i64 0] 52)).heap.size = w4.heap.size + 1 := by simp
  have hwl := h4.below.size
  have hdk : Dk1 W (w4.alloc (.cells #[.int .i64 1, .int .i64 2, .int .i64 0] 52)) _ r p _ _ (BT.leaf 1 []) (BT.leaf 2 []) w4.heap.size (.slice none 0 0) [] :=
   ⟨(Dc.start h4).take hal, Blk.new w4 _ _, .inr ⟨Nat.le_refl _, by omega⟩, fun j hj => hj.elim (fun e => e.elim) (fun e => Nat.le_trans hwl e.1), OwT.nil _ _, fun q hq => by cases hq⟩
  have HDK := Lib.hid hdk
  have HWL := Lib.hid hwl
  clear h4 hdk hsz hal hwl
  go_upto_block 0 with fail
  go_cut [8] (fun s8 wx => Cut1 W r p w4.heap.size s8 wx)
  case first =>
   go_wp2_with fail
   go_loopw [8, 9] (fun s8 i wr => Rel1 W nl na r p w4.heap.size i s8 wr) (fun _ i _ => 60 - (intOf i).toNat)
   case atStart => exact ⟨0, _, 0, 0, _, _, _, 4, [], none, 0, 0, rfl, rfl, Nat.le_refl _, by omega, by omega, by omega, rfl, by omega, by simp, HDK.out⟩
   case round =>
    obtain ⟨k, X, n, m, tt, ty, H, c, L, sa, sn, sc, rfl, hsn, hsc, hsc2, hk60, hkn, rfl, hcc, hLk, hdk⟩ := hrel
    have HD := Lib.hid hdk
    have HSN := Lib.hid hsn
    have HB := Lib.hid (show c ≤ 4 + 220 * k ∧ sn ≤ k ∧ k ≤ 60 from ⟨hcc, by omega, hk60⟩)
    clear hcc hLk hdk hsn HDK
    have hn40 : nl ≤ 40 := by rw [HN.out]; exact HF.out.1
    obtain ⟨sw, hsw, hsw2⟩ : ∃ sw : Int, wrap64 ((nl : Int) + (na : Int)) = sw ∧ sw ≤ (nl : Int) + na := ⟨_, rfl, by unfold wrap64; omega⟩
    have HSW := Lib.hid hsw2
    clear hsw2
    by_cases hA : (k : Int) < sw
    rotate_left
    ·go_wp2_with fail
     go_meet
     have := HB.out
     exact ⟨X, n, m, tt, ty, H, c, L, sa, sn, sc, rfl, HSN.out, hsc, hsc2, by rw [← HSN.out]; omega, by omega, HD.out⟩
    by_cases hB : (k : Int) < 60
    rotate_left
    ·go_wp2_with fail
     go_meet
     have := HB.out
     exact ⟨X, n, m, tt, ty, H, c, L, sa, sn, sc, rfl, HSN.out, hsc, hsc2, by rw [← HSN.out]; omega, by omega, HD.out⟩
    by_cases hz : (nl : Int) = 0
    ·have hge : (nl : Int) ≤ k := by omega
     have hz1 : (((nl : Nat) : Int) == 0) = true := by simpa using hz
     clear hz
     go_wp2_with fail
     go_meet
     have := HB.out
     exact ⟨X, n, m, tt, ty, H, c, L, sa, sn, sc, rfl, HSN.out, hsc, hsc2, by rw [← HSN.out]; omega, by omega, HD.out⟩
    have hz' : (((nl : Nat) : Int) == 0) = false := by simpa using hz
    go_upto_if 51 with fail
    go_cut [10] from 34 to 107 (fun s10 wx => ∃ q : Nat, q < nl ∧ s10 = .int .i64 q ∧ wx = wr)
    case first =>
     by_cases hk : (k : Int) < nl
     ·go_wp2_with fail
      go_meet
      exact ⟨k, by omega, rfl, rfl⟩
     ·obtain ⟨d, hd⟩ : ∃ d : Nat, (k : Int) - nl = d := ⟨k - nl, by omega⟩
      have hdn : d < zs.length := by have := HSW.out; rw [← HN2.out]; omega
      obtain ⟨b2, f2, cp2, e2, -, -, hcell⟩ := (HA2.out.below HD.out.dc.pb.below).at (by omega)
      rw [← HN2.out] at e2
      simp only [Value.slice.injEq, true_and] at e2
      obtain ⟨rfl, rfl⟩ := e2
      have hc := hcell d hdn
      have hdi : (d : Int) < na := by rw [HN2.out]; omega
      have hd0 : (0 : Int) ≤ d := by omega
      obtain ⟨zz, hzz⟩ : ∃ z, z = zs[d] := ⟨_, rfl⟩
      rw [← hzz] at hc
      clear hcell hzz
      go_wp2_with fail
      refine (within7_eq zz nl (by omega) (by omega) _).mono ?_
      rintro e wq ⟨rfl, hw⟩
      obtain rfl := hw.symm
      have hm1 := Int.emod_nonneg zz (show (nl : Int) ≠ 0 by omega)
      have hm2 := Int.emod_lt_of_pos zz (show (0 : Int) < nl by omega)
      obtain ⟨q, hq⟩ : ∃ q : Nat, zz % (nl : Int) = q := ⟨(zz % (nl : Int)).toNat, by omega⟩
      rw [hq]
      rw [hq] at hm2
      clear hq hm1
      go_wp2_with fail
      go_meet
      exact ⟨q, by omega, rfl, rfl⟩
    case rest =>
     obtain ⟨q, hq, rfl, hwc⟩ := hcut
     replace hwc := hwc.symm
     subst hwc
     have hql : q < l.length := by rw [← HN.out]; exact hq
     obtain ⟨ao', cap', e', -, -, hE'⟩ := HA.out.below HD.out.dc.pb.below
     rw [← HN.out] at e'
     simp only [Value.slice.injEq, true_and] at e'
     obtain ⟨rfl, rfl⟩ := e'
     obtain ⟨b, off, rfl, -, c0, c1, c2, c3, -⟩ := hE' q hql
     have hfx := HF.out.2 q hql
     obtain ⟨x, hx⟩ : ∃ x, x = l[q] := ⟨_, rfl⟩
     rw [← hx] at c0 c1 c2 c3 hfx
     obtain ⟨g, hg⟩ : ∃ g, g = goodT x := ⟨_, rfl⟩
     have hgc : checkOf g = 0 := by rw [hg]; exact (good_good x).c
     have htg := fun w => tgood_any x hfx w
     rw [← hg] at htg
     have hpu := fun (u : World) (hu : Below wr.heap.size wr u) => dput_any (HD.out.take hu).dc (by omega) (by have := HB.out; rw [← HSN.out]; omega) g hgc (by have := HB.out; omega)
     have hbk := HD.out.blk
     have hrow := HD.out.row
     obtain ⟨pt, hpt⟩ : ∃ q : Int, q = (tt.page : Int) := ⟨_, rfl⟩
     obtain ⟨py, hpy⟩ : ∃ q : Int, q = (ty.page : Int) := ⟨_, rfl⟩
     obtain ⟨li, hli⟩ : ∃ q : Int, q = ((L.length : Nat) : Int) := ⟨_, rfl⟩
     rw [← hpt, ← hpy, ← hli] at hpu hbk
     have hxw := Lib.hid (And.intro hpt (And.intro hpy hli))
     have d0 := hbk.cell 0
     have d1 := hbk.cell 1
     have d2 := hbk.cell 2
     simp only [List.getElem?_toArray, List.getElem?_cons_zero, List.getElem?_cons_succ] at d0 d1 d2
     have HGC := Lib.hid hgc
     have HBK := Lib.hid hbk
     obtain ⟨k', s', l', u'⟩ := x
     obtain ⟨gk, gs, gl, gt⟩ := g
     unfold Tm.val at htg hpu
     dsimp only at c0 c1 c2 c3 htg hpu
     have HTG := Lib.hid htg
     have HPU := Lib.hid hpu
     have hqi : (q : Int) < nl := by omega
     clear hE' hfx hx hg hgc htg hpu hbk hpt hpy hli hql hrow
     go_wp2_with fail
     refine (HTG.out _).mono ?_
     rintro en w5 ⟨rfl, hb5⟩
     have hal : Below wr.heap.size wr (w5.alloc (.cells #[.int .i64 gk, .string gs, .string gl, .string gt] 59)) := hb5.alloc hb5.size _
     have hbt := Blk.new w5 #[.int .i64 gk, .string gs, .string gl, .string gt] 59
     have hbd : Blk (w5.alloc (.cells #[.int .i64 gk, .string gs, .string gl, .string gt] 59)) w4.heap.size _ _ := (hal.block _ HBK.out.lt).trans HBK.out
     clear c0 c1 c2 c3 d0 d1 d2
     have d0 := hbd.cell 0
     have d1 := hbd.cell 1
     have d2 := hbd.cell 2
     simp only [List.getElem?_toArray, List.getElem?_cons_zero, List.getElem?_cons_succ] at d0 d1 d2
     go_wp2_with fail
     clear d0 d1 d2
     have hlt5 : wr.heap.size ≤ w5.heap.size := hb5.size
     have hsz6 : (w5.alloc (.cells #[.int .i64 gk, .string gs, .string gl, .string gt] 59)).heap.size = w5.heap.size + 1 := by simp
     generalize w5.alloc _ = w6 at hal hbt hbd hsz6 ⊢
     refine (HPU.out _ hal).mono ?_
     intro en w7 hto
     obtain ⟨n', m', tt', ty', H', c', L', i, rfl, hc', hd', hmx, hor⟩ := hto
     have hT7 := hbt.moved hmx (fun e => e.2 (.inr ⟨hlt5, by omega⟩))
     have hD7 := hbd.moved hmx (fun e => e.2 (.inl HD.out.xd))
     have hR7 : OwT w7 W.heap.size (.slice sa sn sc) L := (HD.out.row.below hal).moved hmx (fun q hq e => e.2 (.inl (HD.out.own q hq).1))
     obtain ⟨pt', hpt'⟩ : ∃ q : Int, q = (tt'.page : Int) := ⟨_, rfl⟩
     obtain ⟨py', hpy'⟩ : ∃ q : Int, q = (ty'.page : Int) := ⟨_, rfl⟩
     obtain ⟨li', hli'⟩ : ∃ q : Int, q = ((L'.length : Nat) : Int) := ⟨_, rfl⟩
     rw [← hpt', ← hpy', ← hli']
     have HX' := Lib.hid (And.intro hpt' (And.intro hpy' hli'))
     have HD' := Lib.hid hd'
     have HOR := Lib.hid hor
     have HC' := Lib.hid hc'
     have HT7 := Lib.hid hT7
     have HR7 := Lib.hid hR7
     have HAL := Lib.hid hal
     have HS6 := Lib.hid (And.intro hlt5 hsz6)
     have hisn : (i : Int) ≤ sn := by
      rw [HSN.out]
      rcases hor with ⟨-, h, -⟩ | ⟨-, h, -⟩ <;> omega
     have hi0 : (0 : Int) ≤ i := by omega
     have hsn60 : (sn : Int) ≤ 60 := by have := HB.out; omega
     clear hpt' hpy' hli' hd' hor hc' hmx hT7 hR7 hal hlt5 hsz6 hbt hbd HPU HTG
     have H7D := Lib.hid hD7
     have hB8 := Blk.new w7 #[.int .i64 pt', .int .i64 py', .int .i64 li'] 52
     have hD8 := hD7.alloc (.cells #[.int .i64 pt', .int .i64 py', .int .i64 li'] 52)
     clear hD7
     go_upto_region 21 with fail
     have hsz8 : (w7.alloc (.cells #[.int .i64 pt', .int .i64 py', .int .i64 li'] 52)).heap.size = w7.heap.size + 1 := by simp
     have hb78 : Below w7.heap.size w7 (w7.alloc (.cells #[.int .i64 pt', .int .i64 py', .int .i64 li'] 52)) := (Below.refl _ _).alloc (Nat.le_refl _) _
     generalize w7.alloc _ = w8 at hB8 hD8 hsz8 hb78 ⊢
     have e0 := hB8.cell 0
     have e1 := hB8.cell 1
     have e2 := hB8.cell 2
     have d0 := hD8.cell 0
     have d1 := hD8.cell 1
     have d2 := hD8.cell 2
     have f0 := hD8.frozen 0
     have f1 := hD8.frozen 1
     have f2 := hD8.frozen 2
     simp only [List.getElem?_toArray, List.getElem?_cons_zero, List.getElem?_cons_succ] at e0 e1 e2 d0 d1 d2
     go_upto_region 22 with fail
     clear e0 e1 e2 d0 d1 d2 f0 f1 f2
     have hm := Moved.three w8 w4.heap.size (.int .i64 pt') (.int .i64 py') (.int .i64 li')
     have hz9 := ((hD8.set 0 (.int .i64 pt')).set 1 (.int .i64 py')).set 2 (.int .i64 li')
     simp only [List.setIfInBounds_toArray, List.set_cons_zero, List.set_cons_succ] at hz9
     generalize World.setCell (World.setCell (World.setCell w8 _ _) _ _) _ _ = w9 at hm hz9 ⊢
     have hbl := HD.out.blk.lt
     have hwl := HD.out.dc.pb.below.size
     have h56 := HS6.out
     have hdc9 := (HD'.out.take hb78).mv hm (fun k hk => by
      subst hk
      exact ⟨.inl (.inl HD.out.xd), HD.out.low _ HD.out.xd⟩)
     have hrow9 := (HR7.out.below hb78).moved hm (fun q hq e => (HD.out.own q hq).2 e)
     have ht9 := (show Blk w8 w5.heap.size _ _ from (hb78.block _ HT7.out.lt).trans HT7.out).moved hm (fun e => by omega)
     have hs79 : w7.heap.size + 1 ≤ w9.heap.size := by rw [← hsz8]; exact hm.size
     have hst := equal_term ⟨gk, gs, gl, gt⟩ ⟨gk, gs, gl, gt⟩
     rw [(eqB_iff _ _).2 rfl] at hst
     unfold Tm.val at hst
     dsimp only at hst
     have HDC9 := Lib.hid hdc9
     have HROW9 := Lib.hid hrow9
     have HT9 := Lib.hid ht9
     have HZ9 := Lib.hid hz9
     have HM9 := Lib.hid hm
     have HS9 := Lib.hid hs79
     have HSZ8 := Lib.hid hsz8
     have HST := Lib.hid hst
     have HLOW := Lib.hid (show w4.heap.size < w5.heap.size ∧ W.heap.size ≤ w5.heap.size ∧ W.heap.size ≤ w4.heap.size from ⟨by omega, by omega, HD.out.low _ HD.out.xd⟩)
     clear hdc9 hrow9 hz9 hm hs79 hsz8 hst hB8 hD8 hb78 hbl hwl h56
     rcases HOR.out with ⟨hL', hil, hig⟩ | ⟨hL', hil, hng⟩
     ·subst hL'
      have hk9 : Dk1 W w9 _ r p c' H' tt' ty' w4.heap.size (.slice sa sn sc) L' := ⟨HDC9.out, (by
       have := HZ9.out
       rw [HX'.out.1, HX'.out.2.1, HX'.out.2.2] at this
       exact this), .inl (.inl HD.out.xd), (fun j hj => by
       have h1 := HD.out.dc.pb.below.size
       have h2 := HD'.out.pb.below.size
       rcases hj with (e | e) | e
       ·exact HD.out.low j e
       ·omega
       ·omega), HROW9.out, fun q hq => ⟨.inl (.inl (HD.out.own q hq).1), (HD.out.own q hq).2⟩⟩
      have HK9 := Lib.hid hk9
      clear hk9
      have hsl := HSN.out
      have hne : ((i : Int) == sn) = false := by
       have : ¬ (i : Int) = sn := by omega
       simpa using this
      have hne2 : ¬ i = sn := by omega
      have hisn' : (i : Int) < sn := by omega
      obtain ⟨bo, of, cp, e', -, -, -, hcell⟩ := HROW9.out.tml.at (by omega)
      rw [← hsl] at e'
      simp only [Value.slice.injEq, true_and] at e'
      obtain ⟨rfl, rfl⟩ := e'
      obtain ⟨c0, c1, c2, c3⟩ := hcell i hil
      rw [hig] at c0 c1 c2 c3
      dsimp only at c0 c1 c2 c3
      have t0 := ht9.cell 0
      have t1 := ht9.cell 1
      have t2 := ht9.cell 2
      have t3 := ht9.cell 3
      simp only [List.getElem?_toArray, List.getElem?_cons_zero, List.getElem?_cons_succ] at t0 t1 t2 t3
      have hst := HST.out
      clear hsl hcell ht9 hig hil
      go_wp2_with fail
      go_quiet (fail)
      go_wp2_with fail
      go_roundw
      case rel =>
       have hb := HB.out
       have hcc := HC'.out
       exact ⟨k + 1, _, n', m', tt', ty', H', c', L', _, sn, _, rfl, HSN.out, hsc, hsc2, by omega, by have := HSW.out; omega, by go_num, by omega, by rw [← HSN.out]; omega, HK9.out.read (draws9 (Below.refl _ _) _)⟩
      case measure => simp [intOf]; omega
     ·subst hL'
      have hsl := HSN.out
      have hisn2 : i = sn := by omega
      have heq2 : ((i : Int) == sn) = true := by rw [hisn2]; simp
      have hsnI : (i : Int) = sn := by omega
      have t0 := ht9.cell 0
      have t1 := ht9.cell 1
      have t2 := ht9.cell 2
      have t3 := ht9.cell 3
      simp only [List.getElem?_toArray, List.getElem?_cons_zero, List.getElem?_cons_succ] at t0 t1 t2 t3
      have hal9 : Below w9.heap.size w9 (w9.alloc (.cells #[.int .i64 gk, .string gs, .string gl, .string gt] 59)) := (Below.refl _ _).alloc (Nat.le_refl _) _
      have hbx9 : Box (w9.alloc (.cells #[.int .i64 gk, .string gs, .string gl, .string gt] 59)) w9.heap.size ⟨gk, gs, gl, gt⟩ := by
       have hb := Blk.new w9 #[.int .i64 gk, .string gs, .string gl, .string gt] 59
       exact ⟨hb.cell 0, hb.cell 1, hb.cell 2, hb.cell 3⟩
      have HBX9 := Lib.hid hbx9
      have HAL9 := Lib.hid hal9
      have HRW9 := Lib.hid (HROW9.out.below hal9)
      have HBASE := Lib.hid (show W.heap.size ≤ (w9.alloc (.cells #[.int .i64 gk, .string gs, .string gl, .string gt] 59)).heap.size from by
       have h1 := HD'.out.pb.below.size
       have h2 := HS9.out
       have h3 := hal9.size
       omega)
      have HSL := Lib.hid (show sn + 1 = L.length + 1 by rw [hsl])
      have HSM := Lib.hid (show sn + 1 ≤ 1000000 by omega)
      have HII := Lib.hid (And.intro hisn2 hil)
      clear hsl ht9 hng hbx9 hal9 hisn2 hil
      go_wp2_with (at_builtin; refine wpList_append_tm rfl _ _ rfl W.heap.size HBASE.out (.slice sa sn sc) L rfl HRW9.out w9.heap.size rfl ⟨gk, gs, gl, gt⟩ HBX9.out (sn + 1) HSL.out HSM.out ?_; intro ao5 cap5 w10 ho5 hx5 hy5 hg5 hq5)
      clear t0 t1 t2 t3
      have hbt9 := HAL9.out.block _ HT9.out.lt
      have ht9 : Blk (w9.alloc (.cells #[.int .i64 gk, .string gs, .string gl, .string gt] 59)) w5.heap.size _ _ := hbt9.trans HT9.out
      have hlow := HLOW.out
      have h6 := HS6.out
      have h78 := HD'.out.pb.below.size
      have hm10 : Moved (fun k => (Value.slice sa sn sc).ownBlock = some k) (w9.alloc (.cells #[.int .i64 gk, .string gs, .string gl, .string gt] 59)) w10 := ⟨hg5.os, hg5.tape, hg5.output, hg5.size, fun k hk hne => hg5.block k hk (fun e => hne e.symm)⟩
      have hgo : ∀ q, (Value.slice sa sn sc).ownBlock = some q → q ≠ w5.heap.size := fun q hq e => by
       subst e
       have := HR7.out.lt _ hq
       have h1 := HD.out.row.lt _ hq
       omega
      have hT10 := ht9.moved hm10 (fun e => hgo _ e rfl)
      have hD10 : Blk w10 w4.heap.size _ _ := (show Blk _ w4.heap.size _ _ from (HAL9.out.block _ HZ9.out.lt).trans HZ9.out).moved hm10 (fun e => (HD.out.own _ e).2 rfl)
      have hdc10 := (HDC9.out.take HAL9.out).grown (X' := fun k => ((((X k ∨ (wr.heap.size ≤ k ∧ k < w6.heap.size)) ∨ (w7.heap.size ≤ k ∧ k < w8.heap.size)) ∨ (w9.heap.size ≤ k ∧ k < (w9.alloc (.cells #[.int .i64 gk, .string gs, .string gl, .string gt] 59)).heap.size)) ∨ ((w9.alloc (.cells #[.int .i64 gk, .string gs, .string gl, .string gt] 59)).heap.size ≤ k ∧ k < w10.heap.size))) hg5 (fun k hk => ⟨.inl (.inl (.inl (HD.out.own k hk).1)), HD.out.low k (HD.out.own k hk).1⟩) (fun k hk => hk)
      have hk10 : Dk1 W w10 _ r p c' H' tt' ty' w4.heap.size (.slice ao5 (sn + 1) cap5) (L ++ [⟨gk, gs, gl, gt⟩]) := ⟨hdc10, (by
       have := hD10
       rw [HX'.out.1, HX'.out.2.1, HX'.out.2.2] at this
       exact this), .inl (.inl (.inl (.inl HD.out.xd))), (fun j hj => by
       have h1 := HD.out.dc.pb.below.size
       have h3 := HS9.out
       have h4 := HAL9.out.size
       rcases hj with (((e | e) | e) | e) | e
       ·exact HD.out.low j e
       ·omega
       ·omega
       ·omega
       ·omega), ho5, fun q hq => by
       rcases hq5 q hq with e | e
       ·exact ⟨.inl (.inl (.inl (.inl (HD.out.own q e).1))), (HD.out.own q e).2⟩
       ·have h2 := (ho5.lt q hq).2
        have h4 := HAL9.out.size
        have h3 := HS9.out
        have h5 := HZ9.out.lt
        exact ⟨.inr ⟨e, h2⟩, by omega⟩⟩
      have HK10 := Lib.hid hk10
      have hlen : (L ++ [(⟨gk, gs, gl, gt⟩ : Tm)]).length = sn + 1 := by rw [List.length_append, List.length_singleton]; exact HSL.out.symm
      obtain ⟨bo, of, cp, e', -, -, -, hcell⟩ := ho5.tml.at (by omega)
      rw [hlen] at e'
      simp only [Value.slice.injEq, true_and] at e'
      obtain ⟨rfl, rfl⟩ := e'
      obtain ⟨c0, c1, c2, c3⟩ := hcell sn (by omega)
      have hget : (L ++ [(⟨gk, gs, gl, gt⟩ : Tm)])[sn]'(by omega) = ⟨gk, gs, gl, gt⟩ := by
       have := HSN.out
       subst this
       simp
      rw [hget] at c0 c1 c2 c3
      dsimp only at c0 c1 c2 c3
      have t0 := hT10.cell 0
      have t1 := hT10.cell 1
      have t2 := hT10.cell 2
      have t3 := hT10.cell 3
      simp only [List.getElem?_toArray, List.getElem?_cons_zero, List.getElem?_cons_succ] at t0 t1 t2 t3
      have hst := HST.out
      have hsn1 : (sn : Int) < (sn : Int) + 1 := by omega
      have hsn0 : (0 : Int) ≤ sn := by omega
      clear hcell hget hlen hk10 hdc10 hD10 hT10 hgo hm10 ht9 hbt9 hq5 hg5 ho5 hlow h6 h78
      go_wp2_with fail
      go_quiet (fail)
      go_wp2_with fail
      go_roundw
      case rel =>
       have hb := HB.out
       have hcc := HC'.out
       exact ⟨k + 1, _, n', m', tt', ty', H', c', _, _, sn + 1, _, by first | rfl | (push_cast; rfl), by rw [List.length_append, List.length_singleton]; exact HSL.out, hx5, hy5, by omega, by have := HSW.out; omega, by go_num, by omega, by rw [List.length_append, List.length_singleton, ← HSN.out]; omega, HK10.out.read (draws9 (Below.refl _ _) _)⟩
      case measure => simp [intOf]; omega
  case rest =>
   obtain ⟨X, n, m, tt, ty, H, c, L, sa, sn, sc, rfl, hsn, hsc, hsc2, hL60, hc3, hdk⟩ := hcut
   have HD := Lib.hid hdk
   have HSN := Lib.hid hsn
   have HL60 := Lib.hid hL60
   obtain ⟨pt, hpt⟩ : ∃ q : Int, q = (tt.page : Int) := ⟨_, rfl⟩
   obtain ⟨py, hpy⟩ : ∃ q : Int, q = (ty.page : Int) := ⟨_, rfl⟩
   obtain ⟨li, hli⟩ : ∃ q : Int, q = ((L.length : Nat) : Int) := ⟨_, rfl⟩
   have hbk := hdk.blk
   rw [← hpt, ← hpy, ← hli] at hbk
   have HBK := Lib.hid hbk
   have HGET := Lib.hid (fun (u : World) (hu : Below wc.heap.size wc u) (k : Nat) (hk : k < L.length) => dictget_of u p pt py li ((k + 1 : Nat) : Int) L[k] 0 (fun u' hu' => by
    rw [hpy]
    exact dterm_some (hdk.dc.read (hu.trans (hu'.mono hu.size))).pb hdk.dc.treeY hdk.dc.dict.valY _ _ _ _ (hdk.dc.dict.valY _ (List.mem_of_find?_eq_some (hdk.dc.dict.num k hk))) (parse_of (hdk.dc.dict.ok _ (List.getElem_mem hk))) (hdk.dc.dict.num k hk)))
   have HFIND := Lib.hid (fun (u : World) (hu : Below wc.heap.size wc u) (k : Nat) (hk : k < L.length) => dfind_of u p pt py li L[k] (.int .i64 ((k + 1 : Nat) : Int)) (.int .i64 0) (fun u' hu' => by
    rw [hpt]
    exact number_some (hdk.dc.read (hu.trans (hu'.mono hu.size))).pb hdk.dc.treeT hdk.dc.dict.valT L[k] (of_check (hdk.dc.dict.ok _ (List.getElem_mem hk))) (hdk.dc.dict.ok _ (List.getElem_mem hk)) _ (wf_small (by omega)) _ rfl (hdk.dc.dict.has k hk)))
   have HND := Lib.hid hdk.dc.dict.nodup
   clear hdk hsn hL60 hc3 hpt hpy hli hbk HDK
   go_wp2_with fail
   go_loopw [15] (fun i wr => ∃ k : Nat, k ≤ sn ∧ i = .int .i64 k ∧ Below wc.heap.size wc wr) (fun i _ => sn - (intOf i).toNat)
   case atStart => exact ⟨0, Nat.zero_le _, rfl, Below.refl _ _⟩
   case round =>
    obtain ⟨k, hk, rfl, hbr⟩ := hrel
    have HBR := Lib.hid hbr
    by_cases hlt : (k : Int) < sn
    ·have hkl : k < L.length := by rw [← HSN.out]; omega
     have hg := HGET.out wr hbr k hkl
     have hf := fun u hu => HFIND.out u hu k hkl
     obtain ⟨x, hx⟩ : ∃ x, x = L[k] := ⟨_, rfl⟩
     rw [← hx] at hg hf
     have HX := Lib.hid hx
     have hst := equal_term x x
     rw [(eqB_iff _ _).2 rfl] at hst
     obtain ⟨gk, gs, gl, gt⟩ := x
     unfold Tm.val at hg hf hst
     dsimp only at hg hf hst
     have HG := Lib.hid hg
     have HF' := Lib.hid hf
     have HST := Lib.hid hst
     have hbd : Blk wr w4.heap.size _ _ := (hbr.block _ HBK.out.lt).trans HBK.out
     have d0 := hbd.cell 0
     have d1 := hbd.cell 1
     have d2 := hbd.cell 2
     simp only [List.getElem?_toArray, List.getElem?_cons_zero, List.getElem?_cons_succ] at d0 d1 d2
     have hk0 : (0 : Int) ≤ k := by omega
     have hk60 : (k : Int) ≤ 60 := by have := HL60.out; omega
     clear hx hg hf hst hbr hbd
     go_wp2_with fail
     clear d0 d1 d2
     have hg := HG.out
     simp only [Int.natCast_add, Int.cast_ofNat_Int] at hg
     refine hg.mono ?_
     rintro en w5 ⟨rfl, hb5⟩
     have hb5c := HBR.out.trans (hb5.mono HBR.out.size)
     have hal : Below wc.heap.size wc (w5.alloc (.cells #[.int .i64 gk, .string gs, .string gl, .string gt] 59)) := hb5c.alloc hb5c.size _
     have hbt := Blk.new w5 #[.int .i64 gk, .string gs, .string gl, .string gt] 59
     have hbd : Blk (w5.alloc (.cells #[.int .i64 gk, .string gs, .string gl, .string gt] 59)) w4.heap.size _ _ := (hal.block _ HBK.out.lt).trans HBK.out
     have d0 := hbd.cell 0
     have d1 := hbd.cell 1
     have d2 := hbd.cell 2
     simp only [List.getElem?_toArray, List.getElem?_cons_zero, List.getElem?_cons_succ] at d0 d1 d2
     clear hg
     go_wp2_with fail
     clear d0 d1 d2 hbd
     generalize w5.alloc _ = w6 at hal hbt ⊢
     have hf := HF'.out _ hal
     simp only [Int.natCast_add, Int.cast_ofNat_Int] at hf
     refine hf.mono ?_
     rintro en w7 ⟨rfl, hb7⟩
     have hal7 := hal.trans (hb7.mono hal.size)
     have ht7 : Blk w7 w5.heap.size _ _ := (hb7.block _ hbt.lt).trans hbt
     obtain ⟨bo, of, cp, e', -, -, -, hcell⟩ := (HD.out.row.below hal7).tml.at (by omega)
     rw [← HSN.out] at e'
     simp only [Value.slice.injEq, true_and] at e'
     obtain ⟨rfl, rfl⟩ := e'
     obtain ⟨c0, c1, c2, c3⟩ := hcell k hkl
     rw [← HX.out] at c0 c1 c2 c3
     dsimp only at c0 c1 c2 c3
     have t0 := ht7.cell 0
     have t1 := ht7.cell 1
     have t2 := ht7.cell 2
     have t3 := ht7.cell 3
     simp only [List.getElem?_toArray, List.getElem?_cons_zero, List.getElem?_cons_succ] at t0 t1 t2 t3
     have hst := HST.out
     have HAL7 := Lib.hid hal7
     clear hf hal hbt hb5 hb5c ht7 hcell hal7 hb7
     go_wp2_with fail
     go_quiet (fail)
     clear hst t0 t1 t2 t3 c0 c1 c2 c3
     go_wp2_with fail
     go_loopw [20] (fun i wr' => ∃ j : Nat, j ≤ k ∧ i = .int .i64 j ∧ Below wc.heap.size wc wr') (fun i _ => k - (intOf i).toNat)
     case atStart => exact ⟨0, Nat.zero_le _, rfl, draws9 HAL7.out _⟩
     case round =>
      obtain ⟨j, hj, rfl, hbr2⟩ := hrel
      have HBR2 := Lib.hid hbr2
      by_cases hlt2 : (j : Int) < k
      ·have hjl : j < L.length := by omega
       obtain ⟨bo', of', cp', e', -, -, -, hcell⟩ := (HD.out.row.below hbr2).tml.at (by omega)
       rw [← HSN.out] at e'
       simp only [Value.slice.injEq, true_and, Option.some.injEq, Addr.mk.injEq, and_true] at e'
       obtain ⟨⟨rfl, rfl⟩, rfl⟩ := e'
       obtain ⟨a0, a1, a2, a3⟩ := hcell k hkl
       obtain ⟨c0, c1, c2, c3⟩ := hcell j hjl
       have hst := equal_term L[j] L[k]
       have hne : eqB L[j] L[k] = false := by
        cases e : eqB L[j] L[k] with
        | false => rfl
        | true => exact absurd ((eqB_iff _ _).1 e) (List.pairwise_iff_getElem.1 HND.out j k hjl hkl (by omega))
       rw [hne] at hst
       obtain ⟨x, hx⟩ : ∃ x, x = L[j] := ⟨_, rfl⟩
       obtain ⟨y, hy⟩ : ∃ y, y = L[k] := ⟨_, rfl⟩
       rw [← hx] at c0 c1 c2 c3 hst
       rw [← hy] at a0 a1 a2 a3 hst
       clear hx hy hne hcell hbr2
       obtain ⟨xk, xs, xl, xt⟩ := x
       obtain ⟨yk, ys, yl, yt⟩ := y
       unfold Tm.val at hst
       dsimp only at a0 a1 a2 a3 c0 c1 c2 c3 hst
       have hjs : (j : Int) < sn := by omega
       have hj0 : (0 : Int) ≤ j := by omega
       go_wp2_with fail
       go_quiet (fail)
       go_wp2_with fail
       go_roundw
       case rel => exact ⟨j + 1, by omega, by go_num, draws9 HBR2.out _⟩
       case measure => simp [intOf]; omega
      ·obtain rfl : j = k := by omega
       go_wp2_with fail
       go_roundw
       case rel => exact ⟨j + 1, by omega, by go_num, HBR2.out⟩
       case measure => simp [intOf]; omega
    ·obtain rfl : k = sn := by omega
     go_wp2_with fail
     go_ret
     exact ⟨rfl, HD.out.dc.pb.below.trans (hbr.mono HD.out.dc.pb.below.size)⟩
end Go.Proofs.YtbpdapcmaioeiaaGreat
