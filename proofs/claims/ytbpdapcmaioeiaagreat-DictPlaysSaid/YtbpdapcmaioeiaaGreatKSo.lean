/- So -/
import Derived.Test.YtbpdapcmaioeiaaGreatKTl
import Derived.Test.YtbpdapcmaioeiaaGreatKSj
import Derived.Test.YtbpdapcmaioeiaaGreatKSl
namespace Go.Proofs.YtbpdapcmaioeiaaGreat
open Go.RowKit Go.Maps
set_option maxRecDepth 100000
set_option linter.unusedVariables false
def Rel2 (W : World) (nl r p Bd xb : Nat) (i : Value) (wr : World) : Prop :=
 ∃ (k : Nat) (X : Nat → Prop) (n m : Nat) (tt : BT Ent n) (ty : BT Ent m) (H : Lg) (c : Nat) (L : List Tm) (sa : Option Addr) (sn sc : Nat), k ≤ nl ∧ i = .int .i64 k ∧ c ≤ 4 + 220 * k ∧ sn = L.length ∧ sn ≤ sc ∧ sc ≤ 9223372036854775807 ∧ L.length ≤ k ∧ Dk2 W wr X r p c H tt ty Bd xb sa sn sc L
set_option maxHeartbeats 32000000 in
theorem plays7_walk (v v2 v3 : Value) (l : List Tm) (zs : List Int) (bs : List Bool) (W : World) (h : Tms W v l) (h2 : Nl W v2 zs) (h3 : Bl W v3 bs) :
 Calls Tryz.prog 4 #[v, v2, v3] W fun e w' => e = .returned (.bool true) ∧ Below W.heap.size W w' := by
 obtain ⟨ao, cap, hv, hc1, hc2, hE⟩ := id h
 obtain ⟨ao2, cap2, hv2, hd1, hd2, -, -⟩ := id h2
 obtain ⟨ao3, cap3, hv3, hd3, hd4, -, -⟩ := id h3
 have hc2' : cap ≤ 9223372036854775807 := hc2
 have hd2' : cap2 ≤ 9223372036854775807 := hd2
 have hd4' : cap3 ≤ 9223372036854775807 := hd4
 obtain ⟨nl, hn⟩ : ∃ n, n = l.length := ⟨_, rfl⟩
 obtain ⟨na, hn2⟩ : ∃ n, n = zs.length := ⟨_, rfl⟩
 obtain ⟨nb, hn3⟩ : ∃ n, n = bs.length := ⟨_, rfl⟩
 rw [← hn] at hc1 hv
 rw [← hn2] at hd1 hv2
 rw [← hn3] at hd3 hv3
 subst hv hv2 hv3
 have HN := Lib.hid hn
 have HN2 := Lib.hid hn2
 have HN3 := Lib.hid hn3
 have HA := Lib.hid h
 have HA2 := Lib.hid h2
 have HA3 := Lib.hid h3
 clear hn hn2 hn3 hE hc2 hd2 hd4 h h2 h3
 go_enter Tryz.func4, Tryz.ntmps4
 go_wp2_with fail
 refine (known7_any W).mono ?_
 rintro e w1 ⟨rfl, h1⟩
 have H1 := Lib.hid h1
 clear h1
 go_wp2_with fail
 refine (few7_any (HA.out.below H1.out)).mono ?_
 intro e w2 hfw
 obtain ⟨t, rfl, hb2, hf⟩ := hfw.out
 have HF := Lib.hid hf
 have H2 := Lib.hid (H1.out.trans (hb2.mono H1.out.size))
 clear hf hfw hb2
 cases t with
 | false =>
  go_wp2_with fail
  go_ret
  exact ⟨rfl, H2.out⟩
 | true =>
  replace HF := Lib.hid (HF.out (by trivial))
  go_wp2_with fail
  refine (open5_any W _ H2.out).mono ?_
  rintro e w3 ⟨r, p, rfl, h3⟩
  have H3 := Lib.hid h3
  clear h3
  go_wp2_with fail
  refine (dictnew_any H3.out (by omega) new5_free).mono ?_
  rintro e w4 ⟨rfl, h4, -⟩
  have hal := (Below.refl w4.heap.size w4).alloc (Nat.le_refl _) (.cells #[.int .i64 1, .int .i64 2, .int .i64 0] 52)
  have hal2 := hal.alloc (show w4.heap.size ≤ _ from by simp) (.cells #[.slice none 0 0] 57)
  have hsz : ((w4.alloc (.cells #[.int .i64 1, .int .i64 2, .int .i64 0] 52)).alloc (.cells #[.slice none 0 0] 57)).heap.size = w4.heap.size + 2 := by simp
  have hsz1 : (w4.alloc (.cells #[.int .i64 1, .int .i64 2, .int .i64 0] 52)).heap.size = w4.heap.size + 1 := by simp
  have hwl := h4.below.size
  have hbx := Blk.new (w4.alloc (.cells #[.int .i64 1, .int .i64 2, .int .i64 0] 52)) #[.slice none 0 0] 57
  rw [hsz1] at hbx
  have hdk : Dk2 W ((w4.alloc (.cells #[.int .i64 1, .int .i64 2, .int .i64 0] 52)).alloc (.cells #[.slice none 0 0] 57)) _ r p _ _ (BT.leaf 1 []) (BT.leaf 2 []) w4.heap.size (w4.heap.size + 1) none 0 0 [] :=
   ⟨(Dc.start h4).take hal2, (Blk.new w4 _ _).alloc _, ⟨hbx, OwT.nil _ _, fun q hq => (by cases hq)⟩, .inr ⟨Nat.le_refl _, by omega⟩, .inr ⟨by omega, by omega⟩, fun j hj => hj.elim (fun e => e.elim) (fun e => Nat.le_trans hwl e.1), fun q hq => (by cases hq), (by omega)⟩
  have HDK := Lib.hid hdk
  have HWL := Lib.hid hwl
  clear h4 hdk hsz hsz1 hal hal2 hwl hbx
  obtain ⟨Bd, hBd⟩ : ∃ q, q = w4.heap.size := ⟨_, rfl⟩
  obtain ⟨xb, hxb⟩ : ∃ q, q = w4.heap.size + 1 := ⟨_, rfl⟩
  go_wp2_with fail
  go_loopw [11] (fun i wr => Rel2 W nl r p w4.heap.size (w4.heap.size + 1) i wr) (fun i _ => nl - (intOf i).toNat)
  case atStart => exact ⟨0, _, 0, 0, _, _, _, 4, [], none, 0, 0, by omega, rfl, by omega, rfl, Nat.le_refl _, by omega, by simp, HDK.out⟩
  case round =>
   obtain ⟨k, X, n, m, tt, ty, H, c, L, sa, sn, sc, hkn, rfl, hcc, hsn, hsc, hsc2, hLk, hdk⟩ := hrel
   rw [← hxb, ← hBd] at hdk
   rw [← hxb, ← hBd]
   have HBX := Lib.hid (And.intro hBd hxb)
   have HD := Lib.hid hdk
   have HSN := Lib.hid hsn
   have hn40 : nl ≤ 40 := by rw [HN.out]; exact HF.out.1
   have HB := Lib.hid (show c ≤ 4 + 220 * k ∧ sn ≤ k ∧ k ≤ nl ∧ nl ≤ 40 from ⟨hcc, by omega, hkn, hn40⟩)
   clear hcc hLk hdk hsn HDK hBd hxb
   by_cases hA : (k : Int) < (nl : Int)
   rotate_left
   ·go_wp2_with fail
    go_ret
    exact ⟨rfl, HD.out.dc.pb.below⟩
   have hkl : k < l.length := by rw [← HN.out]; omega
   obtain ⟨ao', cap', e', -, -, hE'⟩ := HA.out.below HD.out.dc.pb.below
   rw [← HN.out] at e'
   simp only [Value.slice.injEq, true_and] at e'
   obtain ⟨rfl, rfl⟩ := e'
   obtain ⟨b, off, rfl, hblt, c0, c1, c2, c3, hxok⟩ := hE' k hkl
   have hfx := HF.out.2 k hkl
   obtain ⟨x, hx⟩ : ∃ x, x = l[k] := ⟨_, rfl⟩
   rw [← hx] at c0 c1 c2 c3 hfx hxok
   obtain ⟨g0, hg⟩ : ∃ g, g = goodT x := ⟨_, rfl⟩
   have hgok : g0.Ok := by rw [hg]; exact of_check (good_good x).c
   have htg := fun w => tgood_any x hfx w
   rw [← hg] at htg
   have HXOK := Lib.hid (And.intro hxok hgok)
   have HXC := Lib.hid (show b < wr.heap.size ∧ wr.cell? ⟨b, off + k * 4, none⟩ = some (.int .i64 x.k) ∧ wr.cell? ⟨b, off + k * 4 + 1, none⟩ = some (.string x.s) ∧ wr.cell? ⟨b, off + k * 4 + 2, none⟩ = some (.string x.l) ∧ wr.cell? ⟨b, off + k * 4 + 3, none⟩ = some (.string x.t) from ⟨hblt, c0, c1, c2, c3⟩)
   have hk0 : (0 : Int) ≤ k := by omega
   clear hE' hfx hx hxok hgok hg hblt
   obtain ⟨xk, xs, xl, xt⟩ := x
   obtain ⟨hk', hs', hl', ht'⟩ := g0
   unfold Tm.val at htg
   dsimp only at c0 c1 c2 c3 htg HXC
   have HTG := Lib.hid htg
   clear htg
   go_wp2_with fail
   refine (HTG.out _).mono ?_
   rintro en w5 ⟨rfl, hb5⟩
   clear c0 c1 c2 c3
   have hal : Below wr.heap.size wr (w5.alloc (.cells #[.int .i64 hk', .string hs', .string hl', .string ht'] 59)) := hb5.alloc hb5.size _
   have hbt := Blk.new w5 #[.int .i64 hk', .string hs', .string hl', .string ht'] 59
   obtain ⟨Bt, hBt⟩ : ∃ q, q = w5.heap.size := ⟨_, rfl⟩
   have hBlo : wr.heap.size ≤ Bt := by rw [hBt]; exact hb5.size
   go_upto_region 14 with fail
   rw [← hBt] at hbt ⊢
   have HBT := Lib.hid hBt
   clear hBt
   have hxc := HXC.out
   have c0 := (hal.cell (p := ⟨b, off + k * 4, none⟩) hxc.1).trans hxc.2.1
   have c1 := (hal.cell (p := ⟨b, off + k * 4 + 1, none⟩) hxc.1).trans hxc.2.2.1
   have c2 := (hal.cell (p := ⟨b, off + k * 4 + 2, none⟩) hxc.1).trans hxc.2.2.2.1
   have c3 := (hal.cell (p := ⟨b, off + k * 4 + 3, none⟩) hxc.1).trans hxc.2.2.2.2
   generalize w5.alloc _ = w6 at hal hbt c0 c1 c2 c3 ⊢
   go_cut [63] from 43 to 164 (fun s63 wx => ∃ q : Bool, s63 = .bool q ∧ wx = w6)
   case first =>
    by_cases hkb : (k : Int) < nb
    ·obtain ⟨b3, f3, cp3, e3, -, -, hcell⟩ := (HA3.out.below (HD.out.dc.pb.below.trans (hal.mono HD.out.dc.pb.below.size))).at (by rw [← HN3.out]; omega)
     rw [← HN3.out] at e3
     simp only [Value.slice.injEq, true_and] at e3
     obtain ⟨rfl, rfl⟩ := e3
     have hkb2 : k < bs.length := by rw [← HN3.out]; omega
     have hcb := hcell k hkb2
     generalize bs[k] = qb at hcb
     clear hcell
     go_wp2_with fail
     go_meet
     exact ⟨qb, rfl, rfl⟩
    ·go_wp2_with fail
     go_meet
     exact ⟨false, rfl, rfl⟩
   case rest =>
    obtain ⟨qb, rfl, hwc⟩ := hcut
    replace hwc := hwc.symm
    subst hwc
    go_upto_if 63 with fail
    go_cut [] from 43 to 164 (fun wx => ∃ g : Tm, g.Ok ∧ Blk wx Bt #[.int .i64 g.k, .string g.s, .string g.l, .string g.t] 59 ∧ Below wr.heap.size wr wx)
    case first =>
     cases qb with
     | false =>
      go_wp2_with fail
      go_meet
      exact ⟨_, HXOK.out.2, hbt, hal⟩
     | true =>
      have y0 := hbt.frozen 0
      have y1 := hbt.frozen 1
      have y2 := hbt.frozen 2
      have y3 := hbt.frozen 3
      have z0 := hbt.cell 0
      have z1 := hbt.cell 1
      have z2 := hbt.cell 2
      have z3 := hbt.cell 3
      simp only [List.getElem?_toArray, List.getElem?_cons_zero, List.getElem?_cons_succ] at z0 z1 z2 z3
      have hzz := (((hbt.set 0 (.int .i64 xk)).set 1 (.string xs)).set 2 (.string xl)).set 3 (.string xt)
      simp only [List.setIfInBounds_toArray, List.set_cons_zero, List.set_cons_succ] at hzz
      have hbz := (((hal.setCell (p := ⟨Bt, 0, none⟩) hBlo (.int .i64 xk)).setCell (p := ⟨Bt, 1, none⟩) hBlo (.string xs)).setCell (p := ⟨Bt, 2, none⟩) hBlo (.string xl)).setCell (p := ⟨Bt, 3, none⟩) hBlo (.string xt)
      have HZZ := Lib.hid (And.intro hzz hbz)
      clear hzz hbz
      go_wp2_with fail
      go_meet
      exact ⟨⟨xk, xs, xl, xt⟩, HXOK.out.1, HZZ.out.1, HZZ.out.2⟩
    case rest =>
     obtain ⟨g, hgo, hbg, hbw⟩ := hcut
     clear c0 c1 c2 c3 hbt hal
     have HBG := Lib.hid (And.intro hbg hbw)
     have HGO := Lib.hid hgo
     clear hgo
     have hsz6 := hbg.lt
     obtain ⟨wk, hwk⟩ : ∃ u, u = wc := ⟨_, rfl⟩
     subst hwk
     go_upto_if 71 with fail
     go_cut [13] from 43 to 164 (fun s13 wx => ∃ kd : Nat, kd < 4 ∧ s13 = .int .i64 kd ∧ wx = wk ∧ (kd ≠ 0 → (k : Int) < na))
     case first =>
      by_cases hka : (k : Int) < na
      ·obtain ⟨b2, f2, cp2, e2, -, -, hcell⟩ := (HA2.out.below (HD.out.dc.pb.below.trans (hbw.mono HD.out.dc.pb.below.size))).at (by rw [← HN2.out]; omega)
       rw [← HN2.out] at e2
       simp only [Value.slice.injEq, true_and] at e2
       obtain ⟨rfl, rfl⟩ := e2
       have hka2 : k < zs.length := by rw [← HN2.out]; omega
       have hcb := hcell k hka2
       generalize zs[k] = zz at hcb
       clear hcell
       go_wp2_with fail
       refine (within7_eq zz 4 (by omega) (by omega) _).mono ?_
       rintro e wq ⟨rfl, hw⟩
       obtain rfl := hw.symm
       have hm1 := Int.emod_nonneg zz (show (4 : Int) ≠ 0 by omega)
       have hm2 := Int.emod_lt_of_pos zz (show (0 : Int) < 4 by omega)
       obtain ⟨q, hq⟩ : ∃ q : Nat, zz % (4 : Int) = q := ⟨(zz % (4 : Int)).toNat, by omega⟩
       rw [hq]
       rw [hq] at hm2
       clear hq hm1
       go_wp2_with fail
       go_meet
       exact ⟨q, by omega, rfl, rfl, fun _ => hka⟩
      ·go_wp2_with fail
       go_meet
       exact ⟨0, by omega, rfl, rfl, fun h => absurd rfl h⟩
     case rest =>
      obtain ⟨kd, hkd, rfl, hwc, hkna⟩ := hcut
      replace hwc := hwc.symm
      subst hwc
      have hd6 := HD.out.take hbw
      obtain ⟨X6, hX6⟩ : ∃ Y : Nat → Prop, Y = fun k => X k ∨ (wr.heap.size ≤ k ∧ k < wk.heap.size) := ⟨_, rfl⟩
      rw [← hX6] at hd6
      have HTX := Lib.hid (show X6 Bt by rw [hX6]; exact .inr ⟨hBlo, hsz6⟩)
      have HT6 := Lib.hid hbg
      have HD6 := Lib.hid hd6
      obtain ⟨pt, hpt⟩ : ∃ q : Int, q = (tt.page : Int) := ⟨_, rfl⟩
      obtain ⟨py, hpy⟩ : ∃ q : Int, q = (ty.page : Int) := ⟨_, rfl⟩
      obtain ⟨li, hli⟩ : ∃ q : Int, q = ((L.length : Nat) : Int) := ⟨_, rfl⟩
      have HPG := Lib.hid (And.intro hpt (And.intro hpy hli))
      have hbd := hd6.blk
      rw [← hpt, ← hpy, ← hli] at hbd
      have d0 := hbd.cell 0
      have d1 := hbd.cell 1
      have d2 := hbd.cell 2
      have t0 := hbg.cell 0
      have t1 := hbg.cell 1
      have t2 := hbg.cell 2
      have t3 := hbg.cell 3
      simp only [List.getElem?_toArray, List.getElem?_cons_zero, List.getElem?_cons_succ] at d0 d1 d2 t0 t1 t2 t3
      have HBLO := Lib.hid (And.intro hBlo hsz6)
      have HBW := Lib.hid hbw
      clear hpt hpy hli hbd hd6 hX6 hbg hbw hBlo hsz6
      obtain rfl | rfl | rfl | rfl : kd = 0 ∨ kd = 1 ∨ kd = 2 ∨ kd = 3 := by omega
      ·clear hkna hkd
       have hgo := HGO.out
       by_cases hgc : checkOf g = 0
       ·have hpu := dput_any HD6.out.dc (by omega) (by have := HB.out; rw [← HSN.out]; omega) g hgc (by have := HB.out; omega)
        have hrp := fun (u : World) (hr : R7 u W.heap.size xb (.slice sa sn sc) L) (hB : W.heap.size ≤ u.heap.size) (i : Nat) (L' : List Tm) (hor : (L' = L ∧ ∃ h : i < L.length, L[i] = g) ∨ (L' = L ++ [g] ∧ i = L.length ∧ g ∉ L)) => rput7_any hr (by have := HB.out; rw [← HSN.out]; omega) hB g hgc HD6.out.dc.dict.nodup i L' hor
        rw [← HPG.out.1, ← HPG.out.2.1, ← HPG.out.2.2] at hpu
        obtain ⟨gk, gs, gl, gt⟩ := g
        unfold Tm.val at hpu hrp
        dsimp only at hpu hrp t0 t1 t2 t3
        have HPU := Lib.hid hpu
        have HRP := Lib.hid hrp
        clear hpu hrp hgc hgo
        go_wp2_with fail
        clear d0 d1 d2 t0 t1 t2 t3
        refine HPU.out.mono ?_
        intro en w7 hto
        obtain ⟨n', m', tt', ty', H', c', L', i, rfl, hc', hd', hmx, hor⟩ := hto
        have hT7 := HT6.out.moved hmx (fun e => e.2 HTX.out)
        have hD7 := HD6.out.blk.moved hmx (fun e => e.2 HD6.out.xd)
        have hR7 := HD6.out.ref.moved hmx (fun e => e.2 HD6.out.xx) (fun q hq e => e.2 (HD6.out.own q hq).1)
        obtain ⟨pt', hpt'⟩ : ∃ q : Int, q = (tt'.page : Int) := ⟨_, rfl⟩
        obtain ⟨py', hpy'⟩ : ∃ q : Int, q = (ty'.page : Int) := ⟨_, rfl⟩
        obtain ⟨li', hli'⟩ : ∃ q : Int, q = ((L'.length : Nat) : Int) := ⟨_, rfl⟩
        rw [← hpt', ← hpy', ← hli']
        have HX' := Lib.hid (And.intro hpt' (And.intro hpy' hli'))
        have hb78 : Below w7.heap.size w7 (w7.alloc (.cells #[.int .i64 pt', .int .i64 py', .int .i64 li'] 52)) := (Below.refl _ _).alloc (Nat.le_refl _) _
        have hsz8 : (w7.alloc (.cells #[.int .i64 pt', .int .i64 py', .int .i64 li'] 52)).heap.size = w7.heap.size + 1 := by simp
        have hB8 := Blk.new w7 #[.int .i64 pt', .int .i64 py', .int .i64 li'] 52
        have hT8 := hT7.alloc (.cells #[.int .i64 pt', .int .i64 py', .int .i64 li'] 52)
        have hD8 := hD7.alloc (.cells #[.int .i64 pt', .int .i64 py', .int .i64 li'] 52)
        have hR8 := hR7.read hb78
        have hw7 := hd'.pb.below.size
        have hrp := HRP.out _ hR8 (by omega) i L' hor
        have HRP8 := Lib.hid hrp
        have t0 := hT8.cell 0
        have t1 := hT8.cell 1
        have t2 := hT8.cell 2
        have t3 := hT8.cell 3
        simp only [List.getElem?_toArray, List.getElem?_cons_zero, List.getElem?_cons_succ] at t0 t1 t2 t3
        have HD' := Lib.hid hd'
        have HC' := Lib.hid hc'
        have HB8 := Lib.hid hB8
        have HD8 := Lib.hid hD8
        have HS8 := Lib.hid (And.intro hsz8 hw7)
        have HB78 := Lib.hid hb78
        have HLL := Lib.hid (show L'.length ≤ L.length + 1 by
         rcases hor with ⟨h, -⟩ | ⟨h, -⟩ <;> rw [h]
         ·omega
         ·rw [List.length_append, List.length_singleton]; omega)
        clear hpt' hpy' hli' hd' hc' hmx hT7 hD7 hR7 hB8 hT8 hD8 hR8 hsz8 hw7 hrp HPU HRP hb78 hor
        go_wp2_with fail
        clear t0 t1 t2 t3
        have hrp := HRP8.out
        simp only [Int.natCast_add, Int.cast_ofNat_Int] at hrp
        refine hrp.mono ?_
        rintro en w9 ⟨rfl, ao', sn', sc', k1, k2, hsn', hR9, hm9, hq9⟩
        clear hrp HRP8
        have hxb : ∀ q, (q = xb ∨ (Value.slice sa sn sc).ownBlock = some q) → X6 q ∧ W.heap.size ≤ q := fun q hq => by
         rcases hq with e | e
         ·subst e; exact ⟨HD6.out.xx, HD6.out.low _ HD6.out.xx⟩
         ·exact ⟨(HD6.out.own q e).1, HD6.out.low _ (HD6.out.own q e).1⟩
        have hlt7 : ∀ q, X6 q → q < w7.heap.size := fun q hq => HD'.out.pb.lt q hq
        have hB9 := HB8.out.moved hm9 (fun e => by have := hlt7 _ (hxb _ e).1; omega)
        have hD9 := HD8.out.moved hm9 (fun e => by
         rcases e with e | e
         ·exact HD6.out.ne e
         ·exact (HD6.out.own _ e).2 rfl)
        have hdc9 := (HD'.out.take HB78.out).wide hm9 (fun k hk _ => ⟨.inl (hxb k hk).1, (hxb k hk).2⟩)
        have e0 := hB9.cell 0
        have e1 := hB9.cell 1
        have e2 := hB9.cell 2
        have d0 := hD9.cell 0
        have d1 := hD9.cell 1
        have d2 := hD9.cell 2
        have f0 := hD9.frozen 0
        have f1 := hD9.frozen 1
        have f2 := hD9.frozen 2
        simp only [List.getElem?_toArray, List.getElem?_cons_zero, List.getElem?_cons_succ] at e0 e1 e2 d0 d1 d2
        have hm := Moved.three w9 Bd (.int .i64 pt') (.int .i64 py') (.int .i64 li')
        have hz9 := ((hD9.set 0 (.int .i64 pt')).set 1 (.int .i64 py')).set 2 (.int .i64 li')
        simp only [List.setIfInBounds_toArray, List.set_cons_zero, List.set_cons_succ] at hz9
        have hown9 : ∀ q, (Value.slice ao' sn' sc').ownBlock = some q → ((X6 q ∨ (w7.heap.size ≤ q ∧ q < (w7.alloc (.cells #[.int .i64 pt', .int .i64 py', .int .i64 li'] 52)).heap.size)) ∨ ((w7.alloc (.cells #[.int .i64 pt', .int .i64 py', .int .i64 li'] 52)).heap.size ≤ q ∧ q < w9.heap.size)) ∧ q ≠ Bd := fun q hq => by
         rcases hq9 q hq with e | e
         ·exact ⟨.inl (.inl (HD6.out.own q e).1), (HD6.out.own q e).2⟩
         ·exact ⟨.inr ⟨e, (hR9.row.lt q hq).2⟩, fun e' => by have := hlt7 _ HD6.out.xd; have := HS8.out.1; omega⟩
        have hfin : Dk2 W (((w9.setCell ⟨Bd, 0, none⟩ (.int .i64 pt')).setCell ⟨Bd, 1, none⟩ (.int .i64 py')).setCell ⟨Bd, 2, none⟩ (.int .i64 li')) _ r p c' H' tt' ty' Bd xb ao' sn' sc' L' := ⟨hdc9.mv hm (fun k hk => by subst hk; exact ⟨.inl (.inl HD6.out.xd), HD6.out.low _ HD6.out.xd⟩), (by
         have := hz9
         rw [HX'.out.1, HX'.out.2.1, HX'.out.2.2] at this ⊢
         exact this), hR9.moved hm (fun e => HD6.out.ne e.symm) (fun q hq => (hown9 q hq).2), .inl (.inl HD6.out.xd), .inl (.inl HD6.out.xx), (fun j hj => by
         have h1 := HS8.out.1
         have h2 := HS8.out.2
         rcases hj with (e | e) | e
         ·exact HD6.out.low j e
         ·omega
         ·omega), hown9, HD6.out.ne⟩
        have HFIN := Lib.hid hfin
        have HSN' := Lib.hid hsn'
        clear hm hz9 hown9 hfin hdc9 hB9 hD9 hm9 hR9 hq9 hxb hlt7 hsn'
        go_wp2_with fail
        go_roundw
        case rel =>
         have hb := HB.out
         have hcc := HC'.out
         have hll := HLL.out
         have hs := HSN'.out
         have hs0 := HSN.out
         exact ⟨k + 1, _, n', m', tt', ty', H', c', L', ao', sn', sc', by omega, by go_num, by omega, hs, k1, k2, by omega, HFIN.out⟩
        case measure => simp [intOf]; omega
       ·have hpu := dput_wrong g hgo hgc pt py li wk p
        have hrp := fun (u : World) (hr : R7 u W.heap.size xb (.slice sa sn sc) L) => rput7_old hr (by have := HB.out; rw [← HSN.out]; omega) g hgo _ _ (find_wrong hgc) (check_ne2 g)
        obtain ⟨C, hC⟩ : ∃ q, q = checkOf g := ⟨_, rfl⟩
        rw [← hC] at hpu hrp hgc
        have hC0 : (C == 0) = false := by simpa using hgc
        obtain ⟨gk, gs, gl, gt⟩ := g
        unfold Tm.val at hpu hrp
        dsimp only at hpu hrp t0 t1 t2 t3
        have HPU := Lib.hid hpu
        have HRP := Lib.hid hrp
        clear hpu hrp hC hgo
        go_wp2_with fail
        clear d0 d1 d2 t0 t1 t2 t3
        refine HPU.out.mono ?_
        rintro en w7 ⟨rfl, hb7⟩
        have hal8 : Below wk.heap.size wk (w7.alloc (.cells #[.int .i64 0, .int .i64 0, .int .i64 0] 52)) := hb7.alloc hb7.size _
        have hT8 : Blk (w7.alloc (.cells #[.int .i64 0, .int .i64 0, .int .i64 0] 52)) _ _ _ := (hal8.block _ HT6.out.lt).trans HT6.out
        have t0 := hT8.cell 0
        have t1 := hT8.cell 1
        have t2 := hT8.cell 2
        have t3 := hT8.cell 3
        simp only [List.getElem?_toArray, List.getElem?_cons_zero, List.getElem?_cons_succ] at t0 t1 t2 t3
        have HRP8 := Lib.hid (HRP.out _ (HD6.out.ref.read hal8))
        have HAL8 := Lib.hid hal8
        clear hb7 hT8 HPU HRP hal8
        go_wp2_with fail
        clear t0 t1 t2 t3
        refine HRP8.out.mono ?_
        rintro en w9 ⟨rfl, hb9⟩
        have HB9 := Lib.hid (HAL8.out.trans (hb9.mono HAL8.out.size))
        clear hb9 HAL8 HRP8
        go_wp2_with fail
        go_roundw
        case rel =>
         have hb := HB.out
         exact ⟨k + 1, _, _, _, tt, ty, H, c, L, sa, sn, sc, by omega, by go_num, by omega, HSN.out, hsc, hsc2, by have := HSN.out; omega, HD6.out.read HB9.out⟩
        case measure => simp [intOf]; omega
      ·clear hkna hkd
       have hgo := HGO.out
       by_cases hgc : checkOf g = 0
       ·have hpu := dput_any HD6.out.dc (by omega) (by have := HB.out; rw [← HSN.out]; omega) g hgc (by have := HB.out; omega)
        have hrp := fun (u : World) (hr : R7 u W.heap.size xb (.slice sa sn sc) L) (hB : W.heap.size ≤ u.heap.size) (i : Nat) (L' : List Tm) (hor : (L' = L ∧ ∃ h : i < L.length, L[i] = g) ∨ (L' = L ++ [g] ∧ i = L.length ∧ g ∉ L)) => rput7_any hr (by have := HB.out; rw [← HSN.out]; omega) hB g hgc HD6.out.dc.dict.nodup i L' hor
        rw [← HPG.out.1, ← HPG.out.2.1, ← HPG.out.2.2] at hpu
        obtain ⟨gk, gs, gl, gt⟩ := g
        unfold Tm.val at hpu hrp
        dsimp only at hpu hrp t0 t1 t2 t3
        have HPU := Lib.hid hpu
        have HRP := Lib.hid hrp
        clear hpu hrp hgc hgo
        go_wp2_with fail
        clear d0 d1 d2 t0 t1 t2 t3
        refine HPU.out.mono ?_
        intro en w7 hto
        obtain ⟨n', m', tt', ty', H', c', L', i, rfl, hc', hd', hmx, hor⟩ := hto
        have hT7 := HT6.out.moved hmx (fun e => e.2 HTX.out)
        have hD7 := HD6.out.blk.moved hmx (fun e => e.2 HD6.out.xd)
        have hR7 := HD6.out.ref.moved hmx (fun e => e.2 HD6.out.xx) (fun q hq e => e.2 (HD6.out.own q hq).1)
        obtain ⟨pt', hpt'⟩ : ∃ q : Int, q = (tt'.page : Int) := ⟨_, rfl⟩
        obtain ⟨py', hpy'⟩ : ∃ q : Int, q = (ty'.page : Int) := ⟨_, rfl⟩
        obtain ⟨li', hli'⟩ : ∃ q : Int, q = ((L'.length : Nat) : Int) := ⟨_, rfl⟩
        rw [← hpt', ← hpy', ← hli']
        have HX' := Lib.hid (And.intro hpt' (And.intro hpy' hli'))
        have hb78 : Below w7.heap.size w7 (w7.alloc (.cells #[.int .i64 pt', .int .i64 py', .int .i64 li'] 52)) := (Below.refl _ _).alloc (Nat.le_refl _) _
        have hsz8 : (w7.alloc (.cells #[.int .i64 pt', .int .i64 py', .int .i64 li'] 52)).heap.size = w7.heap.size + 1 := by simp
        have hB8 := Blk.new w7 #[.int .i64 pt', .int .i64 py', .int .i64 li'] 52
        have hT8 := hT7.alloc (.cells #[.int .i64 pt', .int .i64 py', .int .i64 li'] 52)
        have hD8 := hD7.alloc (.cells #[.int .i64 pt', .int .i64 py', .int .i64 li'] 52)
        have hR8 := hR7.read hb78
        have hw7 := hd'.pb.below.size
        have hrp := HRP.out _ hR8 (by omega) i L' hor
        have HRP8 := Lib.hid hrp
        have t0 := hT8.cell 0
        have t1 := hT8.cell 1
        have t2 := hT8.cell 2
        have t3 := hT8.cell 3
        simp only [List.getElem?_toArray, List.getElem?_cons_zero, List.getElem?_cons_succ] at t0 t1 t2 t3
        have HD' := Lib.hid hd'
        have HC' := Lib.hid hc'
        have HB8 := Lib.hid hB8
        have HD8 := Lib.hid hD8
        have HS8 := Lib.hid (And.intro hsz8 hw7)
        have HB78 := Lib.hid hb78
        have HLL := Lib.hid (show L'.length ≤ L.length + 1 by
         rcases hor with ⟨h, -⟩ | ⟨h, -⟩ <;> rw [h]
         ·omega
         ·rw [List.length_append, List.length_singleton]; omega)
        clear hpt' hpy' hli' hd' hc' hmx hT7 hD7 hR7 hB8 hT8 hD8 hR8 hsz8 hw7 hrp HPU HRP hb78 hor
        go_wp2_with fail
        clear t0 t1 t2 t3
        have hrp := HRP8.out
        simp only [Int.natCast_add, Int.cast_ofNat_Int] at hrp
        refine hrp.mono ?_
        rintro en w9 ⟨rfl, ao', sn', sc', k1, k2, hsn', hR9, hm9, hq9⟩
        clear hrp HRP8
        have hxb : ∀ q, (q = xb ∨ (Value.slice sa sn sc).ownBlock = some q) → X6 q ∧ W.heap.size ≤ q := fun q hq => by
         rcases hq with e | e
         ·subst e; exact ⟨HD6.out.xx, HD6.out.low _ HD6.out.xx⟩
         ·exact ⟨(HD6.out.own q e).1, HD6.out.low _ (HD6.out.own q e).1⟩
        have hlt7 : ∀ q, X6 q → q < w7.heap.size := fun q hq => HD'.out.pb.lt q hq
        have hB9 := HB8.out.moved hm9 (fun e => by have := hlt7 _ (hxb _ e).1; omega)
        have hD9 := HD8.out.moved hm9 (fun e => by
         rcases e with e | e
         ·exact HD6.out.ne e
         ·exact (HD6.out.own _ e).2 rfl)
        have hdc9 := (HD'.out.take HB78.out).wide hm9 (fun k hk _ => ⟨.inl (hxb k hk).1, (hxb k hk).2⟩)
        have e0 := hB9.cell 0
        have e1 := hB9.cell 1
        have e2 := hB9.cell 2
        have d0 := hD9.cell 0
        have d1 := hD9.cell 1
        have d2 := hD9.cell 2
        have f0 := hD9.frozen 0
        have f1 := hD9.frozen 1
        have f2 := hD9.frozen 2
        simp only [List.getElem?_toArray, List.getElem?_cons_zero, List.getElem?_cons_succ] at e0 e1 e2 d0 d1 d2
        have hm := Moved.three w9 Bd (.int .i64 pt') (.int .i64 py') (.int .i64 li')
        have hz9 := ((hD9.set 0 (.int .i64 pt')).set 1 (.int .i64 py')).set 2 (.int .i64 li')
        simp only [List.setIfInBounds_toArray, List.set_cons_zero, List.set_cons_succ] at hz9
        have hown9 : ∀ q, (Value.slice ao' sn' sc').ownBlock = some q → ((X6 q ∨ (w7.heap.size ≤ q ∧ q < (w7.alloc (.cells #[.int .i64 pt', .int .i64 py', .int .i64 li'] 52)).heap.size)) ∨ ((w7.alloc (.cells #[.int .i64 pt', .int .i64 py', .int .i64 li'] 52)).heap.size ≤ q ∧ q < w9.heap.size)) ∧ q ≠ Bd := fun q hq => by
         rcases hq9 q hq with e | e
         ·exact ⟨.inl (.inl (HD6.out.own q e).1), (HD6.out.own q e).2⟩
         ·exact ⟨.inr ⟨e, (hR9.row.lt q hq).2⟩, fun e' => by have := hlt7 _ HD6.out.xd; have := HS8.out.1; omega⟩
        have hfin : Dk2 W (((w9.setCell ⟨Bd, 0, none⟩ (.int .i64 pt')).setCell ⟨Bd, 1, none⟩ (.int .i64 py')).setCell ⟨Bd, 2, none⟩ (.int .i64 li')) _ r p c' H' tt' ty' Bd xb ao' sn' sc' L' := ⟨hdc9.mv hm (fun k hk => by subst hk; exact ⟨.inl (.inl HD6.out.xd), HD6.out.low _ HD6.out.xd⟩), (by
         have := hz9
         rw [HX'.out.1, HX'.out.2.1, HX'.out.2.2] at this ⊢
         exact this), hR9.moved hm (fun e => HD6.out.ne e.symm) (fun q hq => (hown9 q hq).2), .inl (.inl HD6.out.xd), .inl (.inl HD6.out.xx), (fun j hj => by
         have h1 := HS8.out.1
         have h2 := HS8.out.2
         rcases hj with (e | e) | e
         ·exact HD6.out.low j e
         ·omega
         ·omega), hown9, HD6.out.ne⟩
        have HFIN := Lib.hid hfin
        have HSN' := Lib.hid hsn'
        clear hm hz9 hown9 hfin hdc9 hB9 hD9 hm9 hR9 hq9 hxb hlt7 hsn'
        go_wp2_with fail
        go_roundw
        case rel =>
         have hb := HB.out
         have hcc := HC'.out
         have hll := HLL.out
         have hs := HSN'.out
         have hs0 := HSN.out
         exact ⟨k + 1, _, n', m', tt', ty', H', c', L', ao', sn', sc', by omega, by go_num, by omega, hs, k1, k2, by omega, HFIN.out⟩
        case measure => simp [intOf]; omega
       ·have hpu := dput_wrong g hgo hgc pt py li wk p
        have hrp := fun (u : World) (hr : R7 u W.heap.size xb (.slice sa sn sc) L) => rput7_old hr (by have := HB.out; rw [← HSN.out]; omega) g hgo _ _ (find_wrong hgc) (check_ne2 g)
        obtain ⟨C, hC⟩ : ∃ q, q = checkOf g := ⟨_, rfl⟩
        rw [← hC] at hpu hrp hgc
        have hC0 : (C == 0) = false := by simpa using hgc
        obtain ⟨gk, gs, gl, gt⟩ := g
        unfold Tm.val at hpu hrp
        dsimp only at hpu hrp t0 t1 t2 t3
        have HPU := Lib.hid hpu
        have HRP := Lib.hid hrp
        clear hpu hrp hC hgo
        go_wp2_with fail
        clear d0 d1 d2 t0 t1 t2 t3
        refine HPU.out.mono ?_
        rintro en w7 ⟨rfl, hb7⟩
        have hal8 : Below wk.heap.size wk (w7.alloc (.cells #[.int .i64 0, .int .i64 0, .int .i64 0] 52)) := hb7.alloc hb7.size _
        have hT8 : Blk (w7.alloc (.cells #[.int .i64 0, .int .i64 0, .int .i64 0] 52)) _ _ _ := (hal8.block _ HT6.out.lt).trans HT6.out
        have t0 := hT8.cell 0
        have t1 := hT8.cell 1
        have t2 := hT8.cell 2
        have t3 := hT8.cell 3
        simp only [List.getElem?_toArray, List.getElem?_cons_zero, List.getElem?_cons_succ] at t0 t1 t2 t3
        have HRP8 := Lib.hid (HRP.out _ (HD6.out.ref.read hal8))
        have HAL8 := Lib.hid hal8
        clear hb7 hT8 HPU HRP hal8
        go_wp2_with fail
        clear t0 t1 t2 t3
        refine HRP8.out.mono ?_
        rintro en w9 ⟨rfl, hb9⟩
        have HB9 := Lib.hid (HAL8.out.trans (hb9.mono HAL8.out.size))
        clear hb9 HAL8 HRP8
        go_wp2_with fail
        go_roundw
        case rel =>
         have hb := HB.out
         exact ⟨k + 1, _, _, _, tt, ty, H, c, L, sa, sn, sc, by omega, by go_num, by omega, HSN.out, hsc, hsc2, by have := HSN.out; omega, HD6.out.read HB9.out⟩
        case measure => simp [intOf]; omega
      ·clear hkna hkd
       have hfi := dfind_any HD6.out.dc li g HGO.out
       have hrf := fun (u : World) (hr : R7 u W.heap.size xb (.slice sa sn sc) L) => rfind7_any u xb (.slice sa sn sc) L (by have := HB.out; rw [← HSN.out]; omega) hr.row.tml (by rw [hr.blk.cell]; rfl) g HGO.out
       obtain ⟨R, hR⟩ : ∃ q, q = findL L g := ⟨_, rfl⟩
       rw [← HPG.out.1, ← HPG.out.2.1, ← hR] at hfi
       rw [← hR] at hrf
       obtain ⟨ra, re⟩ := R
       obtain ⟨gk, gs, gl, gt⟩ := g
       unfold Tm.val at hfi hrf
       dsimp only at hfi hrf t0 t1 t2 t3
       have HPU := Lib.hid hfi
       have HRP := Lib.hid hrf
       clear hfi hrf hR
       go_wp2_with fail
       clear d0 d1 d2 t0 t1 t2 t3
       refine HPU.out.mono ?_
       rintro en w7 ⟨rfl, hb7⟩
       have hT8 : Blk w7 _ _ _ := (hb7.block _ HT6.out.lt).trans HT6.out
       have t0 := hT8.cell 0
       have t1 := hT8.cell 1
       have t2 := hT8.cell 2
       have t3 := hT8.cell 3
       simp only [List.getElem?_toArray, List.getElem?_cons_zero, List.getElem?_cons_succ] at t0 t1 t2 t3
       have HRP8 := Lib.hid (HRP.out _ (HD6.out.ref.read hb7))
       have HAL8 := Lib.hid hb7
       clear hb7 hT8 HPU HRP
       go_wp2_with fail
       clear t0 t1 t2 t3
       refine HRP8.out.mono ?_
       rintro en w9 ⟨rfl, hb9⟩
       have HB9 := Lib.hid (HAL8.out.trans (hb9.mono HAL8.out.size))
       clear hb9 HAL8 HRP8
       go_wp2_with fail
       go_roundw
       case rel =>
        have hb := HB.out
        exact ⟨k + 1, _, _, _, tt, ty, H, c, L, sa, sn, sc, by omega, by go_num, by omega, HSN.out, hsc, hsc2, by have := HSN.out; omega, HD6.out.read HB9.out⟩
       case measure => simp [intOf]; omega
      ·have hka := hkna (by omega)
       clear hkna hkd
       obtain ⟨b2, f2, cp2, e2, -, -, hcell⟩ := (HA2.out.below HD6.out.dc.pb.below).at (by rw [← HN2.out]; omega)
       rw [← HN2.out] at e2
       simp only [Value.slice.injEq, true_and] at e2
       obtain ⟨rfl, rfl⟩ := e2
       have hka2 : k < zs.length := by rw [← HN2.out]; omega
       have hcb := hcell k hka2
       generalize zs[k] = zz at hcb
       have hxr : wk.cell? ⟨xb, 0, none⟩ = some (.slice sa sn sc) := by rw [HD6.out.ref.blk.cell]; rfl
       have hsnl : (sn : Int) ≤ 40 := by have := HB.out; omega
       have hsn0 : (0 : Int) ≤ sn := by omega
       obtain ⟨qz, hq1⟩ : ∃ q, wrap64 (zz.tdiv 4) = q := ⟨_, rfl⟩
       have hq2 : IntKind.i64.wrap (zz.tdiv 4) = qz := by
        have h := hq1
        unfold wrap64 at h
        rw [IntKind.wrap_i64]; exact h
       have hq3 : IntKind.i64.wrap ((sn : Int) + 3) = (sn : Int) + 3 := by rw [IntKind.wrap_i64]; omega
       have hwi := within7_eq qz (sn + 3) (by omega) (by omega)
       have hm1 := Int.emod_nonneg qz (show ((sn : Int) + 3) ≠ 0 by omega)
       have hm2 := Int.emod_lt_of_pos qz (show (0 : Int) < (sn : Int) + 3 by omega)
       obtain ⟨id, hid⟩ : ∃ q : Int, q = qz % ((sn : Int) + 3) := ⟨_, rfl⟩
       rw [← hid] at hwi hm1 hm2
       have hq4 : IntKind.i64.wrap (id - 1) = id - 1 := by rw [IntKind.wrap_i64]; omega
       have HWI := Lib.hid hwi
       clear hcell hid hwi t0 t1 t2 t3
       go_wp2_with fail
       clear d0 d1 d2
       go_quiet ((go_at_call 24; exact Calls.quiet_of_same (HWI.out _)))
       clear hcb hxr
       go_upto_region 35 with fail
       generalize hwd : wk.drewN _ = wd
       have hdb : Below wk.heap.size wk wd := by rw [← hwd]; exact draws9 (Below.refl _ _) _
       clear hwd
       obtain ⟨jd, hjd⟩ : ∃ q : Int, id - 1 = q := ⟨_, rfl⟩
       have hwf : (Lit.int .i64 jd).wf = true := WalkArith.wf_i64 (by omega)
       try rw [hjd]
       clear hjd hq4 hq3 hq2 hq1 hm1 hm2 HWI
       have hd9 := HD6.out.read hdb
       have hge := dgets_any hd9.dc pt li jd hwf
       have hrg := fun (u : World) (hr : R7 u W.heap.size xb (.slice sa sn sc) L) => rgets_any hr (by have := HB.out; rw [← HSN.out]; omega) jd hwf
       rw [← HPG.out.2.1] at hge
       obtain ⟨R, hR⟩ : ∃ q, q = getL L jd := ⟨_, rfl⟩
       rw [← hR] at hge hrg
       obtain ⟨ra, re⟩ := R
       have hst := equal_term ra ra
       rw [(eqB_iff _ _).2 rfl] at hst
       obtain ⟨gk, gs, gl, gt⟩ := ra
       unfold Tm.val at hge hrg hst
       dsimp only at hge hrg hst
       have HPU := Lib.hid hge
       have HRP := Lib.hid hrg
       have HST := Lib.hid hst
       have HD9 := Lib.hid hd9
       have hbd := hd9.blk
       rw [← HPG.out.1, ← HPG.out.2.1, ← HPG.out.2.2] at hbd
       have d0 := hbd.cell 0
       have d1 := hbd.cell 1
       have d2 := hbd.cell 2
       simp only [List.getElem?_toArray, List.getElem?_cons_zero, List.getElem?_cons_succ] at d0 d1 d2
       clear hge hrg hst hd9 hR hbd hwf hdb
       go_wp2_with fail
       clear d0 d1 d2
       refine HPU.out.mono ?_
       rintro en w7 ⟨rfl, hb7⟩
       have hal8 : Below wd.heap.size wd (w7.alloc (.cells #[.int .i64 gk, .string gs, .string gl, .string gt] 59)) := hb7.alloc hb7.size _
       have hb8 := Blk.new w7 #[.int .i64 gk, .string gs, .string gl, .string gt] 59
       have hrg := HRP.out _ (HD9.out.ref.read hal8)
       have HRG := Lib.hid hrg
       clear hb7 hrg HPU HRP
       go_wp2_with fail
       generalize w7.alloc _ = w8 at hal8 hb8 HRG ⊢
       refine HRG.out.mono ?_
       rintro en w9 ⟨rfl, hb9⟩
       have hal9 := hal8.trans (hb9.mono hal8.size)
       have hb99 : Blk w9 w7.heap.size _ _ := (hb9.block _ hb8.lt).trans hb8
       have t0 := hb99.cell 0
       have t1 := hb99.cell 1
       have t2 := hb99.cell 2
       have t3 := hb99.cell 3
       simp only [List.getElem?_toArray, List.getElem?_cons_zero, List.getElem?_cons_succ] at t0 t1 t2 t3
       have hlt9 := hb99.lt
       have hst := HST.out
       have HAL9 := Lib.hid (hal9.alloc hal9.size (.cells #[.int .i64 gk, .string gs, .string gl, .string gt] 59))
       clear hal8 hb8 hb9 hal9 hb99 HRG
       go_wp2_with fail
       go_roundw
       case rel =>
        have hb := HB.out
        exact ⟨k + 1, _, _, _, tt, ty, H, c, L, sa, sn, sc, by omega, by go_num, by omega, HSN.out, hsc, hsc2, by have := HSN.out; omega, HD9.out.read HAL9.out⟩
       case measure => simp [intOf]; omega
end Go.Proofs.YtbpdapcmaioeiaaGreat
