/- Ib -/
import Derived.Test.YtbpdapcmaioeiaaGreatKGr
import Derived.ScopeJumps
import Derived.Deep.LoopGhost
import Derived.Lib.ConvBytes
namespace Go.Proofs.YtbpdapcmaioeiaaGreat
open Go.RowKit Go.Maps
set_option maxRecDepth 100000
set_option linter.unusedVariables false
/-- The pages when an empty leaf has come to be. -/
def newLg (H : Lg) (a : Nat) (rest : List Nat) : Lg := { H with free := rest, page := upd H.page a (page (enc 0 [])) }
set_option maxHeartbeats 4000000 in
theorem dictnew_any {w0 w : World} {X : Nat → Prop} {r p N M c : Nat} {G : Lg} {H : Lg} (h : Pb w0 w X r p N M c G (some H)) (hc : c + 4 < 500000) {a b : Nat} {rest : List Nat} (hf : H.free = a :: b :: rest) :
 Calls Tryz.prog 22 #[.pointer (some ⟨p, 0, none⟩)] w fun e w' => e = .returned (.tuple #[.agg #[.int .i64 a, .int .i64 b, .int .i64 0], .int .i64 0]) ∧
  Pb w0 w' X r p N M (c + 4) G (some (newLg (newLg H a (b :: rest)) b rest)) ∧ Mx w0 X w w' := by
 have hal0 : Below w.heap.size w (w.alloc (.cells #[.int .i64 0, .int .i64 0, .int .i64 0] 52)) := (Below.refl _ w).alloc (Nat.le_refl _) _
 have hb0 := Blk.new w #[.int .i64 0, .int .i64 0, .int .i64 0] 52
 have hs0 : (w.alloc (.cells #[.int .i64 0, .int .i64 0, .int .i64 0] 52)).heap.size = w.heap.size + 1 := by simp
 obtain ⟨wa, hwa⟩ : ∃ wa, wa = w.alloc (.cells #[.int .i64 0, .int .i64 0, .int .i64 0] 52) := ⟨_, rfl⟩
 rw [← hwa] at hal0 hb0 hs0
 have hal1 : Below wa.heap.size wa (wa.alloc (.cells #[.int .i64 0, .int .i64 0, .int .i64 0] 52)) := (Below.refl _ wa).alloc (Nat.le_refl _) _
 have hbr := Blk.new wa #[.int .i64 0, .int .i64 0, .int .i64 0] 52
 rw [hs0] at hbr
 obtain ⟨w1, hw1⟩ : ∃ w1, w1 = wa.alloc (.cells #[.int .i64 0, .int .i64 0, .int .i64 0] 52) := ⟨_, rfl⟩
 rw [← hw1] at hal1 hbr
 have hal : Below w.heap.size w w1 := hal0.trans (hal1.mono hal0.size)
 have hb : Blk w1 w.heap.size _ _ := hb0.moved (Moved.of_below hal1 (fun _ => False)) (fun h => h)
 have hpb := h.take hal
 have hne := bt_new hpb (by omega) hf
 have HNE := Lib.hid hne
 have HAL := Lib.hid hal
 have HB := Lib.hid hb
 have HBR := Lib.hid hbr
 have HC := Lib.hid hc
 have HW0 := Lib.hid h.below.size
 have HW1 := Lib.hid (show w1 = (w.alloc (.cells #[.int .i64 0, .int .i64 0, .int .i64 0] 52)).alloc (.cells #[.int .i64 0, .int .i64 0, .int .i64 0] 52) by rw [hw1, hwa])
 have HLT := Lib.hid (And.intro hb.lt hbr.lt)
 clear h hc hf hal0 hb0 hs0 hal1 hbr hw1 hwa hal hb hpb hne
 go_enter Tryz.func22, Tryz.ntmps22
 go_wp2_with fail
 go_step3
 go_wp2_with fail
 rw [← HW1.out]
 refine HNE.out.mono ?_
 rintro en w2 ⟨rfl, h2, hm2⟩
 have hlt := HLT.out
 have hb2 := HB.out.moved hm2 (fun e => e.2 (.inr ⟨Nat.le_refl _, hlt.1⟩))
 have hbr2 := HBR.out.moved hm2 (fun e => e.2 (.inr ⟨by omega, hlt.2⟩))
 have q0 : w2.cell? ⟨w.heap.size + 1, 0, none⟩ = some (.int .i64 0) := by rw [hbr2.cell]; rfl
 have g0 := hbr2.frozen 0
 have hbs := hbr2.set 0 (.int .i64 a)
 have hms := (Moved.refl (· = w.heap.size + 1) w2).setCell ⟨w.heap.size + 1, 0, none⟩ (.int .i64 a) (.inl rfl)
 have hp3 := h2.mv hms (fun k hk => by have := HW0.out; exact ⟨.inr (by omega), by omega⟩)
 have hb3 := hb2.moved hms (by omega)
 have hfr := pb_free hp3
 have hn2 := bt_new hp3 (by have := HC.out; omega) (a := b) (rest := rest) rfl
 have HM2 := Lib.hid hm2
 have HMS := Lib.hid hms
 have HBS := Lib.hid hbs
 have HB3 := Lib.hid hb3
 have HFR := Lib.hid hfr
 have HN2 := Lib.hid hn2
 clear h2 hm2 hlt hb2 hbr2 hbs hms hp3 hb3 hfr hn2 HNE HB HBR
 go_wp2_with fail
 refine HFR.out.mono ?_
 rintro en w3 ⟨rfl, rfl⟩
 have i1 : ¬ ((((Option.some ({ H with free := b :: rest, page := upd H.page a (page (enc 0 [])) } : Lg)).getD G).free.length : Nat) : Int) = 0 := by
  show ¬ (((b :: rest).length : Nat) : Int) = 0
  rw [List.length_cons]; omega
 clear HFR
 go_wp2_with fail
 refine HN2.out.mono ?_
 rintro en w4 ⟨rfl, h4, hm4⟩
 have hlt := HLT.out
 have hsz2 := HM2.out.size
 have hbs4 := HBS.out.moved hm4 (fun e => e.2 (.inr ⟨by omega, hlt.2⟩))
 have hb4 := HB3.out.moved hm4 (fun e => e.2 (.inr ⟨Nat.le_refl _, hlt.1⟩))
 have q1 : w4.cell? ⟨w.heap.size + 1, 1, none⟩ = some (.int .i64 0) := by rw [hbs4.cell]; rfl
 have q0' : w4.cell? ⟨w.heap.size + 1, 0, none⟩ = some (.int .i64 a) := by rw [hbs4.cell]; rfl
 have q2 : w4.cell? ⟨w.heap.size + 1, 2, none⟩ = some (.int .i64 0) := by rw [hbs4.cell]; rfl
 have f1 := hbs4.frozen 1
 have z0 : w4.cell? ⟨w.heap.size, 0, none⟩ = some (.int .i64 0) := by rw [hb4.cell]; rfl
 have z1 : w4.cell? ⟨w.heap.size, 1, none⟩ = some (.int .i64 0) := by rw [hb4.cell]; rfl
 have z2 : w4.cell? ⟨w.heap.size, 2, none⟩ = some (.int .i64 0) := by rw [hb4.cell]; rfl
 have y0 := hb4.frozen 0
 have y1 := hb4.frozen 1
 have y2 := hb4.frozen 2
 have HB4 := Lib.hid hb4
 have HBS4 := Lib.hid hbs4
 have H4 := Lib.hid h4
 have HM4 := Lib.hid hm4
 clear h4 hm4 hlt hsz2 hbs4 hb4 HN2 q0 g0
 go_wp2_with fail
 repeat rw [Exit.noGoto_ret]
 have hbf := (((HB4.out.other ⟨w.heap.size + 1, 1, none⟩ (.int .i64 b) (by show w.heap.size ≠ w.heap.size + 1; omega)).set 0 (.int .i64 a)).set 1 (.int .i64 b)).set 2 (.int .i64 0)
 refine bodyPost_ret (results_cell_tmp_row rfl _ _ w.heap.size 52 _ (0, 0) _ rfl hbf Tryz.underlying52 rfl (by kernel_rfl)) rfl ?_
 have hms := ((((Moved.refl (fun k => k = w.heap.size ∨ k = w.heap.size + 1) w4).setCell ⟨w.heap.size + 1, 1, none⟩ (.int .i64 b) (.inl (.inr rfl))).setCell ⟨w.heap.size, 0, none⟩ (.int .i64 a) (.inl (.inl rfl))).setCell ⟨w.heap.size, 1, none⟩ (.int .i64 b) (.inl (.inl rfl))).setCell ⟨w.heap.size, 2, none⟩ (.int .i64 0) (.inl (.inl rfl))
 have hlt := HLT.out
 have hw0 := HW0.out
 refine ⟨rfl, (H4.out.mv hms (fun k hk => ⟨.inr (by omega), by omega⟩)).less (fun k hk => .inl hk), ?_⟩
 have m1 := Moved.trans (P := fun j => w0.heap.size ≤ j ∧ ¬ X j) (Mx.of HAL.out) HM2.out (fun j hj => .inl ⟨hj.1, fun e => hj.2 (.inl e)⟩)
 have m2 := Moved.trans m1 HMS.out (fun j hj => .inr (by omega))
 have m3 := Moved.trans m2 HM4.out (fun j hj => .inl ⟨hj.1, fun e => hj.2 (.inl e)⟩)
 exact Moved.trans m3 hms (fun j hj => .inr (by omega))
end Go.Proofs.YtbpdapcmaioeiaaGreat
namespace Go.Proofs.YtbpdapcmaioeiaaGreat
open Go.RowKit Go.Maps
set_option maxRecDepth 100000
set_option linter.unusedVariables false
theorem results_cell_cell_row {P : Program} {fn : Func} {p u : Tmp} {ty ty2 : TypeId} (h : fn.results = #[.cell p ty, .cell u ty2]) (tmps : Array Value) (w : World) (g g2 : Nat) (t t2 : TypeId) (cs cs2 : Array Value) (fr fr2 : Nat × Nat) (d d2 : TypeDesc)
 (hp : tmps.getD p undef = .pointer (some ⟨g, 0, none⟩)) (hg : w.heap[g]? = some (.cells cs t fr))
 (hu : P.underlying ty = some d) (hd : (match d with | .struct _ | .array _ _ => true | _ => false) = true) (hi : (P.info? ty).map (·.size) = some cs.size)
 (hp2 : tmps.getD u undef = .pointer (some ⟨g2, 0, none⟩)) (hg2 : w.heap[g2]? = some (.cells cs2 t2 fr2))
 (hu2 : P.underlying ty2 = some d2) (hd2 : (match d2 with | .struct _ | .array _ _ => true | _ => false) = true) (hi2 : (P.info? ty2).map (·.size) = some cs2.size) :
 (results fn tmps).run P w = .ok (.tuple #[.agg cs, .agg cs2]) w := by
 rw [Array.getD_eq_getD_getElem?] at hp hp2
 unfold results
 rw [h]
 simp [asAddr, Result.andThen, hp, hp2, run_loadVar_row w g t ty cs fr d hg hu hd hi, run_loadVar_row w g2 t2 ty2 cs2 fr2 d2 hg2 hu2 hd2 hi2]
set_option maxHeartbeats 4000000 in
theorem trees_any (w : World) (p : Nat) (ti ii li : Int) :
 Calls Tryz.prog 57 #[.agg #[.int .i64 ti, .int .i64 ii, .int .i64 li], .pointer (some ⟨p, 0, none⟩)] w fun e w' => e = .returned (.tuple #[.agg #[.pointer (some ⟨p, 0, none⟩), .int .i64 ti], .agg #[.pointer (some ⟨p, 0, none⟩), .int .i64 ii]]) ∧ Below w.heap.size w w' := by
 have ha0 : Below w.heap.size w (w.alloc (.cells #[.int .i64 ti, .int .i64 ii, .int .i64 li] 52)) := (Below.refl _ w).alloc (Nat.le_refl _) _
 have hb0 := Blk.new w #[.int .i64 ti, .int .i64 ii, .int .i64 li] 52
 have hs0 : (w.alloc (.cells #[.int .i64 ti, .int .i64 ii, .int .i64 li] 52)).heap.size = w.heap.size + 1 := by simp
 obtain ⟨wa, hwa⟩ : ∃ wa, wa = w.alloc (.cells #[.int .i64 ti, .int .i64 ii, .int .i64 li] 52) := ⟨_, rfl⟩
 rw [← hwa] at ha0 hb0 hs0
 have ha1 : Below wa.heap.size wa (wa.alloc (.cells #[.pointer none, .int .i64 0] 110)) := (Below.refl _ wa).alloc (Nat.le_refl _) _
 have hb1 := Blk.new wa #[.pointer none, .int .i64 0] 110
 have hs1 : (wa.alloc (.cells #[.pointer none, .int .i64 0] 110)).heap.size = w.heap.size + 1 + 1 := by simp [hs0]
 rw [hs0] at hb1
 obtain ⟨wb, hwb⟩ : ∃ wb, wb = wa.alloc (.cells #[.pointer none, .int .i64 0] 110) := ⟨_, rfl⟩
 rw [← hwb] at ha1 hb1 hs1
 have ha2 : Below wb.heap.size wb (wb.alloc (.cells #[.pointer none, .int .i64 0] 111)) := (Below.refl _ wb).alloc (Nat.le_refl _) _
 have hb2 := Blk.new wb #[.pointer none, .int .i64 0] 111
 rw [hs1] at hb2
 have hb1 := hb1.moved (Moved.of_below ha2 (fun _ => False)) (fun h => h)
 have hb0 := (hb0.moved (Moved.of_below ha1 (fun _ => False)) (fun h => h)).moved (Moved.of_below ha2 (fun _ => False)) (fun h => h)
 have hal0 : Below w.heap.size w (wb.alloc (.cells #[.pointer none, .int .i64 0] 111)) := (ha0.trans (ha1.mono ha0.size)).trans (ha2.mono (Nat.le_trans ha0.size ha1.size))
 rw [hwb, hwa] at hb0 hb1 hb2 hal0
 clear ha0 ha1 ha2 hs0 hs1 hwa hwb
 go_enter Tryz.func57, Tryz.ntmps57
 go_wp2_with fail
 generalize (((w.alloc (.cells #[.int .i64 ti, .int .i64 ii, .int .i64 li] 52)).alloc (.cells #[.pointer none, .int .i64 0] 110)).alloc (.cells #[.pointer none, .int .i64 0] 111)) = w3 at *
 have c0 : w3.cell? ⟨w.heap.size, 0, none⟩ = some (.int .i64 ti) := by rw [hb0.cell]; rfl
 have c1 : w3.cell? ⟨w.heap.size, 1, none⟩ = some (.int .i64 ii) := by rw [hb0.cell]; rfl
 have d0 : w3.cell? ⟨w.heap.size + 1, 0, none⟩ = some (.pointer none) := by rw [hb1.cell]; rfl
 have d1 : w3.cell? ⟨w.heap.size + 1, 1, none⟩ = some (.int .i64 0) := by rw [hb1.cell]; rfl
 have e0 : w3.cell? ⟨w.heap.size + 1 + 1, 0, none⟩ = some (.pointer none) := by rw [hb2.cell]; rfl
 have e1 : w3.cell? ⟨w.heap.size + 1 + 1, 1, none⟩ = some (.int .i64 0) := by rw [hb2.cell]; rfl
 have f0 := hb1.frozen 0
 have f1 := hb1.frozen 1
 have g0 := hb2.frozen 0
 have g1 := hb2.frozen 1
 have HB1 := Lib.hid hb1
 have HB2 := Lib.hid hb2
 have HAL := Lib.hid hal0
 clear hb0 hb1 hb2 hal0
 go_region
 go_wp2_with fail
 have hf1 := ((((HB1.out.set 0 (.pointer (some ⟨p, 0, none⟩))).set 1 (.int .i64 ti)).other ⟨w.heap.size + 1 + 1, 0, none⟩ (.pointer (some ⟨p, 0, none⟩)) (by show w.heap.size + 1 ≠ w.heap.size + 1 + 1; omega)).other ⟨w.heap.size + 1 + 1, 1, none⟩ (.int .i64 ii) (by show w.heap.size + 1 ≠ w.heap.size + 1 + 1; omega))
 have hf2 := ((((HB2.out.other ⟨w.heap.size + 1, 0, none⟩ (.pointer (some ⟨p, 0, none⟩)) (by show w.heap.size + 1 + 1 ≠ w.heap.size + 1; omega)).other ⟨w.heap.size + 1, 1, none⟩ (.int .i64 ti) (by show w.heap.size + 1 + 1 ≠ w.heap.size + 1; omega)).set 0 (.pointer (some ⟨p, 0, none⟩))).set 1 (.int .i64 ii))
 refine bodyPost_ret (results_cell_cell_row rfl _ _ (w.heap.size + 1) (w.heap.size + 1 + 1) 110 111 _ _ (0, 0) (0, 0) _ _ rfl hf1 Tryz.underlying110 rfl (by kernel_rfl) rfl hf2 Tryz.underlying111 rfl (by kernel_rfl)) rfl ?_
 refine ⟨rfl, ?_⟩
 have hms := ((((Moved.refl (fun k => k = w.heap.size + 1 ∨ k = w.heap.size + 1 + 1) w3).setCell ⟨w.heap.size + 1, 0, none⟩ (.pointer (some ⟨p, 0, none⟩)) (.inl (.inl rfl))).setCell ⟨w.heap.size + 1, 1, none⟩ (.int .i64 ti) (.inl (.inl rfl))).setCell ⟨w.heap.size + 1 + 1, 0, none⟩ (.pointer (some ⟨p, 0, none⟩)) (.inl (.inr rfl))).setCell ⟨w.heap.size + 1 + 1, 1, none⟩ (.int .i64 ii) (.inl (.inr rfl))
 exact HAL.out.trans (hms.drew.below (B := w.heap.size) (fun j hj => by omega) HAL.out.size)
end Go.Proofs.YtbpdapcmaioeiaaGreat
namespace Go.Proofs.YtbpdapcmaioeiaaGreat
open Go.RowKit Go.Maps
set_option maxRecDepth 100000
set_option linter.unusedVariables false
/-- Eight cells with the first k and the last k of them changed for one another. -/
def Swapped (l : List UInt8) (cur : Array Value) (i : Nat) : Prop := ∀ k, k < 8 → cur[k]? = some (vb (if k < i ∨ 7 < k + i then l.getD (7 - k) 0 else l.getD k 0))
theorem Swapped.step {l : List UInt8} {cur : Array Value} {i j : Nat} (h : Swapped l cur i) (hi : i < 4) (hj : j = 7 - i) : Swapped l ((cur.setIfInBounds i (vb (l.getD j 0))).setIfInBounds j (vb (l.getD i 0))) (i + 1) := by
 intro k hk
 have hki := h k hk
 have hlen : k < cur.size := (Array.getElem?_eq_some_iff.1 hki).1
 have hl7 : 7 < cur.size := (Array.getElem?_eq_some_iff.1 (h 7 (by omega))).1
 rw [Array.getElem?_setIfInBounds, Array.getElem?_setIfInBounds]
 by_cases e1 : j = k
 ·subst e1
  rw [if_pos rfl, if_pos (by simp; omega), if_pos (by omega), show 7 - j = i by omega]
 ·rw [if_neg e1]
  by_cases e2 : i = k
  ·subst e2
   rw [if_pos rfl, if_pos (by omega), if_pos (by omega), ← hj]
  ·rw [if_neg e2, hki]
   congr 2
   by_cases e3 : k < i ∨ 7 < k + i
   ·rw [if_pos e3, if_pos (by omega)]
   ·rw [if_neg e3, if_neg (by omega)]
set_option maxHeartbeats 4000000 in
theorem reverse_any (w : World) (g cap : Nat) (cur : Array Value) (l : List UInt8) (hb : Blk w g cur 5) (hs : Swapped l cur 0) :
 Calls Tryz.prog 136 #[.slice (some ⟨g, 0, none⟩) 8 cap] w fun e w' => e = .returned (.tuple #[]) ∧ (∃ cur' : Array Value, Blk w' g cur' 5 ∧ cur'.size = cur.size ∧ Swapped l cur' 4) ∧ Moved (· = g) w w' := by
 have HB := Lib.hid hb
 have HS := Lib.hid hs
 clear hb hs
 go_enter Tryz.func136, Tryz.ntmps136
 go_wp2_with fail
 go_loopw [2, 3] (fun s2 s3 wr => ∃ (i j : Nat) (cu : Array Value), i ≤ 4 ∧ i + j = 7 ∧ s2 = .int .i64 i ∧ s3 = .int .i64 j ∧ Blk wr g cu 5 ∧ cu.size = cur.size ∧ Swapped l cu i ∧ Moved (· = g) w wr) (fun s2 _ _ => 4 - (intOf s2).toNat)
 case atStart => exact ⟨0, 7, cur, by omega, by omega, rfl, by go_num, HB.out, rfl, HS.out, Moved.refl _ _⟩
 case round =>
  obtain ⟨i, j, cu, hi, hij, rfl, rfl, hbk, hsz, hsw, hm⟩ := hrel
  by_cases hlt : i < 4
  ·have a0 := hsw i (by omega)
   have a1 := hsw j (by omega)
   rw [if_neg (by omega)] at a0 a1
   have c0 : wr.cell? ⟨g, i, none⟩ = some (vb (l.getD i 0)) := by rw [hbk.cell]; exact a0
   have c1 : wr.cell? ⟨g, j, none⟩ = some (vb (l.getD j 0)) := by rw [hbk.cell]; exact a1
   obtain ⟨x, hx⟩ : ∃ x : Int, Value.int .u8 x = vb (l.getD i 0) := ⟨_, rfl⟩
   obtain ⟨y, hy⟩ : ∃ y : Int, Value.int .u8 y = vb (l.getD j 0) := ⟨_, rfl⟩
   rw [← hx] at c0
   rw [← hy] at c1
   have f0 := hbk.frozen i
   have f1 := hbk.frozen j
   have i1 : (i : Int) < j := by omega
   have i2 : (i : Int) < 8 := by omega
   have i3 : (j : Int) < 8 := by omega
   have i4 : ¬ (i : Int) < 0 := by omega
   have i5 : ¬ (j : Int) < 0 := by omega
   have i6 : (0 : Int) ≤ i := by omega
   have i7 : (0 : Int) ≤ j := by omega
   have i8 : i < 8 := by omega
   have i9 : j < 8 := by omega
   have HX := Lib.hid hx
   have HY := Lib.hid hy
   have HBK := Lib.hid hbk
   have HSZ := Lib.hid hsz
   have HSW := Lib.hid (hsw.step hlt (show j = 7 - i by omega))
   have HM := Lib.hid hm
   clear a0 a1 hx hy hbk hsz hsw hm
   go_wp2_with fail
   go_region
   go_wp2_with fail
   have hb2 := (HBK.out.set i (.int .u8 y)).set j (.int .u8 x)
   rw [HX.out, HY.out] at hb2 ⊢
   refine ⟨⟨i + 1, j - 1, _, by omega, by omega, by congr 1, by congr 1; omega, hb2, ?_, HSW.out, ((HM.out.setCell ⟨g, i, none⟩ _ (.inl rfl)).setCell ⟨g, j, none⟩ _ (.inl rfl)).drew⟩, by simp only [intOf]; omega⟩
   rw [Array.size_setIfInBounds, Array.size_setIfInBounds]
   exact HSZ.out
  ·obtain rfl : i = 4 := by omega
   have HX := Lib.hid (And.intro hbk (And.intro hsz (And.intro hsw hm)))
   have i1 : ¬ ((4 : Nat) : Int) < j := by omega
   have i2 : ¬ (4 : Int) < j := by omega
   clear hbk hsz hsw hm
   go_wp2_with fail
   go_end0
   exact ⟨rfl, ⟨cu, HX.out.1, HX.out.2.1, HX.out.2.2.1⟩, HX.out.2.2.2⟩
set_option maxHeartbeats 4000000 in
/-- place: the eight bytes of a number, the highest first. -/
theorem place_any (w : World) (x : Int) :
 Calls Tryz.prog 96 #[.int .i64 x] w fun e w' => ∃ v, e = .returned v ∧ Own w' w.heap.size v (le x 8).reverse ∧ Below w.heap.size w w' := by
 have hin := int_any (.slice none 0 0) [] x (by decide) w (Bs.nil w)
 rw [List.nil_append] at hin
 obtain ⟨l, hl⟩ : ∃ l, l = le x 8 := ⟨_, rfl⟩
 have HL0 := Lib.hid (show l.length = 8 by rw [hl, le_length])
 rw [← hl] at hin ⊢
 have HIN := Lib.hid hin
 clear hin hl
 go_enter Tryz.func96, Tryz.ntmps96
 go_wp2_with fail
 refine HIN.out.mono ?_
 rintro en w1 ⟨v, rfl, ho, hb1⟩
 have hl8 := HL0.out
 obtain ⟨hv0, ⟨-, hn⟩ | ⟨g, cap, cur, rfl, hg, hh, h1, h2, h3, h4⟩⟩ := ho
 ·omega
 rw [hl8] at h1 h4
 rw [Nat.mul_one] at h4 h3
 have hsw : Swapped l cur 0 := fun k hk => by
  rw [if_neg (by omega)]
  have e : (cur.toList.take 8)[k]? = some (vb (l.getD k 0)) := by
   rw [h4, vbs, List.getElem?_map, List.getElem?_eq_getElem (by omega), List.getD_eq_getElem?_getD, List.getElem?_eq_getElem (by omega)]; rfl
  rw [List.getElem?_take, if_pos hk] at e
  simpa using e
 have HRV := Lib.hid (reverse_any w1 g cap cur l hh hsw)
 have HB1 := Lib.hid hb1
 have HG := Lib.hid (And.intro hg (And.intro h1 (And.intro h2 h3)))
 have HL8 := Lib.hid hl8
 rw [hl8]
 clear hh hsw hb1 hg h1 h2 h3 h4 hl8 hv0 HIN
 go_wp2_with fail
 refine HRV.out.mono ?_
 rintro en w2 ⟨rfl, ⟨cur', hb2, hs2, hw2⟩, hm2⟩
 have HX := Lib.hid (And.intro hb2 (And.intro hs2 (And.intro hw2 hm2)))
 clear hb2 hs2 hw2 hm2 HRV
 go_wp2_with fail
 go_ret
 obtain ⟨hb2, hs2, hw2, hm2⟩ := HX.out
 obtain ⟨hg, h1, h2, h3⟩ := HG.out
 have hl8 := HL8.out
 have hr8 : l.reverse.length = 8 := by rw [List.length_reverse, hl8]
 refine ⟨.slice (some ⟨g, 0, none⟩) 8 cap, rfl, ⟨by rw [vbs_length, Nat.mul_one], .inr ⟨g, cap, cur', by rw [hr8], hg, hb2, by rw [hr8]; exact h1, h2, by rw [Nat.mul_one, hs2, h3], ?_⟩⟩, HB1.out.trans (hm2.below (fun j hj => by omega) HB1.out.size)⟩
 rw [hr8, Nat.mul_one]
 apply List.ext_getElem?
 intro k
 by_cases hk : k < 8
 ·have := hw2 k hk
  rw [if_pos (by omega)] at this
  rw [List.getElem?_take, if_pos hk, vbs, List.getElem?_map, List.getElem?_eq_getElem (show k < l.reverse.length by omega), List.getElem_reverse]
  rw [List.getD_eq_getElem?_getD, List.getElem?_eq_getElem (show 7 - k < l.length by omega)] at this
  have e : l.length - 1 - k = 7 - k := by omega
  simp only [e]
  simpa using this
 ·rw [List.getElem?_eq_none (by rw [List.length_take]; omega), List.getElem?_eq_none (by rw [vbs_length]; omega)]
end Go.Proofs.YtbpdapcmaioeiaaGreat
