/- Hc -/
import Derived.Test.YtbpdapcmaioeiaaGreatKHa
import Derived.ScopeJumps
namespace Go.Proofs.YtbpdapcmaioeiaaGreat
open Go.RowKit Go.Maps
set_option maxRecDepth 100000
set_option linter.unusedVariables false
theorem ents_many {n : Nat} {t : BT Ent n} (h : t.Proper) : (((n : Nat) : Int) = 0 ∨ 1 < (ents t).length) ∧ 0 < (ents t).length := by
 obtain ⟨h1, -⟩ := BT.of_proper h
 have hl : (ents t).length = t.items.length := List.length_map ..
 rw [hl]
 cases n with
 | zero => exact ⟨.inl rfl, by simp only [BT.enough] at h1; omega⟩
 | succ n => simp only [BT.enough] at h1; exact ⟨.inr (by omega), by omega⟩
set_option maxHeartbeats 2000000 in
theorem kid_any {w0 w : World} {X : Nat → Prop} {r p N M c : Nat} {G : Lg} {H : Option Lg} (h : Pb w0 w X r p N M c G H) {n : Nat} {t : BT Ent n} (hs : Stored N (H.getD G) t) (hp : t.Proper) (at' : Int) (v : Value) (es : List Ent) (i : Nat) (hes : Ens w v es) (hi : es[i]? = some (kidE (t.page : Int))) (hn : n ≤ 20) (lvl : Int) (hlv : lvl = n + 1) :
 Calls Tryz.prog 141 #[nodeV at' lvl v, .pointer (some ⟨p, 0, none⟩), .int .i64 i] w fun e w' => ∃ v', e = .returned (.tuple #[nodeV (t.page : Int) ((n : Nat) : Int) v', .int .i64 0]) ∧ Owe w' w.heap.size v' (ents t) ∧ Below w.heap.size w w' := by
 obtain ⟨hk1, hk2⟩ := ents_many hp
 have hil : i < es.length := (List.getElem?_eq_some_iff.1 hi).1
 have hie : es[i] = kidE (t.page : Int) := (List.getElem?_eq_some_iff.1 hi).2
 obtain ⟨b, off, cap, rfl, hc1, hc2, hbs, hce⟩ := hes.at (by omega)
 obtain ⟨d0, d1, d2⟩ := hce i hil
 rw [hie] at d0 d1 d2
 obtain ⟨q, hq⟩ : ∃ q, q = es.length := ⟨_, rfl⟩
 rw [← hq] at hil hc1 ⊢
 obtain ⟨pg, hpg⟩ : ∃ pg : Int, pg = (t.page : Int) := ⟨_, rfl⟩
 have hnd := hs.node
 rw [← hpg] at d2 hnd ⊢
 obtain ⟨ls, hls⟩ : ∃ ls, ls = ents t := ⟨_, rfl⟩
 rw [← hls] at hnd hk1 hk2 ⊢
 have hal0 : Below w.heap.size w (w.alloc (.cells #[.int .i64 at', .int .i64 lvl, .slice (some ⟨b, off, none⟩) q cap] 140)) := (Below.refl _ w).alloc (Nat.le_refl _) _
 have hb0 := Blk.new w #[.int .i64 at', .int .i64 lvl, .slice (some ⟨b, off, none⟩) q cap] 140
 have hs0 : (w.alloc (.cells #[.int .i64 at', .int .i64 lvl, .slice (some ⟨b, off, none⟩) q cap] 140)).heap.size = w.heap.size + 1 := by simp
 obtain ⟨wa, hwa⟩ : ∃ wa, wa = w.alloc (.cells #[.int .i64 at', .int .i64 lvl, .slice (some ⟨b, off, none⟩) q cap] 140) := ⟨_, rfl⟩
 rw [← hwa] at hal0 hb0 hs0
 have hal1 : Below wa.heap.size wa (wa.alloc (.cells #[.int .i64 0, .int .i64 0, .slice none 0 0] 140)) := (Below.refl _ wa).alloc (Nat.le_refl _) _
 have hbr := Blk.new wa #[.int .i64 0, .int .i64 0, .slice none 0 0] 140
 rw [hs0] at hbr
 obtain ⟨w1, hw1⟩ : ∃ w1, w1 = wa.alloc (.cells #[.int .i64 0, .int .i64 0, .slice none 0 0] 140) := ⟨_, rfl⟩
 rw [← hw1] at hal1 hbr
 have hal : Below w.heap.size w w1 := hal0.trans (hal1.mono hal0.size)
 have hb : Blk w1 w.heap.size _ _ := hb0.moved (Moved.of_below hal1 (fun _ => False)) (fun h => h)
 have hrd := read_node (h.grow hal) hnd hk1
 have HRD := Lib.hid hrd
 have HAL := Lib.hid hal
 have HB := Lib.hid hb
 have HBR := Lib.hid hbr
 have HS0 := Lib.hid hs0
 have a0 : w1.cell? ⟨w.heap.size, 1, none⟩ = some (.int .i64 lvl) := by rw [hb.cell]; rfl
 have a1 : w1.cell? ⟨w.heap.size, 2, none⟩ = some (.slice (some ⟨b, off, none⟩) q cap) := by rw [hb.cell]; rfl
 have e2 : w1.cell? ⟨b, off + i * 3 + 2, none⟩ = some (.int .i64 pg) := (hal.cell (show (⟨b, off + i * 3 + 2, none⟩ : Addr).block < _ from hbs)).trans d2
 have HW1 := Lib.hid (show w1 = (w.alloc (.cells #[.int .i64 at', .int .i64 lvl, .slice (some ⟨b, off, none⟩) q cap] 140)).alloc (.cells #[.int .i64 0, .int .i64 0, .slice none 0 0] 140) by rw [hw1, hwa])
 have i1 : (i : Int) < q := by omega
 have i2 : (0 : Int) < q := by omega
 have i3 : (n : Int) ≤ 20 := by omega
 have i6 : lvl ≤ 21 := by omega
 have i7 : 1 ≤ lvl := by omega
 have i8 : lvl - 1 = (n : Int) := by omega
 have HLV := Lib.hid hlv
 obtain ⟨lq, hlq⟩ : ∃ lq, lq = ls.length := ⟨_, rfl⟩
 have HLQ := Lib.hid hlq
 have hk3 : 0 < lq := by omega
 have hk4 : ¬ (lq : Int) = 0 := by omega
 rw [HW1.out] at a0 a1 e2
 unfold nodeV
 unfold nodeV at HRD
 clear hlv h hs hp hnd hrd hal hal0 hal1 hb hb0 hbr hes hi hie hce d0 d1 d2 hq hpg hls hw1 hwa hs0 hk1 hk2 hlq
 go_enter Tryz.func141, Tryz.ntmps141
 go_wp2_with fail
 rw [← HW1.out]
 refine HRD.out.mono ?_
 rintro en w2 ⟨v, rfl, ho, hb2⟩
 obtain ⟨ao, cp, rfl, -⟩ := ho.form
 rw [← HLQ.out] at ho ⊢
 have hal3 : Below w2.heap.size w2 (w2.alloc (.cells #[.int .i64 pg, .int .i64 n, .slice ao lq cp] 140)) := (Below.refl _ w2).alloc (Nat.le_refl _) _
 have hb23 : Below w1.heap.size w1 (w2.alloc (.cells #[.int .i64 pg, .int .i64 n, .slice ao lq cp] 140)) := hb2.trans (hal3.mono hb2.size)
 have hb3 := HB.out.moved (Moved.of_below hb23 (fun _ => False)) (fun h => h)
 have hbr3 := HBR.out.moved (Moved.of_below hb23 (fun _ => False)) (fun h => h)
 have c0 : (w2.alloc (.cells #[.int .i64 pg, .int .i64 n, .slice ao lq cp] 140)).cell? ⟨w.heap.size, 1, none⟩ = some (.int .i64 lvl) := by rw [hb3.cell]; rfl
 have q0 : (w2.alloc (.cells #[.int .i64 pg, .int .i64 n, .slice ao lq cp] 140)).cell? ⟨w.heap.size + 1, 0, none⟩ = some (.int .i64 0) := by rw [hbr3.cell]; rfl
 have q1 : (w2.alloc (.cells #[.int .i64 pg, .int .i64 n, .slice ao lq cp] 140)).cell? ⟨w.heap.size + 1, 1, none⟩ = some (.int .i64 0) := by rw [hbr3.cell]; rfl
 have q2 : (w2.alloc (.cells #[.int .i64 pg, .int .i64 n, .slice ao lq cp] 140)).cell? ⟨w.heap.size + 1, 2, none⟩ = some (.slice none 0 0) := by rw [hbr3.cell]; rfl
 have g0 := hbr3.frozen 0
 have g1 := hbr3.frozen 1
 have g2 := hbr3.frozen 2
 have HO := Lib.hid (ho.below hal3)
 have HB23 := Lib.hid hb23
 have HBR3 := Lib.hid hbr3
 clear ho hb2 hal3 hb23 hb3 hbr3 HRD a0 a1 e2
 go_wp2_with fail
 repeat rw [Exit.noGoto_ret]
 have hbf := Lib.hid (((HBR3.out.set 0 (.int .i64 pg)).set 1 (.int .i64 n)).set 2 (.slice ao lq cp))
 obtain ⟨w3, hw3⟩ : ∃ w3, w3 = w2.alloc (.cells #[.int .i64 pg, .int .i64 n, .slice ao lq cp] 140) := ⟨_, rfl⟩
 rw [← hw3] at hbf HO HB23 ⊢
 have hms := Lib.hid ((((Moved.refl (· = w.heap.size + 1) w3).setCell ⟨w.heap.size + 1, 0, none⟩ (.int .i64 pg) (.inl rfl)).setCell ⟨w.heap.size + 1, 1, none⟩ (.int .i64 n) (.inl rfl)).setCell ⟨w.heap.size + 1, 2, none⟩ (.slice ao lq cp) (.inl rfl))
 refine bodyPost_ret (results_cell_tmp_row rfl _ _ (w.heap.size + 1) 140 _ (0, 0) _ rfl hbf.out Tryz.underlying140 rfl (by kernel_rfl)) rfl ?_
 have hlt := HBR.out.lt
 have h1s := HB23.out.size
 refine ⟨.slice ao lq cp, rfl, (HO.out.moved hms.out (fun q hq e => by have := (HO.out.lt q hq).1; omega)).mono HAL.out.size, ?_⟩
 exact HAL.out.trans ((HB23.out.mono HAL.out.size).trans (hms.out.below (fun j hj => by omega) (by have := HAL.out.size; omega)))
/-- Going down the first kids: where the least entry is looked for, with so many levels left. -/
def LeastAt (N : Nat) (H : Lg) (goal : Option Ent) : Nat → Ent → Prop
 | 0, x => goal = some x
 | L + 1, x => ∃ s : BT Ent L, Stored N H s ∧ s.Proper ∧ x = kidE (s.page : Int) ∧ s.first = goal
theorem LeastAt.step {N : Nat} {H : Lg} {L : Nat} {s : BT Ent L} (hs : Stored N H s) (hp : s.Proper) : ∃ y tl, ents s = y :: tl ∧ LeastAt N H s.first L y := by
 cases L with
 | zero =>
  have h1 : BT.flat s ≠ [] := hp
  have e : ents s = BT.flat s := ients_leaf _
  cases hf : BT.flat s with
  | nil => exact (h1 hf).elim
  | cons y tl => exact ⟨y, tl, by rw [e, hf], by show BT.first s = some y; show (BT.flat s).head? = some y; rw [hf]; rfl⟩
 | succ L =>
  have h1 : 2 ≤ (BT.kids s).length := hp.1
  have h2 : ∀ k ∈ BT.kids s, k.Proper := hp.2
  have e : ents s = (BT.kids s).map (fun k => kidE (k.page : Int)) := rfl
  cases hk : BT.kids s with
  | nil => rw [hk] at h1; simp at h1
  | cons k tl =>
   refine ⟨kidE (k.page : Int), tl.map (fun k => kidE (k.page : Int)), by rw [e, hk]; rfl, k, hs.kids k (by rw [hk]; simp), h2 k (by rw [hk]; simp), rfl, ?_⟩
   show BT.first k = (BT.kids s).head?.bind (fun k => BT.first k)
   rw [hk]; rfl
set_option maxHeartbeats 4000000 in
theorem least_any {w0 w : World} {X : Nat → Prop} {r p N M c : Nat} {G : Lg} {H : Option Lg} (h : Pb w0 w X r p N M c G H) {n : Nat} {t : BT Ent n} (hs : Stored N (H.getD G) t) (hp : t.Proper) (at' : Int) (v : Value) (es : List Ent) (i : Nat) (hes : Ens w v es) (hi : es[i]? = some (kidE (t.page : Int))) (hn : n ≤ 20) (lvl : Int) (hlv : lvl = n + 1) :
 Calls Tryz.prog 163 #[.pointer (some ⟨p, 0, none⟩), nodeV at' lvl v, .int .i64 i] w fun e w' => ∃ x : Ent, t.first = some x ∧ e = .returned (.tuple #[.string x.key, .int .i64 0]) ∧ Below w.heap.size w w' := by
 have hil : i < es.length := (List.getElem?_eq_some_iff.1 hi).1
 have hie : es[i] = kidE (t.page : Int) := (List.getElem?_eq_some_iff.1 hi).2
 obtain ⟨b, off, cap, rfl, hc1, hc2, hbs, hce⟩ := hes.at (by omega)
 obtain ⟨d0, d1, d2⟩ := hce i hil
 rw [hie] at d0 d1 d2
 obtain ⟨q, hq⟩ : ∃ q, q = es.length := ⟨_, rfl⟩
 rw [← hq] at hil hc1 ⊢
 have hst : LeastAt N (H.getD G) t.first (n + 1) (kidE (t.page : Int)) := ⟨t, hs, hp, rfl, rfl⟩
 obtain ⟨kx, hkx⟩ : ∃ kx, kx = kidE (t.page : Int) := ⟨_, rfl⟩
 rw [← hkx] at d0 d1 d2 hst
 obtain ⟨goal, hgoal⟩ : ∃ goal, goal = t.first := ⟨_, rfl⟩
 rw [← hgoal] at hst ⊢
 have hal0 : Below w.heap.size w (w.alloc (.cells #[.int .i64 at', .int .i64 lvl, .slice (some ⟨b, off, none⟩) q cap] 140)) := (Below.refl _ w).alloc (Nat.le_refl _) _
 have hb0 := Blk.new w #[.int .i64 at', .int .i64 lvl, .slice (some ⟨b, off, none⟩) q cap] 140
 have hs0 : (w.alloc (.cells #[.int .i64 at', .int .i64 lvl, .slice (some ⟨b, off, none⟩) q cap] 140)).heap.size = w.heap.size + 1 := by simp
 obtain ⟨wa, hwa⟩ : ∃ wa, wa = w.alloc (.cells #[.int .i64 at', .int .i64 lvl, .slice (some ⟨b, off, none⟩) q cap] 140) := ⟨_, rfl⟩
 rw [← hwa] at hal0 hb0 hs0
 have hal1 : Below wa.heap.size wa (wa.alloc (.cells #[.string kx.key, .string kx.val, .int .i64 kx.kid] 121)) := (Below.refl _ wa).alloc (Nat.le_refl _) _
 have hbr := Blk.new wa #[.string kx.key, .string kx.val, .int .i64 kx.kid] 121
 rw [hs0] at hbr
 obtain ⟨w1, hw1⟩ : ∃ w1, w1 = wa.alloc (.cells #[.string kx.key, .string kx.val, .int .i64 kx.kid] 121) := ⟨_, rfl⟩
 rw [← hw1] at hal1 hbr
 have hal : Below w.heap.size w w1 := hal0.trans (hal1.mono hal0.size)
 have hb : Blk w1 w.heap.size _ _ := hb0.moved (Moved.of_below hal1 (fun _ => False)) (fun h => h)
 have a1 : wa.cell? ⟨w.heap.size, 1, none⟩ = some (.int .i64 lvl) := by rw [hb0.cell]; rfl
 have a2 : wa.cell? ⟨w.heap.size, 2, none⟩ = some (.slice (some ⟨b, off, none⟩) q cap) := by rw [hb0.cell]; rfl
 have e0 := (hal0.cell (show (⟨b, off + i * 3, none⟩ : Addr).block < _ from hbs)).trans d0
 have e1 := (hal0.cell (show (⟨b, off + i * 3 + 1, none⟩ : Addr).block < _ from hbs)).trans d1
 have e2 := (hal0.cell (show (⟨b, off + i * 3 + 2, none⟩ : Addr).block < _ from hbs)).trans d2
 have b1 : w1.cell? ⟨w.heap.size, 1, none⟩ = some (.int .i64 lvl) := by rw [hb.cell]; rfl
 have HAL := Lib.hid hal
 have HBR := Lib.hid hbr
 have HS0 := Lib.hid hs0
 have HST := Lib.hid hst
 have HPB := Lib.hid (h.take hal)
 have HW0 := Lib.hid h.below.size
 have HW1 := Lib.hid (show w1 = (w.alloc (.cells #[.int .i64 at', .int .i64 lvl, .slice (some ⟨b, off, none⟩) q cap] 140)).alloc (.cells #[.string kx.key, .string kx.val, .int .i64 kx.kid] 121) by rw [hw1, hwa])
 have i1 : (i : Int) < q := by omega
 have i3 : (n : Int) ≤ 20 := by omega
 have i6 : lvl ≤ 21 := by omega
 have i7 : 1 ≤ lvl := by omega
 have HLV := Lib.hid hlv
 rw [hwa] at a1 a2 e0 e1 e2
 rw [HW1.out] at b1
 unfold nodeV
 clear hlv h hs hp hal hal0 hal1 hb hb0 hbr hes hi hie hce d0 d1 d2 hq hkx hw1 hwa hs0 hst hgoal
 go_enter Tryz.func163, Tryz.ntmps163
 go_wp2_with fail
 rw [← HW1.out]
 go_loopw [9, 10, 11, 12, 13] (fun l _ _ _ _ wr => ∃ (L : Nat) (x : Ent), L ≤ n + 1 ∧ l = .int .i64 ((L : Int) - 1) ∧ LeastAt N (H.getD G) goal L x ∧ Blk wr (w.heap.size + 1) #[.string x.key, .string x.val, .int .i64 x.kid] 121 ∧ Moved (· = w.heap.size + 1) w1 wr) (fun l _ _ _ _ _ => (intOf l + 1).toNat)
 case atStart => exact ⟨n + 1, kx, Nat.le_refl _, by have := HLV.out; congr 1; omega, HST.out, HBR.out, Moved.refl _ _⟩
 case round =>
  obtain ⟨L, x, hL, rfl, hx, hbk, hm⟩ := hrel
  have HX := Lib.hid hx
  have HBK := Lib.hid hbk
  have HM := Lib.hid hm
  have x0 : wr.cell? ⟨w.heap.size + 1, 0, none⟩ = some (.string x.key) := by rw [hbk.cell]; rfl
  have x2 : wr.cell? ⟨w.heap.size + 1, 2, none⟩ = some (.int .i64 x.kid) := by rw [hbk.cell]; rfl
  clear hx hbk hm
  cases L with
  | zero =>
   go_wp2_with fail
   go_ret2
   exact ⟨x, HX.out, rfl, HAL.out.trans (HM.out.below (B := w.heap.size) (fun j hj => by omega) HAL.out.size)⟩
  | succ L =>
   obtain ⟨s, hss, hsp, hxs, hg⟩ := HX.out
   obtain ⟨y, tl, hy, hstep⟩ := LeastAt.step hss hsp
   have hnd := hss.node
   rw [hy] at hnd
   have hpb := HPB.out.mv HM.out (fun k hk => ⟨.inr (by rw [hk]; have := HBR.out.lt; omega), by rw [hk]; have := HW0.out; omega⟩)
   have hop := open_any hpb hnd
   have hkk : x.kid = (s.page : Int) := by rw [hxs]; rfl
   rw [← hkk] at hop
   have HOP := Lib.hid hop
   have HWF := Lib.hid (hnd.wf y (by simp))
   have HG := Lib.hid hg
   have HSTEP := Lib.hid hstep
   have i4 : (0 : Int) ≤ L := by omega
   have i5 : (L : Int) ≤ 20 := by omega
   clear hss hsp hxs hg hy hstep hnd hpb hop hkk
   go_wp2_with fail
   refine HOP.out.mono ?_
   rintro en w2 ⟨rd, E, zs, rfl, hE, hr, hb2⟩
   have hEr : E rd := hr.2.1
   have hrd := hE rd hEr
   have hnx := next_any y ((L : Nat) : Int) HWF.out (by rw [← List.append_assoc]; exact hr) (fun j hj => (hE j hj).2)
   have HNX := Lib.hid hnx
   have HB2 := Lib.hid hb2
   have HRD := Lib.hid hrd
   clear hE hr hb2 HOP hEr hrd hnx
   go_wp2_with fail
   refine HNX.out.mono ?_
   rintro en w3 ⟨rfl, hr3, hm3⟩
   have hb3 : Below wr.heap.size wr w3 := HB2.out.trans (hm3.below (fun j hj => by rw [hj]; exact HRD.out.1) HB2.out.size)
   have hbk3 := HBK.out.moved (Moved.of_below hb3 (fun _ => False)) (fun h => h)
   have z0 : w3.cell? ⟨w.heap.size + 1, 0, none⟩ = some (.string x.key) := by rw [hbk3.cell]; rfl
   have z1 : w3.cell? ⟨w.heap.size + 1, 1, none⟩ = some (.string x.val) := by rw [hbk3.cell]; rfl
   have z2 : w3.cell? ⟨w.heap.size + 1, 2, none⟩ = some (.int .i64 x.kid) := by rw [hbk3.cell]; rfl
   have g0 := hbk3.frozen 0
   have g1 := hbk3.frozen 1
   have g2 := hbk3.frozen 2
   have HBK3 := Lib.hid hbk3
   have HM3 := Lib.hid (HM.out.trans (Moved.of_below hb3 (· = w.heap.size + 1)) (fun j hj => .inl hj))
   clear hr3 hm3 hb3 hbk3 HNX
   unfold Ent.agg
   go_wp2_with fail
   go_roundw
   case rel => exact ⟨L, y, by omega, by go_num, by rw [← HG.out]; exact HSTEP.out, ((HBK3.out.set 0 _).set 1 _).set 2 _, ((HM3.out.setCell _ _ (.inl rfl)).setCell _ _ (.inl rfl)).setCell _ _ (.inl rfl)⟩
   case measure => simp [intOf]
end Go.Proofs.YtbpdapcmaioeiaaGreat
namespace Go.Proofs.YtbpdapcmaioeiaaGreat
open Go.RowKit Go.Maps
set_option maxRecDepth 100000
set_option linter.unusedVariables false
theorem Tryz.infoNode : (Tryz.prog.info? 140).map (fun i => (i.zero, i.size, i.bytes)) = some (some (.agg #[.int .i64 0, .int .i64 0, .slice none 0 0]), 3, 40) := by kernel_rfl
def Stp.ncell (s : Stp) : List Value := [.int .i64 s.at', .int .i64 s.lvl, s.v]
def ncells (ss : List Stp) : List Value := ss.flatMap Stp.ncell
theorem ncells_append (a b : List Stp) : ncells (a ++ b) = ncells a ++ ncells b := by unfold ncells; rw [List.flatMap_append]
theorem ncells_at : ∀ (ss : List Stp) (k : Nat) (hk : k < ss.length), (ncells ss)[k * 3]? = some (.int .i64 ss[k].at') ∧ (ncells ss)[k * 3 + 1]? = some (.int .i64 ss[k].lvl) ∧ (ncells ss)[k * 3 + 2]? = some ss[k].v
 | s :: t, 0, _ => ⟨rfl, rfl, rfl⟩
 | s :: t, k + 1, hk => by
  have ih := ncells_at t k (by simpa using hk)
  have e : ncells (s :: t) = s.ncell ++ ncells t := rfl
  have hl : s.ncell.length = 3 := rfl
  have g : ∀ j, (ncells (s :: t))[(k + 1) * 3 + j]? = (ncells t)[k * 3 + j]? := fun j => by
   rw [e, List.getElem?_append_right (by rw [hl]; omega), hl]; congr 1; omega
  have g0 := g 0
  simp only [Nat.add_zero] at g0
  rw [g0, g 1, g 2]
  simpa using ih
def Stp.nd (s : Stp) : Nd' := ⟨s.at', s.lvl, s.es⟩
/-- A row of nodes, the call's own; it, and the entries', are of S. -/
def Ndo (w : World) (S : Nat → Prop) (v : Value) (ss : List Stp) : Prop :=
 w.ownsRow 0 140 3 v ss.length (ncells ss) ∧ (∀ q, v.ownBlock = some q → S q) ∧ ∀ s ∈ ss, Ens w s.v s.es ∧ ∀ q, s.v.ownBlock = some q → S q ∧ q < w.heap.size ∧ v.ownBlock ≠ some q
section
variable {w w' : World} {S : Nat → Prop} {v : Value} {ss : List Stp}
theorem Ndo.nil (w : World) (S : Nat → Prop) : Ndo w S (.slice none 0 0) [] := ⟨World.ownsRow_nil _ _ _ _, (fun q h => by cases h), (fun s hs => by cases hs)⟩
theorem Ndo.lt (h : Ndo w S v ss) : ∀ q, v.ownBlock = some q → q < w.heap.size := fun q hq => (h.1.lt q hq).2
theorem Ndo.moved {P : Nat → Prop} (h : Ndo w S v ss) (hm : Moved P w w') (hP : ∀ q, S q → q < w.heap.size → ¬ P q) : Ndo w' S v ss := by
 obtain ⟨h1, h2, h3⟩ := h
 have hs := hm.size
 refine ⟨owns_moved h1 hm (fun q hq => hP q (h2 q hq) (h1.lt q hq).2), h2, fun s hs' => ?_⟩
 obtain ⟨k1, k2⟩ := h3 s hs'
 exact ⟨k1.moved hm (fun _ q hq => hP q (k2 q hq).1 (k2 q hq).2.1), fun q hq => ⟨(k2 q hq).1, by have := (k2 q hq).2.1; omega, (k2 q hq).2.2⟩⟩
theorem Ndo.below (h : Ndo w S v ss) (hb : Below w.heap.size w w') : Ndo w' S v ss := h.moved (Moved.of_below hb (fun _ => False)) (fun _ _ _ h => h)
theorem Ndo.more {S' : Nat → Prop} (h : Ndo w S v ss) (hS : ∀ q, S q → q < w.heap.size → S' q) : Ndo w S' v ss :=
 ⟨h.1, fun q hq => hS q (h.2.1 q hq) (h.lt q hq), fun s hs => ⟨(h.2.2 s hs).1, fun q hq => ⟨hS q ((h.2.2 s hs).2 q hq).1 ((h.2.2 s hs).2 q hq).2.1, ((h.2.2 s hs).2 q hq).2⟩⟩⟩
theorem Ndo.nds (h : Ndo w S v ss) : Nds w S v (ss.map Stp.nd) := by
 obtain ⟨h1, h2, h3⟩ := h
 have hlt := h1.lt
 obtain ⟨ao, cap, rfl, k1, k2⟩ := owns_form h1
 refine ⟨ao, cap, by rw [List.length_map], by rw [List.length_map]; exact k1, k2, fun k hk => ?_⟩
 rw [List.length_map] at hk
 rcases id h1.2 with ⟨e, hn⟩ | ⟨g, cap', cur, e, hb, hh, k3, k4, k5, k6⟩
 ·omega
 ·simp only [Value.slice.injEq, true_and] at e
  obtain ⟨rfl, rfl⟩ := e
  have hc := fun j (u : Value) (hj : (ncells ss)[j]? = some u) => (show w.cell? ⟨g, j, none⟩ = some u by have := World.ownsRow.cells h1 (g := g) rfl (j := j) (u := u) hj; rwa [Addr.add_lit, Nat.zero_add] at this)
  obtain ⟨c0, c1, c2⟩ := ncells_at ss k hk
  obtain ⟨h4, h5⟩ := h3 _ (List.getElem_mem hk)
  refine ⟨g, 0, rfl, (hlt g rfl).2, h2 g rfl, ss[k].v, ?_, ?_, ?_, ?_, fun q hq => (h5 q hq).1⟩
  ·rw [Nat.zero_add, List.getElem_map]; exact hc _ _ c0
  ·rw [Nat.zero_add, List.getElem_map]; exact hc _ _ c1
  ·rw [Nat.zero_add]; exact hc _ _ c2
  ·rw [List.getElem_map]; exact h4
end
/-- l = append(l, n) -/
theorem wpList_append_node {w : World} {ops : Array Oper} {rest : List Oper} {o : Oper} {a : Act} {Q : Exit → Act → World → Prop} (hgd : o.guard = none) (s x : Operand)
 (ho : o.op = .call { callee := .builtin .append, args := #[s, x], argTypes := #[178, 178] }) (S : Nat → Prop)
 (v : Value) (ss : List Stp) (hs : a.eval s = v) (hown : Ndo w S v ss) (g0 : Nat) (hx : a.eval x = .slice (some ⟨g0, 0, none⟩) 1 1) (e : Stp) (hg : Blk w g0 e.ncell.toArray 140)
 (he : Ens w e.v e.es) (hev : ∀ q, e.v.ownBlock = some q → S q ∧ q < w.heap.size ∧ v.ownBlock ≠ some q) (n : Nat) (hn : n = ss.length + 1) (hl : n ≤ 1000000)
 (h : ∀ g cap w', Ndo w' (fun q => S q ∨ (w.heap.size ≤ q ∧ q < w'.heap.size)) (.slice (some ⟨g, 0, none⟩) n cap) (ss ++ [e]) → n ≤ cap → cap ≤ 9223372036854775807 → w.grownBy w' v.ownBlock → (v.ownBlock = some g ∨ w.heap.size ≤ g) → wpList Tryz.prog ops Q rest (a.put o.dst (.slice (some ⟨g, 0, none⟩) n cap)) w') :
 wpList Tryz.prog ops Q (o :: rest) a w := by
 obtain ⟨i0, hi, hz0, hz1, hz2⟩ := info_parts Tryz.infoNode
 obtain ⟨h1, h2, h3⟩ := hown
 have hev1 : e.v.oneCell' = true := by
  obtain ⟨ao, c, h, -⟩ := he.form
  rw [h]; rfl
 refine wpList_append_lies w hgd s x _ ho 0 140 i0 _ 3 40 Tryz.underlying178 hi hz0 hz1 hz2 rfl (by decide) v ss.length (ncells ss) hs h1 ⟨g0, 0, none⟩ 1 1 e.ncell hx rfl ?_ ?_ (by decide) (by simp [maxLen]; omega) (by omega) (Nat.zero_le _) _ rfl ?_
 ·intro j u hj
  rw [show (⟨g0, 0, none⟩ : Addr).add j = ⟨g0, j, none⟩ from by unfold Addr.add; split <;> simp_all, hg.cell]
  simpa using hj
 ·intro u hu
  simp [Stp.ncell] at hu
  rcases hu with rfl | rfl | rfl
  ·rfl
  ·rfl
  ·exact hev1
 ·intro g cap w' k1 k2 k3 k4
  subst hn
  obtain ⟨aox, capx, ex, hx1, hx2⟩ := owns_form k1
  simp only [Value.slice.injEq] at ex
  obtain ⟨-, -, rfl⟩ := ex
  have hsz := k2.size
  have hm : Moved (fun q => v.ownBlock = some q) w w' := ⟨k2.os, k2.tape, k2.output, k2.size, fun q hq hn => k2.block q hq (fun e => hn e.symm)⟩
  have hgn : ∀ q, q < w.heap.size → v.ownBlock ≠ some q → g ≠ q := fun q hq hv e => by
   rcases k3 with k3 | k3
   ·exact hv (by rw [k3, e])
   ·omega
  refine h g cap w' ⟨by rw [ncells_append, List.length_append]; simpa [ncells] using k1, fun q hq => ?_, fun s hs => ?_⟩ hx1 hx2 k2 (k3.imp id (fun e => by omega))
  ·have hgq : g = q := Option.some.inj hq
   subst hgq
   rcases k3 with k3 | k3
   ·exact .inl (h2 _ k3)
   ·exact .inr ⟨by omega, k4⟩
  ·rcases List.mem_append.1 hs with hs | hs
   ·obtain ⟨a1, a2⟩ := h3 s hs
    exact ⟨a1.moved hm (fun _ q hq => (a2 q hq).2.2), fun q hq => ⟨.inl (a2 q hq).1, by have := (a2 q hq).2.1; omega, fun e => hgn q (a2 q hq).2.1 (a2 q hq).2.2 (Option.some.inj e)⟩⟩
   ·rw [List.mem_singleton] at hs
    subst hs
    exact ⟨he.moved hm (fun _ q hq => (hev q hq).2.2), fun q hq => ⟨.inl (hev q hq).1, by have := (hev q hq).2.1; omega, fun e => hgn q (hev q hq).2.1 (hev q hq).2.2 (Option.some.inj e)⟩⟩
/-- A node of a tree, as the code has it. -/
def ndT {n : Nat} (t : BT Ent n) : Nd' := ⟨(t.page : Int), ((n : Nat) : Int), ents t⟩
theorem allEs_ndT {n : Nat} (l : List (BT Ent n)) : allEs (l.map ndT) = (l.flatMap BT.items).map ient := by
 unfold allEs
 rw [List.flatMap_map, List.map_flatMap]
 rfl
theorem grp_succ {β : Type} {l : List β} {fr d : Nat} (h : fr + d < l.length) : (l.drop fr).take (d + 1) = (l.drop fr).take d ++ [l[fr + d]] := by
 rw [List.take_succ_eq_append_getElem (by rw [List.length_drop]; omega), List.getElem_drop]
theorem mid_other {β : Type} {ka kb : List β} {c : β} {P : β → Prop} (ha : ∀ k ∈ ka, P k) (hb : ∀ k ∈ kb, P k) (j : Nat) (hj : j < (ka ++ c :: kb).length) (hne : j ≠ ka.length) : P (ka ++ c :: kb)[j] := by
 by_cases h : j < ka.length
 ·rw [List.getElem_append_left h]; exact ha _ (List.getElem_mem _)
 ·rw [List.getElem_append_right (by omega)]
  obtain ⟨d, hd⟩ : ∃ d, j - ka.length = d + 1 := ⟨j - ka.length - 1, by omega⟩
  simp only [hd, List.getElem_cons_succ]
  exact hb _ (List.getElem_mem _)
/-- Which nodes are laid anew together: those about the changed one, or it alone; what is ahead of them, and behind. -/
structure Grouped {n : Nat} (ka kb : List (BT Ent n)) (t : BT Ent n) (old la lb : List (BT Ent n)) (fl : Nat) : Prop where
 len : fl = la.length
 ex : ∃ (old0 : List (BT Ent n)) (fr to : Nat), fr = min (ka.length - 1) ((ka ++ t :: kb).length - 3) ∧ to = min (fr + 3) (ka ++ t :: kb).length ∧ old0 = ((ka ++ t :: kb).drop fr).take (to - fr) ∧
  ((old = old0 ∧ la = ka.take fr ∧ lb = kb.drop (to - (ka.length + 1)) ∧ (Parts.parts isz 502 (old0.flatMap BT.items)).length ≤ old0.length) ∨ (old = [t] ∧ la = ka ∧ lb = kb ∧ old0.length < (Parts.parts isz 502 (old0.flatMap BT.items)).length))
theorem ewf_ok {lvl : Int} {e : Ent} (h : EWf lvl e) : EntOk e := by
 unfold EWf at h
 split at h
 ·obtain ⟨h1, h2, -⟩ := h
  refine ⟨?_, ?_⟩
  ·rw [h1]; decide
  ·rw [h2]; decide
 ·exact LeafE.ok h
theorem allEs_bound {n B : Nat} : ∀ {l : List (BT Ent n)}, (∀ x ∈ l, (ents x).length ≤ B) → (allEs (l.map ndT)).length ≤ l.length * B
 | [], _ => by simp [allEs]
 | x :: l, h => by
  have h1 := h x (by simp)
  have h2 := allEs_bound (l := l) (fun y hy => h y (by simp [hy]))
  have e : allEs ((x :: l).map ndT) = ents x ++ allEs (l.map ndT) := rfl
  rw [e, List.length_append, List.length_cons, Nat.succ_mul]; omega
theorem Nds.mono {w : World} {S S' : Nat → Prop} {v : Value} {ns : List Nd'} (h : Nds w S v ns) (hS : ∀ q, S q → S' q) : Nds w S' v ns := by
 obtain ⟨ao, cap, e, h1, h2, h3⟩ := h
 refine ⟨ao, cap, e, h1, h2, fun k hk => ?_⟩
 obtain ⟨b, off, e', hlt, hb, u, c0, c1, c2, hu, hq⟩ := h3 k hk
 exact ⟨b, off, e', hlt, hS b hb, u, c0, c1, c2, hu, fun q h => hS q (hq q h)⟩
set_option maxHeartbeats 8000000 in
theorem together_any {w0 w : World} {X : Nat → Prop} {r p N M c : Nat} {G : Lg} {H : Option Lg} (h : Pb w0 w X r p N M c G H) {n : Nat} {ka kb : List (BT Ent n)} {t : BT Ent n} (hka : ∀ k ∈ ka, Stored N (H.getD G) k ∧ k.Proper) (hkb : ∀ k ∈ kb, Stored N (H.getD G) k ∧ k.Proper)
 (pg : Int) (av tv : Value) (hav : Ens w av ((ka ++ t :: kb).map (fun k => kidE (k.page : Int)))) (htv : Ens w tv (ents t)) (htb : ∀ q, tv.ownBlock = some q → q < w.heap.size) (h1 : 1 ≤ ka.length + kb.length) (hl : (ka ++ t :: kb).length ≤ 300) (hn : n ≤ 20) (hte : (ents t).length ≤ 1000) (hok : ∀ e ∈ ents t, EntOk e) (lvl : Int) (hlv : lvl = n + 1) :
 Calls Tryz.prog 117 #[.pointer (some ⟨p, 0, none⟩), stepV pg lvl av ka.length, nodeV (t.page : Int) ((n : Nat) : Int) tv] w fun e w' => ∃ (old la lb : List (BT Ent n)) (fl : Nat) (v' : Value), e = .returned (.tuple #[v', .int .i64 fl, .int .i64 0]) ∧ Grouped ka kb t old la lb fl ∧
  Nds w' (fun q => tv.ownBlock = some q ∨ (w.heap.size ≤ q ∧ q < w'.heap.size)) v' (old.map ndT) ∧ Below w.heap.size w w' := by
 obtain ⟨ao, ac, rfl, hac1, hac2⟩ := hav.form
 obtain ⟨to', tc, rfl, htc1, htc2⟩ := htv.form
 obtain ⟨q, hq⟩ : ∃ q, q = (ka ++ t :: kb).length := ⟨_, rfl⟩
 have hlm : ((ka ++ t :: kb).map (fun k => kidE (k.page : Int))).length = q := by rw [List.length_map, hq]
 obtain ⟨tn, htn⟩ : ∃ tn, tn = (ents t).length := ⟨_, rfl⟩
 obtain ⟨kn, hkn⟩ : ∃ kn, kn = ka.length := ⟨_, rfl⟩
 rw [hlm] at hav hac1 ⊢
 rw [← htn] at htv htc1 htb ⊢
 rw [← hkn] at ⊢
 have hal0 : Below w.heap.size w (w.alloc (.cells #[.int .i64 pg, .int .i64 lvl, .slice ao q ac, .int .i64 kn] 142)) := (Below.refl _ w).alloc (Nat.le_refl _) _
 have hb0 := Blk.new w #[.int .i64 pg, .int .i64 lvl, .slice ao q ac, .int .i64 kn] 142
 have hs0 : (w.alloc (.cells #[.int .i64 pg, .int .i64 lvl, .slice ao q ac, .int .i64 kn] 142)).heap.size = w.heap.size + 1 := by simp
 obtain ⟨wa, hwa⟩ : ∃ wa, wa = w.alloc (.cells #[.int .i64 pg, .int .i64 lvl, .slice ao q ac, .int .i64 kn] 142) := ⟨_, rfl⟩
 rw [← hwa] at hal0 hb0 hs0
 obtain ⟨tp, htp⟩ : ∃ tp : Int, tp = (t.page : Int) := ⟨_, rfl⟩
 have hal1 : Below wa.heap.size wa (wa.alloc (.cells #[.int .i64 tp, .int .i64 ((n : Nat) : Int), .slice to' tn tc] 140)) := (Below.refl _ wa).alloc (Nat.le_refl _) _
 have hbr := Blk.new wa #[.int .i64 tp, .int .i64 ((n : Nat) : Int), .slice to' tn tc] 140
 rw [hs0] at hbr
 obtain ⟨w1, hw1⟩ : ∃ w1, w1 = wa.alloc (.cells #[.int .i64 tp, .int .i64 ((n : Nat) : Int), .slice to' tn tc] 140) := ⟨_, rfl⟩
 rw [← hw1] at hal1 hbr
 have hal : Below w.heap.size w w1 := hal0.trans (hal1.mono hal0.size)
 have hb : Blk w1 w.heap.size _ _ := hb0.moved (Moved.of_below hal1 (fun _ => False)) (fun h => h)
 have a2 : w1.cell? ⟨w.heap.size, 2, none⟩ = some (.slice ao q ac) := by rw [hb.cell]; rfl
 have a3 : w1.cell? ⟨w.heap.size, 3, none⟩ = some (.int .i64 kn) := by rw [hb.cell]; rfl
 obtain ⟨fr, hfr⟩ : ∃ fr : Nat, fr = min (kn - 1) (q - 3) := ⟨_, rfl⟩
 obtain ⟨to, hto⟩ : ∃ to : Nat, to = min (fr + 3) q := ⟨_, rfl⟩
 have hkq : kn < q := by rw [hkn, hq, List.length_append, List.length_cons]; omega
 have hq2 : 2 ≤ q := by rw [hq, List.length_append, List.length_cons]; omega
 obtain ⟨mn, hmn⟩ : ∃ mn : Int, (if (q : Int) - 3 < (kn : Int) - 1 then (q : Int) - 3 else (kn : Int) - 1) = mn := ⟨_, rfl⟩
 have hmf : (if 0 < mn then mn else 0) = (fr : Int) := by
  rw [← hmn]
  split <;> split <;> omega
 have htf : (if (q : Int) < (fr : Int) + 3 then (q : Int) else (fr : Int) + 3) = (to : Int) := by
  split <;> omega
 have hmb : -1 ≤ mn ∧ mn ≤ 300 := by
  have : q ≤ 300 := by rw [hq]; exact hl
  rw [← hmn]; split <;> omega
 have hq3 : q ≤ 300 := by rw [hq]; exact hl
 have HW1 := Lib.hid (show w1 = (w.alloc (.cells #[.int .i64 pg, .int .i64 lvl, .slice ao q ac, .int .i64 kn] 142)).alloc (.cells #[.int .i64 tp, .int .i64 ((n : Nat) : Int), .slice to' tn tc] 140) by rw [hw1, hwa])
 have HAL := Lib.hid hal
 have HB := Lib.hid hb
 have HBR := Lib.hid hbr
 have HPB := Lib.hid (h.grow hal)
 have HAV := Lib.hid (hav.below hal)
 have HTV := Lib.hid (htv.below hal)
 have HTB := Lib.hid htb
 have HKA := Lib.hid hka
 have HKB := Lib.hid hkb
 have HQ := Lib.hid hq
 have HTN := Lib.hid htn
 have HKN := Lib.hid hkn
 have HFR := Lib.hid hfr
 have HTO := Lib.hid hto
 have HTP := Lib.hid htp
 have HLV := Lib.hid hlv
 have HOK := Lib.hid hok
 have HTE := Lib.hid hte
 have HL := Lib.hid hl
 have hfk : fr ≤ kn ∧ kn < to ∧ to ≤ q ∧ to ≤ fr + 3 := by omega
 obtain ⟨hf1, hf2, hf3, hf4⟩ := hfk
 obtain ⟨hmb1, hmb2⟩ := hmb
 rw [← htp]
 rw [HW1.out] at a2 a3
 unfold stepV nodeV
 clear h hka hkb hav htv htb hq htn hkn hfr hto htp hlv hok hl hal hal0 hal1 hb hb0 hbr hs0 hwa hw1 hlm hte
 go_enter Tryz.func117, Tryz.ntmps117
 go_wp2_with fail
 rw [← HW1.out]
 obtain ⟨TO, hTO⟩ : ∃ TO : Nat → Prop, TO = fun q => (Value.slice to' tn tc).ownBlock = some q := ⟨_, rfl⟩
 have HTO' := Lib.hid hTO
 clear hTO
 go_loopw [9, 12, 13, 14] (fun v9 i _ _ wr => ∃ (k d : Nat) (bo : Option Addr) (bc : Nat) (ss : List Stp), fr ≤ k ∧ k ≤ to ∧ d + fr = k ∧ i = .int .i64 k ∧ v9 = .slice bo d bc ∧ d ≤ bc ∧ bc ≤ 9223372036854775807 ∧ d = ss.length ∧ ss.map Stp.nd = (((ka ++ t :: kb).drop fr).take d).map ndT ∧
  Ndo wr (fun q => TO q ∨ (w1.heap.size ≤ q ∧ q < wr.heap.size)) v9 ss ∧ Below w1.heap.size w1 wr ∧ ∀ q, v9.ownBlock = some q → w1.heap.size ≤ q) (fun _ i _ _ _ => to - (intOf i).toNat)
 case atStart => exact ⟨fr, 0, none, 0, [], Nat.le_refl _, by omega, by omega, rfl, rfl, Nat.le_refl _, by decide, rfl, by simp, Ndo.nil _ _, Below.refl _ _, (fun q hq => by cases hq)⟩
 case round =>
  obtain ⟨k, d, bo, bc, ss, hk1, hk2, hdk, rfl, rfl, hbc1, hbc2, hds, hgrp, hno, hbl, hbo⟩ := hrel
  have HDS := Lib.hid hds
  have HGRP := Lib.hid hgrp
  have HNO := Lib.hid hno
  have HBL := Lib.hid hbl
  have HBO := Lib.hid hbo
  have hbk := HB.out.moved (Moved.of_below hbl (fun _ => False)) (fun h => h)
  have hbkr := HBR.out.moved (Moved.of_below hbl (fun _ => False)) (fun h => h)
  have c0 : wr.cell? ⟨w.heap.size, 0, none⟩ = some (.int .i64 pg) := by rw [hbk.cell]; rfl
  have c1 : wr.cell? ⟨w.heap.size, 1, none⟩ = some (.int .i64 lvl) := by rw [hbk.cell]; rfl
  have c2 : wr.cell? ⟨w.heap.size, 2, none⟩ = some (.slice ao q ac) := by rw [hbk.cell]; rfl
  have c3 : wr.cell? ⟨w.heap.size, 3, none⟩ = some (.int .i64 kn) := by rw [hbk.cell]; rfl
  have r0 : wr.cell? ⟨w.heap.size + 1, 0, none⟩ = some (.int .i64 tp) := by rw [hbkr.cell]; rfl
  have r1 : wr.cell? ⟨w.heap.size + 1, 1, none⟩ = some (.int .i64 n) := by rw [hbkr.cell]; rfl
  have r2 : wr.cell? ⟨w.heap.size + 1, 2, none⟩ = some (.slice to' tn tc) := by rw [hbkr.cell]; rfl
  have HBK := Lib.hid hbk
  have HBKR := Lib.hid hbkr
  clear hds hgrp hno hbl hbo hbk hbkr
  by_cases hlt : k < to
  ·have hlt' : (k : Int) < to := by omega
   have hkl : fr + d < (ka ++ t :: kb).length := by have := HQ.out; omega
   have HKL := Lib.hid hkl
   clear hkl
   have hsucc := grp_succ (l := ka ++ t :: kb) HKL.out
   have HSUCC := Lib.hid hsucc
   have hal2 : Below wr.heap.size wr (wr.alloc (.cells #[.int .i64 tp, .int .i64 n, .slice to' tn tc] 140)) := (Below.refl _ wr).alloc (Nat.le_refl _) _
   have hs2 : (wr.alloc (.cells #[.int .i64 tp, .int .i64 n, .slice to' tn tc] 140)).heap.size = wr.heap.size + 1 := by simp
   have hbk2 := HBK.out.moved (Moved.of_below hal2 (fun _ => False)) (fun h => h)
   have e0 : (wr.alloc (.cells #[.int .i64 tp, .int .i64 n, .slice to' tn tc] 140)).cell? ⟨w.heap.size, 0, none⟩ = some (.int .i64 pg) := by rw [hbk2.cell]; rfl
   have e1 : (wr.alloc (.cells #[.int .i64 tp, .int .i64 n, .slice to' tn tc] 140)).cell? ⟨w.heap.size, 1, none⟩ = some (.int .i64 lvl) := by rw [hbk2.cell]; rfl
   have e2 : (wr.alloc (.cells #[.int .i64 tp, .int .i64 n, .slice to' tn tc] 140)).cell? ⟨w.heap.size, 2, none⟩ = some (.slice ao q ac) := by rw [hbk2.cell]; rfl
   have e3 : (wr.alloc (.cells #[.int .i64 tp, .int .i64 n, .slice to' tn tc] 140)).cell? ⟨w.heap.size, 3, none⟩ = some (.int .i64 kn) := by rw [hbk2.cell]; rfl
   clear hbk2
   have HAL2 := Lib.hid hal2
   have HS2 := Lib.hid hs2
   have HD1 := Lib.hid (show d + 1 = ss.length + 1 by rw [HDS.out])
   have HD2 := Lib.hid (show d + 1 ≤ 1000000 by omega)
   clear hsucc
   by_cases hkk : k = kn
   ·subst hkk
    have hal3 : Below wr.heap.size wr ((wr.alloc (.cells #[.int .i64 tp, .int .i64 n, .slice to' tn tc] 140)).alloc (.cells #[.int .i64 tp, .int .i64 n, .slice to' tn tc] 140)) := hal2.trans (((Below.refl _ _).alloc (Nat.le_refl _) _).mono hal2.size)
    have HN3 := Lib.hid (HNO.out.below hal3)
    have HE3 := Lib.hid ((HTV.out.below HBL.out).below hal3)
    have HBS := Lib.hid (show Blk ((wr.alloc (.cells #[.int .i64 tp, .int .i64 n, .slice to' tn tc] 140)).alloc (.cells #[.int .i64 tp, .int .i64 n, .slice to' tn tc] 140)) (wr.alloc (.cells #[.int .i64 tp, .int .i64 n, .slice to' tn tc] 140)).heap.size (Stp.ncell ⟨tp, (n : Int), .slice to' tn tc, ents t, 0⟩).toArray 140 from Blk.new _ #[.int .i64 tp, .int .i64 n, .slice to' tn tc] 140)
    rw [HS2.out] at HBS
    have HEV := Lib.hid (show ∀ q, (Value.slice to' tn tc).ownBlock = some q → (TO q ∨ (w1.heap.size ≤ q ∧ q < wr.heap.size)) ∧ q < ((wr.alloc (.cells #[.int .i64 tp, .int .i64 n, .slice to' tn tc] 140)).alloc (.cells #[.int .i64 tp, .int .i64 n, .slice to' tn tc] 140)).heap.size ∧ (Value.slice bo d bc).ownBlock ≠ some q from fun q hq => by
     have h1 := HTB.out q hq
     have h2 := HAL.out.size
     have h3 := HBL.out.size
     have h4 := hal3.size
     exact ⟨.inl (by rw [HTO'.out]; exact hq), by omega, fun e => by have := HBO.out q e; omega⟩)
    have HAL3 := Lib.hid hal3
    clear hal2 hs2 hal3
    go_wp2_with (at_builtin; refine wpList_append_node rfl _ _ rfl (fun q => TO q ∨ (w1.heap.size ≤ q ∧ q < wr.heap.size)) (.slice bo d bc) ss rfl HN3.out (wr.heap.size + 1) rfl ⟨tp, (n : Int), .slice to' tn tc, ents t, 0⟩ HBS.out HE3.out HEV.out (d + 1) HD1.out HD2.out ?_; intro g5 cap5 w5 hno5 hx5 hy5 hg5 ho5)
    try go_wp2_with fail
    go_roundw
    case rel =>
     have h3 := HAL3.out.size
     have h5 := hg5.size
     have hbl5 : Below w1.heap.size w1 w5 := (HBL.out.trans (HAL3.out.mono HBL.out.size)).grown hg5 (by have := HBL.out.size; omega) (fun q hq => HBO.out q hq)
     refine ⟨k + 1, d + 1, _, _, ss ++ [⟨tp, (n : Int), .slice to' tn tc, ents t, 0⟩], by omega, by omega, by omega, by go_num, rfl, hx5, hy5, by rw [List.length_append, ← HDS.out]; rfl, ?_, hno5.more (fun q hq hlt => ?_), hbl5, fun q hq => ?_⟩
     ·rw [HSUCC.out, List.map_append, List.map_append, HGRP.out]
      congr 1
      have e : (ka ++ t :: kb)[fr + d]'HKL.out = t := by
       have : fr + d = ka.length := by have := HKN.out; omega
       simp [this]
      rw [e]
      show [Stp.nd _] = [ndT t]
      rw [show tp = (t.page : Int) from HTP.out]; rfl
     ·rcases hq with (hq | hq) | hq
      ·exact .inl hq
      ·exact .inr ⟨hq.1, hlt⟩
      ·exact .inr ⟨by have := HBL.out.size; omega, hlt⟩
     ·have hgq : g5 = q := Option.some.inj hq
      subst hgq
      rcases ho5 with e | e
      ·exact HBO.out _ e
      ·have := HBL.out.size; omega
    case measure => simp [intOf]; omega
   ·have hkk' : ¬ (k : Int) = kn := by omega
    obtain ⟨x, hx⟩ : ∃ x, x = (ka ++ t :: kb)[fr + d]'HKL.out := ⟨_, rfl⟩
    have hxm : Stored N (H.getD G) x ∧ x.Proper := by
     rw [hx]
     refine mid_other (P := fun k => Stored N (H.getD G) k ∧ k.Proper) HKA.out HKB.out _ _ (by have := HKN.out; omega)
    have hxi : ((ka ++ t :: kb).map (fun k => kidE (k.page : Int)))[k]? = some (kidE (x.page : Int)) := by
     have hkd : k = fr + d := by omega
     rw [List.getElem?_map, hkd, List.getElem?_eq_getElem HKL.out, ← hx]; rfl
    have hkd := kid_any ((HPB.out.grow HBL.out).grow hal2) hxm.1 hxm.2 pg (.slice ao q ac) _ k ((HAV.out.below HBL.out).below hal2) hxi hn lvl HLV.out
    unfold nodeV at hkd
    have HKD := Lib.hid hkd
    have HX := Lib.hid hx
    clear hal2 hs2 hx hxm hxi hkd
    go_wp2_with fail
    refine HKD.out.mono ?_
    rintro en w3 ⟨v3, rfl, ho3, hb3⟩
    obtain ⟨xo, xc, rfl, hx1, hx2⟩ := ho3.form
    obtain ⟨xp, hxp⟩ : ∃ xp : Int, xp = (x.page : Int) := ⟨_, rfl⟩
    obtain ⟨lk, hlk⟩ : ∃ lk, lk = (ents x).length := ⟨_, rfl⟩
    rw [← hlk] at ho3 hx1 ⊢
    rw [← hxp]
    have hbn : Blk w3 wr.heap.size #[.int .i64 tp, .int .i64 n, .slice to' tn tc] 140 := (show Blk (wr.alloc (.cells #[.int .i64 tp, .int .i64 n, .slice to' tn tc] 140)) wr.heap.size _ _ from Blk.new wr #[.int .i64 tp, .int .i64 n, .slice to' tn tc] 140).moved (Moved.of_below hb3 (fun _ => False)) (fun h => h)
    have g0 := hbn.frozen 0
    have g1 := hbn.frozen 1
    have g2 := hbn.frozen 2
    have k0 : w3.cell? ⟨wr.heap.size, 0, none⟩ = some (.int .i64 tp) := by rw [hbn.cell]; rfl
    have k1 : w3.cell? ⟨wr.heap.size, 1, none⟩ = some (.int .i64 n) := by rw [hbn.cell]; rfl
    have k2 : w3.cell? ⟨wr.heap.size, 2, none⟩ = some (.slice to' tn tc) := by rw [hbn.cell]; rfl
    have hms := (((Moved.refl (· = wr.heap.size) w3).setCell ⟨wr.heap.size, 0, none⟩ (.int .i64 xp) (.inl rfl)).setCell ⟨wr.heap.size, 1, none⟩ (.int .i64 n) (.inl rfl)).setCell ⟨wr.heap.size, 2, none⟩ (.slice xo lk xc) (.inl rfl)
    have hs5 : (((w3.setCell ⟨wr.heap.size, 0, none⟩ (.int .i64 xp)).setCell ⟨wr.heap.size, 1, none⟩ (.int .i64 n)).setCell ⟨wr.heap.size, 2, none⟩ (.slice xo lk xc)).heap.size = w3.heap.size := by simp
    have hb34 : Below wr.heap.size wr (((w3.setCell ⟨wr.heap.size, 0, none⟩ (.int .i64 xp)).setCell ⟨wr.heap.size, 1, none⟩ (.int .i64 n)).setCell ⟨wr.heap.size, 2, none⟩ (.slice xo lk xc)) := (HAL2.out.trans (hb3.mono HAL2.out.size)).trans (hms.below (fun j hj => by omega) (by have := hb3.size; have := HS2.out; omega))
    have hal5 : Below wr.heap.size wr ((((w3.setCell ⟨wr.heap.size, 0, none⟩ (.int .i64 xp)).setCell ⟨wr.heap.size, 1, none⟩ (.int .i64 n)).setCell ⟨wr.heap.size, 2, none⟩ (.slice xo lk xc)).alloc (.cells #[.int .i64 xp, .int .i64 n, .slice xo lk xc] 140)) := hb34.trans (((Below.refl _ _).alloc (Nat.le_refl _) _).mono hb34.size)
    have hlt3 := ho3.lt
    have hens4 : Ens (((w3.setCell ⟨wr.heap.size, 0, none⟩ (.int .i64 xp)).setCell ⟨wr.heap.size, 1, none⟩ (.int .i64 n)).setCell ⟨wr.heap.size, 2, none⟩ (.slice xo lk xc)) (.slice xo lk xc) (ents x) := ho3.ens.moved hms (fun _ q hq e => by have := (hlt3 q hq).1; have := HS2.out; omega)
    have HE5 := Lib.hid (hens4.below ((Below.refl _ _).alloc (Nat.le_refl _) (.cells #[.int .i64 xp, .int .i64 n, .slice xo lk xc] 140)))
    have HBS := Lib.hid (show Blk ((((w3.setCell ⟨wr.heap.size, 0, none⟩ (.int .i64 xp)).setCell ⟨wr.heap.size, 1, none⟩ (.int .i64 n)).setCell ⟨wr.heap.size, 2, none⟩ (.slice xo lk xc)).alloc (.cells #[.int .i64 xp, .int .i64 n, .slice xo lk xc] 140)) (((w3.setCell ⟨wr.heap.size, 0, none⟩ (.int .i64 xp)).setCell ⟨wr.heap.size, 1, none⟩ (.int .i64 n)).setCell ⟨wr.heap.size, 2, none⟩ (.slice xo lk xc)).heap.size (Stp.ncell ⟨xp, (n : Int), .slice xo lk xc, ents x, 0⟩).toArray 140 from Blk.new _ #[.int .i64 xp, .int .i64 n, .slice xo lk xc] 140)
    rw [hs5] at HBS
    have HN5 := Lib.hid ((HNO.out.below hal5).more (S' := fun q => TO q ∨ (w1.heap.size ≤ q ∧ q < w3.heap.size)) (fun q hq hlt => by
     have := hb3.size
     have := HS2.out
     exact hq.imp id (fun e => ⟨e.1, by omega⟩)))
    have HEV := Lib.hid (show ∀ q, (Value.slice xo lk xc).ownBlock = some q → (TO q ∨ (w1.heap.size ≤ q ∧ q < w3.heap.size)) ∧ q < ((((w3.setCell ⟨wr.heap.size, 0, none⟩ (.int .i64 xp)).setCell ⟨wr.heap.size, 1, none⟩ (.int .i64 n)).setCell ⟨wr.heap.size, 2, none⟩ (.slice xo lk xc)).alloc (.cells #[.int .i64 xp, .int .i64 n, .slice xo lk xc] 140)).heap.size ∧ (Value.slice bo d bc).ownBlock ≠ some q from fun q hq => by
     have h1 := hlt3 q hq
     have h3 := HBL.out.size
     have h4 := HS2.out
     refine ⟨.inr ⟨by omega, h1.2⟩, by simp; omega, fun e => by have := HNO.out.lt q e; omega⟩)
    have HAL5 := Lib.hid hal5
    have HB3 := Lib.hid hb3
    have HXP := Lib.hid hxp
    have HLK := Lib.hid hlk
    clear hbn hms hs5 hb34 hal5 hlt3 hens4 ho3 hb3 hxp hlk HKD c0 c1 c2 c3 r0 r1 r2 e0 e1 e2 e3
    go_wp2_with (at_builtin; refine wpList_append_node rfl _ _ rfl (fun q => TO q ∨ (w1.heap.size ≤ q ∧ q < w3.heap.size)) (.slice bo d bc) ss rfl HN5.out w3.heap.size rfl ⟨xp, (n : Int), .slice xo lk xc, ents x, 0⟩ HBS.out HE5.out HEV.out (d + 1) HD1.out HD2.out ?_; intro g5 cap5 w5 hno5 hx5 hy5 hg5 ho5)
    try go_wp2_with fail
    go_roundw
    case rel =>
     have h3 := HAL5.out.size
     have h5 := hg5.size
     have h6 := HB3.out.size
     have h7 := HS2.out
     have h8 := HBL.out.size
     have hbl5 : Below w1.heap.size w1 w5 := (HBL.out.trans (HAL5.out.mono HBL.out.size)).grown hg5 (by omega) (fun q hq => HBO.out q hq)
     refine ⟨k + 1, d + 1, _, _, ss ++ [⟨xp, (n : Int), .slice xo lk xc, ents x, 0⟩], by omega, by omega, by omega, by go_num, rfl, hx5, hy5, by rw [List.length_append, ← HDS.out]; rfl, ?_, hno5.more (fun q hq hlt => ?_), hbl5, fun q hq => ?_⟩
     ·rw [HSUCC.out, List.map_append, List.map_append, HGRP.out]
      congr 1
      rw [← HX.out]
      show [Stp.nd _] = [ndT x]
      rw [show xp = (x.page : Int) from HXP.out]; rfl
     ·rcases hq with (hq | hq) | hq
      ·exact .inl hq
      ·exact .inr ⟨hq.1, hlt⟩
      ·exact .inr ⟨by omega, hlt⟩
     ·have hgq : g5 = q := Option.some.inj hq
      subst hgq
      rcases ho5 with e | e
      ·exact HBO.out _ e
      ·omega
    case measure => simp [intOf]; omega
  ·obtain rfl : to = k := by omega
   obtain ⟨old0, ho0⟩ : ∃ old0, old0 = ((ka ++ t :: kb).drop fr).take d := ⟨_, rfl⟩
   have hgrp := HGRP.out
   rw [← ho0] at hgrp
   have hnds := HNO.out.nds
   rw [hgrp] at hnds
   have hol : old0.length = d := by rw [ho0, List.length_take, List.length_drop]; have := HQ.out; omega
   have hmem : ∀ x ∈ old0, x = t ∨ (Stored N (H.getD G) x ∧ x.Proper) := by
    intro x hx
    rw [ho0] at hx
    rcases List.mem_append.1 (List.mem_of_mem_drop (List.mem_of_mem_take hx)) with h | h
    ·exact .inr (HKA.out x h)
    ·rcases List.mem_cons.1 h with h | h
     ·exact .inl h
     ·exact .inr (HKB.out x h)
   have hesl : ∀ x ∈ old0, (ents x).length ≤ 1000 ∧ ∀ e ∈ ents x, EntOk e := by
    intro x hx
    rcases hmem x hx with rfl | hx
    ·exact ⟨HTE.out, HOK.out⟩
    ·exact ⟨Nat.le_trans hx.1.node.few (by decide), fun e he => ewf_ok (hx.1.node.wf e he)⟩
   have hall : (allEs (old0.map ndT)).length ≤ 10000 := by
    have := allEs_bound (l := old0) (fun x hx => (hesl x hx).1)
    have : d ≤ 3 := by omega
    have := Nat.mul_le_mul_right 1000 (show old0.length ≤ 3 by omega)
    omega
   have haok : ∀ e ∈ allEs (old0.map ndT), EntOk e := by
    intro e he
    unfold allEs at he
    rw [List.flatMap_map] at he
    obtain ⟨x, hx, hex⟩ := List.mem_flatMap.1 he
    exact (hesl x hx).2 e hex
   have hev := even_any _ _ _ wr hnds (by rw [List.length_map, hol]; omega) (by rw [List.length_map, hol]; omega) hall haok ((n : Nat) : Int) (by rw [List.getElem_map]; rfl)
   have HALL := Lib.hid hall
   have HEV := Lib.hid hev
   have HND := Lib.hid hnds
   have HO0 := Lib.hid ho0
   have HOL := Lib.hid hol
   clear hev hnds ho0 hgrp hol hmem hesl hall haok
   go_wp2_with fail
   refine HEV.out.mono ?_
   rintro en w4 ⟨v4, ls, rfl, hls, ho4, hb4⟩
   obtain ⟨eo, ec, rfl, he1, he2⟩ := ho4.form
   obtain ⟨nl, hnl⟩ : ∃ nl, nl = ls.length := ⟨_, rfl⟩
   rw [← hnl] at he1 ⊢
   have hparts : ls.length = (Parts.parts isz 502 (old0.flatMap BT.items)).length := by
    obtain ⟨m, -, -, h3, -⟩ := hls
    rw [h3, allEs_ndT, parted_ient, List.length_map]
   have hbkw := HBK.out.moved (Moved.of_below hb4 (fun _ => False)) (fun h => h)
   have hbkr := HBKR.out.moved (Moved.of_below hb4 (fun _ => False)) (fun h => h)
   have e3 : w4.cell? ⟨w.heap.size, 3, none⟩ = some (.int .i64 kn) := by rw [hbkw.cell]; rfl
   have e4 : w4.cell? ⟨w.heap.size + 1, 0, none⟩ = some (.int .i64 tp) := by rw [hbkr.cell]; rfl
   have e5 : w4.cell? ⟨w.heap.size + 1, 1, none⟩ = some (.int .i64 n) := by rw [hbkr.cell]; rfl
   have e6 : w4.cell? ⟨w.heap.size + 1, 2, none⟩ = some (.slice to' tn tc) := by rw [hbkr.cell]; rfl
   have hb14 := (HAL.out.trans (HBL.out.mono HAL.out.size)).trans (hb4.mono (Nat.le_trans HAL.out.size HBL.out.size))
   have HB14 := Lib.hid hb14
   have HB4 := Lib.hid hb4
   have HNL := Lib.hid hnl
   have HPA := Lib.hid hparts
   have E3 := Lib.hid e3
   have E4 := Lib.hid e4
   have E5 := Lib.hid e5
   have E6 := Lib.hid e6
   have HLW := Lib.hid (And.intro hbkw.lt hbkr.lt)
   have hnl3 : nl ≤ 100000 := by
    have hh := (partedOf_len ((n : Nat) : Int) 502 (allEs (old0.map ndT))).1
    obtain ⟨m, -, -, h3, -⟩ := hls
    have := HALL.out
    omega
   clear hls ho4 hb4 hnl hparts hbkw hbkr hb14 HEV c0 c1 c2 c3 r0 r1 r2 e3 e4 e5 e6
   by_cases hgt : (d : Int) < nl
   ·go_wp2_with fail
    refine wp_region_any (by kernel_rfl) ?_
    change wpAny _ _ _ _ _ _ _ (World.drew _)
    refine wpAny_of_held (S := fun (w' : World) => w'.cell? ⟨w.heap.size, 3, none⟩ = some (.int .i64 kn) ∧ w'.cell? ⟨w.heap.size + 1, 0, none⟩ = some (.int .i64 tp) ∧ w'.cell? ⟨w.heap.size + 1, 1, none⟩ = some (.int .i64 n) ∧ w'.cell? ⟨w.heap.size + 1, 2, none⟩ = some (.slice to' tn tc)) _ _ _ _ ?_
    have hS : (fun (w' : World) => w'.cell? ⟨w.heap.size, 3, none⟩ = some (.int .i64 kn) ∧ w'.cell? ⟨w.heap.size + 1, 0, none⟩ = some (.int .i64 tp) ∧ w'.cell? ⟨w.heap.size + 1, 1, none⟩ = some (.int .i64 n) ∧ w'.cell? ⟨w.heap.size + 1, 2, none⟩ = some (.slice to' tn tc)) _ := ⟨E3.out, E4.out, E5.out, E6.out⟩
    try simp only [Act.put, List.setIfInBounds_toArray, List.set_cons_zero, List.set_cons_succ]
    refine wpAnyH_take (i := 0) (oi := ⟨some 64, _, _, _, _, _⟩) (v := ?_) rfl (by kernel_rfl) (by kernel_rfl) (by kernel_rfl) (fun _ _ _ h => h) (Or.inl ⟨by simp only [Region.wanted], ?_⟩) hS ?_
    rotate_left
    ·intro wz hSw
     (try dsimp only at hSw)
     (try go_split_ands)
     go_simp
     first | done | with_reducible rfl
    try simp only [Act.put, List.setIfInBounds_toArray, List.set_cons_zero, List.set_cons_succ]
    refine wpAnyH_take (i := 2) (oi := ⟨some 66, _, _, _, _, _⟩) (v := ?_) rfl (by kernel_rfl) (by kernel_rfl) (by kernel_rfl) (fun _ _ _ h => h) (Or.inl ⟨by simp only [Region.wanted], ?_⟩) hS ?_
    rotate_left
    ·intro wz hSw
     clear hSw
     go_simp
     first | done | with_reducible rfl
    try simp only [Act.put, List.setIfInBounds_toArray, List.set_cons_zero, List.set_cons_succ]
    refine wpAnyH_take (i := 3) (oi := ⟨some 67, _, _, _, _, _⟩) (v := ?_) rfl (by kernel_rfl) (by kernel_rfl) (by kernel_rfl) (fun _ _ _ h => h) (Or.inl ⟨by simp only [Region.wanted], ?_⟩) hS ?_
    rotate_left
    ·intro wz hSw
     (try dsimp only at hSw)
     (try go_split_ands)
     go_simp
     first | done | with_reducible rfl
    try simp only [Act.put, List.setIfInBounds_toArray, List.set_cons_zero, List.set_cons_succ]
    refine wpAnyH_ready (rs := [1]) (by kernel_rfl) (by simp) ?_
    refine AllReadyH.cons (o := ⟨some 65, _, _, _, _, _⟩) rfl (fun K hK => ?_) AllReadyH.nil
    go_simp
    have hal := Lib.hid ((Below.refl w4.heap.size w4).drew.alloc (Nat.le_refl _) (.cells #[.int .i64 tp, .int .i64 n, .slice to' tn tc] 140))
    have HBN := Lib.hid (show Blk (w4.drew.alloc (.cells #[.int .i64 tp, .int .i64 n, .slice to' tn tc] 140)) w4.heap.size _ _ from Blk.new w4.drew #[.int .i64 tp, .int .i64 n, .slice to' tn tc] 140)
    refine hK.out _ _ (⟨(hal.out.cell (show (⟨w.heap.size, 3, none⟩ : Addr).block < _ from HLW.out.1)).trans E3.out, (hal.out.cell (show (⟨w.heap.size + 1, 0, none⟩ : Addr).block < _ from HLW.out.2)).trans E4.out, (hal.out.cell (show (⟨w.heap.size + 1, 1, none⟩ : Addr).block < _ from HLW.out.2)).trans E5.out, (hal.out.cell (show (⟨w.heap.size + 1, 2, none⟩ : Addr).block < _ from HLW.out.2)).trans E6.out⟩) (fun hS => ?_)
    clear hK K
    try simp only [Act.put, List.setIfInBounds_toArray, List.set_cons_zero, List.set_cons_succ]
    refine wpAnyH_take (i := 4) (oi := ⟨some 6, _, _, _, _, _⟩) (v := ?_) rfl (by kernel_rfl) (by kernel_rfl) (by kernel_rfl) (fun _ _ _ h => h) (Or.inl ⟨by simp only [Region.wanted], ?_⟩) hS ?_
    rotate_left
    ·intro wz hSw
     clear hSw
     go_simp
     first | done | with_reducible rfl
    try simp only [Act.put, List.setIfInBounds_toArray, List.set_cons_zero, List.set_cons_succ]
    refine wpAnyH_take (i := 5) (oi := ⟨some 7, _, _, _, _, _⟩) (v := ?_) rfl (by kernel_rfl) (by kernel_rfl) (by kernel_rfl) (fun _ _ _ h => h) (Or.inl ⟨by simp only [Region.wanted], ?_⟩) hS ?_
    rotate_left
    ·intro wz hSw
     clear hSw
     go_simp
     first | done | with_reducible rfl
    try simp only [Act.put, List.setIfInBounds_toArray, List.set_cons_zero, List.set_cons_succ]
    refine wpAnyH_take (i := 6) (oi := ⟨some 8, _, _, _, _, _⟩) (v := ?_) rfl (by kernel_rfl) (by kernel_rfl) (by kernel_rfl) (fun _ _ _ h => h) (Or.inl ⟨by simp only [Region.wanted], ?_⟩) hS ?_
    rotate_left
    ·intro wz hSw
     clear hSw
     go_simp
     first | done | with_reducible rfl
    try simp only [Act.put, List.setIfInBounds_toArray, List.set_cons_zero, List.set_cons_succ]
    refine wpAnyH_done (by kernel_rfl) ?_ _
    clear hS
    go_wp2_with fail
    go_ret3
    have hbx := HB14.out.trans (hal.out.mono HB14.out.size)
    refine ⟨[t], ka, kb, kn, .slice (some ⟨w4.heap.size, 0, none⟩) 1 1, rfl, ⟨HKN.out, old0, fr, to, by rw [← HKN.out, ← HQ.out]; exact HFR.out, by rw [← HQ.out]; exact HTO.out, by rw [HO0.out]; congr 1; omega, .inr ⟨rfl, rfl, rfl, by rw [HOL.out, ← HPA.out, ← HNL.out]; omega⟩⟩, ?_, hbx⟩
    refine ⟨_, 1, rfl, Nat.le_refl _, by decide, fun j hj => ⟨w4.heap.size, 0, rfl, HBN.out.lt, .inr ⟨HB14.out.size, HBN.out.lt⟩, .slice to' tn tc, ?_⟩⟩
    obtain rfl : j = 0 := by simp at hj; exact hj
    have k0 : (w4.drew.alloc (.cells #[.int .i64 tp, .int .i64 n, .slice to' tn tc] 140)).cell? ⟨w4.heap.size, 0, none⟩ = some (.int .i64 (t.page : Int)) := by rw [HBN.out.cell, ← HTP.out]; rfl
    have k1 : (w4.drew.alloc (.cells #[.int .i64 tp, .int .i64 n, .slice to' tn tc] 140)).cell? ⟨w4.heap.size, 1, none⟩ = some (.int .i64 ((n : Nat) : Int)) := by rw [HBN.out.cell]; rfl
    have k2 : (w4.drew.alloc (.cells #[.int .i64 tp, .int .i64 n, .slice to' tn tc] 140)).cell? ⟨w4.heap.size, 2, none⟩ = some (.slice to' tn tc) := by rw [HBN.out.cell]; rfl
    exact ⟨k0, k1, k2, ((HTV.out.below HBL.out).below HB4.out).below hal.out, fun q hq => .inl hq⟩
   ·have hgt' : ¬ ((d : Int) < nl) := hgt
    go_wp2_with fail
    go_ret3
    have h4s := HB4.out.size
    have h1s := HAL.out.size
    refine ⟨old0, ka.take fr, kb.drop (to - (ka.length + 1)), fr, .slice bo d bc, rfl, ⟨by rw [List.length_take, ← HKN.out, Nat.min_eq_left hf1], old0, fr, to, by rw [← HKN.out, ← HQ.out]; exact HFR.out, by rw [← HQ.out]; exact HTO.out, by rw [HO0.out]; congr 1; omega, .inl ⟨rfl, rfl, rfl, by rw [HOL.out, ← HPA.out, ← HNL.out]; omega⟩⟩, ?_, HB14.out⟩
    have hnd := (HND.out.below HB4.out).mono (S' := fun q => (Value.slice to' tn tc).ownBlock = some q ∨ (w.heap.size ≤ q ∧ q < w4.heap.size)) (fun q hq => by
     rcases hq with hq | hq
     ·rw [HTO'.out] at hq; exact .inl hq
     ·exact .inr ⟨by omega, by omega⟩)
    exact hnd
end Go.Proofs.YtbpdapcmaioeiaaGreat
