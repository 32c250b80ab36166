/- Ge -/
import Derived.Test.YtbpdapcmaioeiaaGreatKGd
import Derived.Laws.ResultCell
import Derived.Deep.Grids
import Derived.Deep.Slices
import Derived.ProofKit
import Derived.Lib.AppendZeros
namespace Go.Proofs.YtbpdapcmaioeiaaGreat
open Go.RowKit
set_option maxRecDepth 100000
section
theorem DkA.shrink {w : World} {P : Nat → Prop} {r : Nat} {A : Ab} (h : DkA w P r A) : DkA w (fun k => P k ∧ k < w.heap.size) r A := by
 obtain ⟨s, h1, h2, h3⟩ := h
 exact ⟨s, h1.shrink, h2, h3⟩
theorem DkA.below {w w' : World} {P : Nat → Prop} {r : Nat} {A : Ab} (h : DkA w P r A) (hb : Below w.heap.size w w') : DkA w' P r A := h.moved (Moved.of_below hb (fun _ => False)) (fun _ _ h => h)
/-- Ahead of the call's own blocks. -/
theorem DkTo.under {w w1 w' : World} {P : Nat → Prop} {r : Nat} {B : Ab} (hb : Below w.heap.size w w1) (h : DkTo w1 (fun k => P k ∧ k < w.heap.size) w' r B) : DkTo w P w' r B := by
 obtain ⟨P', g1, g2, g3⟩ := h
 refine ⟨P', g1, (Moved.of_below hb P).trans g2 (fun j hj => .inl hj.1), fun k hk => ?_⟩
 rcases g3 k hk with e | e
 ·exact .inl e.1
 ·exact .inr (Nat.le_trans hb.size e)
theorem run_small (ops : List Dop) : ∀ {A : Ab} {k : Nat}, Small A k → Small (A.run ops).2 (k + ops.length) := by
 induction ops with
 | nil => intro A k h; exact h
 | cons o t ih =>
  intro A k h
  cases o with
  | W i b =>
   simp only [Ab.run]
   split
   ·have := ih (h.write i b)
    rw [List.length_cons, show k + (t.length + 1) = k + 1 + t.length by omega]; exact this
   ·exact (h.write _ _).mono (by rw [List.length_cons]; omega)
  | S =>
   simp only [Ab.run]
   split
   ·have := ih h.sync
    rw [List.length_cons, show k + (t.length + 1) = k + 1 + t.length by omega]; exact this
   ·exact h.sync.mono (by rw [List.length_cons]; omega)
theorem ph_length (ws : List (Nat × List UInt8)) : (ph ws).length = ws.length + 1 := by simp [ph]
/-- The frame of Settle at its label. -/
def SettleOut (e : Int) (a' : Act) : Prop := ∃ u0 u1 u2 u3 u4 u6 u7 u8 u9 u10 u11 u12 u13 u14 u15 : Value, a' = { tmps := #[u0, u1, u2, u3, u4, .int .i64 e, u6, u7, u8, u9, u10, u11, u12, u13, u14, u15], defers := [] }
set_option maxHeartbeats 1000000 in
theorem settle_any (v : Value) (l : Pages) (S : Nat → Prop) (w : World) (P : Nat → Prop) (r : Nat) (A : Ab) (h : DkA w P r A) (hp : Pus w S v l) (hS : ∀ g, S g → ¬ P g) (hl : ∀ p ∈ l, 0 ≤ p.1 ∧ p.2.length ≤ 504) (hln : l.length ≤ 400) (hs : Small A 900000) :
 Calls Tryz.prog 66 #[.pointer (some ⟨r, 0, none⟩), v] w fun e w' => e = .returned (.int .i64 (A.run (homesOps l)).1) ∧ DkTo w P w' r (A.run (homesOps l)).2 := by
 obtain ⟨ao, cap, hv, hc1, hc2, -⟩ := id hp
 have hc2' : cap ≤ 9223372036854775807 := hc2
 have hal : Below w.heap.size w (w.alloc (.cells #[v] 101)) := (Below.refl _ w).alloc (Nat.le_refl _) _
 have hbk := (Blk.new w #[v] 101)
 have hd1 := h.shrink.below hal
 have hp1 := hp.below hal
 have hwl : (homeWs l).length = l.length := by simp [homeWs]
 have hsy := synced_home (.pointer (some ⟨w.heap.size, 0, none⟩)) (w.alloc (.cells #[v] 101)) _ r A hd1 (homeWs l) l.length (by rw [hwl]) (by omega) (hs.mono (by omega)) (fun p hp => by
  obtain ⟨q, hq, rfl⟩ := List.mem_map.1 hp
  show (page q.2).length ≤ 512
  rw [page_length _ (hl q hq).2]; omega) (fun i hi w' hm => by
  have hil : i < l.length := by rw [← hwl]; exact hi
  have hok := hl _ (List.getElem_mem hil)
  have hc : w'.cell? ⟨w.heap.size, 0, none⟩ = some v := (hbk.moved hm (fun hj => by have := hj.2; omega)).cell 0
  refine (homeClo_any v l S w.heap.size i hil w' (hp1.moved hm (fun g hg hj => hS g hg hj.1)) hc).mono ?_
  rintro e w'' ⟨u, rfl, hu, hb⟩
  refine ⟨u, l[i].2, ?_, hu, by omega, ?_, hb⟩
  ·rw [homeWs_get l i hil]
   show _ = Ending.returned (.tuple #[.int .i64 ((l[i].1.toNat : Nat) : Int), u])
   rw [Int.toNat_of_nonneg hok.1]
  ·rw [homeWs_get l i hil]
   exact (sec_page _ hok.2).symm)
 subst hv
 obtain ⟨e1, he1⟩ : ∃ e, e = (A.run (ph (homeWs l))).1 := ⟨_, rfl⟩
 obtain ⟨A1, hA1⟩ : ∃ B, B = (A.run (ph (homeWs l))).2 := ⟨_, rfl⟩
 have hs1 : Small A1 1000000 := by
  rw [hA1]
  exact (run_small (ph (homeWs l)) hs).mono (by rw [ph_length, hwl]; omega)
 have hrun : A.run (homesOps l) = if e1 = 0 then A1.run (ph [(0, [])]) else (e1, A1) := by
  rw [homesOps, run_append, ← he1, ← hA1]
  split
  ·rfl
  ·rw [he1, hA1]
 rw [← he1, ← hA1] at hsy
 have HSY := Lib.hid hsy
 have HAL := Lib.hid hal
 have HS1 := Lib.hid hs1
 have HRUN := Lib.hid hrun
 obtain ⟨n, hn⟩ : ∃ n, n = l.length := ⟨_, rfl⟩
 rw [← hn] at hc1 HSY HAL ⊢
 clear hn hal hbk hd1 hp1 hwl hsy h hp hS hl hs hs1 hrun he1 hA1 hc2
 go_enter Tryz.func66, Tryz.ntmps66
 go_wp2_with fail
 refine wp_scope_jumps 0 (fun a' w' => SettleOut (A.run (homesOps l)).1 a' ∧ DkTo w P w' r (A.run (homesOps l)).2) (fun _ _ => 0) rfl ?_ ?_
 ·go_wp2_with fail
  refine HSY.out.mono ?_
  rintro e w2 ⟨rfl, hw2⟩
  have HW2 := Lib.hid (hw2.under HAL.out)
  clear hw2 HSY HAL
  cases he : e1 == 0
  ·have hne : (e1 != 0) = true := by rw [bne, he]; rfl
   have hr := HRUN.out
   rw [if_neg (by simpa using he)] at hr
   have HR := Lib.hid hr
   clear hr HRUN
   go_wp2_with fail
   go_step3
   refine ⟨rfl, ?_, ?_⟩
   ·rw [HR.out]; exact ⟨_, _, _, _, _, _, _, _, _, _, _, _, _, _, _, rfl⟩
   ·rw [HR.out]; exact HW2.out
  ·have hne : (e1 != 0) = false := by rw [bne, he]; rfl
   obtain rfl : e1 = 0 := by simpa using he
   have hr := HRUN.out
   rw [if_pos rfl] at hr
   have HR := Lib.hid hr
   clear hr HRUN
   obtain ⟨P2, g1, g2, g3⟩ := HW2.out
   have hsb := synced_bare w2 P2 r A1 g1 [(0, [])] 1 rfl (by decide) HS1.out (by simp) (fun i hi w' _ => by
    refine (noHeadClo_any w' i).mono ?_
    rintro e w'' ⟨u, rfl, hu, hb⟩
    obtain rfl : i = 0 := by simpa using hi
    exact ⟨u, [], rfl, hu, by simp, rfl, hb⟩)
   have HSB := Lib.hid hsb
   have HG2 := Lib.hid g2
   have HG3 := Lib.hid g3
   obtain ⟨e2, he2⟩ : ∃ e, e = (A1.run (ph [(0, [])])).1 := ⟨_, rfl⟩
   rw [← he2] at HSB
   have HE2 := Lib.hid he2
   clear hsb g1 g2 g3 he2
   go_wp2_with fail
   refine HSB.out.mono ?_
   rintro e w3 ⟨rfl, hw3⟩
   have HW3 := Lib.hid (DkTo.trans HG2.out HG3.out hw3)
   clear hw3
   go_wp2_with fail
   go_step3
   go_wp2
   simp only [Exit.jump]
   go_ret
   rw [HR.out, ← HE2.out]
   exact ⟨rfl, HW3.out⟩
 ·rintro a' w' ⟨⟨u0, u1, u2, u3, u4, u6, u7, u8, u9, u10, u11, u12, u13, u14, u15, rfl⟩, hw3⟩
  go_wp2
  simp only [Exit.jump]
  go_ret
  exact ⟨rfl, hw3⟩
end
section
end
section
theorem DkA.full {w : World} {P : Nat → Prop} {r : Nat} {A : Ab} (h : DkA w P r A) : Full A := by
 obtain ⟨s, ⟨bn, bk, sv, h1⟩, -, rfl⟩ := h
 exact Full.of h1.short.1
def countOf (A : Ab) : Int := if A.fault 0 = 0 ∧ isLog A.now.length (A.now.getD 0 []) then cntOf (A.now.getD 0 []) else 0
/-- The frame of Count at its label. -/
def CountOut (n e : Int) (a' : Act) : Prop := ∃ u0 u1 u2 u3 u5 u7 u8 u9 u10 u11 u12 u13 u14 u15 u16 u17 u18 u19 u20 u21 u22 u23 u24 u25 u26 u27 u28 u29 u30 u31 u32 u33 u34 u35 u36 u37 : Value, a' = { tmps := #[u0, u1, u2, u3, .int .i64 n, u5, .int .i64 e, u7, u8, u9, u10, u11, u12, u13, u14, u15, u16, u17, u18, u19, u20, u21, u22, u23, u24, u25, u26, u27, u28, u29, u30, u31, u32, u33, u34, u35, u36, u37], defers := [] }
set_option maxHeartbeats 1000000 in
theorem count_any (w w1 : World) (P : Nat → Prop) (r : Nat) (A : Ab) (h : DkTo w P w1 r A) (hF : Full A) :
 Calls Tryz.prog 102 #[.pointer (some ⟨r, 0, none⟩)] w1 fun e w' => e = .returned (.tuple #[.int .i64 (countOf A), .int .i64 (A.fault 0)]) ∧ Below w1.heap.size w1 w' := by
 have hread := to_read 0 h
 obtain ⟨f0, hf0⟩ : ∃ f0, f0 = A.fault 0 := ⟨_, rfl⟩
 rw [← hf0] at hread ⊢
 have HR := Lib.hid hread
 have HDK := Lib.hid h
 clear hread h
 by_cases hz : f0 = 0
 ·subst hz
  have hlen := hF 0 hf0.symm
  obtain ⟨hd, hhd⟩ : ∃ hd, hd = A.read 0 := ⟨_, rfl⟩
  rw [← hhd] at hlen HR
  have hhd2 : hd = A.now.getD 0 [] := by rw [hhd, Ab.read, if_pos hf0.symm]; rfl
  have hrec : ¬ isLog A.now.length hd → countOf A = 0 := fun hn => by unfold countOf; rw [← hhd2, if_neg (fun h => hn h.2)]
  have hyes : isLog A.now.length hd → countOf A = cntOf hd := fun hn => by unfold countOf; rw [← hhd2, if_pos ⟨hf0.symm, hn⟩]
  have HREC := Lib.hid hrec
  have HYES := Lib.hid hyes
  clear hhd hf0 hhd2 hrec hyes hF
  go_enter Tryz.func102, Tryz.ntmps102
  go_wp2_with fail
  refine wp_scope_jumps 0 (fun a' w' => CountOut (countOf A) 0 a' ∧ Below w1.heap.size w1 w') (fun _ _ => 0) rfl ?_ ?_
  ·go_wp2_with fail
   refine HR.out.mono ?_
   rintro e w2 ⟨v, rfl, hown, hb1, -⟩
   obtain ⟨g, cap, rfl, hc1, hc2, hg1, hg2, -⟩ := hown.word hlen
   have hc2' : cap ≤ 9223372036854775807 := hc2
   have hbs := hown.bs
   rw [← hlen] at hbs
   have hbd := hbs.drops 8 (by omega)
   have hbt := hbs.takes 8 (by omega)
   rw [hlen, if_neg (by omega)] at hbd
   replace hbd : Bs w2 (.slice (some ⟨g, 8, none⟩) 504 (cap - 8)) (hd.drop 8) := hbd
   have HBD := Lib.hid hbd
   have HB1 := Lib.hid hb1
   have kstr := run_conv_bytes hbt
   obtain ⟨Y, hY⟩ : ∃ Y : ByteArray, Y = ⟨(hd.take 8).toArray⟩ := ⟨_, rfl⟩
   rw [← hY] at kstr
   have hyl : Y.toList = hd.take 8 := by rw [hY, Go.ByteArray.toList_mk]
   have HYL := Lib.hid hyl
   clear hown hb1 hbs hbd hbt HR hY hyl
   by_cases hm : Y.toList = [84, 82, 73, 65, 68, 76, 79, 71]
   ·have HMG := Lib.hid (HYL.out.symm.trans hm : hd.take 8 = magic)
    go_wp2_with fail
    refine (new_any _ (hd.drop 8) (by rw [List.length_drop]; omega) _ HBD.out).mono ?_
    rintro e w3 ⟨q, rfl, hrd, hq, hb3⟩
    go_wp2_with fail
    refine (rint_any _ _ _ _ hrd).mono ?_
    rintro e w4 ⟨rfl, -, hg4⟩
    have hcnt : wrap64 (num (tookOf (hd.drop 8) 0 8)) = cntOf hd := by
     rw [took_ok (by rw [List.length_drop, hlen]; omega)]; rfl
    rw [hcnt]
    have HB4 := Lib.hid (HB1.out.trans ((hb3.grown hg4 hb3.size (fun x hx => by simp at hx; omega)).mono HB1.out.size))
    obtain ⟨cn, hcn⟩ : ∃ cn, cn = cntOf hd := ⟨_, rfl⟩
    have hlog : isLog A.now.length hd ↔ (1 ≤ cn ∧ cn ≤ 400 ∧ cn < A.now.length) := by
     unfold isLog
     rw [← hcn]
     exact ⟨fun h => h.2, fun h => ⟨HMG.out, h⟩⟩
    have no : ¬ (1 ≤ cn ∧ cn ≤ 400 ∧ cn < A.now.length) → countOf A = 0 := fun h => HREC.out (fun h' => h (hlog.1 h'))
    have yes : (1 ≤ cn ∧ cn ≤ 400 ∧ cn < A.now.length) → countOf A = cn := fun h => (HYES.out (hlog.2 h)).trans hcn.symm
    rw [← hcn]
    have hsz := to_size (HDK.out.grow HB4.out)
    obtain ⟨N, hN⟩ : ∃ N, N = A.now.length := ⟨_, rfl⟩
    rw [← hN] at hsz no yes
    have NO := Lib.hid no
    have YES := Lib.hid yes
    have HSZ := Lib.hid hsz
    clear hcnt hcn hlog no yes hsz hN hrd hg4 hb3 hq HREC HYES HBD HB1 HMG HYL hm kstr
    by_cases h1 : cn < 1
    ·have d1 : decide (cn < 1) = true := by simpa using h1
     have hcc := NO.out (by omega)
     have HCC := Lib.hid hcc
     clear hcc
     go_wp2_with fail
     go_step3
     go_wp2
     simp only [Exit.jump]
     go_ret2
     exact ⟨by rw [HCC.out]; rfl, HB4.out⟩
    have d1 : decide (cn < 1) = false := by simpa using h1
    by_cases h4 : 400 < cn
    ·have d4 : decide (400 < cn) = true := by simpa using h4
     have hcc := NO.out (by omega)
     have HCC := Lib.hid hcc
     clear hcc
     go_wp2_with fail
     go_step3
     go_wp2
     simp only [Exit.jump]
     go_ret2
     exact ⟨by rw [HCC.out]; rfl, HB4.out⟩
    have d4 : decide (400 < cn) = false := by simpa using h4
    go_wp2_with fail
    refine HSZ.out.mono ?_
    rintro e wz ⟨rfl, hwz⟩
    replace hwz := hwz.symm
    subst hwz
    by_cases h5 : (N : Int) ≤ cn
    ·have hcc := NO.out (by omega)
     have HCC := Lib.hid hcc
     clear hcc
     go_wp2_with fail
     go_step3
     go_wp2
     simp only [Exit.jump]
     go_ret2
     exact ⟨by rw [HCC.out]; rfl, HB4.out⟩
    ·have hcc := YES.out (by omega)
     have HCC := Lib.hid hcc
     clear hcc
     go_wp2_with fail
     go_step3
     go_wp2
     simp only [Exit.jump]
     go_ret2
     exact ⟨by rw [HCC.out]; rfl, HB4.out⟩
   ·have hno : countOf A = 0 := HREC.out (fun h => hm (HYL.out.trans h.1))
    have HNO := Lib.hid hno
    have hm2 : (Y.toList == [84, 82, 73, 65, 68, 76, 79, 71]) = false := by simpa using hm
    clear HREC HYES HBD HYL hno hm
    go_wp2_with fail
    go_step3
    exact ⟨rfl, by rw [HNO.out]; exact ⟨_, _, _, _, _, _, _, _, _, _, _, _, _, _, _, _, _, _, _, _, _, _, _, _, _, _, _, _, _, _, _, _, _, _, _, _, rfl⟩, HB1.out⟩
  ·rintro a' w' ⟨⟨u0, u1, u2, u3, u5, u7, u8, u9, u10, u11, u12, u13, u14, u15, u16, u17, u18, u19, u20, u21, u22, u23, u24, u25, u26, u27, u28, u29, u30, u31, u32, u33, u34, u35, u36, u37, rfl⟩, hw3⟩
   go_wp2
   simp only [Exit.jump]
   go_ret2
   exact ⟨rfl, hw3⟩
 ·have hno : countOf A = 0 := by unfold countOf; rw [if_neg (fun h => hz (hf0.trans h.1))]
  rw [hno]
  have hne : (f0 != 0) = true := by simpa using hz
  clear hno hz hf0 hF
  go_enter Tryz.func102, Tryz.ntmps102
  go_wp2_with fail
  refine wp_scope_jumps 0 (fun a' w' => CountOut 0 f0 a' ∧ Below w1.heap.size w1 w') (fun _ _ => 0) rfl ?_ ?_
  ·go_wp2_with fail
   refine HR.out.mono ?_
   rintro e w2 ⟨v, rfl, -, hb1, -⟩
   go_wp2_with fail
   go_step3
   exact ⟨rfl, ⟨_, _, _, _, _, _, _, _, _, _, _, _, _, _, _, _, _, _, _, _, _, _, _, _, _, _, _, _, _, _, _, _, _, _, _, _, rfl⟩, hb1⟩
  ·rintro a' w' ⟨⟨u0, u1, u2, u3, u5, u7, u8, u9, u10, u11, u12, u13, u14, u15, u16, u17, u18, u19, u20, u21, u22, u23, u24, u25, u26, u27, u28, u29, u30, u31, u32, u33, u34, u35, u36, u37, rfl⟩, hw3⟩
   go_wp2
   simp only [Exit.jump]
   go_ret2
   exact ⟨rfl, hw3⟩
end
section
theorem Blk.pu {w : World} {b : Nat} {a : Int} {v : Value} (h : Blk w b #[.int .i64 a, v] 150) : w.cell? ⟨b, 0, none⟩ = some (.int .i64 a) ∧ w.cell? ⟨b, 1, none⟩ = some v ∧ (∀ j, w.frozen? ⟨b, j, none⟩ = false) := ⟨h.cell 0, h.cell 1, fun j => h.frozen j⟩
set_option maxHeartbeats 2000000 in
theorem unlogged_any (w w1 : World) (P : Nat → Prop) (r : Nat) (A : Ab) (at0 : Int) (h : DkTo w P w1 r A) (hF : Full A) (hf : A.fault at0 = 0) :
 Calls Tryz.prog 103 #[.pointer (some ⟨r, 0, none⟩), .int .i64 at0] w1 fun e w' => ∃ a v er, e = .returned (.tuple #[.agg #[.int .i64 a, v], .int .i64 er]) ∧ Below w1.heap.size w1 w' ∧
  (401 ≤ atOf (A.read at0) ∧ atOf (A.read at0) < A.now.length → a = atOf (A.read at0) ∧ er = 0 ∧ ∃ g cap, v = .slice (some ⟨g, 8, none⟩) 504 cap ∧ w1.heap.size ≤ g ∧ Bs w' v ((A.read at0).drop 8)) ∧
  (¬ (401 ≤ atOf (A.read at0) ∧ atOf (A.read at0) < A.now.length) → er = 9 ∧ v = .slice none 0 0) := by
 have hlen := hF at0 hf
 obtain ⟨wa, hwa⟩ : ∃ wa, wa = (w1.alloc (.cells #[.int .i64 0, .slice none 0 0] 150)).alloc (.cells #[.int .i64 0, .slice none 0 0] 150) := ⟨_, rfl⟩
 have hal : Below w1.heap.size w1 wa := by rw [hwa]; exact ((Below.refl _ w1).alloc (Nat.le_refl _) _).alloc (by simp) _
 have b1 : Blk wa w1.heap.size #[.int .i64 0, .slice none 0 0] 150 := by rw [hwa]; exact (Blk.new w1 _ _).alloc _
 have b2 : Blk wa (w1.heap.size + 1) #[.int .i64 0, .slice none 0 0] 150 := by
  rw [hwa]
  have := Blk.new (w1.alloc (.cells #[.int .i64 0, .slice none 0 0] 150)) #[.int .i64 0, .slice none 0 0] 150
  rw [show (w1.alloc (.cells #[.int .i64 0, .slice none 0 0] 150)).heap.size = w1.heap.size + 1 by simp] at this
  exact this
 have hread := to_read at0 (h.grow hal)
 obtain ⟨hd, hhd⟩ : ∃ hd, hd = A.read at0 := ⟨_, rfl⟩
 rw [← hhd] at hlen hread ⊢
 rw [hf] at hread
 obtain ⟨N, hN⟩ : ∃ N, N = A.now.length := ⟨_, rfl⟩
 obtain ⟨a, ha⟩ : ∃ a, a = atOf hd := ⟨_, rfl⟩
 rw [← hN, ← ha]
 have HN := Lib.hid hN
 have HA := Lib.hid ha
 have HR := Lib.hid hread
 have HDK := Lib.hid h
 have HAL := Lib.hid hal
 have HB1 := Lib.hid b1
 have HB2 := Lib.hid b2
 have HWA := Lib.hid hwa
 clear hread h hhd hf hF b1 b2 hal hwa hN ha
 go_enter Tryz.func103, Tryz.ntmps103
 go_wp2_with fail
 refine wp_scope_jumps 0 (fun _ _ => False) (fun _ _ => 0) rfl ?_ (fun _ _ h => h.elim)
 go_wp2_with fail
 rw [← HWA.out]
 refine HR.out.mono ?_
 rintro e w2 ⟨v, rfl, hown, hb1, -⟩
 obtain ⟨g, cap, rfl, hc1, hc2, hg1, hg2, -⟩ := hown.word hlen
 have hc2' : cap ≤ 9223372036854775807 := hc2
 have hbs := hown.bs
 have hbd := hbs
 rw [← hlen] at hbd
 replace hbd := hbd.drops 8 (by omega)
 rw [hlen, if_neg (by omega)] at hbd
 replace hbd : Bs w2 (.slice (some ⟨g, 8, none⟩) 504 (cap - 8)) (hd.drop 8) := hbd
 have HBD := Lib.hid hbd
 have HBS := Lib.hid hbs
 have HBW := Lib.hid (HAL.out.trans (hb1.mono HAL.out.size))
 have hm : Moved (fun _ => False) wa w2 := Moved.of_below hb1 _
 have b1 := Lib.hid (HB1.out.moved hm (fun h => h))
 have b2 := Lib.hid (HB2.out.moved hm (fun h => h))
 clear hown hb1 hbs hbd hm HR HB1 HB2
 generalize hp1 : w1.heap.size + 1 = p1 at b2 ⊢
 have hc8 : ¬ cap = 8 := by omega
 go_wp2_with fail
 go_region_with (first
  | (go_at_call 68; refine (new_any _ hd (by omega) _ HBS.out.drew).mono ?_; rintro e w3 ⟨q, rfl, hrd, hq, hb3⟩)
  | (go_at_call 69; refine (rint_any _ _ _ _ hrd).mono ?_; rintro e w4 ⟨rfl, -, hg4⟩; obtain ⟨d0, d1, df⟩ := (b2.out.drew.moved (Moved.of_below (hb3.grown hg4 hb3.size (fun x hx => by simp at hx; omega)) (fun _ => False)) (fun h => h)).pu))
 have hcnt : wrap64 (num (tookOf hd 0 8)) = atOf hd := by
  rw [took_ok (by rw [hlen]; omega)]; rfl
 rw [hcnt]
 have hb4 := Lib.hid (hb3.grown hg4 hb3.size (fun x hx => by simp at hx; omega))
 have hm4 : Moved (fun _ => False) w2 w4 := (Moved.refl (fun _ => False) w2).drew.trans (Moved.of_below hb4.out (fun _ => False)) (fun _ h => h.elim)
 have e1 := b1.out.moved hm4 (fun h => h)
 have e2 := b2.out.moved hm4 (fun h => h)
 have e3 := HBD.out.moved hm4 (fun _ _ h => h)
 have hbw := HBW.out.trans (hm4.below (fun _ h => h.elim) HBW.out.size)
 rw [← HA.out]
 have hgs : w1.heap.size + 2 ≤ g := by have := HWA.out; rw [this] at hg1; simp at hg1; omega
 have hcp : w1.heap.size ≠ p1 := by omega
 have hcl : w1.heap.size < p1 := by omega
 have hgp : p1 < g := by omega
 have f2 := (e2.set 0 (.int .i64 a)).set 1 (.slice (some ⟨g, 8, none⟩) 504 (cap - 8))
 have f1 := (e1.other ⟨p1, 0, none⟩ (.int .i64 a) hcp).other ⟨p1, 1, none⟩ (.slice (some ⟨g, 8, none⟩) 504 (cap - 8)) hcp
 have hmv : Moved (· = p1) w4 ((w4.setCell ⟨p1, 0, none⟩ (.int .i64 a)).setCell ⟨p1, 1, none⟩ (.slice (some ⟨g, 8, none⟩) 504 (cap - 8))) := ((Moved.refl (· = p1) w4).setCell ⟨p1, 0, none⟩ _ (.inl rfl)).setCell ⟨p1, 1, none⟩ _ (.inl rfl)
 have f3 := e3.moved hmv (fun k hk e => by simp [Value.ownBlock] at hk; omega)
 have hbw5 := hbw.trans (hmv.below (B := w1.heap.size) (fun j hj => by omega) hbw.size)
 have hhm := home_any w _ P r A a (HDK.out.grow hbw5)
 rw [← HN.out] at hhm
 have HH := Lib.hid hhm
 have HBW5 := Lib.hid hbw5
 have F1 := Lib.hid f1
 have F3 := Lib.hid f3
 obtain ⟨x0, x1, xf⟩ := Blk.pu f2
 clear hhm hbw5 hbw f1 f2 f3 hmv e1 e2 e3 hm4 hb4 hcnt hg4 hb3 hq hrd d0 d1 df b1 b2 HDK HBD HBS HBW HAL HWA hp1
 generalize hw5 : (World.setCell (World.setCell w4 _ _) _ _) = w5 at HH HBW5 F1 F3 x0 x1 xf ⊢
 clear hw5
 by_cases hok : 401 ≤ a ∧ a < N
 ·have dd : decide (401 ≤ a ∧ a < (N : Int)) = true := by simpa using hok
  rw [dd] at HH
  obtain ⟨y0, y1, yf⟩ := Blk.pu F1.out
  go_wp2_with (go_at_call 122; refine HH.out.mono ?_; rintro e wz ⟨rfl, hwz⟩; replace hwz := hwz.symm; subst hwz)
  go_step3
  go_wp2
  simp only [Exit.jump]
  have hblk := (F1.out.set 0 (.int .i64 a)).set 1 (.slice (some ⟨g, 8, none⟩) 504 (cap - 8))
  have hm6 : Moved (· = w1.heap.size) w5 ((w5.setCell ⟨w1.heap.size, 0, none⟩ (.int .i64 a)).setCell ⟨w1.heap.size, 1, none⟩ (.slice (some ⟨g, 8, none⟩) 504 (cap - 8))) := ((Moved.refl (· = w1.heap.size) w5).setCell ⟨w1.heap.size, 0, none⟩ _ (.inl rfl)).setCell ⟨w1.heap.size, 1, none⟩ _ (.inl rfl)
  clear y0 y1 yf x0 x1 xf F1
  generalize hw6 : World.setCell (World.setCell w5 _ _) _ _ = w6 at hblk hm6 ⊢
  clear hw6
  obtain ⟨z0, z1, -⟩ := Blk.pu hblk
  refine bodyPost_ret (v := .tuple #[.agg #[.int .i64 a, .slice (some ⟨g, 8, none⟩) 504 (cap - 8)], .int .i64 0]) (by rw [results_cell_tmp rfl]; go_simp) rfl ⟨a, _, 0, rfl, ?_, fun _ => ⟨rfl, rfl, g, cap - 8, rfl, by omega, ?_⟩, fun h => absurd hok h⟩
  ·exact HBW5.out.trans (hm6.below (fun j hj => by omega) HBW5.out.size)
  ·exact F3.out.moved hm6 (fun k hk e => by simp [Value.ownBlock] at hk; omega)
 ·have dd : decide (401 ≤ a ∧ a < (N : Int)) = false := by simpa using hok
  rw [dd] at HH
  go_wp2_with (go_at_call 122; refine HH.out.mono ?_; rintro e wz ⟨rfl, hwz⟩; replace hwz := hwz.symm; subst hwz)
  have hm6 : Moved (· = p1) w5 ((w5.setCell ⟨p1, 0, none⟩ (.int .i64 0)).setCell ⟨p1, 1, none⟩ (.slice none 0 0)) := ((Moved.refl (· = p1) w5).setCell ⟨p1, 0, none⟩ _ (.inl rfl)).setCell ⟨p1, 1, none⟩ _ (.inl rfl)
  have f1 := F1.out.moved hm6 hcp
  have z0 : ((w5.setCell ⟨p1, 0, none⟩ (.int .i64 0)).setCell ⟨p1, 1, none⟩ (.slice none 0 0)).cell? ⟨p1, 0, none⟩ = some (.int .i64 0) := by
   rw [World.cell?_setCell_other _ _ _ _ (by simp)]
   exact World.cell?_setCell_same _ _ _ x0
  have z1 : ((w5.setCell ⟨p1, 0, none⟩ (.int .i64 0)).setCell ⟨p1, 1, none⟩ (.slice none 0 0)).cell? ⟨p1, 1, none⟩ = some (.slice none 0 0) := by
   have zz : (w5.setCell ⟨p1, 0, none⟩ (.int .i64 0)).cell? ⟨p1, 1, none⟩ = some (.slice (some ⟨g, 8, none⟩) 504 (cap - 8)) := by
    rw [World.cell?_setCell_other _ _ _ _ (by simp)]
    exact x1
   exact World.cell?_setCell_same _ _ _ zz
  have hb6 := HBW5.out.trans (hm6.below (B := w1.heap.size) (fun j hj => by omega) HBW5.out.size)
  obtain ⟨y0, y1, yf⟩ := Blk.pu f1
  have F1' := Lib.hid f1
  have HB6 := Lib.hid hb6
  clear x0 x1 xf f1 hb6 hm6 F1
  generalize hw6 : World.setCell (World.setCell w5 _ _) _ _ = w6 at F1' HB6 z0 z1 y0 y1 yf ⊢
  clear hw6
  go_step3
  go_wp2
  simp only [Exit.jump]
  have hblk := (F1'.out.set 0 (.int .i64 0)).set 1 (.slice none 0 0)
  have hm7 : Moved (· = w1.heap.size) w6 ((w6.setCell ⟨w1.heap.size, 0, none⟩ (.int .i64 0)).setCell ⟨w1.heap.size, 1, none⟩ (.slice none 0 0)) := ((Moved.refl (· = w1.heap.size) w6).setCell ⟨w1.heap.size, 0, none⟩ _ (.inl rfl)).setCell ⟨w1.heap.size, 1, none⟩ _ (.inl rfl)
  clear y0 y1 yf z0 z1 F1'
  generalize hw7 : World.setCell (World.setCell w6 _ _) _ _ = w7 at hblk hm7 ⊢
  clear hw7
  obtain ⟨z0, z1, -⟩ := Blk.pu hblk
  refine bodyPost_ret (v := .tuple #[.agg #[.int .i64 0, .slice none 0 0], .int .i64 9]) (by rw [results_cell_tmp rfl]; go_simp) rfl ⟨0, _, 9, rfl, ?_, fun h => absurd h hok, fun _ => ⟨rfl, rfl⟩⟩
  exact HB6.out.trans (hm7.below (fun j hj => by omega) HB6.out.size)
end
section
theorem countOf_spec (A : Ab) : 0 ≤ countOf A ∧ countOf A ≤ 400 ∧ (countOf A = 0 ∨ countOf A < A.now.length) := by
 unfold countOf
 split
 ·rename_i h
  have := h.2
  unfold isLog at this
  omega
 ·omega
/-- What pending answers. -/
def pendOf (A : Ab) : Pages × Int := if A.fault 0 ≠ 0 then ([], A.fault 0) else match pagesOf A.now (countOf A).toNat with
 | none => ([], 9)
 | some l => (l, 0)
theorem Bs.lt {w : World} {g o n cap : Nat} {l : List UInt8} (h : Bs w (.slice (some ⟨g, o, none⟩) n cap) l) (hl : 0 < l.length) : g < w.heap.size := by
 obtain ⟨b, off, c, e, -, -, hc⟩ := h.at hl
 simp only [Value.slice.injEq, Option.some.injEq, Addr.mk.injEq] at e
 obtain ⟨⟨rfl, rfl, -⟩, -, -⟩ := e
 exact World.block_lt_of_cell? _ _ (hc 0 hl)
theorem PuAt.new {w : World} {b : Nat} {a : Int} {v : Value} (h : Blk w b #[.int .i64 0, .slice none 0 0] 150) :
 Blk ((w.setCell ⟨b, 0, none⟩ (.int .i64 a)).setCell ⟨b, 1, none⟩ v) b #[.int .i64 a, v] 150 := (h.set 0 (.int .i64 a)).set 1 v
theorem moved_two {w : World} {b : Nat} {x y : Value} : Moved (· = b) w ((w.setCell ⟨b, 0, none⟩ x).setCell ⟨b, 1, none⟩ y) := ((Moved.refl (· = b) w).setCell ⟨b, 0, none⟩ _ (.inl rfl)).setCell ⟨b, 1, none⟩ _ (.inl rfl)
/-- The frame of Pend at its label. -/
def PendOut (lv : Value) (e : Int) (a' : Act) : Prop := ∃ u0 u1 u2 u3 u5 u7 u8 u9 u10 u11 u12 u13 u14 u15 u16 u17 u18 u19 u20 u21 u22 u23 u24 u25 u26 u27 u28 u29 u30 u31 u32 u33 : Value, a' = { tmps := #[u0, u1, u2, u3, lv, u5, .int .i64 e, u7, u8, u9, u10, u11, u12, u13, u14, u15, u16, u17, u18, u19, u20, u21, u22, u23, u24, u25, u26, u27, u28, u29, u30, u31, u32, u33], defers := [] }
set_option maxHeartbeats 2000000 in
theorem pending_any (w w1 : World) (P : Nat → Prop) (r : Nat) (A : Ab) (h : DkTo w P w1 r A) (hF : Full A) :
 Calls Tryz.prog 65 #[.pointer (some ⟨r, 0, none⟩)] w1 fun e w' => ∃ lv, e = .returned (.tuple #[lv, .int .i64 (pendOf A).2]) ∧ PRow (fun _ => False) w1.heap.size w' lv (pendOf A).1 ∧ (∀ p ∈ (pendOf A).1, p.2.length ≤ 504) ∧ Below w1.heap.size w1 w' := by
 have hct := count_any w w1 P r A h hF
 have hsp := countOf_spec A
 obtain ⟨cn, hcn⟩ : ∃ cn, cn = countOf A := ⟨_, rfl⟩
 obtain ⟨f0, hf0⟩ : ∃ f0, f0 = A.fault 0 := ⟨_, rfl⟩
 rw [← hcn, ← hf0] at hct
 rw [← hcn] at hsp
 have HC := Lib.hid hct
 have HDK := Lib.hid h
 have HF := Lib.hid hF
 clear hct h hF
 by_cases hz : f0 = 0
 ·subst hz
  obtain ⟨n, rfl⟩ : ∃ n : Nat, cn = n := ⟨cn.toNat, by omega⟩
  have hpd : pendOf A = match pagesOf A.now n with | none => ([], 9) | some l => (l, 0) := by
   unfold pendOf
   rw [if_neg (by rw [← hf0]; decide), ← hcn, Int.toNat_natCast]
  have hdead : A.dead = false := by
   unfold Ab.fault at hf0
   split at hf0
   ·simp at hf0
   ·rename_i hc; simpa using hc
  have hfz : ∀ k : Nat, k < n → A.fault ((1 + k : Nat) : Int) = 0 := fun k hk => by
   unfold Ab.fault
   rw [hdead, if_neg (by decide), if_pos (by omega)]
  have HFZ := Lib.hid hfz
  have HPD := Lib.hid hpd
  have hn4 : n ≤ 400 := by omega
  clear hfz hpd hdead hf0 hcn hsp
  go_enter Tryz.func65, Tryz.ntmps65
  go_wp2_with fail
  refine wp_scope_jumps 0 (fun a' w' => ∃ lv, PendOut lv (pendOf A).2 a' ∧ PRow (fun _ => False) w1.heap.size w' lv (pendOf A).1 ∧ (∀ p ∈ (pendOf A).1, p.2.length ≤ 504) ∧ Below w1.heap.size w1 w') (fun _ _ => 0) rfl ?_ ?_
  ·go_wp2_with fail
   refine HC.out.mono ?_
   rintro e w2 ⟨rfl, hb2⟩
   go_wp2_with fail
   go_loopw [4, 6, 7, 8, 15] (fun lv e _ _ i wr => ∃ k : Nat, k ≤ n ∧ i = .int .i64 k ∧ e = .int .i64 0 ∧ Below w1.heap.size w1 wr ∧ ∃ l, pagesOf A.now k = some l ∧ PRow (fun _ => False) w1.heap.size wr lv l ∧ ∀ p ∈ l, p.2.length ≤ 504) (fun _ _ _ _ i _ => n - (intOf i).toNat)
   case atStart => exact ⟨0, Nat.zero_le _, rfl, rfl, hb2, [], rfl, PRow.nil _ _ _, fun p hp => by simp at hp⟩
   case round =>
    obtain ⟨k, hk, rfl, rfl, hb, l, hpg, hrow, hshort⟩ := hrel
    have HBr := Lib.hid hb
    have HPG := Lib.hid hpg
    have HROW := Lib.hid hrow
    have HSH := Lib.hid hshort
    have hlen1 := (pagesOf_length k l hpg).1
    clear hb hpg hrow hshort hb2
    by_cases hlt : k < n
    ·have hal : Below wr.heap.size wr (wr.alloc (.cells #[.int .i64 0, .slice none 0 0] 150)) := (Below.refl _ wr).alloc (Nat.le_refl _) _
     have hbk := Blk.new wr #[.int .i64 0, .slice none 0 0] 150
     have hbw := HBr.out.trans (hal.mono HBr.out.size)
     have hun := unlogged_any w _ P r A ((1 + k : Nat) : Int) (HDK.out.grow hbw) HF.out (HFZ.out k hlt)
     have hf1 := HFZ.out k hlt
     obtain ⟨bb, hbb⟩ : ∃ bb, bb = A.read ((1 + k : Nat) : Int) := ⟨_, rfl⟩
     have hbl : bb.length = 512 := by rw [hbb]; exact HF.out _ hf1
     have hb2 : A.now.getD (1 + k) [] = bb := by rw [hbb, Ab.read, if_pos hf1, Int.toNat_natCast]
     rw [← hbb] at hun
     obtain ⟨at1, hat⟩ : ∃ at1, at1 = atOf bb := ⟨_, rfl⟩
     obtain ⟨N, hN⟩ : ∃ N, N = A.now.length := ⟨_, rfl⟩
     have hstep : pagesOf A.now (k + 1) = if 401 ≤ at1 ∧ at1 < N then some (l ++ [(at1, bb.drop 8)]) else none := by
      unfold pagesOf
      rw [HPG.out]
      simp only [hb2, ← hat, hN]
     rw [← hat, ← hN] at hun
     obtain ⟨i1, hi1⟩ : ∃ i1 : Int, i1 = ((1 + k : Nat) : Int) := ⟨_, rfl⟩
     have hwr : IntKind.i64.wrap (1 + (k : Int)) = i1 := by rw [IntKind.wrap_i64]; omega
     rw [← hi1] at hun
     have HUN := Lib.hid hun
     have HST := Lib.hid hstep
     have HBK := Lib.hid hbk
     have HAL := Lib.hid hal
     have HI1 := Lib.hid hi1
     clear hun hstep hbk hal hi1 hbw hf1 hbb hb2 hat hN
     have hi1' : 1 + (k : Int) = i1 := by have := HI1.out; omega
     go_wp2_with fail
     try rw [hi1']
     refine HUN.out.mono ?_
     rintro e w3 ⟨a, v, er, rfl, hb3, hok, hbad⟩
     have hm3 : Moved (fun _ => False) (wr.alloc (.cells #[.int .i64 0, .slice none 0 0] 150)) w3 := Moved.of_below hb3 _
     have hb3' := HBK.out.moved hm3 (fun h => h)
     have hbel := HAL.out.trans (hb3.mono HAL.out.size)
     obtain ⟨x0, x1, xf⟩ := Blk.pu hb3'
     have HB3 := Lib.hid hb3'
     have HBEL := Lib.hid hbel
     have HHS := Lib.hid (hb3.size)
     clear hm3 hb3' hbel hb3 HUN HBK HAL
     by_cases hh : 401 ≤ at1 ∧ at1 < N
     ·obtain ⟨rfl, rfl, g5, cap5, rfl, hg5, hbs⟩ := hok hh
      have hm4 := moved_two (w := w3) (b := wr.heap.size) (x := .int .i64 a) (y := .slice (some ⟨g5, 8, none⟩) 504 cap5)
      have hb4 := PuAt.new (a := a) (v := .slice (some ⟨g5, 8, none⟩) 504 cap5) HB3.out
      have hbel4 := HBEL.out.trans (hm4.below (B := wr.heap.size) (fun j hj => by omega) HBEL.out.size)
      have hg5' : wr.heap.size < g5 := by simp at hg5; omega
      have hbs4 := hbs.moved hm4 (fun k hk e => by simp [Value.ownBlock] at hk; omega)
      have hlt5 := hbs4.lt (by rw [List.length_drop, hbl]; omega)
      have hrow4 := HROW.out.below hbel4
      have hst := HST.out
      rw [if_pos hh] at hst
      have HST2 := Lib.hid hst
      have HM4 := Lib.hid hm4
      have HB4 := Lib.hid hb4
      have HBEL4 := Lib.hid hbel4
      have HBS4 := Lib.hid hbs4
      have HROW4 := Lib.hid hrow4
      have HLT5 := Lib.hid hlt5
      obtain ⟨so, cp, rfl, hcp1, hcp2⟩ := HROW.out.form
      have hcp2' : cp ≤ 9223372036854775807 := hcp2
      have HLR := Lib.hid (fun q hq => (HROW.out.lt q hq))
      have hala := (Below.refl ((w3.setCell ⟨wr.heap.size, 0, none⟩ (.int .i64 a)).setCell ⟨wr.heap.size, 1, none⟩ (.slice (some ⟨g5, 8, none⟩) 504 cap5)).heap.size _).alloc (Nat.le_refl _) (.cells #[.int .i64 a, .slice (some ⟨g5, 8, none⟩) 504 cap5] 150)
      have hrowa := HROW4.out.below hala
      have hbsa := HBS4.out.below hala
      have hbla : Blk (((w3.setCell ⟨wr.heap.size, 0, none⟩ (.int .i64 a)).setCell ⟨wr.heap.size, 1, none⟩ (.slice (some ⟨g5, 8, none⟩) 504 cap5)).alloc (.cells #[.int .i64 a, .slice (some ⟨g5, 8, none⟩) 504 cap5] 150)) w3.heap.size #[.int .i64 a, .slice (some ⟨g5, 8, none⟩) 504 cap5] 150 := by
       have := Blk.new ((w3.setCell ⟨wr.heap.size, 0, none⟩ (.int .i64 a)).setCell ⟨wr.heap.size, 1, none⟩ (.slice (some ⟨g5, 8, none⟩) 504 cap5)) #[.int .i64 a, .slice (some ⟨g5, 8, none⟩) 504 cap5] 150
       simpa [World.setCell] using this
      have hba := HBr.out.trans ((hbel4.trans (hala.mono hbel4.size)).mono HBr.out.size)
      have HROWA := Lib.hid hrowa
      have HBSA := Lib.hid hbsa
      have HBLA := Lib.hid hbla
      have HBA := Lib.hid hba
      have hlt6 : g5 < w3.heap.size := by simpa [World.setCell] using hlt5
      have hl30 : l.length ≤ 1073741824 := by omega
      rw [hlen1] at HROWA HLR
      have HLEN := Lib.hid hlen1
      have hbr1 := HBr.out.size
      clear hm4 hb4 hbel4 hbs4 hlt5 hrow4 hst hok hbad hbs HST hg5 HBEL hcp2 HHS hala hrowa hbsa hbla hba HROW4 HBS4 HB4 HM4 HBEL4 HLT5 HROW
      rw [hlen1]
      rw [hlen1] at hcp1
      clear hlen1
      go_wp2_with (at_builtin; refine wpList_append_pu rfl _ _ rfl (fun _ => False) w1.heap.size (fun _ h => h.elim) ?s1 (.slice so k cp) l rfl HROWA.out _ rfl a _ (bb.drop 8) HBSA.out ?s2 HBLA.out hl30 ?_)
      case s1 => exact HBA.out.size
      case s2 =>
       intro _ q hq
       simp [Value.ownBlock] at hq
       subst hq
       refine .inr ⟨by omega, by simp [World.setCell]; omega, fun e => ?_⟩
       have := (HLR.out _ e).2
       omega
      intro v8 w8 hv8 hg8 hq8
      have HB8 := Lib.hid (HBA.out.grown hg8 HBA.out.size hq8)
      have HV8 := Lib.hid hv8
      clear hv8 hg8 hq8 HROWA HBSA HBLA HBA HLR
      go_wp2_with fail
      go_roundw
      case rel =>
       refine ⟨k + 1, by omega, by go_num, rfl, HB8.out, _, HST2.out, HV8.out, fun p hp => ?_⟩
       rcases List.mem_append.1 hp with hp | hp
       ·exact HSH.out p hp
       ·simp at hp; subst hp; show (bb.drop 8).length ≤ 504; rw [List.length_drop]; omega
      case measure => simp [intOf]; omega
     ·obtain ⟨rfl, rfl⟩ := hbad hh
      have hst := HST.out
      rw [if_neg hh] at hst
      have hpd := HPD.out
      rw [pagesOf_none hst n hlt] at hpd
      have HPD2 := Lib.hid hpd
      have hm4 := moved_two (w := w3) (b := wr.heap.size) (x := .int .i64 a) (y := .slice none 0 0)
      have hbel4 := HBr.out.trans ((HBEL.out.trans (hm4.below (B := wr.heap.size) (fun j hj => by omega) HBEL.out.size)).mono HBr.out.size)
      have HB4 := Lib.hid hbel4
      clear hm4 hbel4 hst hpd hok hbad HBEL HPD HST HROW HSH HPG
      go_wp2_with fail
      go_step3
      refine ⟨rfl, .slice none 0 0, ?_, ?_, ?_, HB4.out⟩
      ·rw [HPD2.out]; exact ⟨_, _, _, _, _, _, _, _, _, _, _, _, _, _, _, _, _, _, _, _, _, _, _, _, _, _, _, _, _, _, _, _, rfl⟩
      ·rw [HPD2.out]; exact PRow.nil _ _ _
      ·rw [HPD2.out]; exact fun p hp => by simp at hp
    ·obtain rfl : k = n := by omega
     have hpd := HPD.out
     rw [HPG.out] at hpd
     have HPD2 := Lib.hid hpd
     clear hpd HPD HPG
     go_wp2_with fail
     go_step3
     go_wp2
     simp only [Exit.jump]
     go_ret2
     rw [HPD2.out]
     exact ⟨_, rfl, HROW.out, HSH.out, HBr.out⟩
  ·rintro a' w' ⟨lv, ⟨u0, u1, u2, u3, u5, u7, u8, u9, u10, u11, u12, u13, u14, u15, u16, u17, u18, u19, u20, u21, u22, u23, u24, u25, u26, u27, u28, u29, u30, u31, u32, u33, rfl⟩, hw3⟩
   go_wp2
   simp only [Exit.jump]
   go_ret2
   exact ⟨lv, rfl, hw3⟩
 ·have hne : (f0 != 0) = true := by simpa using hz
  have hpd : pendOf A = ([], f0) := by
   unfold pendOf
   rw [if_pos (by rw [← hf0]; exact hz), ← hf0]
  rw [hpd]
  obtain rfl : cn = 0 := by rw [hcn]; unfold countOf; rw [if_neg (fun h => hz (hf0.trans h.1))]
  clear hpd hf0 hz hcn hsp
  go_enter Tryz.func65, Tryz.ntmps65
  go_wp2_with fail
  refine wp_scope_jumps 0 (fun _ _ => False) (fun _ _ => 0) rfl ?_ (fun _ _ h => h.elim)
  go_wp2_with fail
  refine HC.out.mono ?_
  rintro e w2 ⟨rfl, hb2⟩
  go_wp2_with fail
  refine wp_loop_rounds 1 ?_
  rw [rounds_succ]
  go_wp2_with fail
  go_step3
  go_wp2
  simp only [Exit.jump]
  go_ret2
  exact ⟨_, rfl, PRow.nil _ _ _, fun p hp => by simp at hp, hb2⟩
end
section
theorem pend_ok (A : Ab) : (pendOf A).1.length ≤ 400 ∧ ∀ p ∈ (pendOf A).1, 401 ≤ p.1 := by
 unfold pendOf
 split
 ·exact ⟨by simp, fun p hp => by simp at hp⟩
 ·have hs := countOf_spec A
  split
  ·exact ⟨by simp, fun p hp => by simp at hp⟩
  ·rename_i l hl
   have h := pagesOf_length _ _ hl
   exact ⟨by show l.length ≤ 400; omega, fun p hp => (h.2 p hp).1⟩
theorem recover_pend (A : Ab) : A.recover = if (pendOf A).2 = 0 ∧ (pendOf A).1.length ≠ 0 then recOf A ((pendOf A).1.length : Nat) (some (pendOf A).1) else (0, (pendOf A).2, A) := by
 by_cases h0 : A.fault 0 = 0
 ·by_cases hl : isLog A.now.length (A.now.getD 0 [])
  ·have hcnt : countOf A = cntOf (A.now.getD 0 []) := by unfold countOf; rw [if_pos ⟨h0, hl⟩]
   have hpd : pendOf A = match pagesOf A.now (cntOf (A.now.getD 0 [])).toNat with | none => ([], 9) | some l => (l, 0) := by unfold pendOf; rw [if_neg (fun h => h h0), hcnt]; try (cases pagesOf A.now (cntOf (A.now.getD 0 [])).toNat <;> rfl)
   have hrec : A.recover = recOf A (cntOf (A.now.getD 0 [])) (pagesOf A.now (cntOf (A.now.getD 0 [])).toNat) := by
    unfold Ab.recover
    rw [if_neg (fun h => h h0), if_pos hl]
    cases pagesOf A.now (cntOf (A.now.getD 0 [])).toNat <;> rfl
   have hc : 1 ≤ cntOf (A.now.getD 0 []) := hl.2.1
   rw [hrec, hpd]
   cases hp : pagesOf A.now (cntOf (A.now.getD 0 [])).toNat with
   | none => rfl
   | some l =>
    have h := (pagesOf_length _ _ hp).1
    have hn : l.length ≠ 0 := by omega
    have hi : ((l.length : Nat) : Int) = cntOf (A.now.getD 0 []) := by omega
    show recOf A _ (some l) = if (0 : Int) = 0 ∧ l.length ≠ 0 then recOf A ((l.length : Nat) : Int) (some l) else (0, 0, A)
    rw [if_pos ⟨rfl, hn⟩, hi]
  ·have hcnt : countOf A = 0 := by unfold countOf; rw [if_neg (fun h => hl h.2)]
   have hpd : pendOf A = ([], 0) := by unfold pendOf; rw [if_neg (fun h => h h0), hcnt]; rfl
   have hrec : A.recover = (0, 0, A) := by unfold Ab.recover; rw [if_neg (fun h => h h0), if_neg hl]
   rw [hrec, hpd]
   rfl
 ·have hpd : pendOf A = ([], A.fault 0) := by unfold pendOf; rw [if_pos h0]
  have hrec : A.recover = (0, A.fault 0, A) := by unfold Ab.recover; rw [if_pos h0]
  rw [hrec, hpd, if_neg (fun h => h.2 rfl)]
/-- The frame of Recov at its label. -/
def RecovOut (e : Int) (a' : Act) : Prop := ∃ u0 u1 u2 u3 u4 u6 u7 u8 u9 u10 u11 u12 u13 u14 u15 u16 u17 u18 u19 u20 u21 u22 u23 u24 u25 : Value, a' = { tmps := #[u0, u1, u2, u3, u4, .int .i64 e, u6, u7, u8, u9, u10, u11, u12, u13, u14, u15, u16, u17, u18, u19, u20, u21, u22, u23, u24, u25], defers := [] }
set_option maxHeartbeats 1000000 in
theorem drecover_any (w : World) (P : Nat → Prop) (r : Nat) (A : Ab) (h : DkA w P r A) (hs : Small A 100000) :
 Calls Tryz.prog 34 #[.pointer (some ⟨r, 0, none⟩)] w fun e w' => e = .returned (.tuple #[.int .i64 A.recover.1, .int .i64 A.recover.2.1]) ∧ DkTo w P w' r A.recover.2.2 := by
 have hpn := pending_any w w _ r A (DkTo.refl h) h.full
 have hpk := pend_ok A
 have hrp := recover_pend A
 obtain ⟨l, hl⟩ : ∃ l, l = (pendOf A).1 := ⟨_, rfl⟩
 obtain ⟨e0, he0⟩ : ∃ e, e = (pendOf A).2 := ⟨_, rfl⟩
 rw [← hl, ← he0] at hpn hrp
 rw [← hl] at hpk
 have HPN := Lib.hid hpn
 have HPK := Lib.hid hpk
 have HD := Lib.hid h
 have HS := Lib.hid hs
 have HRP := Lib.hid hrp
 clear hpn hpk h hs hrp hl he0
 go_enter Tryz.func34, Tryz.ntmps34
 go_wp2_with fail
 refine wp_scope_jumps 0 (fun a' w' => A.recover.1 = 0 ∧ RecovOut A.recover.2.1 a' ∧ DkTo w P w' r A.recover.2.2) (fun _ _ => 0) rfl ?_ ?_
 ·go_wp2_with fail
  refine HPN.out.mono ?_
  rintro e w2 ⟨lv, rfl, hrow, hsh, hb⟩
  have HROW := Lib.hid hrow
  have HB := Lib.hid hb
  have HSH := Lib.hid hsh
  obtain ⟨so, cap, rfl, hc1, hc2⟩ := hrow.form
  have hc2' : cap ≤ 9223372036854775807 := hc2
  clear hrow hb hsh HPN hc2
  by_cases hz : e0 = 0
  ·subst hz
   by_cases hn : l.length = 0
   ·have hn' : (l.length : Int) = 0 := by omega
    have hr := HRP.out
    rw [if_neg (fun h => h.2 hn)] at hr
    have HR := Lib.hid hr
    clear hr HRP HPK HSH HROW
    obtain ⟨n, hnn⟩ : ∃ n, n = l.length := ⟨_, rfl⟩
    rw [← hnn] at hn hn' hc1 ⊢
    subst hn
    clear hnn
    go_wp2_with fail
    go_step3
    refine ⟨rfl, ?_, ?_, ?_⟩
    ·rw [HR.out]
    ·rw [HR.out]; exact ⟨_, _, _, _, _, _, _, _, _, _, _, _, _, _, _, _, _, _, _, _, _, _, _, _, _, rfl⟩
    ·rw [HR.out]; exact (DkTo.refl HD.out).grow HB.out
   ·have hr := HRP.out
    rw [if_pos ⟨rfl, hn⟩] at hr
    have hse := settle_any _ l (fun g => False ∨ (w.heap.size ≤ g ∧ g < w2.heap.size)) w2 _ r A (HD.out.shrink.below HB.out) HROW.out.pus (fun g hg hp => by have := hg.resolve_left id; have := hp.2; omega) (fun p hp => ⟨by have := HPK.out.2 p hp; omega, HSH.out p hp⟩) HPK.out.1 (HS.out.mono (by omega))
    obtain ⟨e1, he1⟩ : ∃ e, e = (A.run (homesOps l)).1 := ⟨_, rfl⟩
    rw [← he1] at hse
    obtain ⟨n, hnn⟩ : ∃ n, n = l.length := ⟨_, rfl⟩
    rw [← hnn] at hn hc1 hse hr ⊢
    have hn' : ¬ (n : Int) = 0 := by omega
    have HR := Lib.hid hr
    have HSE := Lib.hid hse
    have HE1 := Lib.hid he1
    clear hr hse he1 HRP HROW hnn
    go_wp2_with fail
    refine HSE.out.mono ?_
    rintro e w3 ⟨rfl, hw3⟩
    have HW3 := Lib.hid (hw3.under HB.out)
    clear hw3 HSE
    cases he : e1 == 0
    ·have hr := HR.out
     rw [recOf, if_neg (by rw [← HE1.out]; simpa using he), ← HE1.out] at hr
     have HR2 := Lib.hid hr
     clear hr HR
     go_wp2_with fail
     go_step3
     go_wp2
     simp only [Exit.jump]
     go_ret2
     rw [HR2.out]
     exact ⟨rfl, HW3.out⟩
    ·have hr := HR.out
     rw [recOf, if_pos (by rw [← HE1.out]; simpa using he)] at hr
     have HR2 := Lib.hid hr
     clear hr HR
     go_wp2_with fail
     simp only [Exit.jump]
     go_ret2
     rw [HR2.out]
     exact ⟨rfl, HW3.out⟩
  ·have hne : (e0 != 0) = true := by simpa using hz
   have hr := HRP.out
   rw [if_neg (fun h => hz h.1)] at hr
   have HR := Lib.hid hr
   clear hr HRP HPK HSH HROW hz
   go_wp2_with fail
   go_step3
   refine ⟨rfl, ?_, ?_, ?_⟩
   ·rw [HR.out]
   ·rw [HR.out]; exact ⟨_, _, _, _, _, _, _, _, _, _, _, _, _, _, _, _, _, _, _, _, _, _, _, _, _, rfl⟩
   ·rw [HR.out]; exact (DkTo.refl HD.out).grow HB.out
 ·rintro a' w' ⟨h0, ⟨u0, u1, u2, u3, u4, u6, u7, u8, u9, u10, u11, u12, u13, u14, u15, u16, u17, u18, u19, u20, u21, u22, u23, u24, u25, rfl⟩, hw3⟩
  go_wp2
  simp only [Exit.jump]
  go_ret2
  rw [h0]
  exact ⟨rfl, hw3⟩
end
section
def Sx (w0 w : World) (X : Nat → Prop) (r : Nat) (A : Ab) : Prop :=
 Below w0.heap.size w0 w ∧ (∀ k, X k → k < w.heap.size) ∧ ∃ P, DkA w P r A ∧ ∀ k, P k → w0.heap.size ≤ k ∧ k < w.heap.size ∧ ¬ X k
/-- Of what w0 had, and of X, nothing has turned. -/
def Mx (w0 : World) (X : Nat → Prop) (w w' : World) : Prop := Moved (fun k => w0.heap.size ≤ k ∧ ¬ X k) w w'
section
variable {w0 w : World} {X : Nat → Prop} {r : Nat} {A : Ab}
theorem sx_new (x : Int) (hb : Below w0.heap.size w0 w) (hX : ∀ k, X k → k < w.heap.size) :
 Calls Tryz.prog 9 #[.int .i64 x] w fun e w' => ∃ r, e = .returned (.pointer (some ⟨r, 0, none⟩)) ∧ Sx w0 w' X r (Ab.new (sizeOf' x)) ∧ Below w.heap.size w w' := by
 refine (dnew_any x w).mono ?_
 rintro e w' ⟨r, P, rfl, hd, hb', hP⟩
 refine ⟨r, rfl, ⟨hb.trans (hb'.mono hb.size), fun k hk => Nat.lt_of_lt_of_le (hX k hk) hb'.size, _, DkA.shrink ⟨_, hd, Okay.new _, abs_new _⟩, fun k hk => ⟨Nat.le_trans hb.size (hP k hk.1), hk.2, fun hx => ?_⟩⟩, hb'⟩
 have := hX k hx
 have := hP k hk.1
 omega
end
theorem new_synced (n : Nat) : Synced (Ab.new n) (List.replicate n (zeros 512)) := ⟨rfl, rfl, rfl, rfl⟩
theorem new_small (n k : Nat) : Small (Ab.new n) k := ⟨Nat.zero_le _, Nat.zero_le _, Nat.zero_le _⟩
end
section
open Go.RowKit Go.ChangeShapes Go.WideShapes
end
section
open Go.RowKit Go.ChangeShapes Go.WideShapes
end
section
end
end Go.Proofs.YtbpdapcmaioeiaaGreat
