/- Si; Sm -/
import Derived.Test.YtbpdapcmaioeiaaGreatKGn
import Derived.Test.YtbpdapcmaioeiaaGreatKWR
import Derived.Test.YtbpdapcmaioeiaaGreatKRc
import Derived.Test.YtbpdapcmaioeiaaGreatKSe
import Derived.Test.YtbpdapcmaioeiaaGreatKTe
import Derived.Deep.LoopGhost
import Derived.Lib.ConvBytes
import Derived.Deep.CutBlock
import Derived.Deep.DeepCutAuto
namespace Go.Proofs.YtbpdapcmaioeiaaGreat
open Go.RowKit Go.Maps
set_option maxRecDepth 100000
set_option linter.unusedVariables false
def eqB (x y : Tm) : Bool := x.k == y.k && (x.s.toList == y.s.toList && (x.l.toList == y.l.toList && x.t.toList == y.t.toList))
theorem eqB_iff (x y : Tm) : eqB x y = true ↔ x = y := by
 obtain ⟨k, s, l, t⟩ := x
 obtain ⟨k2, s2, l2, t2⟩ := y
 unfold eqB
 simp only [Lib.toList_data, Bool.and_eq_true, beq_iff_eq, Tm.mk.injEq]
 constructor
 ·rintro ⟨h1, h2, h3, h4⟩; exact ⟨h1, ba_ext h2, ba_ext h3, ba_ext h4⟩
 ·rintro ⟨rfl, rfl, rfl, rfl⟩; exact ⟨rfl, rfl, rfl, rfl⟩
theorem equal_term (x y : Tm) (w : World) : (Op.equalIn 10000 59 x.val y.val).run Tryz.prog w = .ok (eqB x y) w := by
 obtain ⟨k, s, l, t⟩ := x
 obtain ⟨k2, s2, l2, t2⟩ := y
 unfold Tm.val eqB
 dsimp only
 cases h1 : k == k2 <;> cases h2 : s.toList == s2.toList <;> cases h3 : l.toList == l2.toList <;> cases h4 : t.toList == t2.toList
 all_goals go_simp
/-- Of terms: what Find answers. -/
def findL (L : List Tm) (x : Tm) : Int × Int := if checkOf x ≠ 0 then (0, checkOf x) else match L.findIdx? (fun y => eqB y x) with
 | some i => ((i + 1 : Nat), 0)
 | none => (0, 2)
theorem findIdx_some {L : List Tm} {x : Tm} {i : Nat} (hi : i < L.length) (he : L[i] = x) (hf : ∀ j (hj : j < L.length), j < i → L[j] ≠ x) : L.findIdx? (fun y => eqB y x) = some i := by
 rw [List.findIdx?_eq_some_iff_getElem]
 refine ⟨hi, (eqB_iff _ _).2 he, fun j hj e => ?_⟩
 exact hf j (by omega) hj ((eqB_iff _ _).1 e)
theorem findIdx_none {L : List Tm} {x : Tm} (hf : ∀ j (hj : j < L.length), L[j] ≠ x) : L.findIdx? (fun y => eqB y x) = none := by
 rw [List.findIdx?_eq_none_iff]
 intro y hy
 obtain ⟨j, hj, rfl⟩ := List.mem_iff_getElem.1 hy
 cases e : eqB L[j] x with
 | false => rfl
 | true => exact absurd ((eqB_iff _ _).1 e) (hf j hj)
set_option maxHeartbeats 4000000 in
theorem rfind7_any (w : World) (xb : Nat) (v : Value) (L : List Tm) (hl : L.length ≤ 1000000) (hv : Tml w v L) (hx : w.cell? ⟨xb, 0, none⟩ = some v) (t : Tm) (ht : t.Ok) :
 Calls Tryz.prog 28 #[.pointer (some ⟨xb, 0, none⟩), t.val] w fun e w' => e = .returned (.tuple #[.int .i64 (findL L t).1, .int .i64 (findL L t).2]) ∧ Below w.heap.size w w' := by
 have HC := Lib.hid (fun w => rcheck_any t ht w)
 have hxb := World.block_lt_of_cell? w _ hx
 obtain ⟨n, hn⟩ : ∃ n, n = L.length := ⟨_, rfl⟩
 obtain ⟨ao, cap, rfl, hc1, hc2⟩ := hv.form
 rw [← hn] at hc1 hx
 obtain ⟨RR, hRR⟩ : ∃ q, q = findL L t := ⟨_, rfl⟩
 rw [← hRR]
 have HR := Lib.hid hRR
 have HN := Lib.hid hn
 have HV := Lib.hid hv
 have HL := Lib.hid hl
 obtain ⟨C, hC⟩ : ∃ q, q = checkOf t := ⟨_, rfl⟩
 rw [← hC] at HC
 have HCC := Lib.hid hC
 have HEQ := Lib.hid (fun y => equal_term y t)
 have HT := Lib.hid (show ∃ q, q = t from ⟨t, rfl⟩)
 obtain ⟨tt, htt⟩ : ∃ q, q = t := ⟨_, rfl⟩
 rw [← htt] at HEQ
 have HTT := Lib.hid htt
 clear hn hv hRR hC HT htt hl
 obtain ⟨k, s, l, u⟩ := t
 unfold Tm.val at HC ⊢
 dsimp only at HC ⊢
 have hal : Below w.heap.size w (w.alloc (.cells #[.int .i64 k, .string s, .string l, .string u] 59)) := (Below.refl _ w).alloc (Nat.le_refl _) _
 have hb1 := Blk.new w #[.int .i64 k, .string s, .string l, .string u] 59
 go_enter Tryz.func28, Tryz.ntmps28
 go_wp2_with fail
 generalize World.alloc w _ = w1 at hal hb1 ⊢
 refine (HC.out _).mono ?_
 rintro en w2 ⟨rfl, hb2⟩
 have hal2 := hal.trans (hb2.mono hal.size)
 have hB : Blk w2 w.heap.size _ _ := (hb2.block _ hb1.lt).trans hb1
 have hx2 : w2.cell? ⟨xb, 0, none⟩ = some (.slice ao n cap) := (hal2.cell (p := ⟨xb, 0, none⟩) hxb).trans hx
 have z0 := hB.cell 0
 have z1 := hB.cell 1
 have z2 := hB.cell 2
 have z3 := hB.cell 3
 simp only [List.getElem?_toArray, List.getElem?_cons_zero, List.getElem?_cons_succ] at z0 z1 z2 z3
 have HV2 := Lib.hid (HV.out.below hal2)
 have HBK := Lib.hid hB
 have HX2 := Lib.hid hx2
 have HXB := Lib.hid (Nat.lt_of_lt_of_le hxb hal2.size)
 clear hx hal hb1 hb2 hB HV hxb
 by_cases h0 : C = 0
 ·subst h0
  go_wp2_with fail
  have HAL := Lib.hid hal2
  clear hal2 z0 z1 z2 z3 hx2
  go_loopw [7] (fun i wr => ∃ k : Nat, k ≤ n ∧ i = .int .i64 k ∧ (∀ j (hj : j < L.length), j < k → L[j] ≠ tt) ∧ Below w2.heap.size w2 wr) (fun i _ => n - (intOf i).toNat)
  case atStart => exact ⟨0, Nat.zero_le _, rfl, fun j hj h => absurd h (Nat.not_lt_zero _), Below.refl _ _⟩
  case round =>
   obtain ⟨j, hj, rfl, hf, hbr⟩ := hrel
   have HF := Lib.hid hf
   have HBR := Lib.hid hbr
   have hB : Blk wr w.heap.size _ _ := (hbr.block _ HBK.out.lt).trans HBK.out
   have hx3 : wr.cell? ⟨xb, 0, none⟩ = some (.slice ao n cap) := (hbr.cell (p := ⟨xb, 0, none⟩) HXB.out).trans HX2.out
   have z0 := hB.cell 0
   have z1 := hB.cell 1
   have z2 := hB.cell 2
   have z3 := hB.cell 3
   simp only [List.getElem?_toArray, List.getElem?_cons_zero, List.getElem?_cons_succ] at z0 z1 z2 z3
   have HV3 := Lib.hid (HV2.out.below hbr)
   clear hf hbr hB
   by_cases hlt : j < n
   ·have hjl : j < L.length := by rw [← HN.out]; exact hlt
    obtain ⟨b, off, cap', e', -, -, -, hE⟩ := HV3.out.at (by omega)
    rw [← HN.out] at e'
    simp only [Value.slice.injEq, true_and] at e'
    obtain ⟨rfl, rfl⟩ := e'
    obtain ⟨c0, c1, c2, c3⟩ := hE j hjl
    have heq := HEQ.out L[j]
    obtain ⟨bb, hbb⟩ : ∃ q, q = eqB L[j] tt := ⟨_, rfl⟩
    rw [← hbb] at heq
    have HBB := Lib.hid hbb
    obtain ⟨y, hy⟩ : ∃ y, y = L[j] := ⟨_, rfl⟩
    rw [← hy] at c0 c1 c2 c3 heq
    have HY := Lib.hid hy
    obtain ⟨k', s', l', u'⟩ := y
    rw [HTT.out] at heq
    unfold Tm.val at heq
    dsimp only at c0 c1 c2 c3 heq
    have hlt' : (j : Int) < n := by omega
    have hj0 : (0 : Int) ≤ j := by omega
    clear hE hbb hy
    go_wp2_with fail
    go_quiet (fail)
    cases bb with
    | true =>
     go_wp2_with fail
     go_ret2
     refine ⟨?_, draws9 (HAL.out.trans (HBR.out.mono HAL.out.size)) _⟩
     have hjl : j < L.length := by rw [← HN.out]; exact hlt
     have he : L[j] = tt := (eqB_iff _ _).1 HBB.out.symm
     have : RR = (((j + 1 : Nat) : Int), (0 : Int)) := by
      rw [HR.out]
      unfold findL
      rw [← HTT.out, if_neg (by rw [HTT.out, ← HCC.out]; simp), findIdx_some hjl he HF.out]
     rw [this]
     go_num
    | false =>
     go_wp2_with fail
     go_roundw
     case rel =>
      refine ⟨j + 1, by omega, by go_num, fun i hi hij => ?_, draws9 HBR.out _⟩
      by_cases e : i = j
      ·subst e
       intro he
       have := (eqB_iff _ _).2 he
       rw [← HBB.out] at this
       cases this
      ·exact HF.out i hi (by omega)
     case measure => simp [intOf]; omega
   ·obtain rfl : j = n := by omega
    go_wp2_with fail
    go_ret2
    refine ⟨?_, HAL.out.trans (HBR.out.mono HAL.out.size)⟩
    have : RR = (0, 2) := by
     rw [HR.out]
     unfold findL
     rw [← HTT.out, if_neg (by rw [HTT.out, ← HCC.out]; simp), findIdx_none (fun i hi => HF.out i hi (by rw [HN.out]; exact hi))]
    rw [this]; rfl
 ·have h0' : (C == 0) = false := by simpa using h0
  go_wp2_with fail
  go_ret2
  refine ⟨?_, hal2⟩
  have : RR = (0, C) := by
   rw [HR.out]
   unfold findL
   rw [if_pos (by rw [← HCC.out]; exact h0), HCC.out]
  rw [this]; rfl
def Few7 (l : List Tm) : Prop := l.length ≤ 40 ∧ ∀ k (hk : k < l.length), l[k].Few
@[irreducible] def FewTo7 (l : List Tm) (w : World) (e : Ending) (w' : World) : Prop := ∃ t : Bool, e = .returned (.bool t) ∧ Below w.heap.size w w' ∧ (t = true → Few7 l)
theorem FewTo7.mk {l : List Tm} {w w' : World} {e : Ending} (h : ∃ t : Bool, e = .returned (.bool t) ∧ Below w.heap.size w w' ∧ (t = true → Few7 l)) : FewTo7 l w e w' := by unfold FewTo7; exact h
theorem FewTo7.out {l : List Tm} {w w' : World} {e : Ending} (h : FewTo7 l w e w') : ∃ t : Bool, e = .returned (.bool t) ∧ Below w.heap.size w w' ∧ (t = true → Few7 l) := by unfold FewTo7 at h; exact h
set_option maxHeartbeats 4000000 in
theorem few7_any {w : World} {v : Value} {l : List Tm} (h : Tms w v l) :
 Calls Tryz.prog 20 #[v] w (FewTo7 l w) := by
 obtain ⟨ao, cap, rfl, hc1, hc2, hE⟩ := id h
 have hc2' : cap ≤ 9223372036854775807 := hc2
 obtain ⟨n, hn⟩ : ∃ n, n = l.length := ⟨_, rfl⟩
 rw [← hn] at hc1 h ⊢
 have HN := Lib.hid hn
 have HH := Lib.hid h
 clear hn hE hc2 h
 go_enter Tryz.func20, Tryz.ntmps20
 go_wp2_with fail
 go_loopw [3] (fun i wr => ∃ k : Nat, k ≤ n ∧ i = .int .i64 k ∧ (∀ j (hj : j < l.length), j < k → l[j].Few) ∧ Below w.heap.size w wr) (fun i _ => n - (intOf i).toNat)
 case atStart => exact ⟨0, Nat.zero_le _, rfl, fun j hj h => absurd h (Nat.not_lt_zero _), Below.refl _ _⟩
 case round =>
  obtain ⟨k, hk, rfl, hf, hbel⟩ := hrel
  have HF := Lib.hid hf
  have HB := Lib.hid hbel
  clear hf
  by_cases hlt : k < n
  ·have hkl : k < l.length := by rw [← HN.out]; exact hlt
   obtain ⟨ao', cap', e', -, -, hE'⟩ := HH.out.below hbel
   rw [← HN.out] at e'
   simp only [Value.slice.injEq, true_and] at e'
   obtain ⟨rfl, rfl⟩ := e'
   obtain ⟨b, off, rfl, -, hA⟩ := hE' k hkl
   obtain ⟨q, hq⟩ : ∃ q, q = l[k] := ⟨_, rfl⟩
   rw [← hq] at hA
   have HQ := Lib.hid hq
   have HW := Lib.hid (show fewB q = true → q.Few from fun e => by
    unfold fewB at e
    simp only [Bool.and_eq_true, decide_eq_true_eq] at e
    exact ⟨hA.2.2.2.2.k, e.1.1, e.1.2, e.2⟩)
   obtain ⟨c0, c1, c2, c3, -⟩ := hA
   have hfe := fun w => few_any q w
   obtain ⟨fb, hfb⟩ : ∃ f, f = fewB q := ⟨_, rfl⟩
   rw [← hfb] at hfe HW
   obtain ⟨k', s', l', u'⟩ := q
   unfold Tm.val at hfe
   dsimp only at c0 c1 c2 c3 hfe
   have HFE := Lib.hid hfe
   have hlt' : (k : Int) < n := by omega
   clear hq hE' hfe hfb hbel
   go_wp2_with fail
   refine (HFE.out _).mono ?_
   rintro en w2 ⟨rfl, hb2⟩
   have HB2 := Lib.hid (HB.out.trans (hb2.mono HB.out.size))
   clear hb2 c0 c1 c2 c3
   cases fb with
   | false =>
    go_wp2_with fail
    go_ret
    exact FewTo7.mk ⟨false, rfl, HB2.out, fun e => by cases e⟩
   | true =>
    go_wp2_with fail
    go_roundw
    case rel =>
     refine ⟨k + 1, by omega, by go_num, fun j hj hjk => ?_, HB2.out⟩
     by_cases e : j = k
     ·subst e; rw [← HQ.out]; exact HW.out (by trivial)
     ·exact HF.out j hj (by omega)
    case measure => simp [intOf]; omega
  ·obtain rfl : k = n := by omega
   go_wp2_with fail
   go_ret
   refine FewTo7.mk ⟨decide ((k : Int) ≤ 40), rfl, hbel, fun e => ⟨?_, fun j hj => HF.out j hj (by rw [HN.out]; exact hj)⟩⟩
   have := of_decide_eq_true e
   rw [← HN.out]; omega
end Go.Proofs.YtbpdapcmaioeiaaGreat
namespace Go.Proofs.YtbpdapcmaioeiaaGreat
open Go.RowKit Go.Maps
set_option maxRecDepth 100000
set_option linter.unusedVariables false
/-- The reference's dictionary at xb. -/
structure R7 (w : World) (B xb : Nat) (v : Value) (L : List Tm) : Prop where
 blk : Blk w xb #[v] 57
 row : OwT w B v L
 ne : ∀ q, v.ownBlock = some q → q ≠ xb
theorem R7.read {w w' : World} {B xb : Nat} {v : Value} {L : List Tm} (h : R7 w B xb v L) (hb : Below w.heap.size w w') : R7 w' B xb v L := ⟨(hb.block _ h.blk.lt).trans h.blk, h.row.below hb, h.ne⟩
theorem R7.moved {P : Nat → Prop} {w w' : World} {B xb : Nat} {v : Value} {L : List Tm} (h : R7 w B xb v L) (hm : Moved P w w') (hx : ¬ P xb) (hP : ∀ q, v.ownBlock = some q → ¬ P q) : R7 w' B xb v L := ⟨h.blk.moved hm hx, h.row.moved hm hP, h.ne⟩
section
variable {w : World} {B xb n cap : Nat} {ao : Option Addr} {L : List Tm}
set_option maxHeartbeats 4000000 in
theorem rput7_old (h : R7 w B xb (.slice ao n cap) L) (hl : L.length ≤ 1000) (t : Tm) (ht : t.Ok) (a E : Int) (hf : findL L t = (a, E)) (h2 : E ≠ 2) :
 Calls Tryz.prog 26 #[.pointer (some ⟨xb, 0, none⟩), t.val] w fun e w' => e = .returned (.tuple #[.int .i64 a, .int .i64 E]) ∧ Below w.heap.size w w' := by
 have HFI := Lib.hid (fun (u : World) (hu : Below w.heap.size w u) => rfind7_any u xb (.slice ao n cap) L (by omega) (h.row.below hu).tml (by rw [(show Blk u xb _ _ from (hu.block _ h.blk.lt).trans h.blk).cell]; rfl) t ht)
 rw [hf] at HFI
 dsimp only at HFI
 have h2' : (E == 2) = false := by simpa using h2
 obtain ⟨k, s, l, u⟩ := t
 unfold Tm.val at HFI ⊢
 dsimp only at HFI ⊢
 have hal : Below w.heap.size w (w.alloc (.cells #[.int .i64 k, .string s, .string l, .string u] 59)) := (Below.refl _ w).alloc (Nat.le_refl _) _
 go_enter Tryz.func26, Tryz.ntmps26
 go_wp2_with fail
 refine (HFI.out _ hal).mono ?_
 rintro en w2 ⟨rfl, hb2⟩
 have hal2 := hal.trans (hb2.mono hal.size)
 go_wp2_with fail
 go_ret2
 exact ⟨rfl, hal2⟩
set_option maxHeartbeats 4000000 in
theorem rput7_new (h : R7 w B xb (.slice ao n cap) L) (hl : L.length ≤ 1000) (hB : B ≤ w.heap.size) (t : Tm) (ht : t.Ok) (hf : findL L t = (0, 2)) :
 Calls Tryz.prog 26 #[.pointer (some ⟨xb, 0, none⟩), t.val] w fun e w' => e = .returned (.tuple #[.int .i64 ((L.length + 1 : Nat) : Int), .int .i64 0]) ∧
  ∃ ao' cap', R7 w' B xb (.slice ao' (n + 1) cap') (L ++ [t]) ∧ n + 1 ≤ cap' ∧ cap' ≤ 9223372036854775807 ∧ Moved (fun q => q = xb ∨ (Value.slice ao n cap).ownBlock = some q) w w' ∧ (∀ q, (Value.slice ao' (n + 1) cap').ownBlock = some q → (Value.slice ao n cap).ownBlock = some q ∨ w.heap.size ≤ q) := by
 have HFI := Lib.hid (fun (u : World) (hu : Below w.heap.size w u) => rfind7_any u xb (.slice ao n cap) L (by omega) (h.row.below hu).tml (by rw [(show Blk u xb _ _ from (hu.block _ h.blk.lt).trans h.blk).cell]; rfl) t ht)
 rw [hf] at HFI
 dsimp only at HFI
 obtain ⟨fa, fc, fe, -⟩ := h.row.form
 simp only [Value.slice.injEq] at fe
 have hnL : n = L.length := fe.2.1
 have hnl : n + 1 = L.length + 1 := by omega
 have hn1 : n + 1 ≤ 1000000 := by omega
 rw [← hnL]
 have HNL := Lib.hid hnL
 clear fe hnL
 have hbw : ∀ q, (Value.slice ao n cap).ownBlock = some q → q < w.heap.size := fun q hq => (h.row.lt q hq).2
 have hxw : xb < w.heap.size := h.blk.lt
 obtain ⟨k, s, l, u⟩ := t
 unfold Tm.val at HFI ⊢
 dsimp only at HFI ⊢
 have hal : Below w.heap.size w (w.alloc (.cells #[.int .i64 k, .string s, .string l, .string u] 59)) := (Below.refl _ w).alloc (Nat.le_refl _) _
 have hb1 := Blk.new w #[.int .i64 k, .string s, .string l, .string u] 59
 have HNN := Lib.hid (And.intro hnl hn1)
 have HBW := Lib.hid hbw
 have HH := Lib.hid h
 clear hnl hn1 hbw h hf hl
 go_enter Tryz.func26, Tryz.ntmps26
 go_wp2_with fail
 generalize World.alloc w _ = w1 at hal hb1 ⊢
 refine (HFI.out _ hal).mono ?_
 rintro en w2 ⟨rfl, hb2⟩
 have hal2 := hal.trans (hb2.mono hal.size)
 have hb22 : Blk w2 w.heap.size _ _ := (hb2.block _ hb1.lt).trans hb1
 clear hal hb1 hb2 HFI
 go_wp2_with fail
 have hR2 := HH.out.read hal2
 have hx2 : w2.cell? ⟨xb, 0, none⟩ = some (.slice ao n cap) := by rw [hR2.blk.cell]; rfl
 have hR := hR2.read (Below.refl w2.heap.size w2).drew
 have hal4 := hal2.drew
 have hbw := HBW.out
 refine wp_region_any (by kernel_rfl) ?_
 change wpAny _ _ _ _ _ _ _ (World.drew _)
 refine wpAny_of_T (C := fun (w' : World) => w'.cell? ⟨xb, 0, none⟩ = some (.slice ao n cap) ∧ Blk w' w.heap.size #[.int .i64 k, .string s, .string l, .string u] 59) (T := [10]) _ _ _ _ ?_
 have hS : (fun (w' : World) => w'.cell? ⟨xb, 0, none⟩ = some (.slice ao n cap) ∧ Blk w' w.heap.size #[.int .i64 k, .string s, .string l, .string u] 59) (World.drew w2) := ⟨by rw [show (World.drew w2).cell? ⟨xb, 0, none⟩ = w2.cell? ⟨xb, 0, none⟩ from rfl]; exact hx2, hb22.drew⟩
 generalize World.drew w2 = u0 at hS hR hal4 ⊢
 try simp only [Act.put, List.setIfInBounds_toArray, List.set_cons_zero, List.set_cons_succ]
 refine wpAnyT_take (i := 0) (oi := ⟨some 16, _, _, _, _, _⟩) (v := ?_) rfl (by kernel_rfl) (by kernel_rfl) (by kernel_rfl) (by kernel_rfl) (fun _ _ _ h => h) (Or.inl ⟨by simp only [Region.wanted], ?_⟩) hS ?_
 rotate_left
 ·intro wz hSw
  clear hSw
  go_simp
  first | done | with_reducible rfl
 try simp only [Act.put, List.setIfInBounds_toArray, List.set_cons_zero, List.set_cons_succ]
 refine wpAnyT_take (i := 1) (oi := ⟨some 17, _, _, _, _, _⟩) (v := ?_) rfl (by kernel_rfl) (by kernel_rfl) (by kernel_rfl) (by kernel_rfl) (fun _ _ _ h => h) (Or.inl ⟨by simp only [Region.wanted], ?_⟩) hS ?_
 rotate_left
 ·intro wz hSw
  clear hSw
  go_simp
  first | done | with_reducible rfl
 try simp only [Act.put, List.setIfInBounds_toArray, List.set_cons_zero, List.set_cons_succ]
 refine wpAnyT_take (i := 2) (oi := ⟨some 18, _, _, _, _, _⟩) (v := ?_) rfl (by kernel_rfl) (by kernel_rfl) (by kernel_rfl) (by kernel_rfl) (fun _ _ _ h => h) (Or.inl ⟨by simp only [Region.wanted], ?_⟩) hS ?_
 rotate_left
 ·intro wz hSw
  clear hSw
  go_simp
  first | done | with_reducible rfl
 try simp only [Act.put, List.setIfInBounds_toArray, List.set_cons_zero, List.set_cons_succ]
 refine wpAnyT_take (i := 3) (oi := ⟨some 19, _, _, _, _, _⟩) (v := ?_) rfl (by kernel_rfl) (by kernel_rfl) (by kernel_rfl) (by kernel_rfl) (fun _ _ _ h => h) (Or.inl ⟨by simp only [Region.wanted], ?_⟩) hS ?_
 rotate_left
 ·intro wz hSw
  clear hSw
  go_simp
  first | done | with_reducible rfl
 try simp only [Act.put, List.setIfInBounds_toArray, List.set_cons_zero, List.set_cons_succ]
 refine wpAnyT_take (i := 4) (oi := ⟨some 20, _, _, _, _, _⟩) (v := ?_) rfl (by kernel_rfl) (by kernel_rfl) (by kernel_rfl) (by kernel_rfl) (fun _ _ _ h => h) (Or.inl ⟨by simp only [Region.wanted], ?_⟩) hS ?_
 rotate_left
 ·intro wz hSw; have m0 := hSw.2.cell 0; have m1 := hSw.2.cell 1; have m2 := hSw.2.cell 2; have m3 := hSw.2.cell 3; have q0 := hSw.1; simp only [List.getElem?_toArray, List.getElem?_cons_zero, List.getElem?_cons_succ] at m0 m1 m2 m3
  clear hSw
  go_simp
  first | done | with_reducible rfl
 try simp only [Act.put, List.setIfInBounds_toArray, List.set_cons_zero, List.set_cons_succ]
 refine wpAnyT_take (i := 5) (oi := ⟨some 21, _, _, _, _, _⟩) (v := ?_) rfl (by kernel_rfl) (by kernel_rfl) (by kernel_rfl) (by kernel_rfl) (fun _ _ _ h => h) (Or.inl ⟨by simp only [Region.wanted], ?_⟩) hS ?_
 rotate_left
 ·intro wz hSw; have m0 := hSw.2.cell 0; have m1 := hSw.2.cell 1; have m2 := hSw.2.cell 2; have m3 := hSw.2.cell 3; have q0 := hSw.1; simp only [List.getElem?_toArray, List.getElem?_cons_zero, List.getElem?_cons_succ] at m0 m1 m2 m3
  clear hSw
  go_simp
  first | done | with_reducible rfl
 try simp only [Act.put, List.setIfInBounds_toArray, List.set_cons_zero, List.set_cons_succ]
 refine wpAnyT_ready (rs := [6]) (by kernel_rfl) (by simp) ?_
 refine AllReadyT.cons (o := ⟨some 22, _, _, _, _, _⟩) rfl (fun KK hK => ?_) (AllReadyT.nil)
 ·have hal5 : Below u0.heap.size u0 (u0.alloc (.cells #[.int .i64 k, .string s, .string l, .string u] 59)) := (Below.refl _ _).alloc (Nat.le_refl _) _
  have hbx : Box (u0.alloc (.cells #[.int .i64 k, .string s, .string l, .string u] 59)) u0.heap.size ⟨k, s, l, u⟩ := by
   have hb := Blk.new u0 #[.int .i64 k, .string s, .string l, .string u] 59
   exact ⟨hb.cell 0, hb.cell 1, hb.cell 2, hb.cell 3⟩
  go_simp
  generalize World.alloc u0 _ = u1 at hal5 hbx ⊢
  refine hK.out _ _ (⟨(hal5.cell (p := ⟨xb, 0, none⟩) (World.block_lt_of_cell? _ _ hS.1)).trans hS.1, (hal5.block _ hS.2.lt).trans hS.2⟩) (fun hS => ?_)
  clear hK KK
  try simp only [Act.put, List.setIfInBounds_toArray, List.set_cons_zero, List.set_cons_succ]
  refine wpAnyT_ready (rs := [7]) (by kernel_rfl) (by simp) ?_
  refine AllReadyT.cons (o := ⟨some 23, _, _, _, _, _⟩) rfl (fun KK hK => ?_) (AllReadyT.nil)
  ·have hR1 := hR.read hal5
   have hBu : B ≤ u1.heap.size := by have := hal5.size; have := hal4.size; omega
   refine step_append_tm rfl _ _ rfl B hBu (.slice ao n cap) L rfl hR1.row u0.heap.size rfl ⟨k, s, l, u⟩ hbx (n + 1) HNN.out.1 HNN.out.2 ?_
   intro ao5 cap5 u2 ho hx5 hy5 hg hq
   have hm2 : Moved (fun q => (Value.slice ao n cap).ownBlock = some q) u1 u2 := ⟨hg.os, hg.tape, hg.output, hg.size, fun k hk hne => hg.block k hk (fun e => hne e.symm)⟩
   have hX2 := hR1.blk.moved hm2 (fun e => hR1.ne _ e rfl)
   have hT2 := hS.2.moved hm2 (fun e => by have := (hR.row.lt _ e).2; have := hbw _ e; omega)
   refine hK.out _ _ (⟨by rw [hX2.cell]; rfl, hT2⟩) (fun hS => ?_)
   clear hK KK
   try simp only [Act.put, List.setIfInBounds_toArray, List.set_cons_zero, List.set_cons_succ]
   refine wpAnyT_take (i := 8) (oi := ⟨some 24, _, _, _, _, _⟩) (v := ?_) rfl (by kernel_rfl) (by kernel_rfl) (by kernel_rfl) (by kernel_rfl) (fun _ _ _ h => h) (Or.inl ⟨by simp only [Region.wanted], ?_⟩) hS ?_
   rotate_left
   ·intro wz hSw
    clear hSw
    go_simp
    first | done | with_reducible rfl
   try simp only [Act.put, List.setIfInBounds_toArray, List.set_cons_zero, List.set_cons_succ]
   refine wpAnyT_take (i := 9) (oi := ⟨some 25, _, _, _, _, _⟩) (v := ?_) rfl (by kernel_rfl) (by kernel_rfl) (by kernel_rfl) (by kernel_rfl) (fun _ _ _ h => h) (Or.inl ⟨by simp only [Region.wanted], ?_⟩) hS ?_
   rotate_left
   ·intro wz hSw
    clear hSw
    go_simp
    first | done | with_reducible rfl
   try simp only [Act.put, List.setIfInBounds_toArray, List.set_cons_zero, List.set_cons_succ]
   have y0 := hX2.frozen 0
   refine wpAnyT_ready (rs := [10]) (by kernel_rfl) (by simp) ?_
   refine AllReadyT.last (o := ⟨none, _, _, _, _, _⟩) rfl (by kernel_rfl) (fun KK hK => ?_) (AllReadyT.nil)
   ·go_simp
    refine hK.out _ _ ?_
    clear hK KK
    try simp only [Act.put, List.setIfInBounds_toArray, List.set_cons_zero, List.set_cons_succ]
    refine wpAnyT_done (by kernel_rfl) ?_ _
    have hz2 := hX2.set 0 (.slice ao5 (n + 1) cap5)
    simp only [List.setIfInBounds_toArray, List.set_cons_zero] at hz2
    have z0 := hz2.cell 0
    simp only [List.getElem?_toArray, List.getElem?_cons_zero] at z0
    have hms : Moved (fun q => q = xb) u2 (u2.setCell ⟨xb, 0, none⟩ (.slice ao5 (n + 1) cap5)) := (Moved.refl (fun q => q = xb) u2).setCell ⟨xb, 0, none⟩ _ (.inl rfl)
    have hs04 := hal4.size
    have hs15 := hal5.size
    have hne2 : ∀ q, (Value.slice ao5 (n + 1) cap5).ownBlock = some q → q ≠ xb := fun q hq' => by
     rcases hq q hq' with e | e
     ·exact hR1.ne q e
     ·omega
    have hfin : R7 (u2.setCell ⟨xb, 0, none⟩ (.slice ao5 (n + 1) cap5)) B xb (.slice ao5 (n + 1) cap5) (L ++ [⟨k, s, l, u⟩]) := ⟨hz2, ho.moved hms (fun q hq' => hne2 q hq'), hne2⟩
    have hmv : Moved (fun q => q = xb ∨ (Value.slice ao n cap).ownBlock = some q) w (u2.setCell ⟨xb, 0, none⟩ (.slice ao5 (n + 1) cap5)) := (((Moved.of_below hal4 _).trans (Moved.of_below hal5 (fun _ => False)) (fun j hj => hj.elim)).trans hm2 (fun j hj => .inl (.inr hj))).trans hms (fun j hj => .inl (.inl hj))
    have hown : ∀ q, (Value.slice ao5 (n + 1) cap5).ownBlock = some q → (Value.slice ao n cap).ownBlock = some q ∨ w.heap.size ≤ q := fun q hq' => (hq q hq').imp id (fun e => by omega)
    clear hR hR1 hX2 hT2 hS y0 hg hq ho hms hm2 hbx
    generalize World.setCell u2 _ _ = u3 at hfin hmv z0 ⊢
    clear hz2
    go_wp2_with fail
    go_ret2
    refine ⟨?_, ao5, cap5, hfin, hx5, hy5, hmv, hown⟩
    first | rfl | (push_cast; rfl)
set_option maxHeartbeats 4000000 in
theorem rget7_none (h : R7 w B xb (.slice ao n cap) L) (hl : L.length ≤ 1000) (id : Int) (hwf : (Lit.int .i64 id).wf = true) (hid : id < 1 ∨ (L.length : Int) < id) :
 Calls Tryz.prog 30 #[.pointer (some ⟨xb, 0, none⟩), .int .i64 id] w fun e w' => e = .returned (.tuple #[.agg #[.int .i64 0, .string ⟨#[]⟩, .string ⟨#[]⟩, .string ⟨#[]⟩], .int .i64 2]) ∧ Below w.heap.size w w' := by
 obtain ⟨fa, fc, fe, hc1, hc2⟩ := h.row.form
 simp only [Value.slice.injEq] at fe
 have hnL : n = L.length := fe.2.1
 rw [← hnL] at hid hl hc1
 obtain ⟨-, -, rfl⟩ := fe
 clear hnL
 have hal : Below w.heap.size w (w.alloc (.cells #[.int .i64 0, .string ⟨#[]⟩, .string ⟨#[]⟩, .string ⟨#[]⟩] 59)) := (Below.refl _ w).alloc (Nat.le_refl _) _
 have hb1 := Blk.new w #[.int .i64 0, .string ⟨#[]⟩, .string ⟨#[]⟩, .string ⟨#[]⟩] 59
 have hx1 : (w.alloc (.cells #[.int .i64 0, .string ⟨#[]⟩, .string ⟨#[]⟩, .string ⟨#[]⟩] 59)).cell? ⟨xb, 0, none⟩ = some (.slice ao n cap) := by rw [(h.blk.alloc _).cell]; rfl
 clear h
 go_enter Tryz.func30, Tryz.ntmps30
 go_upto_region 1 with fail
 generalize World.alloc w _ = w1 at hal hb1 hx1 ⊢
 have z0 := hb1.cell 0
 have z1 := hb1.cell 1
 have z2 := hb1.cell 2
 have z3 := hb1.cell 3
 have y0 := hb1.frozen 0
 have y1 := hb1.frozen 1
 have y2 := hb1.frozen 2
 have y3 := hb1.frozen 3
 simp only [List.getElem?_toArray, List.getElem?_cons_zero, List.getElem?_cons_succ] at z0 z1 z2 z3
 have hz := (((hb1.set 0 (.int .i64 0)).set 1 (.string ⟨#[]⟩)).set 2 (.string ⟨#[]⟩)).set 3 (.string ⟨#[]⟩)
 simp only [List.setIfInBounds_toArray, List.set_cons_zero, List.set_cons_succ] at hz
 have hbz := (((hal.setCell (p := ⟨w.heap.size, 0, none⟩) (Nat.le_refl _) (.int .i64 0)).setCell (p := ⟨w.heap.size, 1, none⟩) (Nat.le_refl _) (.string ⟨#[]⟩)).setCell (p := ⟨w.heap.size, 2, none⟩) (Nat.le_refl _) (.string ⟨#[]⟩)).setCell (p := ⟨w.heap.size, 3, none⟩) (Nat.le_refl _) (.string ⟨#[]⟩)
 have HZ := Lib.hid hz
 have HBZ := Lib.hid hbz
 clear hz hbz
 by_cases h1 : id < 1
 ·clear hid
  go_wp2_with fail
  exact bodyPost_ret (results_cell_tmp_row (p := 4) (u := 5) (ty := 59) (by kernel_rfl) _ _ w.heap.size _ _ _ _ rfl HZ.out Tryz.underlying59 rfl (by kernel_rfl)) rfl ⟨rfl, HBZ.out⟩
 ·have h2 : (n : Int) < id := by omega
  clear hid
  go_wp2_with fail
  exact bodyPost_ret (results_cell_tmp_row (p := 4) (u := 5) (ty := 59) (by kernel_rfl) _ _ w.heap.size _ _ _ _ rfl HZ.out Tryz.underlying59 rfl (by kernel_rfl)) rfl ⟨rfl, HBZ.out⟩
set_option maxHeartbeats 4000000 in
theorem rget7_some (h : R7 w B xb (.slice ao n cap) L) (hl : L.length ≤ 1000) (i : Nat) (hi : i < L.length) :
 Calls Tryz.prog 30 #[.pointer (some ⟨xb, 0, none⟩), .int .i64 ((i : Int) + 1)] w fun e w' => e = .returned (.tuple #[L[i].val, .int .i64 0]) ∧ Below w.heap.size w w' := by
 obtain ⟨bo, of, fc, fe, hc1, hc2, hbl, hcell⟩ := h.row.tml.at (by omega)
 obtain ⟨c0, c1, c2, c3⟩ := hcell i hi
 simp only [Value.slice.injEq] at fe
 have hnL : n = L.length := fe.2.1
 have hiI : (i : Int) < n := by omega
 have hi0 : (0 : Int) ≤ i := by omega
 have hnI : (n : Int) ≤ 1000 := by omega
 rw [← hnL] at hc1
 obtain ⟨rfl, -, rfl⟩ := fe
 obtain ⟨t, ht⟩ : ∃ t, t = L[i] := ⟨_, rfl⟩
 rw [← ht] at c0 c1 c2 c3 ⊢
 have hal : Below w.heap.size w (w.alloc (.cells #[.int .i64 0, .string ⟨#[]⟩, .string ⟨#[]⟩, .string ⟨#[]⟩] 59)) := (Below.refl _ w).alloc (Nat.le_refl _) _
 have hb1 := Blk.new w #[.int .i64 0, .string ⟨#[]⟩, .string ⟨#[]⟩, .string ⟨#[]⟩] 59
 have hx1 : (w.alloc (.cells #[.int .i64 0, .string ⟨#[]⟩, .string ⟨#[]⟩, .string ⟨#[]⟩] 59)).cell? ⟨xb, 0, none⟩ = some (.slice (some ⟨bo, of, none⟩) n cap) := by rw [(h.blk.alloc _).cell]; rfl
 have hcs : ∀ j, (w.alloc (.cells #[.int .i64 0, .string ⟨#[]⟩, .string ⟨#[]⟩, .string ⟨#[]⟩] 59)).cell? ⟨bo, j, none⟩ = w.cell? ⟨bo, j, none⟩ := fun j => hal.cell (p := ⟨bo, j, none⟩) hbl
 rw [← hcs] at c0 c1 c2 c3
 clear h hcell hnL ht hcs
 obtain ⟨k, s, l, u⟩ := t
 unfold Tm.val
 dsimp only at c0 c1 c2 c3 ⊢
 go_enter Tryz.func30, Tryz.ntmps30
 go_upto_region 1 with fail
 generalize World.alloc w _ = w1 at hal hb1 hx1 c0 c1 c2 c3 ⊢
 have z0 := hb1.cell 0
 have z1 := hb1.cell 1
 have z2 := hb1.cell 2
 have z3 := hb1.cell 3
 have y0 := hb1.frozen 0
 have y1 := hb1.frozen 1
 have y2 := hb1.frozen 2
 have y3 := hb1.frozen 3
 simp only [List.getElem?_toArray, List.getElem?_cons_zero, List.getElem?_cons_succ] at z0 z1 z2 z3
 have hz := (((hb1.set 0 (.int .i64 k)).set 1 (.string s)).set 2 (.string l)).set 3 (.string u)
 simp only [List.setIfInBounds_toArray, List.set_cons_zero, List.set_cons_succ] at hz
 have hbz := (((hal.setCell (p := ⟨w.heap.size, 0, none⟩) (Nat.le_refl _) (.int .i64 k)).setCell (p := ⟨w.heap.size, 1, none⟩) (Nat.le_refl _) (.string s)).setCell (p := ⟨w.heap.size, 2, none⟩) (Nat.le_refl _) (.string l)).setCell (p := ⟨w.heap.size, 3, none⟩) (Nat.le_refl _) (.string u)
 have HZ := Lib.hid hz
 have HBZ := Lib.hid hbz
 clear hz hbz
 go_wp2_with fail
 exact bodyPost_ret (results_cell_tmp_row (p := 4) (u := 5) (ty := 59) (by kernel_rfl) _ _ w.heap.size _ _ _ _ rfl HZ.out Tryz.underlying59 rfl (by kernel_rfl)) rfl ⟨rfl, HBZ.out⟩
end
end Go.Proofs.YtbpdapcmaioeiaaGreat
