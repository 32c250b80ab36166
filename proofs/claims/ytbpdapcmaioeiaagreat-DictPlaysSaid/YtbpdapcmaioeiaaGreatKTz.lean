/- Tz -/
import Derived.Test.YtbpdapcmaioeiaaGreatKTc
import Derived.Test.YtbpdapcmaioeiaaGreatKTq
namespace Go.Proofs.YtbpdapcmaioeiaaGreat
open Go.RowKit
set_option maxRecDepth 100000
set_option linter.unusedVariables false
theorem rbyte_any (r : Nat) (l : List UInt8) (e : Int) (w : World) (h : Rd w r l e) :
 Calls Tryz.prog 139 #[.pointer (some ⟨r, 0, none⟩)] w fun en w' =>
  en = .returned (.int .i64 (wrap64 (num (tookOf l e 1)))) ∧ Rd w' r (leftOf l e 1) (errOf l e 1) ∧ w.grownBy w' (some r) := by
 go_enter Tryz.func139, Tryz.ntmps139
 go_wp2_with fail
 refine (number_at r l e 1 1 rfl (by omega) _ h).mono ?_
 rintro en w1 ⟨rfl, h1, hg⟩
 go_wp2
 go_ret
 exact ⟨rfl, h1, hg⟩
theorem rtext_any (r : Nat) (l : List UInt8) (e : Int) (w : World) (h : Rd w r l e) :
 Calls Tryz.prog 140 #[.pointer (some ⟨r, 0, none⟩)] w fun en w' =>
  en = .returned (.string ⟨(textOf l e).toArray⟩) ∧ Rd w' r (textLeft l e) (textErr l e) ∧ w.grownBy w' (some r) := by
 have hn := num_two _ (tookOf_le l e 2)
 have hw : wrap64 ((num (tookOf l e 2) : Nat) : Int) = (num (tookOf l e 2) : Nat) := by simp only [wrap64]; omega
 have HW := Lib.hid hw
 clear hw
 go_enter Tryz.func140, Tryz.ntmps140
 go_wp2_with fail
 refine (number_at r l e 2 2 rfl (by omega) _ h).mono ?_
 rintro en w1 ⟨rfl, h1, hg⟩
 rw [HW.out]
 go_wp2_with fail
 refine (take_any r _ _ _ (by omega) _ h1).mono ?_
 rintro en w2 ⟨v2, rfl, hb2, h2, hg2⟩
 have hc := run_conv_bytes hb2
 go_wp2
 go_ret
 exact ⟨rfl, h2, grownBy_trans hg hg2⟩
def noT : Tm := ⟨0, nob, nob, nob⟩
/-- What Parse answers. -/
def parseOf (b : List UInt8) : Tm × Int := if (rawT b).2 ≠ 0 then (noT, (rawT b).2) else if checkOf (rawT b).1 ≠ 0 then (noT, checkOf (rawT b).1) else ((rawT b).1, 0)
theorem Mine.grown {W W' : World} {b : Nat} {x : Tm} {row : Option Nat} (h : Mine W b x) (hg : W.grownBy W' row) (hne : row ≠ some b) : Mine W' b x := by
 have hlt := h.1.lt
 have hb := hg.block b hlt (Ne.symm hne)
 have hc : ∀ o, W'.cell? ⟨b, o, none⟩ = W.cell? ⟨b, o, none⟩ := fun o => World.cell?_of_block (w := W) (a := ⟨b, o, none⟩) hb
 have hf : ∀ o, W'.frozen? ⟨b, o, none⟩ = W.frozen? ⟨b, o, none⟩ := fun o => World.frozen?_of_block (w := W) (a := ⟨b, o, none⟩) hb
 unfold Mine Box at h ⊢
 simp only [hc, hf]
 exact h
theorem took_length (l : List UInt8) (e : Int) (n : Nat) : (tookOf l e n).length ≤ l.length := by unfold tookOf; split <;> simp; omega
theorem left_length (l : List UInt8) (e : Int) (n : Nat) : (leftOf l e n).length ≤ l.length := by unfold leftOf; split <;> simp
theorem textOf_length (l : List UInt8) (e : Int) : (textOf l e).length ≤ l.length := Nat.le_trans (took_length _ _ _) (left_length _ _ _)
theorem textLeft_length (l : List UInt8) (e : Int) : (textLeft l e).length ≤ l.length := Nat.le_trans (left_length _ _ _) (left_length _ _ _)
theorem raw_ok (b : List UInt8) (hb : b.length ≤ 1099511627776) : (rawT b).1.Ok := by
 have h1 := left_length b 0 1
 have h2 := textLeft_length (leftOf b 0 1) (errOf b 0 1)
 have h3 := textLeft_length (textLeft (leftOf b 0 1) (errOf b 0 1)) (textErr (leftOf b 0 1) (errOf b 0 1))
 have t1 := textOf_length (leftOf b 0 1) (errOf b 0 1)
 have t2 := textOf_length (textLeft (leftOf b 0 1) (errOf b 0 1)) (textErr (leftOf b 0 1) (errOf b 0 1))
 have t3 := textOf_length (textLeft (textLeft (leftOf b 0 1) (errOf b 0 1)) (textErr (leftOf b 0 1) (errOf b 0 1))) (textErr (textLeft (leftOf b 0 1) (errOf b 0 1)) (textErr (leftOf b 0 1) (errOf b 0 1)))
 refine ⟨?_, ?_, ?_, ?_⟩
 ·show (Lit.int .i64 (wrap64 _)).wf = true
  exact WalkArith.wf_i64 (by simp only [wrap64]; omega)
 ·show (textOf _ _).toArray.size ≤ maxLen
  rw [List.size_toArray]; unfold maxLen; omega
 ·show (textOf _ _).toArray.size ≤ maxLen
  rw [List.size_toArray]; unfold maxLen; omega
 ·show (textOf _ _).toArray.size ≤ maxLen
  rw [List.size_toArray]; unfold maxLen; omega
set_option maxHeartbeats 16000000 in
theorem parse_any (v : Value) (b : List UInt8) (hb : b.length ≤ 1099511627776) (w : World) (hbs : Bs w v b) :
 Calls Tryz.prog 100 #[v] w fun e w' => e = .returned (.tuple #[(parseOf b).1.val, .int .i64 (parseOf b).2]) ∧ Below w.heap.size w w' := by
 have hrok := raw_ok b hb
 obtain ⟨R, hR⟩ : ∃ R, R = parseOf b := ⟨_, rfl⟩
 rw [← hR]
 obtain ⟨K, hK⟩ : ∃ K, K = wrap64 (num (tookOf b 0 1)) := ⟨_, rfl⟩
 obtain ⟨S, hS⟩ : ∃ S : ByteArray, S = ⟨(textOf (leftOf b 0 1) (errOf b 0 1)).toArray⟩ := ⟨_, rfl⟩
 obtain ⟨L, hL⟩ : ∃ L : ByteArray, L = ⟨(textOf (textLeft (leftOf b 0 1) (errOf b 0 1)) (textErr (leftOf b 0 1) (errOf b 0 1))).toArray⟩ := ⟨_, rfl⟩
 obtain ⟨T, hT⟩ : ∃ T : ByteArray, T = ⟨(textOf (textLeft (textLeft (leftOf b 0 1) (errOf b 0 1)) (textErr (leftOf b 0 1) (errOf b 0 1))) (textErr (textLeft (leftOf b 0 1) (errOf b 0 1)) (textErr (leftOf b 0 1) (errOf b 0 1)))).toArray⟩ := ⟨_, rfl⟩
 obtain ⟨E, hE⟩ : ∃ E, E = endOf (textLeft (textLeft (textLeft (leftOf b 0 1) (errOf b 0 1)) (textErr (leftOf b 0 1) (errOf b 0 1))) (textErr (textLeft (leftOf b 0 1) (errOf b 0 1)) (textErr (leftOf b 0 1) (errOf b 0 1)))) (textErr (textLeft (textLeft (leftOf b 0 1) (errOf b 0 1)) (textErr (leftOf b 0 1) (errOf b 0 1))) (textErr (textLeft (leftOf b 0 1) (errOf b 0 1)) (textErr (leftOf b 0 1) (errOf b 0 1)))) := ⟨_, rfl⟩
 have hraw : rawT b = (⟨K, S, L, T⟩, E) := by rw [hK, hS, hL, hT, hE]; rfl
 have hck := check_any _ hrok
 unfold parseOf at hR
 rw [hraw] at hR hck
 unfold Tm.val at hck
 dsimp only at hR hck
 generalize checkOf _ = C at hR hck
 have HR := Lib.hid hR
 have HK := Lib.hid hK
 have HS := Lib.hid hS
 have HL := Lib.hid hL
 have HT := Lib.hid hT
 have HE := Lib.hid hE
 have HCK := Lib.hid hck
 clear hR hK hS hL hT hE hck hraw hrok
 obtain ⟨ao, cap, rfl, -⟩ := id hbs
 have hm : Mine (w.alloc (.cells #[.int .i64 0, .string ⟨#[]⟩, .string ⟨#[]⟩, .string ⟨#[]⟩] 59)) w.heap.size noT := Mine.new w
 have hbw : Below w.heap.size w (w.alloc (.cells #[.int .i64 0, .string ⟨#[]⟩, .string ⟨#[]⟩, .string ⟨#[]⟩] 59)) := (Below.refl _ _).alloc (Nat.le_refl _) _
 have hlt : w.heap.size < (w.alloc (.cells #[.int .i64 0, .string ⟨#[]⟩, .string ⟨#[]⟩, .string ⟨#[]⟩] 59)).heap.size := by simp
 obtain ⟨W, hW⟩ : ∃ W, W = w.alloc (.cells #[.int .i64 0, .string ⟨#[]⟩, .string ⟨#[]⟩, .string ⟨#[]⟩] 59) := ⟨_, rfl⟩
 rw [← hW] at hm hbw hlt
 have HBS := Lib.hid (hbs.below hbw)
 have HM := Lib.hid hm
 have HB := Lib.hid hbw
 have HLT := Lib.hid hlt
 have HW := Lib.hid hW
 clear hm hbw hlt hW
 go_enter Tryz.func100, Tryz.ntmps100
 go_wp2
 rw [← HW.out]
 clear HW
 by_cases hE0 : E = 0
 rotate_left
 ·have HRR := Lib.hid (show R = (noT, E) by rw [HR.out, if_pos hE0])
  refine wp_scope_jumps 0 (fun a' w' => ∃ u0 u1 u3 u4 u5 u7 u8 u9 u10 u11 u12 u13 u14 u15 u16 u17 u18 u19 u20 u21 u22 u23 u24 u25 u26 u27 u28 : Value, a' = { tmps := #[u0, u1, .pointer (some ⟨w.heap.size, 0, none⟩), u3, u4, u5, .int .i64 E, u7, u8, u9, u10, u11, u12, u13, u14, u15, u16, u17, u18, u19, u20, u21, u22, u23, u24, u25, u26, u27, u28], defers := [] } ∧ Mine w' w.heap.size noT ∧ Below w.heap.size w w') (fun _ _ => 0) rfl ?_ ?_
  rotate_left
  ·rintro a' w' ⟨u0, u1, u3, u4, u5, u7, u8, u9, u10, u11, u12, u13, u14, u15, u16, u17, u18, u19, u20, u21, u22, u23, u24, u25, u26, u27, u28, rfl, ⟨hm, hbl⟩⟩
   obtain ⟨⟨c0, c1, c2, c3⟩, f0, f1, f2, f3⟩ := hm
   unfold noT nob at c0 c1 c2 c3
   dsimp only at c0 c1 c2 c3
   have HBL := Lib.hid hbl
   clear hbl
   go_wp2_with fail
   simp only [Exit.jump]
   refine bodyPost_ret (v := .tuple #[.agg #[.int .i64 0, .string ⟨#[]⟩, .string ⟨#[]⟩, .string ⟨#[]⟩], .int .i64 E]) (by simp [results, Tryz.results100, go_sem, cell_of_set c0, cell_of_set c1, cell_of_set c2, cell_of_set c3]) rfl ⟨?_, ?_⟩
   ·rw [HRR.out]; rfl
   ·exact (((HBL.out.setCell (Nat.le_refl _) _).setCell (Nat.le_refl _) _).setCell (Nat.le_refl _) _).setCell (Nat.le_refl _) _
  go_wp2_with fail
  refine (new_any _ b hb _ HBS.out).mono ?_
  rintro e w2 ⟨r, rfl, hrd, hr, hb2⟩
  have hm2 := HM.out.below hb2
  have hbl2 := HB.out.trans (hb2.mono HB.out.size)
  have hr2 : w.heap.size < r := Nat.lt_of_lt_of_le HLT.out hr
  have HRD := Lib.hid hrd
  have HM2 := Lib.hid hm2
  have HB2 := Lib.hid hbl2
  have HR2 := Lib.hid hr2
  clear hrd hm2 hbl2 hb2 hr hr2 HBS
  go_wp2_with fail
  refine (rbyte_any r b 0 _ HRD.out).mono ?_
  rintro e w3 ⟨rfl, hrd, hg⟩
  rw [← HK.out]
  have hm2 := HM2.out.grown hg (by have := HR2.out; intro h; injection h; omega)
  have hbl2 := HB2.out.grown hg HB2.out.size (fun q h => by have := HR2.out; injection h; omega)
  clear HRD HM2 HB2
  have HRD := Lib.hid hrd
  have HM2 := Lib.hid hm2
  have HB2 := Lib.hid hbl2
  clear hrd hm2 hbl2 hg
  go_wp2_with fail
  refine (rtext_any r (leftOf b 0 1) (errOf b 0 1) _ HRD.out).mono ?_
  rintro e w4 ⟨rfl, hrd, hg⟩
  rw [← HS.out]
  have hm2 := HM2.out.grown hg (by have := HR2.out; intro h; injection h; omega)
  have hbl2 := HB2.out.grown hg HB2.out.size (fun q h => by have := HR2.out; injection h; omega)
  clear HRD HM2 HB2
  have HRD := Lib.hid hrd
  have HM2 := Lib.hid hm2
  have HB2 := Lib.hid hbl2
  clear hrd hm2 hbl2 hg
  go_wp2_with fail
  refine (rtext_any r (textLeft (leftOf b 0 1) (errOf b 0 1)) (textErr (leftOf b 0 1) (errOf b 0 1)) _ HRD.out).mono ?_
  rintro e w5 ⟨rfl, hrd, hg⟩
  rw [← HL.out]
  have hm2 := HM2.out.grown hg (by have := HR2.out; intro h; injection h; omega)
  have hbl2 := HB2.out.grown hg HB2.out.size (fun q h => by have := HR2.out; injection h; omega)
  clear HRD HM2 HB2
  have HRD := Lib.hid hrd
  have HM2 := Lib.hid hm2
  have HB2 := Lib.hid hbl2
  clear hrd hm2 hbl2 hg
  go_wp2_with fail
  refine (rtext_any r (textLeft (textLeft (leftOf b 0 1) (errOf b 0 1)) (textErr (leftOf b 0 1) (errOf b 0 1))) (textErr (textLeft (leftOf b 0 1) (errOf b 0 1)) (textErr (leftOf b 0 1) (errOf b 0 1))) _ HRD.out).mono ?_
  rintro e w6 ⟨rfl, hrd, hg⟩
  rw [← HT.out]
  have hm2 := HM2.out.grown hg (by have := HR2.out; intro h; injection h; omega)
  have hbl2 := HB2.out.grown hg HB2.out.size (fun q h => by have := HR2.out; injection h; omega)
  clear HRD HM2 HB2
  have HRD := Lib.hid hrd
  have HM2 := Lib.hid hm2
  have HB2 := Lib.hid hbl2
  clear hrd hm2 hbl2 hg
  have hal : Below w6.heap.size w6 (w6.alloc (.cells #[.int .i64 K, .string S, .string L, .string T] 59)) := (Below.refl _ _).alloc (Nat.le_refl _) _
  have HRD3 := Lib.hid (HRD.out.below hal)
  have HM3 := Lib.hid (HM2.out.below hal)
  have HB3 := Lib.hid (HB2.out.trans (hal.mono HB2.out.size))
  have hlt6 := HM2.out.1.lt
  clear hal
  go_wp2_with fail
  refine (end_any r _ _ _ HRD3.out).mono ?_
  rintro e w7 ⟨rfl, rfl⟩
  rw [← HE.out]
  clear HRD HM2 HB2 HRD3
  have hn : (E != 0) = true := by simpa using hE0
  clear hE0
  go_wp2_with fail
  go_step3
  exact ⟨rfl, ⟨_, _, _, _, _, _, _, _, _, _, _, _, _, _, _, _, _, _, _, _, _, _, _, _, _, _, _, rfl, ⟨HM3.out, HB3.out⟩⟩⟩
 subst hE0
 by_cases hC0 : C = 0
 rotate_left
 ·have HRR := Lib.hid (show R = (noT, C) by rw [HR.out, if_neg (by simp), if_pos hC0])
  refine wp_scope_jumps 0 (fun a' w' => ∃ u0 u1 u3 u4 u5 u7 u8 u9 u10 u11 u12 u13 u14 u15 u16 u17 u18 u19 u20 u21 u22 u23 u24 u25 u26 u27 u28 : Value, a' = { tmps := #[u0, u1, .pointer (some ⟨w.heap.size, 0, none⟩), u3, u4, u5, .int .i64 C, u7, u8, u9, u10, u11, u12, u13, u14, u15, u16, u17, u18, u19, u20, u21, u22, u23, u24, u25, u26, u27, u28], defers := [] } ∧ Mine w' w.heap.size noT ∧ Below w.heap.size w w') (fun _ _ => 0) rfl ?_ ?_
  rotate_left
  ·rintro a' w' ⟨u0, u1, u3, u4, u5, u7, u8, u9, u10, u11, u12, u13, u14, u15, u16, u17, u18, u19, u20, u21, u22, u23, u24, u25, u26, u27, u28, rfl, ⟨hm, hbl⟩⟩
   obtain ⟨⟨c0, c1, c2, c3⟩, f0, f1, f2, f3⟩ := hm
   unfold noT nob at c0 c1 c2 c3
   dsimp only at c0 c1 c2 c3
   have HBL := Lib.hid hbl
   clear hbl
   go_wp2_with fail
   simp only [Exit.jump]
   refine bodyPost_ret (v := .tuple #[.agg #[.int .i64 0, .string ⟨#[]⟩, .string ⟨#[]⟩, .string ⟨#[]⟩], .int .i64 C]) (by simp [results, Tryz.results100, go_sem, cell_of_set c0, cell_of_set c1, cell_of_set c2, cell_of_set c3]) rfl ⟨?_, ?_⟩
   ·rw [HRR.out]; rfl
   ·exact (((HBL.out.setCell (Nat.le_refl _) _).setCell (Nat.le_refl _) _).setCell (Nat.le_refl _) _).setCell (Nat.le_refl _) _
  go_wp2_with fail
  refine (new_any _ b hb _ HBS.out).mono ?_
  rintro e w2 ⟨r, rfl, hrd, hr, hb2⟩
  have hm2 := HM.out.below hb2
  have hbl2 := HB.out.trans (hb2.mono HB.out.size)
  have hr2 : w.heap.size < r := Nat.lt_of_lt_of_le HLT.out hr
  have HRD := Lib.hid hrd
  have HM2 := Lib.hid hm2
  have HB2 := Lib.hid hbl2
  have HR2 := Lib.hid hr2
  clear hrd hm2 hbl2 hb2 hr hr2 HBS
  go_wp2_with fail
  refine (rbyte_any r b 0 _ HRD.out).mono ?_
  rintro e w3 ⟨rfl, hrd, hg⟩
  rw [← HK.out]
  have hm2 := HM2.out.grown hg (by have := HR2.out; intro h; injection h; omega)
  have hbl2 := HB2.out.grown hg HB2.out.size (fun q h => by have := HR2.out; injection h; omega)
  clear HRD HM2 HB2
  have HRD := Lib.hid hrd
  have HM2 := Lib.hid hm2
  have HB2 := Lib.hid hbl2
  clear hrd hm2 hbl2 hg
  go_wp2_with fail
  refine (rtext_any r (leftOf b 0 1) (errOf b 0 1) _ HRD.out).mono ?_
  rintro e w4 ⟨rfl, hrd, hg⟩
  rw [← HS.out]
  have hm2 := HM2.out.grown hg (by have := HR2.out; intro h; injection h; omega)
  have hbl2 := HB2.out.grown hg HB2.out.size (fun q h => by have := HR2.out; injection h; omega)
  clear HRD HM2 HB2
  have HRD := Lib.hid hrd
  have HM2 := Lib.hid hm2
  have HB2 := Lib.hid hbl2
  clear hrd hm2 hbl2 hg
  go_wp2_with fail
  refine (rtext_any r (textLeft (leftOf b 0 1) (errOf b 0 1)) (textErr (leftOf b 0 1) (errOf b 0 1)) _ HRD.out).mono ?_
  rintro e w5 ⟨rfl, hrd, hg⟩
  rw [← HL.out]
  have hm2 := HM2.out.grown hg (by have := HR2.out; intro h; injection h; omega)
  have hbl2 := HB2.out.grown hg HB2.out.size (fun q h => by have := HR2.out; injection h; omega)
  clear HRD HM2 HB2
  have HRD := Lib.hid hrd
  have HM2 := Lib.hid hm2
  have HB2 := Lib.hid hbl2
  clear hrd hm2 hbl2 hg
  go_wp2_with fail
  refine (rtext_any r (textLeft (textLeft (leftOf b 0 1) (errOf b 0 1)) (textErr (leftOf b 0 1) (errOf b 0 1))) (textErr (textLeft (leftOf b 0 1) (errOf b 0 1)) (textErr (leftOf b 0 1) (errOf b 0 1))) _ HRD.out).mono ?_
  rintro e w6 ⟨rfl, hrd, hg⟩
  rw [← HT.out]
  have hm2 := HM2.out.grown hg (by have := HR2.out; intro h; injection h; omega)
  have hbl2 := HB2.out.grown hg HB2.out.size (fun q h => by have := HR2.out; injection h; omega)
  clear HRD HM2 HB2
  have HRD := Lib.hid hrd
  have HM2 := Lib.hid hm2
  have HB2 := Lib.hid hbl2
  clear hrd hm2 hbl2 hg
  have hal : Below w6.heap.size w6 (w6.alloc (.cells #[.int .i64 K, .string S, .string L, .string T] 59)) := (Below.refl _ _).alloc (Nat.le_refl _) _
  have HRD3 := Lib.hid (HRD.out.below hal)
  have HM3 := Lib.hid (HM2.out.below hal)
  have HB3 := Lib.hid (HB2.out.trans (hal.mono HB2.out.size))
  have hlt6 := HM2.out.1.lt
  clear hal
  go_wp2_with fail
  refine (end_any r _ _ _ HRD3.out).mono ?_
  rintro e w7 ⟨rfl, rfl⟩
  rw [← HE.out]
  clear HRD HM2 HB2 HRD3
  go_wp2_with fail
  refine (HCK.out _).mono ?_
  rintro e w8 ⟨rfl, hb8⟩
  have hm8 := HM3.out.below hb8
  have hbl8 := HB3.out.trans (hb8.mono HB3.out.size)
  have HM8 := Lib.hid hm8
  have HB8 := Lib.hid hbl8
  have hn : (C != 0) = true := by simpa using hC0
  clear hC0 hb8 hm8 hbl8
  go_wp2_with fail
  go_step3
  exact ⟨rfl, ⟨_, _, _, _, _, _, _, _, _, _, _, _, _, _, _, _, _, _, _, _, _, _, _, _, _, _, _, rfl, ⟨HM8.out, HB8.out⟩⟩⟩
 subst hC0
 have HRR := Lib.hid (show R = (⟨K, S, L, T⟩, 0) by rw [HR.out, if_neg (by simp), if_neg (by simp)])
 refine wp_scope_jumps 0 (fun _ _ => False) (fun _ _ => 0) rfl ?_ (fun _ _ h => h.elim)
 go_wp2_with fail
 refine (new_any _ b hb _ HBS.out).mono ?_
 rintro e w2 ⟨r, rfl, hrd, hr, hb2⟩
 have hm2 := HM.out.below hb2
 have hbl2 := HB.out.trans (hb2.mono HB.out.size)
 have hr2 : w.heap.size < r := Nat.lt_of_lt_of_le HLT.out hr
 have HRD := Lib.hid hrd
 have HM2 := Lib.hid hm2
 have HB2 := Lib.hid hbl2
 have HR2 := Lib.hid hr2
 clear hrd hm2 hbl2 hb2 hr hr2 HBS
 go_wp2_with fail
 refine (rbyte_any r b 0 _ HRD.out).mono ?_
 rintro e w3 ⟨rfl, hrd, hg⟩
 rw [← HK.out]
 have hm2 := HM2.out.grown hg (by have := HR2.out; intro h; injection h; omega)
 have hbl2 := HB2.out.grown hg HB2.out.size (fun q h => by have := HR2.out; injection h; omega)
 clear HRD HM2 HB2
 have HRD := Lib.hid hrd
 have HM2 := Lib.hid hm2
 have HB2 := Lib.hid hbl2
 clear hrd hm2 hbl2 hg
 go_wp2_with fail
 refine (rtext_any r (leftOf b 0 1) (errOf b 0 1) _ HRD.out).mono ?_
 rintro e w4 ⟨rfl, hrd, hg⟩
 rw [← HS.out]
 have hm2 := HM2.out.grown hg (by have := HR2.out; intro h; injection h; omega)
 have hbl2 := HB2.out.grown hg HB2.out.size (fun q h => by have := HR2.out; injection h; omega)
 clear HRD HM2 HB2
 have HRD := Lib.hid hrd
 have HM2 := Lib.hid hm2
 have HB2 := Lib.hid hbl2
 clear hrd hm2 hbl2 hg
 go_wp2_with fail
 refine (rtext_any r (textLeft (leftOf b 0 1) (errOf b 0 1)) (textErr (leftOf b 0 1) (errOf b 0 1)) _ HRD.out).mono ?_
 rintro e w5 ⟨rfl, hrd, hg⟩
 rw [← HL.out]
 have hm2 := HM2.out.grown hg (by have := HR2.out; intro h; injection h; omega)
 have hbl2 := HB2.out.grown hg HB2.out.size (fun q h => by have := HR2.out; injection h; omega)
 clear HRD HM2 HB2
 have HRD := Lib.hid hrd
 have HM2 := Lib.hid hm2
 have HB2 := Lib.hid hbl2
 clear hrd hm2 hbl2 hg
 go_wp2_with fail
 refine (rtext_any r (textLeft (textLeft (leftOf b 0 1) (errOf b 0 1)) (textErr (leftOf b 0 1) (errOf b 0 1))) (textErr (textLeft (leftOf b 0 1) (errOf b 0 1)) (textErr (leftOf b 0 1) (errOf b 0 1))) _ HRD.out).mono ?_
 rintro e w6 ⟨rfl, hrd, hg⟩
 rw [← HT.out]
 have hm2 := HM2.out.grown hg (by have := HR2.out; intro h; injection h; omega)
 have hbl2 := HB2.out.grown hg HB2.out.size (fun q h => by have := HR2.out; injection h; omega)
 clear HRD HM2 HB2
 have HRD := Lib.hid hrd
 have HM2 := Lib.hid hm2
 have HB2 := Lib.hid hbl2
 clear hrd hm2 hbl2 hg
 have hal : Below w6.heap.size w6 (w6.alloc (.cells #[.int .i64 K, .string S, .string L, .string T] 59)) := (Below.refl _ _).alloc (Nat.le_refl _) _
 have HRD3 := Lib.hid (HRD.out.below hal)
 have HM3 := Lib.hid (HM2.out.below hal)
 have HB3 := Lib.hid (HB2.out.trans (hal.mono HB2.out.size))
 have hlt6 := HM2.out.1.lt
 clear hal
 go_wp2_with fail
 refine (end_any r _ _ _ HRD3.out).mono ?_
 rintro e w7 ⟨rfl, rfl⟩
 rw [← HE.out]
 clear HRD HM2 HB2 HRD3
 go_wp2_with fail
 refine (HCK.out _).mono ?_
 rintro e w8 ⟨rfl, hb8⟩
 have hbl8 := HB3.out.trans (hb8.mono HB3.out.size)
 have HB8 := Lib.hid hbl8
 obtain ⟨⟨c0, c1, c2, c3⟩, f0, f1, f2, f3⟩ := HM3.out.below hb8
 have ht : Box (w6.alloc (.cells #[.int .i64 K, .string S, .string L, .string T] 59)) w6.heap.size ⟨K, S, L, T⟩ := by refine ⟨?_, ?_, ?_, ?_⟩ <;> simp
 obtain ⟨d0, d1, d2, d3⟩ := ht.below hb8
 dsimp only at c0 c1 c2 c3 d0 d1 d2 d3
 clear hb8 hbl8 ht
 go_wp2_with fail
 simp only [Exit.jump]
 refine bodyPost_ret (v := .tuple #[.agg #[.int .i64 K, .string S, .string L, .string T], .int .i64 0]) (by simp [results, Tryz.results100, go_sem, cell_of_set c0, cell_of_set c1, cell_of_set c2, cell_of_set c3]) rfl ⟨?_, ?_⟩
 ·rw [HRR.out]; rfl
 ·exact (((HB8.out.setCell (Nat.le_refl _) _).setCell (Nat.le_refl _) _).setCell (Nat.le_refl _) _).setCell (Nat.le_refl _) _
end Go.Proofs.YtbpdapcmaioeiaaGreat
