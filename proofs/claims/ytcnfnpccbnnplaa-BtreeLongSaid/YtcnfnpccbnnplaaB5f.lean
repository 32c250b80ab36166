/- read; kid. -/
import Derived.Test.YtcnfnpccbnnplaaB5e
namespace Go.Proofs.Ytcnfnpccbnnplaa
open Go.RowKit Go.Maps
set_option maxRecDepth 100000
set_option linter.unusedVariables false

def nodeV (i lvl : Int) (v : Value) : Value := .agg #[.int .i64 i, .int .i64 lvl, v]

set_option maxHeartbeats 2000000 in
theorem read_node {w0 w : World} {X : Nat → Prop} {r p N M c : Nat} {G : Lg} {H : Option Lg} (h : Pb w0 w X r p N M c G H) {i lvl : Int} {es : List Ent} (hn : NodeAt N (H.getD G) i lvl es) (hk : lvl = 0 ∨ 1 < es.length) :
    Calls Try.prog 72 #[.pointer (some ⟨p, 0, none⟩), .int .i64 i] w fun e w' => ∃ v, e = .returned (.tuple #[nodeV i lvl v, .int .i64 0]) ∧ Owe w' w.heap.size v es ∧ Below w.heap.size w w' := by
  have hal : Below w.heap.size w (w.alloc (.cells #[.int .i64 0, .int .i64 0, .slice none 0 0] 111)) := (Below.refl _ w).alloc (Nat.le_refl _) _
  have hb := Blk.new w #[.int .i64 0, .int .i64 0, .slice none 0 0] 111
  obtain ⟨w1, hw1⟩ : ∃ w1, w1 = w.alloc (.cells #[.int .i64 0, .int .i64 0, .slice none 0 0] 111) := ⟨_, rfl⟩
  rw [← hw1] at hal hb
  have hop := open_any (h.grow hal) hn
  have hlow := hn.low
  have hhigh := hn.high
  have hfew := hn.few
  have hwf := hn.wf
  obtain ⟨n, hn'⟩ : ∃ n, n = es.length := ⟨_, rfl⟩
  rw [← hn'] at hfew hk hop
  have HN := Lib.hid hn'
  have HOP := Lib.hid hop
  have HWF := Lib.hid hwf
  have HAL := Lib.hid hal
  have HB := Lib.hid hb
  have HW1 := Lib.hid hw1
  have HK := Lib.hid hk
  have HSZ : Hid (w1.heap.size = w.heap.size + 1) := Lib.hid (by rw [hw1]; simp)
  clear h hn hop hn' hwf hal hb hw1 hk
  go_enter Try.func72, Try.ntmps72
  go_wp2_with fail
  go_step3
  go_wp2_with fail
  rw [← HW1.out]
  refine HOP.out.mono ?_
  rintro e w2 ⟨rd, E, zs, rfl, hE, hr, hb2⟩
  have HE := Lib.hid hE
  have HR := Lib.hid hr
  have HB2 := Lib.hid hb2
  clear hE hr hb2 HOP
  go_wp2_with fail
  go_loopw [6, 22] (fun v6 i wr => ∃ (k : Nat) (ao : Option Addr) (cap : Nat), k ≤ n ∧ i = .int .i64 k ∧ v6 = .slice ao k cap ∧ k ≤ cap ∧ cap ≤ 9223372036854775807 ∧ Owe wr w2.heap.size v6 (es.take k) ∧ Rds E wr rd (encs lvl (es.drop k) ++ zs) 0 ∧ Moved (· = rd) w2 wr) (fun _ i _ => n - (intOf i).toNat)
  case atStart => exact ⟨0, none, 0, Nat.zero_le _, rfl, rfl, Nat.le_refl _, by decide, Owe.nil _ _, HR.out, Moved.refl _ _⟩
  case round =>
    obtain ⟨k, ao, cap, hk, rfl, rfl, hcap1, hcap2, ho, hrd, hm⟩ := hrel
    have hqk : (es.take k).length = k := by rw [List.length_take, ← HN.out]; omega
    have HQK := Lib.hid hqk
    have HO := Lib.hid ho
    have HRD := Lib.hid hrd
    have HM := Lib.hid hm
    clear ho hrd hm hqk
    by_cases hlt : k < n
    · have hke : k < es.length := by rw [← HN.out]; exact hlt
      obtain ⟨e, he⟩ : ∃ y, y = es[k] := ⟨_, rfl⟩
      have hst : es.take (k + 1) = es.take k ++ [e] := by rw [List.take_succ_eq_append_getElem hke, he]
      have hsd : es.drop k = e :: es.drop (k + 1) := by rw [List.drop_eq_getElem_cons hke, he]
      have hrd := HRD.out
      rw [hsd, show encs lvl (e :: es.drop (k + 1)) = encE lvl e ++ encs lvl (es.drop (k + 1)) from rfl, List.append_assoc] at hrd
      have hnx := next_any e lvl (HWF.out e (by rw [he]; exact List.getElem_mem _)) hrd (fun j hj => by have := (HE.out j hj).2; have := HM.out.size; omega)
      have HNX := Lib.hid hnx
      have HST := Lib.hid hst
      have hlt' : (k : Int) < n := by omega
      clear he hst hsd hrd hnx
      go_wp2_with fail
      refine HNX.out.mono ?_
      rintro en w3 ⟨rfl, hr3, hm3⟩
      have hal4 : Below w3.heap.size w3 (w3.alloc (.cells #[.string e.key, .string e.val, .int .i64 e.kid] 117)) := (Below.refl _ w3).alloc (Nat.le_refl _) _
      have hb4 := Blk.new w3 #[.string e.key, .string e.val, .int .i64 e.kid] 117
      have hEr : E rd := HR.out.2.1
      have hrdlt : rd < w2.heap.size := (HE.out rd hEr).2
      have HO4 := Lib.hid ((HO.out.moved hm3 (fun q hq e => by have := (HO.out.lt q hq).1; omega)).below hal4)
      have HR4 := Lib.hid (hr3.below hal4)
      have HS4 := Lib.hid (Nat.le_trans HM.out.size (Nat.le_trans hm3.size hal4.size))
      have HM4 := Lib.hid ((HM.out.trans hm3 (fun j hj => .inl hj)).trans (Moved.of_below hal4 (· = rd)) (fun j hj => .inl hj))
      have HONE := Lib.hid (Ens.one e hb4)
      have hlen : k + 1 = (es.take k ++ [e]).length := by rw [List.length_append, HQK.out]; rfl
      have HLEN := Lib.hid hlen
      have hk255 : k + 1 ≤ 1000000 := by omega
      have HK255 := Lib.hid hk255
      have HEO := Lib.hid (fun q (hq : (Value.slice ao k cap).ownBlock = some q) => (HO.out.lt q hq).1)
      clear hr3 hm3 hal4 hb4 HNX hEr hrdlt hlen hk255 HO
      unfold Ent.agg
      go_wp2_with (first | (with_reducible refine wpList_append_ens rfl _ _ rfl w2.heap.size HS4.out (.slice ao k cap) (es.take k) rfl HO4.out (.slice (some ⟨w3.heap.size, 0, none⟩) 1 1) [e] rfl HONE.out (k + 1) HLEN.out HK255.out ?_; intro ao5 cap5 w5 ho5 hg5) | fail)
      obtain ⟨aox, capx, hsl5, hcA, hcB⟩ := ho5.form
      simp only [Value.slice.injEq] at hsl5
      obtain ⟨rfl, -, rfl⟩ := hsl5
      have HO5 := Lib.hid (show Owe w5 w2.heap.size _ (es.take (k + 1)) by rw [HST.out]; exact ho5)
      have HR5 := Lib.hid (HR4.out.grown hg5 (fun q hq hE => by have := HEO.out q hq; have := (HE.out q hE).2; omega))
      have HM5 := Lib.hid (HM4.out.grown hg5 (fun q hq => .inr (HEO.out q hq)))
      clear ho5 hg5 HO4 HR4 HM4 HEO
      go_roundw
      case rel => exact ⟨k + 1, _, _, by omega, by go_num, rfl, by rw [← HLEN.out] at hcA; exact hcA, hcB, HO5.out, HR5.out, HM5.out⟩
      case measure => simp [intOf]; omega
    · obtain rfl : n = k := by omega
      have htk : es.take n = es := by rw [HN.out, List.take_length]
      have ho := HO.out
      rw [htk] at ho
      have HO2 := Lib.hid ho
      have hfl := failed_no HRD.out
      have HFL := Lib.hid hfl
      have hbn : w.heap.size ≠ rd := fun e => by have := (HE.out rd HR.out.2.1).1; have := HSZ.out; omega
      have HBW := Lib.hid ((HB.out.moved (Moved.of_below HB2.out (fun _ => False)) (fun h => h)).moved HM.out hbn)
      have c0 : wr.cell? ⟨w.heap.size, 0, none⟩ = some (.int .i64 0) := by rw [HBW.out.cell]; rfl
      have c1 : wr.cell? ⟨w.heap.size, 1, none⟩ = some (.int .i64 0) := by rw [HBW.out.cell]; rfl
      have c2 : wr.cell? ⟨w.heap.size, 2, none⟩ = some (.slice none 0 0) := by rw [HBW.out.cell]; rfl
      have g0 := HBW.out.frozen 0
      have g1 := HBW.out.frozen 1
      have g2 := HBW.out.frozen 2
      clear ho htk hfl hbn
      go_wp2_with fail
      refine HFL.out.mono ?_
      rintro en w3 ⟨rfl, he⟩
      replace he := he.symm
      subst he
      rcases HK.out with h0 | h1
      · subst h0
        go_wp2_with fail
        rw [Exit.noGoto_ret]
        have hbf := Lib.hid (((HBW.out.set 0 (.int .i64 i)).set 1 (.int .i64 0)).set 2 (.slice ao n cap))
        have hms := Lib.hid ((((Moved.refl (· = w.heap.size) wr).setCell ⟨w.heap.size, 0, none⟩ (.int .i64 i) (.inl rfl)).setCell ⟨w.heap.size, 1, none⟩ (.int .i64 0) (.inl rfl)).setCell ⟨w.heap.size, 2, none⟩ (.slice ao n cap) (.inl rfl))
        refine bodyPost_ret (results_cell_tmp_row rfl _ _ w.heap.size 111 _ (0, 0) _ rfl hbf.out Try.underlying111 rfl (by kernel_rfl)) rfl ?_
        have hs2 := HB2.out.size
        refine ⟨.slice ao n cap, rfl, (HO2.out.moved hms.out (fun q hq e => by have := (HO2.out.lt q hq).1; have := HSZ.out; omega)).mono (by have := HSZ.out; omega), ?_⟩
        have hrd : w1.heap.size ≤ rd := (HE.out rd HR.out.2.1).1
        exact (((HAL.out.trans (HB2.out.mono HAL.out.size))).trans (HM.out.below (B := w.heap.size) (fun j hj => by have := HSZ.out; omega) (by have := HSZ.out; omega))).trans (hms.out.below (fun j hj => by omega) (by have := HM.out.size; have := HSZ.out; omega))
      · by_cases h0 : lvl = 0
        · subst h0
          go_wp2_with fail
          rw [Exit.noGoto_ret]
          have hbf := Lib.hid (((HBW.out.set 0 (.int .i64 i)).set 1 (.int .i64 0)).set 2 (.slice ao n cap))
          have hms := Lib.hid ((((Moved.refl (· = w.heap.size) wr).setCell ⟨w.heap.size, 0, none⟩ (.int .i64 i) (.inl rfl)).setCell ⟨w.heap.size, 1, none⟩ (.int .i64 0) (.inl rfl)).setCell ⟨w.heap.size, 2, none⟩ (.slice ao n cap) (.inl rfl))
          refine bodyPost_ret (results_cell_tmp_row rfl _ _ w.heap.size 111 _ (0, 0) _ rfl hbf.out Try.underlying111 rfl (by kernel_rfl)) rfl ?_
          have hs2 := HB2.out.size
          refine ⟨.slice ao n cap, rfl, (HO2.out.moved hms.out (fun q hq e => by have := (HO2.out.lt q hq).1; have := HSZ.out; omega)).mono (by have := HSZ.out; omega), ?_⟩
          have hrd : w1.heap.size ≤ rd := (HE.out rd HR.out.2.1).1
          exact (((HAL.out.trans (HB2.out.mono HAL.out.size))).trans (HM.out.below (B := w.heap.size) (fun j hj => by have := HSZ.out; omega) (by have := HSZ.out; omega))).trans (hms.out.below (fun j hj => by omega) (by have := HM.out.size; have := HSZ.out; omega))
        · have h1' : (1 : Int) < n := by omega
          go_wp2_with fail
          rw [Exit.noGoto_ret]
          have hbf := Lib.hid (((HBW.out.set 0 (.int .i64 i)).set 1 (.int .i64 lvl)).set 2 (.slice ao n cap))
          have hms := Lib.hid ((((Moved.refl (· = w.heap.size) wr).setCell ⟨w.heap.size, 0, none⟩ (.int .i64 i) (.inl rfl)).setCell ⟨w.heap.size, 1, none⟩ (.int .i64 lvl) (.inl rfl)).setCell ⟨w.heap.size, 2, none⟩ (.slice ao n cap) (.inl rfl))
          refine bodyPost_ret (results_cell_tmp_row rfl _ _ w.heap.size 111 _ (0, 0) _ rfl hbf.out Try.underlying111 rfl (by kernel_rfl)) rfl ?_
          have hs2 := HB2.out.size
          refine ⟨.slice ao n cap, rfl, (HO2.out.moved hms.out (fun q hq e => by have := (HO2.out.lt q hq).1; have := HSZ.out; omega)).mono (by have := HSZ.out; omega), ?_⟩
          have hrd : w1.heap.size ≤ rd := (HE.out rd HR.out.2.1).1
          exact (((HAL.out.trans (HB2.out.mono HAL.out.size))).trans (HM.out.below (B := w.heap.size) (fun j hj => by have := HSZ.out; omega) (by have := HSZ.out; omega))).trans (hms.out.below (fun j hj => by omega) (by have := HM.out.size; have := HSZ.out; omega))
end Go.Proofs.Ytcnfnpccbnnplaa
