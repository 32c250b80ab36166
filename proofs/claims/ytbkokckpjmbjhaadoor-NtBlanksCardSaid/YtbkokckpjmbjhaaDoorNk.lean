/- nt's Parse. -/
import Derived.Test.YtbkokckpjmbjhaaDoorNj
namespace Go.Proofs.YtbkokckpjmbjhaaDoor
open Go.RowKit Go.Shelf
set_option maxRecDepth 100000
set_option linter.unusedVariables false
/-- The lines from the i-th on, behind the triples acc: the triples, the line and the error. -/
def parseL : Nat → List ByteArray → List Tri3 → List Tri3 × Int × Int
  | _, [], acc => (acc, 0, 0)
  | i, x :: xs, acc => if overL (endL x.data.toList) = true then parseL (i + 1) xs acc else
    if tripE (endL x.data.toList) ≠ 0 then ([], ((i + 1 : Nat) : Int), tripE (endL x.data.toList)) else
    match tripleL (endL x.data.toList) with
    | some t => parseL (i + 1) xs (acc ++ [t])
    | none => ([], 0, 0)
theorem parse_over {i : Nat} {x : ByteArray} {xs : List ByteArray} {acc : List Tri3} (h : overL (endL x.data.toList) = true) : parseL i (x :: xs) acc = parseL (i + 1) xs acc := by
  rw [parseL, if_pos h]
theorem parse_err {i : Nat} {x : ByteArray} {xs : List ByteArray} {acc : List Tri3} (h : overL (endL x.data.toList) = false) (hE : tripE (endL x.data.toList) ≠ 0) : parseL i (x :: xs) acc = ([], ((i + 1 : Nat) : Int), tripE (endL x.data.toList)) := by
  rw [parseL, if_neg (by rw [h]; decide), if_pos hE]
theorem parse_ok {i : Nat} {x : ByteArray} {xs : List ByteArray} {acc : List Tri3} (h : overL (endL x.data.toList) = false) (hE : tripE (endL x.data.toList) = 0) {t : Tri3} (ht : tripleL (endL x.data.toList) = some t) : parseL i (x :: xs) acc = parseL (i + 1) xs (acc ++ [t]) := by
  rw [parseL, if_neg (by rw [h]; decide), if_neg (by rw [hE]; decide), ht]
def parseOfS (s : ByteArray) : List Tri3 × Int × Int := if 16000 < s.size then ([], 0, 5) else parseL 0 (piecesB s) []
def ParTo (s : ByteArray) (w0 : World) (e : Ending) (w' : World) : Prop :=
  ∃ ao cap, e = .returned (.tuple #[.slice ao (parseOfS s).1.length cap, .int .i64 (parseOfS s).2.1, .int .i64 (parseOfS s).2.2]) ∧ Below w0.heap.size w0 w' ∧ OwR w' w0.heap.size (.slice ao (parseOfS s).1.length cap) (parseOfS s).1
theorem end_len (l : List UInt8) : (endL l).length ≤ l.length := by
  unfold endL
  exact Nat.le_trans (trimSuffix_len _ _) (trimSuffix_len _ _)
theorem splitB_mem : ∀ (k : Nat) (s x : ByteArray), x ∈ Lib.splitB ⟨#[10]⟩ 1 k s → x.size ≤ s.size
  | 0, s, x, h => by
    unfold Lib.splitB at h
    rw [List.mem_singleton.1 h]
    exact Nat.le_refl _
  | k + 1, s, x, h => by
    unfold Lib.splitB at h
    split at h
    · rw [List.mem_singleton.1 h]; exact Nat.le_refl _
    · rcases List.mem_cons.1 h with rfl | h
      · rw [ByteArray.size_extract]; omega
      · have := splitB_mem k _ x h
        rw [ByteArray.size_extract] at this
        omega
set_option maxHeartbeats 16000000 in
theorem parse9 (s : ByteArray) (hs : s.size ≤ 1000000) (w : World) : Calls Tryd.prog 10 #[.string s] w (ParTo s w) := by
  have hal : Below w.heap.size w (w.alloc (.cells #[.int .i64 0, .string ⟨#[]⟩, .string ⟨#[]⟩, .string ⟨#[]⟩, .int .i64 0, .string ⟨#[]⟩, .string ⟨#[]⟩, .string ⟨#[]⟩, .int .i64 0, .string ⟨#[]⟩, .string ⟨#[]⟩, .string ⟨#[]⟩] 33)) := (Below.refl _ w).alloc (Nat.le_refl _) _
  have hT := Blk.new w #[.int .i64 0, .string ⟨#[]⟩, .string ⟨#[]⟩, .string ⟨#[]⟩, .int .i64 0, .string ⟨#[]⟩, .string ⟨#[]⟩, .string ⟨#[]⟩, .int .i64 0, .string ⟨#[]⟩, .string ⟨#[]⟩, .string ⟨#[]⟩] 33
  obtain ⟨R, hR⟩ : ∃ R, R = parseOfS s := ⟨_, rfl⟩
  have HR := Lib.hid hR
  clear hR
  go_enter Tryd.func10, Tryd.ntmps10
  go_wp2_with fail
  refine wp_scope_jumps 0 (fun a' w' => ∃ u0 u1 u2 u5 u6 u7 u8 u9 u10 u11 u12 u13 u14 u15 u16 u17 u18 u19 u20 u21 u22 u23 u24 u25 u26 u27 u28 u29 u30 u31 u32 u33 u34 u35 u36 u37 u38 u39 u40 : Value, a' = { tmps := #[u0, u1, u2, .int .i64 R.2.1, .int .i64 R.2.2, u5, u6, u7, u8, u9, u10, u11, u12, u13, u14, u15, u16, u17, u18, u19, u20, u21, u22, u23, u24, u25, u26, u27, u28, u29, u30, u31, u32, u33, u34, u35, u36, u37, u38, u39, u40], defers := [] } ∧ Below w.heap.size w w' ∧ R.1 = []) (fun _ _ => 0) rfl ?_ ?_
  · skip
    by_cases h16 : (16000 : Int) < s.size
    · have hRR := HR.out
      unfold parseOfS at hRR
      rw [if_pos (by omega)] at hRR
      subst hRR
      clear HR
      go_wp2_with fail
      go_step3
      exact ⟨rfl, ⟨_, _, _, _, _, _, _, _, _, _, _, _, _, _, _, _, _, _, _, _, _, _, _, _, _, _, _, _, _, _, _, _, _, _, _, _, _, _, _, rfl, ⟨hal, rfl⟩⟩⟩
    · have HPA := Lib.hid (show R = parseL 0 (piecesB s) [] from by rw [HR.out]; unfold parseOfS; rw [if_neg (by omega)])
      have HCL := Lib.hid (fun w => sclone_any s w (by omega))
      have HSP := Lib.hid (fun w => spl9 s hs w)
      go_wp2_with fail
      generalize w.alloc _ = w1 at hal hT ⊢
      refine (HCL.out _).mono ?_
      rintro e w2 ⟨rfl, hb2⟩
      replace hT : Blk w2 w.heap.size _ _ := (hb2.block _ hT.lt).trans hT
      replace hal := hal.trans (hb2.mono hal.size)
      clear hb2 HCL
      go_wp2_with fail
      refine (HSP.out _).mono ?_
      intro e w3 h
      unfold SplTo at h
      obtain ⟨pb, pc, he, h1, h2, h3, h34, h4, h5⟩ := h
      obtain ⟨P, hP⟩ : ∃ P, P = piecesB s := ⟨_, rfl⟩
      obtain ⟨n, hn⟩ : ∃ n, n = P.length := ⟨_, rfl⟩
      have hn16 : n ≤ 16001 := by
        have := pieces_len s
        rw [hn, hP]; omega
      have hpb : pb ≠ w.heap.size := by have := hT.lt; omega
      have HPM := Lib.hid (show ∀ x ∈ P, x.size ≤ 1000000 from fun x hx => by
        rw [hP] at hx
        have := splitB_mem _ s x hx
        omega)
      rw [← hP] at he h1 h5 HPA
      rw [← hn] at he h1
      subst he
      replace hT : Blk w3 w.heap.size _ _ := (h3.block _ hT.lt).trans hT
      replace hal := hal.trans (h3.mono hal.size)
      have HN := Lib.hid hn
      have HC := Lib.hid (And.intro h4 h5)
      have HT3 := Lib.hid (And.intro hT hal)
      clear hP hn h3 h34 h4 h5 hT hal HSP h16
      have HN16 := Lib.hid hn16
      have HPB := Lib.hid hpb
      obtain ⟨TB, hTB⟩ : ∃ b, b = w.heap.size := ⟨_, rfl⟩
      clear hn16 hpb
      go_wp2_with fail
      go_loopw [2, 15] (fun v2 i wr => ∃ (k : Nat) (acc : List Tri3) (ao : Option Addr) (sn cap : Nat) (x : Tri3), k ≤ n ∧ i = .int .i64 k ∧ v2 = .slice ao sn cap ∧ sn = acc.length ∧ sn ≤ k ∧ sn ≤ cap ∧ cap ≤ 9223372036854775807 ∧ OwR wr w3.heap.size (.slice ao sn cap) acc ∧ Blk wr w.heap.size (rcells1 x).toArray 33 ∧ Moved (fun q => q = w.heap.size) w3 wr ∧ R = parseL k (P.drop k) acc) (fun _ i _ => n - (intOf i).toNat)
      case atStart => exact ⟨0, [], none, 0, 0, (⟨0, ⟨#[]⟩, ⟨#[]⟩, ⟨#[]⟩⟩, ⟨0, ⟨#[]⟩, ⟨#[]⟩, ⟨#[]⟩⟩, ⟨0, ⟨#[]⟩, ⟨#[]⟩, ⟨#[]⟩⟩), Nat.zero_le _, rfl, rfl, rfl, Nat.le_refl _, Nat.le_refl _, by decide, OwR.nil _ _, HT3.out.1, Moved.refl _ _, by rw [List.drop_zero]; exact HPA.out⟩
      case round =>
        obtain ⟨k, acc, ao, sn, cap, x0, hk, rfl, rfl, hsn, hsk, hc1, hc2, hown, hblk, hmv, hRk⟩ := hrel
        have hbelr : Below w.heap.size w wr := HT3.out.2.trans (hmv.below (fun j hj => by omega) HT3.out.2.size)
        have HO := Lib.hid hown
        have HK := Lib.hid hblk
        have HM := Lib.hid hmv
        have HRK := Lib.hid hRk
        have HSN := Lib.hid (And.intro hsn hsk)
        have HBEL := Lib.hid hbelr
        clear hown hblk hmv hRk hsn hsk hbelr hTB
        by_cases hlt : (k : Int) < n
        rotate_left
        · have hkn : k = n := by omega
          have HRN := Lib.hid (show R = (acc, 0, 0) from by rw [HRK.out, List.drop_eq_nil_of_le (by rw [← HN.out]; omega)]; rfl)
          clear hkn
          go_wp2_with fail
          simp only [Exit.jump]
          go_ret3
          unfold ParTo
          rw [← HR.out, HRN.out]
          refine ⟨ao, cap, by rw [← HSN.out.1]; rfl, HBEL.out, ?_⟩
          rw [← HSN.out.1]
          exact HO.out.mono HT3.out.2.size
        have hkl : k < P.length := by rw [← HN.out]; omega
        have hcell := HC.out.2 k hkl
        obtain ⟨x, hx⟩ : ∃ x, x = P[k] := ⟨_, rfl⟩
        rw [← hx] at hcell
        have hxm : x.size ≤ 1000000 := HPM.out x (by rw [hx]; exact List.getElem_mem hkl)
        have hcx : wr.cell? ⟨pb, k, none⟩ = some (.string x) := by
          rw [World.cell?_of_block (HM.out.block pb HC.out.1 HPB.out)]; exact hcell
        have HRX := Lib.hid (show R = parseL k (x :: P.drop (k + 1)) acc from by rw [HRK.out, List.drop_eq_getElem_cons hkl, ← hx])
        have HEN := Lib.hid (fun w => endless9 x (by omega) w)
        obtain ⟨es, hes⟩ : ∃ q : ByteArray, q = ⟨(endL x.data.toList).toArray⟩ := ⟨_, rfl⟩
        have hesl : es.data.toList = endL x.data.toList := by rw [hes]
        have hesz : es.size ≤ 1000000 := by rw [Lib.size_eq, hesl]; have := end_len x.data.toList; rw [← Lib.size_eq] at this; omega
        rw [← hes] at HEN
        have HOV := Lib.hid (fun w => over9 es w)
        have HTP := Lib.hid (fun w => triple9 es hesz w)
        rw [hesl] at HOV HTP
        have hk0 : (0 : Int) ≤ k := by omega
        clear hcell hx hes hesl hesz hxm
        go_wp2_with fail
        refine (HEN.out _).mono ?_
        rintro e wA ⟨rfl, hw⟩
        obtain rfl := hw.symm
        clear hcx HEN
        go_wp2_with fail
        refine (HOV.out _).mono ?_
        cases hov : overL (endL x.data.toList) with
        | true =>
          rintro e wB ⟨rfl, hbB⟩
          have HB := Lib.hid hbB
          have HOVR := Lib.hid hov
          clear hbB hov HOV HTP
          go_wp2_with fail
          go_roundw
          case rel =>
            have h1 := HSN.out
            refine ⟨k + 1, acc, ao, sn, cap, x0, by omega, by go_num, rfl, h1.1, by omega, hc1, hc2, HO.out.below HB.out, (HB.out.block _ HK.out.lt).trans HK.out, HM.out.trans (Moved.of_below HB.out (fun _ => False)) (fun j hj => hj.elim), ?_⟩
            rw [HRX.out, parse_over HOVR.out]
          case measure => simp [intOf]; omega
        | false =>
          rintro e wB ⟨rfl, hbB⟩
          have HB := Lib.hid hbB
          have HOVR := Lib.hid hov
          clear hbB hov HOV
          go_wp2_with fail
          refine (HTP.out _).mono ?_
          intro e wC h
          unfold TripTo at h
          obtain ⟨hbC, hor⟩ := h
          have hBC := HB.out.trans (hbC.mono HB.out.size)
          have hK : Blk wC w.heap.size (rcells1 x0).toArray 33 := (hBC.block _ HK.out.lt).trans HK.out
          have HBC := Lib.hid hBC
          obtain ⟨Ex, hEx⟩ : ∃ q, q = tripE (endL x.data.toList) := ⟨_, rfl⟩
          rw [← hEx] at hor
          have HEX := Lib.hid hEx
          clear hbC hBC HTP hEx
          rcases hor with ⟨hE0, a, b, c, h3, he⟩ | ⟨hE0, he⟩
          · subst hE0
            have HT3T := Lib.hid h3
            obtain ⟨m1k, m1s, m1l, m1t⟩ := a
            obtain ⟨m2k, m2s, m2l, m2t⟩ := b
            obtain ⟨m3k, m3s, m3l, m3t⟩ := c
            unfold tri at he
            dsimp only at he
            subst he
            have y0 := hK.frozen 0
            have y1 := hK.frozen 1
            have y2 := hK.frozen 2
            have y3 := hK.frozen 3
            have y4 := hK.frozen 4
            have y5 := hK.frozen 5
            have y6 := hK.frozen 6
            have y7 := hK.frozen 7
            have y8 := hK.frozen 8
            have y9 := hK.frozen 9
            have y10 := hK.frozen 10
            have y11 := hK.frozen 11
            have z0 := hK.cell 0
            have z1 := hK.cell 1
            have z2 := hK.cell 2
            have z3 := hK.cell 3
            have z4 := hK.cell 4
            have z5 := hK.cell 5
            have z6 := hK.cell 6
            have z7 := hK.cell 7
            have z8 := hK.cell 8
            have z9 := hK.cell 9
            have z10 := hK.cell 10
            have z11 := hK.cell 11
            simp only [rcells1, List.getElem?_toArray, List.getElem?_cons_zero, List.getElem?_cons_succ] at z0 z1 z2 z3 z4 z5 z6 z7 z8 z9 z10 z11
            go_upto_region 10 with fail
            clear y0 z0 y1 z1 y2 z2 y3 z3 y4 z4 y5 z5 y6 z6 y7 z7 y8 z8 y9 z9 y10 z10 y11 z11
            have hz := ((((((((((((hK).set 0 (.int .i64 m1k)).set 1 (.string m1s)).set 2 (.string m1l)).set 3 (.string m1t)).set 4 (.int .i64 m2k)).set 5 (.string m2s)).set 6 (.string m2l)).set 7 (.string m2t)).set 8 (.int .i64 m3k)).set 9 (.string m3s)).set 10 (.string m3l)).set 11 (.string m3t)
            simp only [rcells1, List.setIfInBounds_toArray, List.set_cons_zero, List.set_cons_succ] at hz
            have hm := (((((((((((((Moved.refl (fun q => q = w.heap.size) wC)).setCell ⟨w.heap.size, 0, none⟩ (.int .i64 m1k) (.inl rfl)).setCell ⟨w.heap.size, 1, none⟩ (.string m1s) (.inl rfl)).setCell ⟨w.heap.size, 2, none⟩ (.string m1l) (.inl rfl)).setCell ⟨w.heap.size, 3, none⟩ (.string m1t) (.inl rfl)).setCell ⟨w.heap.size, 4, none⟩ (.int .i64 m2k) (.inl rfl)).setCell ⟨w.heap.size, 5, none⟩ (.string m2s) (.inl rfl)).setCell ⟨w.heap.size, 6, none⟩ (.string m2l) (.inl rfl)).setCell ⟨w.heap.size, 7, none⟩ (.string m2t) (.inl rfl)).setCell ⟨w.heap.size, 8, none⟩ (.int .i64 m3k) (.inl rfl)).setCell ⟨w.heap.size, 9, none⟩ (.string m3s) (.inl rfl)).setCell ⟨w.heap.size, 10, none⟩ (.string m3l) (.inl rfl)).setCell ⟨w.heap.size, 11, none⟩ (.string m3t) (.inl rfl)
            generalize ((((((((((((wC).setCell ⟨w.heap.size, 0, none⟩ (.int .i64 m1k)).setCell ⟨w.heap.size, 1, none⟩ (.string m1s)).setCell ⟨w.heap.size, 2, none⟩ (.string m1l)).setCell ⟨w.heap.size, 3, none⟩ (.string m1t)).setCell ⟨w.heap.size, 4, none⟩ (.int .i64 m2k)).setCell ⟨w.heap.size, 5, none⟩ (.string m2s)).setCell ⟨w.heap.size, 6, none⟩ (.string m2l)).setCell ⟨w.heap.size, 7, none⟩ (.string m2t)).setCell ⟨w.heap.size, 8, none⟩ (.int .i64 m3k)).setCell ⟨w.heap.size, 9, none⟩ (.string m3s)).setCell ⟨w.heap.size, 10, none⟩ (.string m3l)).setCell ⟨w.heap.size, 11, none⟩ (.string m3t) = wE at hz hm ⊢
            have HZ := Lib.hid hz
            have hown := ((HO.out.below HBC.out).moved hm (fun q hq e => by
              have := (HO.out.lt q hq).1
              have h2 := HT3.out.1.lt
              omega))
            have hal : Below wE.heap.size wE (wE.alloc (.cells #[.int .i64 m1k, .string m1s, .string m1l, .string m1t, .int .i64 m2k, .string m2s, .string m2l, .string m2t, .int .i64 m3k, .string m3s, .string m3l, .string m3t] 33)) := (Below.refl _ _).alloc (Nat.le_refl _) _
            have HOA := Lib.hid (hown.below hal)
            have HBX := Lib.hid (show Blk (wE.alloc (.cells #[.int .i64 m1k, .string m1s, .string m1l, .string m1t, .int .i64 m2k, .string m2s, .string m2l, .string m2t, .int .i64 m3k, .string m3s, .string m3l, .string m3t] 33)) wE.heap.size (rcells1 (⟨m1k, m1s, m1l, m1t⟩, ⟨m2k, m2s, m2l, m2t⟩, ⟨m3k, m3s, m3l, m3t⟩)).toArray 33 from Blk.new wE _ _)
            have HSL := Lib.hid (show sn + 1 = acc.length + 1 by rw [HSN.out.1])
            have HSM := Lib.hid (show sn + 1 ≤ 1000000 by have := HSN.out.2; have := HN16.out; omega)
            have HMV := Lib.hid (show Moved (fun q => q = w.heap.size) w3 wE from (HM.out.trans (Moved.of_below HBC.out (fun _ => False)) (fun j hj => hj.elim)).trans hm (fun j hj => .inl hj))
            have HBASE := Lib.hid (show w3.heap.size ≤ (wE.alloc (.cells #[.int .i64 m1k, .string m1s, .string m1l, .string m1t, .int .i64 m2k, .string m2s, .string m2l, .string m2t, .int .i64 m3k, .string m3s, .string m3l, .string m3t] 33)).heap.size from Nat.le_trans HMV.out.size hal.size)
            have HAL := Lib.hid hal
            have y0 := hz.frozen 0
            have y1 := hz.frozen 1
            have y2 := hz.frozen 2
            have y3 := hz.frozen 3
            have y4 := hz.frozen 4
            have y5 := hz.frozen 5
            have y6 := hz.frozen 6
            have y7 := hz.frozen 7
            have y8 := hz.frozen 8
            have y9 := hz.frozen 9
            have y10 := hz.frozen 10
            have y11 := hz.frozen 11
            have z0 := hz.cell 0
            have z1 := hz.cell 1
            have z2 := hz.cell 2
            have z3 := hz.cell 3
            have z4 := hz.cell 4
            have z5 := hz.cell 5
            have z6 := hz.cell 6
            have z7 := hz.cell 7
            have z8 := hz.cell 8
            have z9 := hz.cell 9
            have z10 := hz.cell 10
            have z11 := hz.cell 11
            simp only [List.getElem?_toArray, List.getElem?_cons_zero, List.getElem?_cons_succ] at z0 z1 z2 z3 z4 z5 z6 z7 z8 z9 z10 z11
            have HMA := Lib.hid hm
            clear hz hm hown hal hK
            go_wp2_with (at_builtin; refine wpList_append_tr rfl _ _ rfl w3.heap.size HBASE.out (.slice ao sn cap) acc rfl HOA.out wE.heap.size rfl (⟨m1k, m1s, m1l, m1t⟩, ⟨m2k, m2s, m2l, m2t⟩, ⟨m3k, m3s, m3l, m3t⟩) HBX.out (sn + 1) HSL.out HSM.out ?_; intro ao5 cap5 w5 ho5 hx5 hy5 hg5 hq5)
            have hm5 : Moved (fun q => (Value.slice ao sn cap).ownBlock = some q) (wE.alloc (.cells (rcells1 (⟨m1k, m1s, m1l, m1t⟩, ⟨m2k, m2s, m2l, m2t⟩, ⟨m3k, m3s, m3l, m3t⟩)).toArray 33)) w5 := ⟨hg5.os, hg5.tape, hg5.output, hg5.size, fun k hk hne => hg5.block k hk (fun e => hne e.symm)⟩
            have hoq : ∀ q, (Value.slice ao sn cap).ownBlock = some q → w3.heap.size ≤ q := fun q hq => (HO.out.lt q hq).1
            have hK5 : Blk w5 w.heap.size (rcells1 (⟨m1k, m1s, m1l, m1t⟩, ⟨m2k, m2s, m2l, m2t⟩, ⟨m3k, m3s, m3l, m3t⟩)).toArray 33 := (show Blk (wE.alloc (.cells (rcells1 (⟨m1k, m1s, m1l, m1t⟩, ⟨m2k, m2s, m2l, m2t⟩, ⟨m3k, m3s, m3l, m3t⟩)).toArray 33)) w.heap.size (rcells1 (⟨m1k, m1s, m1l, m1t⟩, ⟨m2k, m2s, m2l, m2t⟩, ⟨m3k, m3s, m3l, m3t⟩)).toArray 33 from HZ.out.alloc _).moved hm5 (fun e => by have := hoq _ e; have := HT3.out.1.lt; omega)
            have HALM := Lib.hid (show Moved (fun q => q = w.heap.size) w3 w5 from (HMV.out.trans (Moved.of_below HAL.out (fun _ => False)) (fun j hj => hj.elim)).trans hm5 (fun j hj => .inr (hoq j hj)))
            have HO5 := Lib.hid ho5
            have HK5 := Lib.hid hK5
            clear ho5 hg5 hq5 hm5 hoq hK5
            go_roundw
            case rel =>
              have h1 := HSN.out
              refine ⟨k + 1, acc ++ [(⟨m1k, m1s, m1l, m1t⟩, ⟨m2k, m2s, m2l, m2t⟩, ⟨m3k, m3s, m3l, m3t⟩)], ao5, sn + 1, cap5, (⟨m1k, m1s, m1l, m1t⟩, ⟨m2k, m2s, m2l, m2t⟩, ⟨m3k, m3s, m3l, m3t⟩), by omega, by go_num, by first | rfl | (push_cast; rfl), by rw [List.length_append, List.length_singleton]; omega, by omega, hx5, hy5, HO5.out, HK5.out, HALM.out, ?_⟩
              rw [HRX.out, parse_ok HOVR.out HEX.out.symm HT3T.out]
            case measure => simp [intOf]; omega
          · have hEb : (Ex == 0) = false := by simpa using hE0
            have HE0 := Lib.hid hE0
            unfold tri at he
            dsimp only at he
            subst he
            have y0 := hK.frozen 0
            have y1 := hK.frozen 1
            have y2 := hK.frozen 2
            have y3 := hK.frozen 3
            have y4 := hK.frozen 4
            have y5 := hK.frozen 5
            have y6 := hK.frozen 6
            have y7 := hK.frozen 7
            have y8 := hK.frozen 8
            have y9 := hK.frozen 9
            have y10 := hK.frozen 10
            have y11 := hK.frozen 11
            have z0 := hK.cell 0
            have z1 := hK.cell 1
            have z2 := hK.cell 2
            have z3 := hK.cell 3
            have z4 := hK.cell 4
            have z5 := hK.cell 5
            have z6 := hK.cell 6
            have z7 := hK.cell 7
            have z8 := hK.cell 8
            have z9 := hK.cell 9
            have z10 := hK.cell 10
            have z11 := hK.cell 11
            simp only [rcells1, List.getElem?_toArray, List.getElem?_cons_zero, List.getElem?_cons_succ] at z0 z1 z2 z3 z4 z5 z6 z7 z8 z9 z10 z11
            clear hE0
            go_wp2_with fail
            go_step3
            have hRX := HRX.out.trans (parse_err HOVR.out (by rw [← HEX.out]; exact HE0.out))
            rw [← HEX.out] at hRX
            have hfin := (((((((((((((HBEL.out.trans (HBC.out.mono HBEL.out.size))).setCell (p := ⟨w.heap.size, 0, none⟩) (Nat.le_refl _) (.int .i64 0)).setCell (p := ⟨w.heap.size, 1, none⟩) (Nat.le_refl _) (.string ⟨#[]⟩)).setCell (p := ⟨w.heap.size, 2, none⟩) (Nat.le_refl _) (.string ⟨#[]⟩)).setCell (p := ⟨w.heap.size, 3, none⟩) (Nat.le_refl _) (.string ⟨#[]⟩)).setCell (p := ⟨w.heap.size, 4, none⟩) (Nat.le_refl _) (.int .i64 0)).setCell (p := ⟨w.heap.size, 5, none⟩) (Nat.le_refl _) (.string ⟨#[]⟩)).setCell (p := ⟨w.heap.size, 6, none⟩) (Nat.le_refl _) (.string ⟨#[]⟩)).setCell (p := ⟨w.heap.size, 7, none⟩) (Nat.le_refl _) (.string ⟨#[]⟩)).setCell (p := ⟨w.heap.size, 8, none⟩) (Nat.le_refl _) (.int .i64 0)).setCell (p := ⟨w.heap.size, 9, none⟩) (Nat.le_refl _) (.string ⟨#[]⟩)).setCell (p := ⟨w.heap.size, 10, none⟩) (Nat.le_refl _) (.string ⟨#[]⟩)).setCell (p := ⟨w.heap.size, 11, none⟩) (Nat.le_refl _) (.string ⟨#[]⟩)
            subst hRX
            exact ⟨rfl, ⟨_, _, _, _, _, _, _, _, _, _, _, _, _, _, _, _, _, _, _, _, _, _, _, _, _, _, _, _, _, _, _, _, _, _, _, _, _, _, _, rfl, ⟨hfin, rfl⟩⟩⟩
  · rintro a' w' ⟨u0, u1, u2, u5, u6, u7, u8, u9, u10, u11, u12, u13, u14, u15, u16, u17, u18, u19, u20, u21, u22, u23, u24, u25, u26, u27, u28, u29, u30, u31, u32, u33, u34, u35, u36, u37, u38, u39, u40, rfl, ⟨hbel, hR1⟩⟩
    go_wp2_with fail
    simp only [Exit.jump]
    go_ret3
    unfold ParTo
    rw [← HR.out, hR1]
    exact ⟨none, 0, rfl, hbel, OwR.nil _ _⟩
end Go.Proofs.YtbkokckpjmbjhaaDoor
