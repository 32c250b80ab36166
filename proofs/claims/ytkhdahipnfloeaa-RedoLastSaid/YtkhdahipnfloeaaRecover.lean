/- triadref3's Recover. -/
import Derived.Test.YtkhdahipnfloeaaRow
namespace Go.Proofs.Ytkhdahipnfloeaa
open Go.RowKit
set_option maxRecDepth 100000

theorem pagesOf_none {K : List (List UInt8)} {i : Nat} (h : pagesOf K i = none) : ∀ m, i ≤ m → pagesOf K m = none := by
  intro m hm
  induction m with
  | zero => obtain rfl : i = 0 := by omega
            exact h
  | succ m ih =>
    by_cases e : i = m + 1
    · subst e; exact h
    · unfold pagesOf
      rw [ih (by omega)]
theorem pagesOf_length {K : List (List UInt8)} : ∀ (i : Nat) (l : Pages), pagesOf K i = some l → l.length = i ∧ ∀ p ∈ l, 401 ≤ p.1 ∧ p.1 < K.length
  | 0, l, h => by simp [pagesOf] at h; subst h; simp
  | i + 1, l, h => by
    unfold pagesOf at h
    split at h
    · simp at h
    · rename_i l' h'
      have ih := pagesOf_length i l' h'
      split at h
      · rename_i hc
        simp only [Option.some.injEq] at h
        subst h
        refine ⟨by simp [ih.1], fun p hp => ?_⟩
        rcases List.mem_append.1 hp with hp | hp
        · exact ih.2 p hp
        · simp at hp; subst hp; exact hc
      · simp at h

def recOf (A : Ab) (n : Int) : Option Pages → Int × Int × Ab
  | none => (0, 9, A)
  | some l => if (A.run (homesOps l)).1 = 0 then (n, 0, (A.run (homesOps l)).2) else (0, (A.run (homesOps l)).1, (A.run (homesOps l)).2)

set_option maxRecDepth 100000 in
set_option maxHeartbeats 1000000 in
theorem rrecover_any (w : World) (Q0 : Nat → Prop) (x : Nat) (A : Ab) (h0 : RkA w Q0 x A) (hs : Small A 100000) :
    Calls Try.prog 28 #[.pointer (some ⟨x, 0, none⟩)] w fun e w' => e = .returned (.tuple #[.int .i64 A.recover.1, .int .i64 A.recover.2.1]) ∧ RkTo w Q0 w' x A.recover.2.2 := by
  obtain ⟨Q, hQ⟩ : ∃ Q : Nat → Prop, Q = fun k => Q0 k ∧ k < w.heap.size := ⟨_, rfl⟩
  have h : RkA w Q x A := by rw [hQ]; exact h0.shrink
  have hfull := h.full
  have hmost := h.most
  have hread := ro_read 0 (RkTo.refl h) (hs.mono (m := 1073741824) (by omega))
  have H := Lib.hid h
  have HF := Lib.hid hfull
  have HR := Lib.hid hread
  have HQQ := Lib.hid hQ
  have HSM := Lib.hid hs
  have fin : ∀ w', RkTo w Q w' x A → RkTo w Q0 w' x A := fun w' ⟨P, k1, k2, k3⟩ => ⟨P, k1, k2.mono (fun j hj => by rw [hQ] at hj; exact hj.1), fun k hk => by
    rcases k3 k hk with e | e
    · rw [hQ] at e; exact .inl e.1
    · exact .inr e⟩
  have FIN := Lib.hid fin
  have H0 := Lib.hid h0
  clear h hfull hread hQ hs fin h0
  obtain ⟨f0, hf0⟩ : ∃ f0, f0 = A.fault 0 := ⟨_, rfl⟩
  rw [← hf0] at HR
  by_cases hz : f0 = 0
  · subst hz
    have hlen := HF.out 0 hf0.symm
    obtain ⟨hd, hhd⟩ : ∃ hd, hd = A.read 0 := ⟨_, rfl⟩
    rw [← hhd] at hlen HR
    have hhd2 : hd = A.now.getD 0 [] := by rw [hhd, Ab.read, if_pos hf0.symm]; rfl
    have hl1 : (0 : Int) < A.now.length := by
      unfold Ab.fault at hf0
      split at hf0
      · simp at hf0
      · split at hf0
        · rename_i hc; exact hc.2
        · simp at hf0
    have hdead : A.dead = false := by
      unfold Ab.fault at hf0
      split at hf0
      · simp at hf0
      · rename_i hc; simpa using hc
    have HF0 := Lib.hid hf0
    clear hhd hf0
    go_enter Try.func28, Try.ntmps28
    go_wp2_with fail
    refine HR.out.mono ?_
    rintro e w1 ⟨v, rfl, hown, hb1, -⟩
    obtain ⟨g, cap, rfl, hc1, hc2, hg1, hg2, -⟩ := hown.word hlen
    have hc2' : cap ≤ 9223372036854775807 := hc2
    have hb2 : Below w.heap.size w w1 := hb1
    have hbs := hown.bs
    have hlen' := hlen
    rw [← hlen] at hbs
    have hbd := hbs.drops 8 (by omega)
    have hbt := hbs.takes 8 (by omega)
    have HBT := Lib.hid hbt
    rw [hlen, if_neg (by omega)] at hbd
    replace hbd : Bs w1 (.slice (some ⟨g, 8, none⟩) 504 (cap - 8)) (hd.drop 8) := hbd
    have HBD := Lib.hid hbd
    have HB1 := Lib.hid hb2
    have HHD2 := Lib.hid hhd2
    clear hown hb1 hbs hbd hbt HR hb2 hhd2
    go_wp2_with fail
    refine (newR_any (mB := w1.heap.size) _ (hd.drop 8) _ HBD.out (Nat.le_refl _) ?_).mono ?_
    · right
      intro b hb
      simp [Value.ownBlock] at hb
      omega
    rintro e w2 ⟨rfl, hrd, hb2⟩
    go_wp2_with fail
    refine (intR_any _ _ _ _ hrd).mono ?_
    rintro e w3 ⟨rfl, -, hg3⟩
    have hcnt : wrap64 (num (tookOf (hd.drop 8) 0 8)) = cntOf hd := by
      rw [took_ok (by rw [List.length_drop, hlen']; omega)]; rfl
    have hb13 := hb2.grown hg3 hb2.size (fun q hq => by simp at hq; omega)
    have HB3 := Lib.hid (HB1.out.trans (hb13.mono HB1.out.size))
    have kstr := run_conv_bytes (HBT.out.below hb13)
    rw [hcnt]
    obtain ⟨cn, hcn⟩ : ∃ cn, cn = cntOf hd := ⟨_, rfl⟩
    rw [← hcn]
    obtain ⟨Y, hY⟩ : ∃ Y : ByteArray, Y = ⟨(hd.take 8).toArray⟩ := ⟨_, rfl⟩
    rw [← hY] at kstr
    have HCN := Lib.hid hcn
    have HY := Lib.hid hY
    have hrec : ¬ (hd.take 8 = magic ∧ 1 ≤ cn ∧ cn ≤ 400 ∧ cn < A.now.length) → A.recover = (0, 0, A) := fun hn => by
      unfold Ab.recover
      rw [if_neg (by rw [← HF0.out]; decide), if_neg (by rw [← HHD2.out]; unfold isLog; rw [← HCN.out]; exact hn)]
    have HREC := Lib.hid hrec
    have hyes : (hd.take 8 = magic ∧ 1 ≤ cn ∧ cn ≤ 400 ∧ cn < A.now.length) → A.recover = recOf A cn (pagesOf A.now cn.toNat) := fun hn => by
      unfold Ab.recover
      rw [if_neg (by rw [← HF0.out]; decide), if_pos (by rw [← HHD2.out]; unfold isLog; rw [← HCN.out]; exact hn), ← HHD2.out, ← HCN.out]
      cases pagesOf A.now cn.toNat <;> rfl
    have HYES := Lib.hid hyes
    have hR3 := Lib.hid ((RkTo.refl H.out).grow HB3.out)
    clear hcnt hcn hrd hg3 hb2 hb13 hY HBD HBT HB1 hrec hyes
    have hyl : Y.toList = hd.take 8 := by rw [HY.out, Go.ByteArray.toList_mk]
    have HYL := Lib.hid hyl
    clear hyl HY
    by_cases hm : Y.toList = [84, 82, 73, 65, 68, 76, 79, 71]
    · have HMG := Lib.hid (HYL.out.symm.trans hm : hd.take 8 = magic)
      by_cases h1 : cn < 1
      · have d1 : decide (cn < 1) = true := by simpa using h1
        go_wp2_with fail
        go_ret2
        rw [HREC.out (by omega)]
        exact ⟨rfl, FIN.out _ hR3.out⟩
      have d1 : decide (cn < 1) = false := by simpa using h1
      by_cases h4 : 400 < cn
      · have d4 : decide (400 < cn) = true := by simpa using h4
        go_wp2_with fail
        go_ret2
        rw [HREC.out (by omega)]
        exact ⟨rfl, FIN.out _ hR3.out⟩
      have d4 : decide (400 < cn) = false := by simpa using h4
      obtain ⟨N, hN⟩ : ∃ N, N = A.now.length := ⟨_, rfl⟩
      have HNN := Lib.hid hN
      have hsz := ro_size hR3.out
      rw [← hN] at hsz hl1 hmost HREC HYES
      have HSZ := Lib.hid hsz
      clear hN hsz
      go_wp2_with fail
      refine HSZ.out.mono ?_
      rintro e wz ⟨rfl, hwz⟩
      replace hwz := hwz.symm
      subst hwz
      by_cases h5 : (N : Int) ≤ cn
      · go_wp2_with fail
        go_ret2
        rw [HREC.out (by omega)]
        exact ⟨rfl, FIN.out _ hR3.out⟩
      · obtain ⟨n, rfl⟩ : ∃ n : Nat, cn = n := ⟨cn.toNat, by omega⟩
        have hyes := HYES.out ⟨HMG.out, by omega, by omega, by omega⟩
        rw [Int.toNat_natCast] at hyes
        have HY2 := Lib.hid hyes
        have HB := HB3
        have hnN : n < N := by omega
        have hn400 : n ≤ 400 := by omega
        have hfz : ∀ k : Nat, k < N → A.fault (k : Int) = 0 := fun k hk => by
          unfold Ab.fault
          rw [hdead, if_neg (by decide), if_pos (by rw [← HNN.out]; omega)]
        have HFZ := Lib.hid hfz
        clear hfz hyes HREC HYES HSZ HB3 HMG HYL hm kstr d1 d4 h1 h4 HCN HHD2 hR3
        generalize w3 = w4 at HB ⊢
        have d5 : decide (N ≤ n) = false := by simpa using hnN
        go_wp2_with fail
        go_loopw [7, 8, 9, 10, 11] (fun lv i _ _ _ wr => ∃ k : Nat, k ≤ n ∧ i = .int .i64 ((k + 1 : Nat) : Int) ∧ Below w.heap.size w wr ∧ ∃ l, pagesOf A.now k = some l ∧ PRow (fun _ => False) w.heap.size wr lv l ∧ ∀ p ∈ l, p.2.length ≤ 504) (fun _ i _ _ _ _ => 1 + n - (intOf i).toNat)
        case atStart => exact ⟨0, Nat.zero_le _, rfl, HB.out, [], rfl, PRow.nil _ _ _, fun p hp => by simp at hp⟩
        case round =>
          obtain ⟨k, hk, rfl, hb, l, hpg, hrow, hshort⟩ := hrel
          have HBr := Lib.hid hb
          have HPG := Lib.hid hpg
          have HROW := Lib.hid hrow
          have HSH := Lib.hid hshort
          have hlen1 := (pagesOf_length k l hpg).1
          clear hb hpg hrow hshort
          by_cases hlt : k < n
          · have hf1 := HFZ.out (k + 1) (by omega)
            have hle : (((k + 1 : Nat) : Int)) ≤ n := by omega
            have hread := ro_read ((k + 1 : Nat) : Int) ((RkTo.refl H.out).grow HBr.out) (HSM.out.mono (m := 1073741824) (by omega))
            obtain ⟨bb, hbb⟩ : ∃ bb, bb = A.read ((k + 1 : Nat) : Int) := ⟨_, rfl⟩
            have hbl : bb.length = 512 := by rw [hbb]; exact HF.out _ hf1
            have hb2 : A.now.getD (1 + k) [] = bb := by rw [hbb, Ab.read, if_pos hf1, Int.toNat_natCast, Nat.add_comm]
            rw [hf1, ← hbb] at hread
            have HRD := Lib.hid hread
            have HB2 := Lib.hid hb2
            obtain ⟨i1, hi1⟩ : ∃ i1 : Int, i1 = ((k + 1 : Nat) : Int) := ⟨_, rfl⟩
            rw [← hi1] at HRD hle
            rw [← hi1]
            have HI1 := Lib.hid hi1
            have hi0 : 0 ≤ i1 := by omega
            have hi4 : i1 ≤ 400 := by omega
            clear hread hb2 hbb hf1 hi1
            go_wp2_with fail
            refine HRD.out.mono ?_
            rintro e w5 ⟨v5, rfl, hown, hb5, -⟩
            obtain ⟨g5, cap5, rfl, hc1', hc2'', hg1', hg2', -⟩ := hown.word hbl
            have hc2''' : cap5 ≤ 9223372036854775807 := hc2''
            have hbs5 := hown.bs
            have hb6 : Below wr.heap.size wr w5 := hb5
            have hbd := hbs5
            rw [← hbl] at hbd
            replace hbd := hbd.drops 8 (by omega)
            rw [hbl, if_neg (by omega)] at hbd
            replace hbd : Bs w5 (.slice (some ⟨g5, 8, none⟩) 504 (cap5 - 8)) (bb.drop 8) := hbd
            have HBD := Lib.hid hbd
            have HB5 := Lib.hid (HBr.out.trans (hb6.mono HBr.out.size))
            have HR5 := Lib.hid (HROW.out.below hb6)
            have hbr := HBr.out.size
            clear hown hb5 hbd hb6
            go_wp2_with fail
            refine (newR_any (mB := w5.heap.size) _ bb _ hbs5 (Nat.le_refl _) ?_).mono ?_
            · right
              intro b hb
              simp [Value.ownBlock] at hb
              omega
            rintro e w6 ⟨rfl, hrd, hb6⟩
            go_wp2_with fail
            refine (intR_any _ _ _ _ hrd).mono ?_
            rintro e w7 ⟨rfl, -, hg7⟩
            have hcnt : wrap64 (num (tookOf bb 0 8)) = atOf bb := by
              rw [took_ok (by rw [hbl]; omega)]; rfl
            have hb57 := hb6.grown hg7 hb6.size (fun q hq => by simp at hq; omega)
            have HB7 := Lib.hid (HB5.out.trans (hb57.mono HB5.out.size))
            have HBD7 := Lib.hid (HBD.out.below hb57)
            have HR7 := Lib.hid (HR5.out.below hb57)
            have hlt7 := hb57.size
            rw [hcnt]
            obtain ⟨at1, hat⟩ : ∃ at1, at1 = atOf bb := ⟨_, rfl⟩
            rw [← hat]
            have HAT := Lib.hid hat
            have hsz := ro_size ((RkTo.refl H.out).grow HB7.out)
            rw [← HNN.out] at hsz
            have HSZ := Lib.hid hsz
            have hstep : pagesOf A.now (k + 1) = if 401 ≤ at1 ∧ at1 < N then some (l ++ [(at1, bb.drop 8)]) else none := by
              unfold pagesOf
              rw [HPG.out]
              simp only [HB2.out, ← HAT.out, HNN.out]
            have HST := Lib.hid hstep
            have hbad : ¬ (401 ≤ at1 ∧ at1 < N) → A.recover = (0, 9, A) := fun hn => by
              rw [HY2.out, pagesOf_none (by rw [HST.out, if_neg hn]) n hlt]; rfl
            have HBAD := Lib.hid hbad
            have HR77 := Lib.hid ((RkTo.refl H.out).grow HB7.out)
            clear hcnt hat hrd hg7 hb6 hb57 hbs5 hsz hstep hbad HB5 HBD HR5
            by_cases h1 : at1 < 401
            · have d1 : decide (at1 < 401) = true := by simpa using h1
              go_wp2_with fail
              go_ret2
              rw [HBAD.out (by omega)]
              exact ⟨rfl, FIN.out _ HR77.out⟩
            have d1 : decide (at1 < 401) = false := by simpa using h1
            go_wp2_with fail
            refine HSZ.out.mono ?_
            rintro e wz ⟨rfl, hwz⟩
            replace hwz := hwz.symm
            subst hwz
            by_cases h2 : (N : Int) ≤ at1
            · go_wp2_with fail
              go_ret2
              rw [HBAD.out (by omega)]
              exact ⟨rfl, FIN.out _ HR77.out⟩
            have hala : Below w7.heap.size w7 (w7.alloc (.cells #[.int .i64 at1, .slice (some ⟨g5, 8, none⟩) 504 (cap5 - 8)] 56)) := (Below.refl _ w7).alloc (Nat.le_refl _) _
            have hrowa := Lib.hid (HR7.out.below hala)
            have hbda := Lib.hid (HBD7.out.below hala)
            have hbla := Lib.hid (Blk.new w7 #[.int .i64 at1, .slice (some ⟨g5, 8, none⟩) 504 (cap5 - 8)] 56)
            have HBA := Lib.hid (HB7.out.trans (hala.mono HB7.out.size))
            have hlv : ∀ q, u7.ownBlock = some q → q < wr.heap.size := fun q hq => (HROW.out.lt q hq).2
            have HLV := Lib.hid hlv
            have hl30 : l.length ≤ 1073741824 := by omega
            have hok : 401 ≤ at1 ∧ at1 < N := by omega
            have HOK := Lib.hid hok
            have hs57 : g5 < w7.heap.size := by omega
            clear hala hlv HR7 HBD7 HB7 HR77 HBAD HSZ hok
            go_wp2_with (at_builtin; refine wpList_append_pu rfl _ _ rfl (fun _ => False) w.heap.size (fun _ h => h.elim) ?s1 u7 l rfl hrowa.out _ rfl at1 _ (bb.drop 8) hbda.out ?s2 hbla.out hl30 ?_)
            case s1 => exact HBA.out.size
            case s2 =>
              intro _ q hq
              simp [Value.ownBlock] at hq
              subst hq
              refine .inr ⟨by omega, by simp; omega, fun e => ?_⟩
              have := HLV.out _ e
              omega
            intro v8 w8 hv8 hg8 hq8
            have HB8 := Lib.hid (HBA.out.grown hg8 HBA.out.size hq8)
            have HV8 := Lib.hid hv8
            clear hv8 hg8 hq8 hrowa hbda hbla HBA HLV
            go_wp2_with fail
            go_roundw
            case rel =>
              refine ⟨k + 1, by omega, ?_, HB8.out, _, by rw [HST.out, if_pos HOK.out], HV8.out, fun p hp => ?_⟩
              · rw [HI1.out]; go_num
              · rcases List.mem_append.1 hp with hp | hp
                · exact HSH.out p hp
                · simp at hp; subst hp; show (bb.drop 8).length ≤ 504; rw [List.length_drop]; omega
            case measure => simp [intOf]; have := HI1.out; omega
          · obtain rfl : k = n := by omega
            have hle : ¬ (((k + 1 : Nat) : Int)) ≤ k := by omega
            obtain ⟨i1, hi1⟩ : ∃ i1 : Int, i1 = ((k + 1 : Nat) : Int) := ⟨_, rfl⟩
            rw [← hi1] at hle
            rw [← hi1]
            have hhom := rhomes_any u7 l (fun g => False ∨ (w.heap.size ≤ g ∧ g < wr.heap.size)) wr Q x A (H.out.below HBr.out) HROW.out.pus (fun g hg hq => by rw [HQQ.out] at hq; have := hg.resolve_left id; omega)
              (fun p hp => ⟨by have := (pagesOf_length k l HPG.out).2 p hp; omega, HSH.out p hp⟩) (by omega) (HSM.out.mono (by omega))
            have HH := Lib.hid hhom
            have hrec : A.recover = recOf A (k : Int) (some l) := by rw [HY2.out, HPG.out]
            have HREC := Lib.hid hrec
            obtain ⟨er, her⟩ : ∃ er, er = (A.run (homesOps l)).1 := ⟨_, rfl⟩
            rw [← her] at HH
            have HER := Lib.hid her
            clear hhom hrec her
            go_wp2_with fail
            refine HH.out.mono ?_
            rintro e w5 ⟨rfl, hfin⟩
            have hfin' : RkTo w Q w5 x (A.run (homesOps l)).2 := by
              obtain ⟨Q5, k1, k2, k3⟩ := hfin
              refine ⟨Q5, k1, (Moved.of_below HBr.out _).trans k2 (fun j hj => .inl hj), fun j hj => ?_⟩
              rcases k3 j hj with e | e
              · exact .inl e
              · exact .inr (Nat.le_trans HBr.out.size e)
            have hfin0 : RkTo w Q0 w5 x (A.run (homesOps l)).2 := by
              obtain ⟨Q5, k1, k2, k3⟩ := hfin'
              refine ⟨Q5, k1, k2.mono (fun j hj => by rw [HQQ.out] at hj; exact hj.1), fun j hj => ?_⟩
              rcases k3 j hj with e | e
              · rw [HQQ.out] at e; exact .inl e.1
              · exact .inr e
            have HFIN := Lib.hid hfin0
            clear hfin hfin' hfin0
            cases he : er == 0
            · have hne : (er != 0) = true := by rw [bne, he]; rfl
              go_wp2_with fail
              go_ret2
              rw [HREC.out, recOf, if_neg (by rw [← HER.out]; simpa using he), ← HER.out]
              exact ⟨rfl, HFIN.out⟩
            · have hne : (er != 0) = false := by rw [bne, he]; rfl
              go_wp2_with fail
              go_ret2
              rw [HREC.out, recOf, if_pos (by rw [← HER.out]; simpa using he)]
              exact ⟨rfl, HFIN.out⟩
    · go_wp2_with fail
      go_ret2
      rw [HREC.out (fun hc => hm (HYL.out.trans hc.1))]
      exact ⟨rfl, FIN.out _ hR3.out⟩
  · have hr : A.recover = (0, f0, A) := by unfold Ab.recover; rw [if_pos (by rw [← hf0]; exact hz), ← hf0]
    rw [hr]
    have hne : (f0 != 0) = true := by simpa using hz
    clear hr hf0 hz
    go_enter Try.func28, Try.ntmps28
    go_wp2_with fail
    refine HR.out.mono ?_
    rintro e w1 ⟨v, rfl, hown, hb1, hR1⟩
    clear hown
    go_wp2_with fail
    go_ret2
    exact ⟨rfl, FIN.out _ hR1⟩
end Go.Proofs.Ytkhdahipnfloeaa
