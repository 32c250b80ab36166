/- triadref3's Commit. -/
import Derived.Test.YtkhdahipnfloeaaHomes
import Derived.Test.YtkhdahipnfloeaaBase
namespace Go.Proofs.Ytkhdahipnfloeaa
open Go.RowKit
set_option maxRecDepth 100000

theorem bodyWs_get (j k : Nat) (l : Pages) (h : k < l.length) : (bodyWs j l)[k]'(by rw [bodyWs_length]; exact h) = (j + k, le l[k].1 8 ++ page l[k].2) := by
  induction l generalizing j k with
  | nil => simp at h
  | cons q t ih =>
    cases k with
    | zero => simp [bodyWs]
    | succ k =>
      have := ih (j + 1) k (by simpa using h)
      simp only [bodyWs, List.getElem_cons_succ, this]
      rw [show j + 1 + k = j + (k + 1) by omega]

def tailOps (l : Pages) : List Dop := [Dop.S, Dop.W 0 (headOf l.length), Dop.S] ++ homesOps l
theorem commit_split (l : Pages) : commitOps l = Wops (bodyWs 1 l) ++ tailOps l := by
  unfold commitOps ph tailOps
  rw [List.append_assoc]
  rfl

theorem Own.front0 (w : World) (base : Nat) : Own w base (.slice none 0 0) [] := ⟨by simp [vbs], .inl ⟨rfl, rfl⟩⟩

theorem bs_magic (w : World) (fr : Nat × Nat) : Bs (w.alloc (.cells #[.int .u8 84, .int .u8 82, .int .u8 73, .int .u8 65, .int .u8 68, .int .u8 76, .int .u8 79, .int .u8 71] 5 fr)) (.slice (some ⟨w.heap.size, 0, none⟩) 8 8) magic := by
  refine ⟨some ⟨w.heap.size, 0, none⟩, 8, rfl, by simp [magic], by simp [maxLen], (fun h => by cases h), fun ad had j u hu => ?_⟩
  cases had
  rw [Addr.add_lit, Nat.zero_add, World.cell?_alloc_mark, ← Array.getElem?_toList]
  exact hu

theorem spare_below {w w' : World} {base : Nat} {v : Value} {L : List UInt8} (h : Spare w w' base (.slice none 0 0) [] v L) : Below w.heap.size w w' := grownBy_below h.grown

set_option maxRecDepth 100000 in
set_option maxHeartbeats 1000000 in
theorem rcommit_any (v : Value) (l : Pages) (S : Nat → Prop) (w : World) (Q : Nat → Prop) (x : Nat) (A : Ab) (h : RkA w Q x A) (hp : Pus w S v l) (hS : ∀ g, S g → ¬ Q g) (hSl : ∀ g, S g → g < w.heap.size) (hs : Small A 100000) :
    Calls Try.prog 19 #[.pointer (some ⟨x, 0, none⟩), v] w fun e w' => e = .returned (.int .i64 (A.commit l).1) ∧ RkTo w Q w' x (A.commit l).2 := by
  have hp' := hp
  obtain ⟨ao, cap, rfl, hc1, hc2, hE⟩ := hp
  have hc2' : cap ≤ 9223372036854775807 := hc2
  obtain ⟨n, hn⟩ : ∃ n, n = l.length := ⟨_, rfl⟩
  have HP := Lib.hid hp'
  have HE := Lib.hid hE
  have HN := Lib.hid hn
  have H0 : Hid (RkTo w Q w x A) := RkTo.refl h
  have HS := Lib.hid hs
  have HSS := Lib.hid hS
  have HSL := Lib.hid hSl
  have hfit := rfits_any _ l S w w Q x A H0.out hp'
  rw [← hn] at hc1 hfit ⊢
  have HF := Lib.hid hfit
  clear hE hn hc2 hp' h hs hS hSl hfit
  obtain ⟨ft, hft⟩ : ∃ ft, ft = fitsOf A.now.length l := ⟨_, rfl⟩
  have HFT := Lib.hid hft
  rw [← hft] at HF
  by_cases h0 : ft = 0
  · have hlp : Pagess A.now.length l := (fits_iff _ _).1 (by rw [← hft]; exact h0)
    have hcm : A.commit l = A.run (commitOps l) := by unfold Ab.commit; rw [if_pos (by rw [← hft]; exact h0)]
    rw [hcm]
    have HLP := Lib.hid hlp
    subst h0
    have hn4 : n ≤ 400 := by rw [HN.out]; exact hlp.most
    have hn1 : 1 ≤ n := by have := hlp.some'; rw [HN.out]; omega
    have HCS := Lib.hid (commit_split l)
    clear hft hcm hlp
    have kc := fun (w : World) (C : Array Value) (n c : Nat) => Lib.run_convert_bytes_const (P := Try.prog) w 41 5 C n c Try.underlying41 Try.underlying5
    go_enter Try.func19, Try.ntmps19
    go_wp2_with fail
    refine HF.out.mono ?_
    rintro e w1 ⟨rfl, hb1⟩
    have H1 := Lib.hid (H0.out.grow hb1)
    clear HF hb1
    go_wp2_with fail
    go_loopw [5, 6] (fun e i wr => ∃ k : Nat, k ≤ n ∧ i = .int .i64 k ∧ ∃ Ak ek, e = .int .i64 ek ∧ RkTo w Q wr x Ak ∧ Small Ak (100000 + k) ∧ (ek = 0 ∧ A.run (Wops ((bodyWs 1 l).take k)) = (0, Ak) ∨ (ek == 0) = false ∧ A.run (commitOps l) = (ek, Ak))) (fun _ i _ => n - (intOf i).toNat)
    case atStart => exact ⟨0, Nat.zero_le _, rfl, A, 0, rfl, H1.out, HS.out, .inl ⟨rfl, rfl⟩⟩
    case round =>
      obtain ⟨k, hk, rfl, Ak, ek, rfl, hR, hsm, hrun⟩ := hrel
      have HA := Lib.hid hR
      have HSM := Lib.hid hsm
      clear hR hsm
      rcases hrun with ⟨rfl, hrun⟩ | ⟨hek, hrun⟩
      · have HRun := Lib.hid hrun
        clear hrun
        by_cases hlt : k < n
        · have hkl : k < l.length := by rw [← HN.out]; exact hlt
          obtain ⟨b, off, rfl, hSb, hA⟩ := HE.out k hkl
          obtain ⟨Qk, -, hM, -⟩ := id HA.out
          obtain ⟨z0, u, z1, hbs, hub⟩ := hA
          have hpk := HLP.out.ok _ (List.getElem_mem hkl)
          have hkw : k < (bodyWs 1 l).length := by rw [bodyWs_length]; exact hkl
          have hget := bodyWs_get 1 k l hkl
          obtain ⟨at1, hat⟩ : ∃ m : Int, m = l[k].1 := ⟨_, rfl⟩
          obtain ⟨bs, hbb⟩ : ∃ m, m = l[k].2 := ⟨_, rfl⟩
          rw [← hbb, ← hat] at hget
          rw [← hat] at z0
          rw [← hbb] at hbs hpk hub
          replace hbs := hbs.moved0 hM (fun h0 k hk => HSS.out k (hub h0 k hk))
          obtain ⟨c0, c1⟩ := PuAt.kept z0 z1 hSb hM HSS.out
          have KEY := Lib.hid (fun (w' : World) (A' : Ab) (h' : RkTo w Q w' x A') => (by obtain ⟨_, -, hM', -⟩ := h'; exact PuAt.kept z0 z1 hSb hM' HSS.out : w'.cell? ⟨b, off + k * 2, none⟩ = some (.int .i64 at1) ∧ w'.cell? ⟨b, off + k * 2 + 1, none⟩ = some u))
          have hb5 := hpk.2.2
          have ok := run_take_ok hkw HRun.out
          have bad := fun he => run_take_bad hkw HRun.out he (tailOps l)
          rw [hget] at ok bad
          rw [← HCS.out] at bad
          have OK := Lib.hid ok
          have BAD := Lib.hid bad
          have HBS := Lib.hid hbs.drew
          obtain ⟨kk, hkk⟩ : ∃ kk : Int, kk = ((1 + k : Nat) : Int) := ⟨_, rfl⟩
          have hwr : IntKind.i64.wrap (1 + (k : Int)) = kk := by rw [IntKind.wrap_i64]; omega
          clear ok bad hget hpk hat hbb hSb hM hbs z0 z1 hub
          have HKK := Lib.hid hkk
          clear hkk
          obtain ⟨er, her⟩ : ∃ er, er = Ak.writeErr kk (le at1 8 ++ page bs) := ⟨_, rfl⟩
          have HER := Lib.hid her
          clear her
          go_wp2_with fail
          go_region_held3 (fun w' => w'.cell? ⟨b, off + k * 2, none⟩ = some (.int .i64 at1) ∧ w'.cell? ⟨b, off + k * 2 + 1, none⟩ = some u) (first | exact ⟨c0, c1⟩ | exact q1 | exact q2 | exact q3 | exact q4)
            (first
              | (go_at_call 41; refine (refInt_any wr.heap.size (.slice none 0 0) [] at1 ?_ _ ?_ ?_).mono ?_; (simp); (exact Nat.le_refl _); (exact Own.front0 _ _); rintro e wi ⟨vi, rfl, hi⟩; have bi := Lib.hid ((Below.refl wr.heap.size wr).drew.trans (spare_below hi)); have HAi := Lib.hid (HA.out.grow bi.out); have q1 := KEY.out _ _ HAi.out)
              | (go_at_call 42; refine (page_any u bs _ (HBS.out.below (spare_below hi)) hb5).mono ?_; rintro e wp ⟨g, rfl, hg, hown, hbp⟩; have HAp := Lib.hid (HAi.out.grow hbp); have q2 := KEY.out _ _ HAp.out; have hiw := Lib.hid (hi.own.below hbp); have bp := Lib.hid (bi.out.trans (hbp.mono bi.out.size)))
              | (refine step_append_bytes rfl (.tmp 28) (.tmp 34) rfl wr.heap.size vi _ rfl hiw.out _ (page bs) rfl hown.bs ?_ ?_ ?_; (rw [List.nil_append, le_length, page_length bs hb5]; omega); (exact bp.out.size); intro va wa hva hga; have ba := Lib.hid (bp.out.grown hga bp.out.size (fun q hq => (hiw.out.out.lt q hq).1)); have HAa := Lib.hid (HA.out.grow ba.out); have q3 := KEY.out _ _ HAa.out)
              | (go_at_call 24; refine (ro_write kk _ (le at1 8 ++ page bs) HAa.out hva.bs (HSM.out.mono (by omega))).mono ?_; rw [← HER.out]; rintro e wq ⟨rfl, hwq⟩; have q4 := KEY.out _ _ hwq; have HW := Lib.hid hwq))
          have HQ := Lib.hid (hwq)
          clear q1 q2 q3 q4 c0 c1 hi hown hbp hva hga hwq bi bp ba HAi HAp HAa hiw KEY
          go_wp2_with fail
          go_roundw
          case rel =>
            refine ⟨k + 1, by omega, by go_num, _, er, rfl, HW.out, (HSM.out.write _ _).mono (by omega), ?_⟩
            by_cases he : er = 0
            · left
              refine ⟨he, ?_⟩
              rw [HKK.out]
              exact OK.out (by rw [← HKK.out, ← HER.out]; exact he)
            · right
              refine ⟨by simpa using he, ?_⟩
              have := BAD.out (by rw [← HKK.out, ← HER.out]; exact he)
              rw [← HKK.out, ← HER.out] at this
              exact this
          case measure => simp [intOf]; omega
        · obtain rfl : k = n := by omega
          have hrest := run_take_all (by rw [bodyWs_length]; have := HN.out; omega) HRun.out (tailOps l)
          rw [← HCS.out] at hrest
          obtain ⟨e1, he1⟩ : ∃ e, e = Ak.syncErr := ⟨_, rfl⟩
          obtain ⟨e2, he2⟩ : ∃ e, e = Ak.sync.writeErr 0 (headOf l.length) := ⟨_, rfl⟩
          obtain ⟨e3, he3⟩ : ∃ e, e = (Ak.sync.write 0 (headOf l.length)).syncErr := ⟨_, rfl⟩
          have hrun : A.run (commitOps l) = if e1 = 0 then (if e2 = 0 then (if e3 = 0 then ((Ak.sync.write 0 (headOf l.length)).sync).run (homesOps l) else (e3, (Ak.sync.write 0 (headOf l.length)).sync)) else (e2, Ak.sync.write 0 (headOf l.length))) else (e1, Ak.sync) := by
            rw [hrest, he1, he2, he3]; rfl
          have HRUN := Lib.hid hrun
          have HE1 := Lib.hid he1
          have HE2 := Lib.hid he2
          have HE3 := Lib.hid he3
          clear hrun hrest he1 he2 he3 HRun
          have hs1 := HSM.out.sync
          have hs2 := hs1.write 0 (headOf l.length)
          have HS0 := Lib.hid (HSM.out.mono (m := 1073741824) (by omega))
          have HS1 := Lib.hid (hs1.mono (m := 1073741824) (by omega))
          have HS2 := Lib.hid (hs2.mono (m := 1073741824) (by omega))
          have HS3 := Lib.hid (hs2.sync.mono (m := 1000000) (by omega))
          clear hs1 hs2
          go_wp2_with fail
          refine (ro_sync HA.out HS0.out).mono ?_
          rw [← HE1.out]
          rintro e wa ⟨rfl, ha⟩
          cases h1 : e1 == 0
          · have hne : (e1 != 0) = true := by rw [bne, h1]; rfl
            go_wp2_with fail
            go_ret
            rw [HRUN.out, if_neg (by simpa using h1)]
            exact ⟨rfl, ha⟩
          have h1' : e1 = 0 := by simpa using h1
          subst h1'
          have HHA := Lib.hid ha
          clear ha
          go_wp2_with fail
          refine (refIntFull_any _ magic 8 rfl (k : Int) (by simp [magic]) _ (bs_magic _ _)).mono ?_
          rintro e wb ⟨vb', rfl, hown, hbw⟩
          have hhead : magic ++ le (k : Int) 8 = headOf l.length := by rw [HN.out]; rfl
          rw [hhead] at hown
          have HHB := Lib.hid (HHA.out.grow (((Below.refl _ wa).alloc (Nat.le_refl _) _).trans (hbw.mono (by simp))))
          have hob := hown.bs
          clear hhead hbw hown
          go_wp2_with fail
          refine (ro_write 0 _ (headOf l.length) HHB.out hob HS1.out).mono ?_
          rw [← HE2.out]
          rintro e wc ⟨rfl, hc⟩
          clear hob HHB HHA
          cases h2 : e2 == 0
          · have hne : (e2 != 0) = true := by rw [bne, h2]; rfl
            go_wp2_with fail
            go_ret
            rw [HRUN.out, if_pos trivial, if_neg (by simpa using h2)]
            exact ⟨rfl, hc⟩
          have h2' : e2 = 0 := by simpa using h2
          subst h2'
          go_wp2_with fail
          refine (ro_sync hc HS2.out).mono ?_
          rw [← HE3.out]
          rintro e wd ⟨rfl, hd⟩
          cases h3 : e3 == 0
          · have hne : (e3 != 0) = true := by rw [bne, h3]; rfl
            go_wp2_with fail
            go_ret
            rw [HRUN.out, if_pos trivial, if_pos trivial, if_neg (by simpa using h3)]
            exact ⟨rfl, hd⟩
          have h3' : e3 = 0 := by simpa using h3
          subst h3'
          obtain ⟨Q3, hr3, hm3, hq3⟩ := hd
          have hps := HP.out.moved hm3 HSS.out
          rw [← HN.out] at hps
          have hhom := rhomes_any _ l S wd Q3 x _ hr3 hps (fun g hg hq => by
            rcases hq3 g hq with h | h
            · exact HSS.out g hg h
            · have := HSL.out g hg; omega) (fun p hp => by have := HLP.out.ok p hp; omega) (by have := HN.out; omega) HS3.out
          have HH := Lib.hid hhom
          have HM3 := Lib.hid hm3
          have HQ3 := Lib.hid hq3
          clear hhom hm3 hq3 hps hr3
          go_wp2_with fail
          refine HH.out.mono ?_
          rintro e we ⟨rfl, he⟩
          go_wp2_with fail
          go_ret
          rw [HRUN.out, if_pos trivial, if_pos trivial, if_pos trivial]
          exact ⟨rfl, RkTo.trans HM3.out HQ3.out he⟩
      · have hne : (ek != 0) = true := by rw [bne, hek]; rfl
        by_cases hlt : k < n
        · go_wp2_with fail
          go_ret
          rw [hrun]
          exact ⟨rfl, HA.out⟩
        · go_wp2_with fail
          go_ret
          rw [hrun]
          exact ⟨rfl, HA.out⟩
  · have hcm : A.commit l = (ft, A) := by unfold Ab.commit; rw [if_neg (by rw [← hft]; exact h0), ← hft]
    rw [hcm]
    have he0 : (ft == 0) = false := by simpa using h0
    have hne : (ft != 0) = true := by rw [bne, he0]; rfl
    clear hft hcm
    have H1 : ∀ w1, Below w.heap.size w w1 → RkTo w Q w1 x A := fun w1 h => H0.out.grow h
    have HH := Lib.hid H1
    clear H1
    by_cases hnz : (0 : Int) < n
    · go_enter Try.func19, Try.ntmps19
      go_wp2_with fail
      refine HF.out.mono ?_
      rintro e w1 ⟨rfl, hb1⟩
      go_wp2_with fail
      refine wp_loop_rounds 1 ?_
      rw [rounds_succ]
      go_wp2_with fail
      go_ret
      exact ⟨rfl, HH.out _ hb1⟩
    · go_enter Try.func19, Try.ntmps19
      go_wp2_with fail
      refine HF.out.mono ?_
      rintro e w1 ⟨rfl, hb1⟩
      go_wp2_with fail
      refine wp_loop_rounds 1 ?_
      rw [rounds_succ]
      go_wp2_with fail
      go_ret
      exact ⟨rfl, HH.out _ hb1⟩
end Go.Proofs.Ytkhdahipnfloeaa
