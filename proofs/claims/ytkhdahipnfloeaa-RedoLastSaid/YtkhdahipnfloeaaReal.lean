/- redo.Commit. -/
import Derived.Test.YtkhdahipnfloeaaSettle
namespace Go.Proofs.Ytkhdahipnfloeaa
open Go.RowKit
set_option maxRecDepth 100000

/-- The frame of Commit at its label. -/
def CommitOut (e : Int) (a' : Act) : Prop := ∃ u0 u1 u2 u3 u4 u6 u7 u8 u9 u10 u11 u12 u13 u14 u15 u16 u17 u18 u19 u20 u21 u22 u23 u24 u25 u26 : Value, a' = { tmps := #[u0, u1, u2, u3, u4, .int .i64 e, u6, u7, u8, u9, u10, u11, u12, u13, u14, u15, u16, u17, u18, u19, u20, u21, u22, u23, u24, u25, u26], defers := [] }

set_option maxHeartbeats 2000000 in
theorem commit_any (v : Value) (l : Pages) (S : Nat → Prop) (w : World) (P : Nat → Prop) (r : Nat) (A : Ab) (h : DkA w P r A) (hp : Pus w S v l) (hS : ∀ g, S g → ¬ P g) (hSl : ∀ g, S g → g < w.heap.size) (hs : Small A 100000) :
    Calls Try.prog 18 #[.pointer (some ⟨r, 0, none⟩), v] w fun e w' => e = .returned (.int .i64 (A.commit l).1) ∧ DkTo w P w' r (A.commit l).2 := by
  obtain ⟨ao, cap, hv, hc1, hc2, -⟩ := id hp
  have hc2' : cap ≤ 9223372036854775807 := hc2
  have hal : Below w.heap.size w (w.alloc (.cells #[v] 22)) := (Below.refl _ w).alloc (Nat.le_refl _) _
  have hbk := (Blk.new w #[v] 22)
  have hp1 := hp.below hal
  have hfl := fault2_any v l S w _ P r A ((DkTo.refl h).grow hal) hp1
  obtain ⟨ft, hft⟩ : ∃ e, e = fitsOf A.now.length l := ⟨_, rfl⟩
  rw [← hft] at hfl
  have HFL := Lib.hid hfl
  have HAL := Lib.hid hal
  have HD := Lib.hid h
  have HBK := Lib.hid hbk
  have HP := Lib.hid hp
  have HS := Lib.hid hs
  have HSS := Lib.hid hS
  have HSL := Lib.hid hSl
  obtain ⟨n, hn⟩ : ∃ n, n = l.length := ⟨_, rfl⟩
  have HN := Lib.hid hn
  subst hv
  rw [← hn] at hc1 HFL HAL HBK HP ⊢
  clear hn hal hbk hp1 hfl h hp hS hSl hs hc2
  have c0 : ∀ w', Below (w.heap.size + 1) (w.alloc (.cells #[.slice ao n cap] 22)) w' → w'.cell? ⟨w.heap.size, 0, none⟩ = some (.slice ao n cap) := fun w' hb => (hb.cell (by simp)).trans (HBK.out.cell 0)
  have C0 := Lib.hid c0
  clear c0
  by_cases h0 : ft = 0
  · have hlp : Pagess A.now.length l := (fits_iff _ _).1 (by rw [← hft]; exact h0)
    have hcm : A.commit l = A.run (commitOps l) := by unfold Ab.commit; rw [if_pos (by rw [← hft]; exact h0)]
    rw [hcm]
    have HLP := Lib.hid hlp
    subst h0
    have hn4 : n ≤ 400 := by rw [HN.out]; exact hlp.most
    have hbl := bodyWs_length 1 l
    obtain ⟨e1, he1⟩ : ∃ e, e = (A.run (ph (bodyWs 1 l))).1 := ⟨_, rfl⟩
    obtain ⟨A1, hA1⟩ : ∃ B, B = (A.run (ph (bodyWs 1 l))).2 := ⟨_, rfl⟩
    obtain ⟨e2, he2⟩ : ∃ e, e = (A1.run (ph [(0, headOf l.length)])).1 := ⟨_, rfl⟩
    obtain ⟨A2, hA2⟩ : ∃ B, B = (A1.run (ph [(0, headOf l.length)])).2 := ⟨_, rfl⟩
    have hs1 : Small A1 200000 := by
      rw [hA1]
      exact (run_small _ HS.out).mono (by rw [ph_length, hbl, ← HN.out]; omega)
    have hs2 : Small A2 300000 := by
      rw [hA2]
      exact (run_small _ hs1).mono (by rw [ph_length]; simp)
    have hrun : A.run (commitOps l) = if e1 = 0 then (if e2 = 0 then A2.run (homesOps l) else (e2, A2)) else (e1, A1) := by
      rw [commitOps, run_append, ← he1, ← hA1]
      split
      · rw [run_append, ← he2, ← hA2]
        split
        · rfl
        · rw [he2, hA2]
      · rw [he1, hA1]
    have HRUN := Lib.hid hrun
    have HS1 := Lib.hid hs1
    have HS2 := Lib.hid hs2
    have HE1 := Lib.hid he1
    have HE2 := Lib.hid he2
    have HA1 := Lib.hid hA1
    have HA2 := Lib.hid hA2
    have HBL := Lib.hid hbl
    have HLN := Lib.hid (fun (i : Nat) (hi : i < (bodyWs 1 l).length) => (by rw [HBL.out] at hi; exact hi : i < l.length))
    clear hlp hcm hft hbl he1 he2 hA1 hA2 hs1 hs2 hrun
    go_enter Try.func18, Try.ntmps18
    go_wp2_with fail
    refine wp_scope_jumps 0 (fun a' w' => CommitOut (A.run (commitOps l)).1 a' ∧ DkTo w P w' r (A.run (commitOps l)).2) (fun _ _ => 0) rfl ?_ ?_
    · go_wp2_with fail
      refine HFL.out.mono ?_
      rintro e w1 ⟨rfl, hb1⟩
      have hb1' : Below (w.heap.size + 1) (w.alloc (.cells #[.slice ao n cap] 22)) w1 := by simpa using hb1
      have HB1 := Lib.hid (HAL.out.trans (hb1.mono HAL.out.size))
      have c1 := C0.out w1 hb1'
      have hd1 := HD.out.shrink.below HB1.out
      have hp1 := HP.out.below HB1.out
      have hlt1 := World.block_lt_of_cell? _ _ c1
      have hsy := synced_body (.pointer (some ⟨w.heap.size, 0, none⟩)) w1 _ r A hd1 (bodyWs 1 l) n (by rw [HBL.out, HN.out]) (by rw [HBL.out, ← HN.out]; exact hn4) (HS.out.mono (by omega)) (fun p hp => Nat.le_of_eq (bodyWs_short 1 l (fun q hq => (HLP.out.ok q hq).2.2) p hp)) (fun i hi w' hm => by
        have hil := HLN.out i hi
        have hok := HLP.out.ok _ (List.getElem_mem hil)
        have hc : w'.cell? ⟨w.heap.size, 0, none⟩ = some (.slice ao n cap) := (World.cell?_of_block (a := ⟨w.heap.size, 0, none⟩) (hm.block _ hlt1 (fun hj => Nat.lt_irrefl _ hj.2))).trans c1
        refine (bodyClo_any _ l S w.heap.size i hil w' (hp1.moved hm (fun g hg hj => HSS.out g hg hj.1)) hc hok.2.2 (by rw [← HN.out]; omega)).mono ?_
        rintro e w'' ⟨u, rfl, hu, hb⟩
        refine ⟨u, le l[i].1 8 ++ l[i].2, ?_, hu, ?_, ?_, hb⟩
        · rw [bodyWs_get 1 i l hil]
        · rw [List.length_append, le_length]; omega
        · rw [bodyWs_get 1 i l hil]; exact (sec_body _ _ hok.2.2).symm)
      rw [← HE1.out, ← HA1.out] at hsy
      have HSY := Lib.hid hsy
      have HC1 := Lib.hid c1
      have HLT1 := Lib.hid hlt1
      clear hb1 hb1' hd1 hp1 hlt1 hsy HFL
      go_wp2_with fail
      refine HSY.out.mono ?_
      rintro e w2 ⟨rfl, hw2⟩
      have hcell : ∀ B w', DkTo w1 (fun k => P k ∧ k < w.heap.size) w' r B → w'.cell? ⟨w.heap.size, 0, none⟩ = some (.slice ao n cap) := fun B w' hw => by
        obtain ⟨-, -, hm, -⟩ := hw
        exact (World.cell?_of_block (a := ⟨w.heap.size, 0, none⟩) (hm.block _ HLT1.out (fun hj => Nat.lt_irrefl _ hj.2))).trans HC1.out
      have HCELL := Lib.hid hcell
      have HW2 := Lib.hid hw2
      clear hw2 HSY hcell c1
      cases hz1 : e1 == 0
      · have hne : (e1 != 0) = true := by rw [bne, hz1]; rfl
        have hr := HRUN.out
        rw [if_neg (by simpa using hz1)] at hr
        have HR := Lib.hid hr
        clear hr HRUN
        go_wp2_with fail
        go_step3
        refine ⟨rfl, ?_, ?_⟩
        · rw [HR.out]; exact ⟨_, _, _, _, _, _, _, _, _, _, _, _, _, _, _, _, _, _, _, _, _, _, _, _, _, _, rfl⟩
        · rw [HR.out]; exact HW2.out.under HB1.out
      · have hne : (e1 != 0) = false := by rw [bne, hz1]; rfl
        obtain rfl : e1 = 0 := by simpa using hz1
        have hr := HRUN.out
        rw [if_pos rfl] at hr
        have HR := Lib.hid hr
        clear hr HRUN
        have c2 := HCELL.out _ _ HW2.out
        obtain ⟨P2, g1, g2, g3⟩ := id HW2.out
        have hlt2 := World.block_lt_of_cell? _ _ c2
        have hd2 := g1.shrink
        have htb : ¬ P2 w.heap.size := fun hp2 => by
          rcases g3 _ hp2 with hh | hh
          · have := hh.2; omega
          · have := HLT1.out; omega
        have hsh := synced_head (.pointer (some ⟨w.heap.size, 0, none⟩)) w2 P2 r A1 g1 [(0, headOf l.length)] 1 rfl (by simp) (HS1.out.mono (by omega)) (fun p hp => by simp at hp; subst hp; show (headOf _).length ≤ 512; rw [headOf_length]; omega) (fun i hi w' hm => by
          have hc : w'.cell? ⟨w.heap.size, 0, none⟩ = some (.slice ao n cap) := (World.cell?_of_block (a := ⟨w.heap.size, 0, none⟩) (hm.block _ hlt2 htb)).trans c2
          refine (headClo_any ao n cap w.heap.size w' hc i).mono ?_
          rintro e w'' ⟨u, rfl, hu, hb⟩
          obtain rfl : i = 0 := by simpa using hi
          rw [HN.out] at hu
          exact ⟨u, headOf l.length, rfl, hu, by rw [headOf_length]; omega, rfl, hb⟩)
        rw [← HE2.out, ← HA2.out] at hsh
        have HSH := Lib.hid hsh
        have HG2 := Lib.hid g2
        have HG3 := Lib.hid g3
        clear hsh g1 g2 g3 hd2 htb hlt2
        go_wp2_with fail
        refine HSH.out.mono ?_
        rintro e w3 ⟨rfl, hw3'⟩
        have hw3 := DkTo.trans HG2.out HG3.out hw3'
        have HW3 := Lib.hid hw3
        clear hw3' hw3 HSH c2
        cases hz2 : e2 == 0
        · have hne : (e2 != 0) = true := by rw [bne, hz2]; rfl
          have hr := HR.out
          rw [if_neg (by simpa using hz2)] at hr
          have HR2 := Lib.hid hr
          clear hr HR
          go_wp2_with fail
          go_step3
          refine ⟨rfl, ?_, ?_⟩
          · rw [HR2.out]; exact ⟨_, _, _, _, _, _, _, _, _, _, _, _, _, _, _, _, _, _, _, _, _, _, _, _, _, _, rfl⟩
          · rw [HR2.out]; exact HW3.out.under HB1.out
        · have hne : (e2 != 0) = false := by rw [bne, hz2]; rfl
          obtain rfl : e2 = 0 := by simpa using hz2
          have hr := HR.out
          rw [if_pos rfl] at hr
          have HR2 := Lib.hid hr
          clear hr HR
          have c3 := HCELL.out _ _ HW3.out
          obtain ⟨P3, k1, k2, k3⟩ := id HW3.out
          have hp3 := (HP.out.below HB1.out).moved k2 (fun g hg hj => HSS.out g hg hj.1)
          have hse := settle_any _ l S w3 P3 r A2 k1 hp3 (fun g hg hj => by
            rcases k3 _ hj with hh | hh
            · exact HSS.out g hg hh.1
            · have := HSL.out g hg
              have := HB1.out.size
              omega) (fun p hp => by have := HLP.out.ok p hp; omega) (by rw [← HN.out]; exact hn4) (HS2.out.mono (by omega))
          obtain ⟨e3, he3⟩ : ∃ e, e = (A2.run (homesOps l)).1 := ⟨_, rfl⟩
          rw [← he3] at hse
          have HSE := Lib.hid hse
          have HE3 := Lib.hid he3
          have HK2 := Lib.hid k2
          have HK3 := Lib.hid k3
          clear hse he3 k1 k2 k3 hp3
          go_wp2_with fail
          refine HSE.out.mono ?_
          rintro e w4 ⟨rfl, hw4⟩
          have HW4 := Lib.hid ((DkTo.trans HK2.out HK3.out hw4).under HB1.out)
          clear hw4
          go_wp2_with fail
          go_step3
          go_wp2
          simp only [Exit.jump]
          go_ret
          rw [HR2.out, ← HE3.out]
          exact ⟨rfl, HW4.out⟩
    · rintro a' w' ⟨⟨u0, u1, u2, u3, u4, u6, u7, u8, u9, u10, u11, u12, u13, u14, u15, u16, u17, u18, u19, u20, u21, u22, u23, u24, u25, u26, rfl⟩, hw3⟩
      go_wp2
      simp only [Exit.jump]
      go_ret
      exact ⟨rfl, hw3⟩
  · have hcm : A.commit l = (ft, A) := by unfold Ab.commit; rw [if_neg (by rw [← hft]; exact h0), ← hft]
    rw [hcm]
    have hne : (ft != 0) = true := by simpa using h0
    clear hft hcm
    go_enter Try.func18, Try.ntmps18
    go_wp2_with fail
    refine wp_scope_jumps 0 (fun a' w' => CommitOut ft a' ∧ DkTo w P w' r A) (fun _ _ => 0) rfl ?_ ?_
    · go_wp2_with fail
      refine HFL.out.mono ?_
      rintro e w1 ⟨rfl, hb1⟩
      have HB1 := Lib.hid (HAL.out.trans (hb1.mono HAL.out.size))
      clear hb1
      go_wp2_with fail
      go_step3
      exact ⟨rfl, ⟨_, _, _, _, _, _, _, _, _, _, _, _, _, _, _, _, _, _, _, _, _, _, _, _, _, _, rfl⟩, (DkTo.refl HD.out).grow HB1.out⟩
    · rintro a' w' ⟨⟨u0, u1, u2, u3, u4, u6, u7, u8, u9, u10, u11, u12, u13, u14, u15, u16, u17, u18, u19, u20, u21, u22, u23, u24, u25, u26, rfl⟩, hw3⟩
      go_wp2
      simp only [Exit.jump]
      go_ret
      exact ⟨rfl, hw3⟩
end Go.Proofs.Ytkhdahipnfloeaa
