/- redo.Recover. -/
import Derived.Test.YtkhdahipnfloeaaPending
namespace Go.Proofs.Ytkhdahipnfloeaa
open Go.RowKit
set_option maxRecDepth 100000

theorem pend_ok (A : Ab) : (pendOf A).1.length ≤ 400 ∧ ∀ p ∈ (pendOf A).1, 401 ≤ p.1 := by
  unfold pendOf
  split
  · exact ⟨by simp, fun p hp => by simp at hp⟩
  · have hs := countOf_spec A
    split
    · exact ⟨by simp, fun p hp => by simp at hp⟩
    · rename_i l hl
      have h := pagesOf_length _ _ hl
      exact ⟨by show l.length ≤ 400; omega, fun p hp => (h.2 p hp).1⟩
theorem recover_pend (A : Ab) : A.recover = if (pendOf A).2 = 0 ∧ (pendOf A).1.length ≠ 0 then recOf A ((pendOf A).1.length : Nat) (some (pendOf A).1) else (0, (pendOf A).2, A) := by
  by_cases h0 : A.fault 0 = 0
  · by_cases hl : isLog A.now.length (A.now.getD 0 [])
    · have hcnt : countOf A = cntOf (A.now.getD 0 []) := by unfold countOf; rw [if_pos ⟨h0, hl⟩]
      have hpd : pendOf A = match pagesOf A.now (cntOf (A.now.getD 0 [])).toNat with | none => ([], 9) | some l => (l, 0) := by unfold pendOf; rw [if_neg (fun h => h h0), hcnt]; cases pagesOf A.now (cntOf (A.now.getD 0 [])).toNat <;> rfl
      have hrec : A.recover = recOf A (cntOf (A.now.getD 0 [])) (pagesOf A.now (cntOf (A.now.getD 0 [])).toNat) := by
        unfold Ab.recover
        rw [if_neg (fun h => h h0), if_pos hl]
        cases pagesOf A.now (cntOf (A.now.getD 0 [])).toNat <;> rfl
      have hc : 1 ≤ cntOf (A.now.getD 0 []) := hl.2.1
      rw [hrec, hpd]
      cases hp : pagesOf A.now (cntOf (A.now.getD 0 [])).toNat with
      | none => rfl
      | some l =>
        have h := (pagesOf_length _ _ hp).1
        have hn : l.length ≠ 0 := by omega
        have hi : ((l.length : Nat) : Int) = cntOf (A.now.getD 0 []) := by omega
        show recOf A _ (some l) = if (0 : Int) = 0 ∧ l.length ≠ 0 then recOf A ((l.length : Nat) : Int) (some l) else (0, 0, A)
        rw [if_pos ⟨rfl, hn⟩, hi]
    · have hcnt : countOf A = 0 := by unfold countOf; rw [if_neg (fun h => hl h.2)]
      have hpd : pendOf A = ([], 0) := by unfold pendOf; rw [if_neg (fun h => h h0), hcnt]; rfl
      have hrec : A.recover = (0, 0, A) := by unfold Ab.recover; rw [if_neg (fun h => h h0), if_neg hl]
      rw [hrec, hpd]
      rfl
  · have hpd : pendOf A = ([], A.fault 0) := by unfold pendOf; rw [if_pos h0]
    have hrec : A.recover = (0, A.fault 0, A) := by unfold Ab.recover; rw [if_pos h0]
    rw [hrec, hpd, if_neg (fun h => h.2 rfl)]

/-- The frame of Recov at its label. -/
def RecovOut (e : Int) (a' : Act) : Prop := ∃ u0 u1 u2 u3 u4 u6 u7 u8 u9 u10 u11 u12 u13 u14 u15 u16 u17 u18 u19 u20 u21 u22 u23 u24 u25 : Value, a' = { tmps := #[u0, u1, u2, u3, u4, .int .i64 e, u6, u7, u8, u9, u10, u11, u12, u13, u14, u15, u16, u17, u18, u19, u20, u21, u22, u23, u24, u25], defers := [] }

set_option maxHeartbeats 1000000 in
theorem drecover_any (w : World) (P : Nat → Prop) (r : Nat) (A : Ab) (h : DkA w P r A) (hs : Small A 100000) :
    Calls Try.prog 27 #[.pointer (some ⟨r, 0, none⟩)] w fun e w' => e = .returned (.tuple #[.int .i64 A.recover.1, .int .i64 A.recover.2.1]) ∧ DkTo w P w' r A.recover.2.2 := by
  have hpn := pending_any w w _ r A (DkTo.refl h) h.full
  have hpk := pend_ok A
  have hrp := recover_pend A
  obtain ⟨l, hl⟩ : ∃ l, l = (pendOf A).1 := ⟨_, rfl⟩
  obtain ⟨e0, he0⟩ : ∃ e, e = (pendOf A).2 := ⟨_, rfl⟩
  rw [← hl, ← he0] at hpn hrp
  rw [← hl] at hpk
  have HPN := Lib.hid hpn
  have HPK := Lib.hid hpk
  have HD := Lib.hid h
  have HS := Lib.hid hs
  have HRP := Lib.hid hrp
  clear hpn hpk h hs hrp hl he0
  go_enter Try.func27, Try.ntmps27
  go_wp2_with fail
  refine wp_scope_jumps 0 (fun a' w' => A.recover.1 = 0 ∧ RecovOut A.recover.2.1 a' ∧ DkTo w P w' r A.recover.2.2) (fun _ _ => 0) rfl ?_ ?_
  · go_wp2_with fail
    refine HPN.out.mono ?_
    rintro e w2 ⟨lv, rfl, hrow, hsh, hb⟩
    have HROW := Lib.hid hrow
    have HB := Lib.hid hb
    have HSH := Lib.hid hsh
    obtain ⟨so, cap, rfl, hc1, hc2⟩ := hrow.form
    have hc2' : cap ≤ 9223372036854775807 := hc2
    clear hrow hb hsh HPN hc2
    by_cases hz : e0 = 0
    · subst hz
      by_cases hn : l.length = 0
      · have hn' : (l.length : Int) = 0 := by omega
        have hr := HRP.out
        rw [if_neg (fun h => h.2 hn)] at hr
        have HR := Lib.hid hr
        clear hr HRP HPK HSH HROW
        obtain ⟨n, hnn⟩ : ∃ n, n = l.length := ⟨_, rfl⟩
        rw [← hnn] at hn hn' hc1 ⊢
        subst hn
        clear hnn
        go_wp2_with fail
        go_step3
        refine ⟨rfl, ?_, ?_, ?_⟩
        · rw [HR.out]
        · rw [HR.out]; exact ⟨_, _, _, _, _, _, _, _, _, _, _, _, _, _, _, _, _, _, _, _, _, _, _, _, _, rfl⟩
        · rw [HR.out]; exact (DkTo.refl HD.out).grow HB.out
      · have hr := HRP.out
        rw [if_pos ⟨rfl, hn⟩] at hr
        have hse := settle_any _ l (fun g => False ∨ (w.heap.size ≤ g ∧ g < w2.heap.size)) w2 _ r A (HD.out.shrink.below HB.out) HROW.out.pus (fun g hg hp => by have := hg.resolve_left id; have := hp.2; omega) (fun p hp => ⟨by have := HPK.out.2 p hp; omega, HSH.out p hp⟩) HPK.out.1 (HS.out.mono (by omega))
        obtain ⟨e1, he1⟩ : ∃ e, e = (A.run (homesOps l)).1 := ⟨_, rfl⟩
        rw [← he1] at hse
        obtain ⟨n, hnn⟩ : ∃ n, n = l.length := ⟨_, rfl⟩
        rw [← hnn] at hn hc1 hse hr ⊢
        have hn' : ¬ (n : Int) = 0 := by omega
        have HR := Lib.hid hr
        have HSE := Lib.hid hse
        have HE1 := Lib.hid he1
        clear hr hse he1 HRP HROW hnn
        go_wp2_with fail
        refine HSE.out.mono ?_
        rintro e w3 ⟨rfl, hw3⟩
        have HW3 := Lib.hid (hw3.under HB.out)
        clear hw3 HSE
        cases he : e1 == 0
        · have hr := HR.out
          rw [recOf, if_neg (by rw [← HE1.out]; simpa using he), ← HE1.out] at hr
          have HR2 := Lib.hid hr
          clear hr HR
          go_wp2_with fail
          go_step3
          go_wp2
          simp only [Exit.jump]
          go_ret2
          rw [HR2.out]
          exact ⟨rfl, HW3.out⟩
        · have hr := HR.out
          rw [recOf, if_pos (by rw [← HE1.out]; simpa using he)] at hr
          have HR2 := Lib.hid hr
          clear hr HR
          go_wp2_with fail
          simp only [Exit.jump]
          go_ret2
          rw [HR2.out]
          exact ⟨rfl, HW3.out⟩
    · have hne : (e0 != 0) = true := by simpa using hz
      have hr := HRP.out
      rw [if_neg (fun h => hz h.1)] at hr
      have HR := Lib.hid hr
      clear hr HRP HPK HSH HROW hz
      go_wp2_with fail
      go_step3
      refine ⟨rfl, ?_, ?_, ?_⟩
      · rw [HR.out]
      · rw [HR.out]; exact ⟨_, _, _, _, _, _, _, _, _, _, _, _, _, _, _, _, _, _, _, _, _, _, _, _, _, rfl⟩
      · rw [HR.out]; exact (DkTo.refl HD.out).grow HB.out
  · rintro a' w' ⟨h0, ⟨u0, u1, u2, u3, u4, u6, u7, u8, u9, u10, u11, u12, u13, u14, u15, u16, u17, u18, u19, u20, u21, u22, u23, u24, u25, rfl⟩, hw3⟩
    go_wp2
    simp only [Exit.jump]
    go_ret2
    rw [h0]
    exact ⟨rfl, hw3⟩
end Go.Proofs.Ytkhdahipnfloeaa
