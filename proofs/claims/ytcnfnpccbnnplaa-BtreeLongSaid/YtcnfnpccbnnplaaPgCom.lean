/- The pager: Commit. -/
import Derived.Test.YtcnfnpccbnnplaaPgOpen
import Derived.Defers
import Derived.Laws.EntriesVeiled
namespace Go.Proofs.Ytcnfnpccbnnplaa
open Go.RowKit Go.Maps
set_option maxRecDepth 100000

theorem end_abort {w : World} {Q : Nat → Prop} {r p c : Nat} {S : Stt} {T : Option Tx} (u : FrameMode) (h : Pg w Q r p S T) (hc : w.cell? ⟨c, 0, none⟩ = some (.func (.func 23) #[.pointer (some ⟨p, 0, none⟩)] #[])) :
    CallsD Try.prog 52 #[.pointer (some ⟨c, 0, none⟩)] u w fun e u' w' => u' = u ∧ (e = .returned (.tuple #[]) ∧ Pg w' Q r p (wasOf S T) none ∧ Moved Q w w') := by
  have ha := abort_at h
  clear h
  go_enter_d Try.func52, Try.ntmps52
  go_wp2_with fail
  refine ha.mono ?_
  rintro e w' ⟨rfl, h1, h2⟩
  have H := Lib.hid (And.intro h1 h2)
  clear h1 h2 ha
  go_wp2_with fail
  go_end0
  exact ⟨rfl, H.out⟩
theorem end_forget {w : World} {Q : Nat → Prop} {r p c : Nat} {S : Stt} {T : Option Tx} (u : FrameMode) (h : Pg w Q r p S T) (hc : w.cell? ⟨c, 0, none⟩ = some (.func (.func 56) #[.pointer (some ⟨p, 0, none⟩)] #[])) :
    CallsD Try.prog 52 #[.pointer (some ⟨c, 0, none⟩)] u w fun e u' w' => u' = u ∧ (e = .returned (.tuple #[]) ∧ Pg w' Q r p S none ∧ Moved Q w w') := by
  obtain ⟨gn, cn, wr, vw, mv, h, -⟩ := h.cells
  have ha := forget_at h
  clear h
  go_enter_d Try.func52, Try.ntmps52
  go_wp2_with fail
  refine ha.mono ?_
  rintro e w' ⟨rfl, h1, h2⟩
  have H := Lib.hid (And.intro h1 h2)
  clear h1 h2 ha
  go_wp2_with fail
  go_end0
  exact ⟨rfl, H.out⟩

theorem commit_closed {w : World} {Q : Nat → Prop} {r p : Nat} {S : Stt} (h : Pg w Q r p S none) :
    Calls Try.prog 17 #[.pointer (some ⟨p, 0, none⟩)] w fun e w' => e = .returned (.int .i64 12) ∧ Pg w' Q r p S none ∧ Moved Q w w' := by
  have hmf : ∀ (fn : Fn) (first cap : Array Value) (w : World), (Instr.makeFunc fn first cap).run Try.prog w = .ok (.func fn first cap) w := fun _ _ _ _ => rfl
  obtain ⟨o, ho⟩ : ∃ o : Obj, o = .cells #[.func (.func 23) #[.pointer (some ⟨p, 0, none⟩)] #[]] 1 := ⟨_, rfl⟩
  have hal : Below w.heap.size w (w.alloc o) := (Below.refl _ w).alloc (Nat.le_refl _) _
  have hnb := Blk.new w #[.func (.func 23) #[.pointer (some ⟨p, 0, none⟩)] #[]] 1
  rw [← ho] at hnb
  have hp := h.below hal
  have hc := closed_any hp
  simp only [Option.isSome_none, Bool.false_eq_true, if_false] at hc
  have HP := Lib.hid hp
  have HC := Lib.hid hc
  have HA := Lib.hid hal
  have HC0 : Hid ((w.alloc o).cell? ⟨w.heap.size, 0, none⟩ = some (.func (.func 23) #[.pointer (some ⟨p, 0, none⟩)] #[])) := Lib.hid (by rw [hnb.cell]; rfl)
  subst ho
  clear h hal hnb hp hc
  go_enter_defers Try.func17, Try.ntmps17
  go_wp2_with fail
  refine wp_scope_jumps 0 (fun a' w' => ∃ u0 u1 u2 u3 u4 u6 u7 u8 u9 u10 u11 u12 u13 u14 u15 u16 u17 u18 u19 u20 u21 u22 u23 u24 u25 u26 u27 u28 : Value, a' = { tmps := #[u0, u1, u2, u3, u4, .int .i64 12, u6, u7, u8, u9, u10, u11, u12, u13, u14, u15, u16, u17, u18, u19, u20, u21, u22, u23, u24, u25, u26, u27, u28], defers := [{ target := Target.fn (Fn.func 52) #[.pointer (some ⟨w.heap.size, 0, none⟩)], args := #[] }] } ∧ w' = w.alloc (.cells #[.func (.func 23) #[.pointer (some ⟨p, 0, none⟩)] #[]] 1)) (fun _ _ => 0) rfl ?_ ?_
  · go_wp2_with (first | (refine HC.out.mono ?_; rintro e w' ⟨rfl, he⟩; subst he) | fail)
    go_step3
    exact ⟨rfl, ⟨_, _, _, _, _, _, _, _, _, _, _, _, _, _, _, _, _, _, _, _, _, _, _, _, _, _, _, _, rfl, rfl⟩⟩
  · rintro a' w' ⟨u0, u1, u2, u3, u4, u6, u7, u8, u9, u10, u11, u12, u13, u14, u15, u16, u17, u18, u19, u20, u21, u22, u23, u24, u25, u26, u27, u28, rfl, rfl⟩
    go_wp2
    simp only [Exit.jump]
    refine leaves_cons (f := 52) (args := #[.pointer (some ⟨w.heap.size, 0, none⟩)]) (by simp) (by simp [go_sem]) ?_
    refine (end_abort .returning HP.out HC0.out).mono ?_
    rintro e u' w' ⟨rfl, rfl, h1, h2⟩
    exact ⟨_, results_tmp rfl _ _ _, rfl, h1, (Moved.of_below HA.out Q).trans h2 (fun _ h => .inl h)⟩

/-- What Commit answers, and what the disk is then. -/
def Ab.pcommit (A : Ab) (l : Pages) : Int × Ab := if l.length = 0 then (0, A) else A.commit l

set_option maxHeartbeats 2000000 in
theorem commit_open {w : World} {P Q : Nat → Prop} {r p : Nat} {A : Ab} {S : Stt} {t : Tx} (h : Pg w Q r p S (some t)) (hd : DkA w P r A) (hPQ : ∀ k, Q k → ¬ P k) (hsm : Small A 100000)
    (hN : S.next.length ≤ 100000) (hw : t.was.next.length = S.next.length) (hl : AllLong (some t)) (hb : ∀ k, k < S.next.length → 0 ≤ S.next.getD k 0 ∧ S.next.getD k 0 ≤ 1000000) :
    Calls Try.prog 17 #[.pointer (some ⟨p, 0, none⟩)] w fun e w' => ∃ P', e = .returned (.int .i64 (A.pcommit (chgTo A S t S.next.length)).1) ∧
      Pg w' (fun k => Q k ∧ k < w.heap.size) r p (if (A.pcommit (chgTo A S t S.next.length)).1 = 0 then S else t.was) none ∧ DkA w' P' r (A.pcommit (chgTo A S t S.next.length)).2 ∧ Moved (fun k => P k ∨ Q k) w w' ∧ (∀ k, P' k → (P k ∨ w.heap.size ≤ k) ∧ ¬ (Q k ∧ k < w.heap.size)) := by
  have hmf : ∀ (fn : Fn) (first cap : Array Value) (w : World), (Instr.makeFunc fn first cap).run Try.prog w = .ok (.func fn first cap) w := fun _ _ _ _ => rfl
  obtain ⟨o, ho⟩ : ∃ o : Obj, o = .cells #[.func (.func 23) #[.pointer (some ⟨p, 0, none⟩)] #[]] 1 := ⟨_, rfl⟩
  have hal : Below w.heap.size w (w.alloc o) := (Below.refl _ w).alloc (Nat.le_refl _) _
  have hnb := Blk.new w #[.func (.func 23) #[.pointer (some ⟨p, 0, none⟩)] #[]] 1
  rw [← ho] at hnb
  have hp := h.shrink.below hal
  have hdd := hd.shrink.below hal
  have hc := closed_any hp
  simp only [Option.isSome_some, if_true] at hc
  have hch := changed_any hp hdd hN hw hl hb
  obtain ⟨L, hL⟩ : ∃ L, L = chgTo A S t S.next.length := ⟨_, rfl⟩
  rw [← hL] at hch ⊢
  obtain ⟨er, her⟩ : ∃ er, er = (A.pcommit L).1 := ⟨_, rfl⟩
  obtain ⟨B, hBB⟩ : ∃ B, B = (A.pcommit L).2 := ⟨_, rfl⟩
  rw [← her, ← hBB]
  have HER := Lib.hid her
  have HBB := Lib.hid hBB
  have hc00 : (w.alloc o).cell? ⟨p, 0, none⟩ = some (.pointer (some ⟨r, 0, none⟩)) := by
    obtain ⟨gn, cn, gw, cw, b, k, -⟩ := hp
    exact k.cells.1
  have hpl : p < w.heap.size := by
    obtain ⟨gn, cn, gw, cw, b, k, -⟩ := h
    exact k.top.lt
  have HP := Lib.hid hp
  have HD := Lib.hid hdd
  have HC := Lib.hid hc
  have HCH := Lib.hid hch
  have HA := Lib.hid hal
  have HB := Lib.hid hnb
  have HC00 := Lib.hid hc00
  have HPQ := Lib.hid hPQ
  have HPL := Lib.hid hpl
  have HSM := Lib.hid hsm
  obtain ⟨n, hn⟩ : ∃ n, n = L.length := ⟨_, rfl⟩
  have HNL := Lib.hid hn
  subst ho
  clear her hBB h hal hnb hp hc hd hdd hch hc00 hPQ hpl hN hw hl hb hL hn hsm
  go_enter_defers Try.func17, Try.ntmps17
  go_wp2_with fail
  go_step3
  go_wp2_with (first | (refine HC.out.mono ?_; rintro e w' ⟨rfl, he⟩; subst he) | fail)
  refine HCH.out.mono ?_
  rintro e w2 ⟨lv, rfl, hrow, hb2⟩
  obtain ⟨so, cap, rfl, hcp1, hcp2⟩ := hrow.form
  rw [← HNL.out] at hcp1
  have HROW := Lib.hid hrow
  have HB2 := Lib.hid hb2
  clear hrow hb2 HCH HC
  have hs1 : (w.alloc (.cells #[.func (.func 23) #[.pointer (some ⟨p, 0, none⟩)] #[]] 1)).heap.size = w.heap.size + 1 := by simp
  have HS1 : Hid (w.heap.size + 1 ≤ w2.heap.size) := Lib.hid (by rw [← hs1]; exact HB2.out.size)
  have HS0 := Lib.hid hs1
  have HM2 := Lib.hid (show Moved (fun k => P k ∨ Q k) w w2 from (Moved.of_below HA.out _).trans (Moved.of_below HB2.out (fun _ => False)) (fun _ h => False.elim h))
  have HP2 := Lib.hid (HP.out.below HB2.out)
  have HD2 := Lib.hid (HD.out.below HB2.out)
  have HC2 := Lib.hid (HB.out.moved (Moved.of_below HB2.out (fun _ => False)) (fun h => h))
  have c2 : w2.cell? ⟨p, 0, none⟩ = some (.pointer (some ⟨r, 0, none⟩)) := (World.cell?_of_block (a := ⟨p, 0, none⟩) (HB2.out.block p (by have := HPL.out; rw [hs1]; omega))).trans HC00.out
  rw [← HNL.out]
  clear hs1
  by_cases hn0 : n = 0
  · subst hn0
    have hpc : A.pcommit L = (0, A) := by unfold Ab.pcommit; rw [if_pos HNL.out.symm]
    obtain rfl : er = 0 := by rw [HER.out, hpc]
    obtain rfl : B = A := by rw [HBB.out, hpc]
    have k2 : w2.cell? ⟨w.heap.size, 0, none⟩ = some (.func (.func 23) #[.pointer (some ⟨p, 0, none⟩)] #[]) := by rw [HC2.out.cell]; rfl
    have l2 := HC2.out.frozen 0
    clear hpc c2
    go_wp2_with fail
    go_step3
    go_wp2
    rw [Exit.noGoto_ret]
    have hset := HC2.out.set 0 (.func (.func 56) #[.pointer (some ⟨p, 0, none⟩)] #[])
    have hmc : Moved (· = w.heap.size) w2 (w2.setCell ⟨w.heap.size, 0, none⟩ (.func (.func 56) #[.pointer (some ⟨p, 0, none⟩)] #[])) := (Moved.refl (· = w.heap.size) w2).setCell _ _ (.inl rfl)
    generalize w2.setCell ⟨w.heap.size, 0, none⟩ (.func (.func 56) #[.pointer (some ⟨p, 0, none⟩)] #[]) = wc at hset hmc ⊢
    have hp3 := HP2.out.moved hmc (fun k hk e => by omega)
    have hd3 := HD2.out.moved hmc (fun k hk e => by omega)
    refine leaves_cons (f := 52) (args := #[.pointer (some ⟨w.heap.size, 0, none⟩)]) (by simp) (by simp [go_sem]) ?_
    refine (end_forget .returning hp3 (c := w.heap.size) (by rw [hset.cell]; rfl)).mono ?_
    rintro e u' w' ⟨rfl, rfl, h1, h2⟩
    refine ⟨_, results_tmp rfl _ _ _, fun k => P k ∧ k < w.heap.size, rfl, h1, hd3.moved h2 (fun k hk hq => HPQ.out k hq.1 hk.1), ?_, fun k hk => ⟨.inl hk.1, fun hq => HPQ.out k hq.1 hk.1⟩⟩
    exact (HM2.out.trans hmc (fun k hk => .inr (by omega))).trans h2 (fun k hk => .inl (.inr hk.1))
  · have hpc : A.pcommit L = A.commit L := by unfold Ab.pcommit; rw [if_neg (by have := HNL.out; omega)]
    have hcm := commit_any _ L _ w2 _ r A HD2.out HROW.out.pus (fun g hg hp => by rcases hg with h | h; exact h; have := HS0.out; omega) (fun g hg => by rcases hg with h | h; exact False.elim h; exact h.2) HSM.out
    rw [← hpc, ← HER.out, ← HBB.out] at hcm
    rw [← HNL.out] at hcm
    have hn1 : (0 : Int) < n := by omega
    have HCM := Lib.hid hcm
    clear hpc hcm
    go_wp2_with fail
    refine HCM.out.mono ?_
    rintro e w3 ⟨rfl, P3, hd3, hm3, hp3⟩
    have HM3 := Lib.hid (HM2.out.trans hm3 (fun k hk => .inl (.inl hk.1)))
    have HD3 := Lib.hid hd3
    have HP3 := Lib.hid (fun k (hk : P3 k) => (hp3 k hk).imp_right (fun h => Nat.le_trans HS1.out h))
    have HPP := Lib.hid (HP2.out.moved hm3 (fun k hk h => HPQ.out k hk.1 h.1))
    have HC3 := Lib.hid (HC2.out.moved hm3 (fun h => by omega))
    clear hd3 hm3 hp3 HCM c2
    by_cases hz : er = 0
    · subst hz
      have k2 : w3.cell? ⟨w.heap.size, 0, none⟩ = some (.func (.func 23) #[.pointer (some ⟨p, 0, none⟩)] #[]) := by rw [HC3.out.cell]; rfl
      have l2 := HC3.out.frozen 0
      go_wp2_with fail
      go_step3
      go_wp2
      rw [Exit.noGoto_ret]
      have hset := HC3.out.set 0 (.func (.func 56) #[.pointer (some ⟨p, 0, none⟩)] #[])
      have hmc : Moved (· = w.heap.size) w3 (w3.setCell ⟨w.heap.size, 0, none⟩ (.func (.func 56) #[.pointer (some ⟨p, 0, none⟩)] #[])) := (Moved.refl (· = w.heap.size) w3).setCell _ _ (.inl rfl)
      generalize w3.setCell ⟨w.heap.size, 0, none⟩ (.func (.func 56) #[.pointer (some ⟨p, 0, none⟩)] #[]) = wc at hset hmc ⊢
      have hp4 := HPP.out.moved hmc (fun k hk e => by omega)
      have hd4 := HD3.out.moved hmc (fun k hk e => by rcases HP3.out k hk with h | h; omega; omega)
      refine leaves_cons (f := 52) (args := #[.pointer (some ⟨w.heap.size, 0, none⟩)]) (by simp) (by simp [go_sem]) ?_
      refine (end_forget .returning hp4 (c := w.heap.size) (by rw [hset.cell]; rfl)).mono ?_
      rintro e u' w' ⟨rfl, rfl, h1, h2⟩
      refine ⟨_, results_tmp rfl _ _ _, P3, rfl, h1, hd4.moved h2 (fun k hk hq => ?_), ?_, fun k hk => ⟨(HP3.out k hk).elim (fun h => .inl h.1) (fun h => .inr (by omega)), fun hq => ?_⟩⟩
      · rcases HP3.out k hk with h | h
        · exact HPQ.out k hq.1 h.1
        · omega
      · exact (HM3.out.trans hmc (fun k hk => .inr (by omega))).trans h2 (fun k hk => .inl (.inr hk.1))
      · rcases HP3.out k hk with h | h
        · exact HPQ.out k hq.1 h.1
        · omega
    · have hzb : (er == 0) = false := by simpa using hz
      go_wp2_with fail
      go_step3
      go_wp2
      rw [Exit.noGoto_ret]
      refine leaves_cons (f := 52) (args := #[.pointer (some ⟨w.heap.size, 0, none⟩)]) (by simp) (by simp [go_sem]) ?_
      refine (end_abort .returning HPP.out (c := w.heap.size) (by rw [HC3.out.cell]; rfl)).mono ?_
      rintro e u' w' ⟨rfl, rfl, h1, h2⟩
      refine ⟨_, results_tmp rfl _ _ _, P3, rfl, by rw [if_neg hz]; exact h1, HD3.out.moved h2 (fun k hk hq => ?_), ?_, fun k hk => ⟨(HP3.out k hk).elim (fun h => .inl h.1) (fun h => .inr (by omega)), fun hq => ?_⟩⟩
      · rcases HP3.out k hk with h | h
        · exact HPQ.out k hq.1 h.1
        · omega
      · exact HM3.out.trans h2 (fun k hk => .inl (.inr hk.1))
      · rcases HP3.out k hk with h | h
        · exact HPQ.out k hq.1 h.1
        · omega
end Go.Proofs.Ytcnfnpccbnnplaa
