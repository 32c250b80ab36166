/- Triples as text: resolved, bind; new blanks. -/
import Derived.Test.YtefkppeicmipbaaGreatDoorUg
namespace Go.Proofs.YtefkppeicmipbaaGreatDoor
open Go.RowKit Go.Shelf Go.Maps
set_option maxRecDepth 100000
set_option linter.unusedVariables false
set_option linter.unusedSimpArgs false
theorem field_tok0 (a b : Value) (w : World) : (Instr.field 47 (.agg #[a, b]) 0).run Tryz.prog w = .ok a w := by kernel_rfl
theorem field_tok1 (a b : Value) (w : World) : (Instr.field 47 (.agg #[a, b]) 1).run Tryz.prog w = .ok b w := by kernel_rfl
set_option maxHeartbeats 4000000 in
theorem tresolved {w : World} {P : Pl} {tv : Value} {s : St} (h : RdT w P tv s) :
    Calls Tryz.prog 20 #[.pointer (some ⟨P.r, 0, none⟩)] w (To12 P w tv (.string (resdT s)) (resdE s)) := by
  have hpk := tpeek h
  obtain ⟨q1, q2, hq⟩ : ∃ q1 q2, s.peek = (q1, q2) := ⟨_, _, rfl⟩
  rw [hq] at hpk
  unfold tokV at hpk
  dsimp only at hpk
  have HPK := Lib.hid hpk
  -- behind the look: s1, its token, and what is left
  obtain ⟨s1, hs1⟩ : ∃ s1, s1 = resdS s := ⟨_, rfl⟩
  have hT : resdT s = refT s1.peek s1.next := by rw [hs1]; rfl
  have hE : resdE s = refS s1.peek s1.next := by rw [hs1]; rfl
  have hi1 : Inv s1 := by rw [hs1]; exact h.inv.resdS'
  have HNX := Lib.hid (fun w1 tv1 (r : RdT w1 P tv1 s1) => tnext r)
  have HRF := Lib.hid (fun w1 tv1 (r : RdT w1 P tv1 s1.next) => treference r s1.peek (by have := hi1.peek; exact this))
  rw [hT, hE]
  obtain ⟨p1, p2, hp⟩ : ∃ p1 p2, s1.peek = (p1, p2) := ⟨_, _, rfl⟩
  rw [hp] at HNX HRF ⊢
  unfold tokV at HNX HRF
  dsimp only at HNX HRF
  have HS1 := Lib.hid hs1
  have HQ := Lib.hid hq
  clear h hpk hq hs1 hT hE hi1 hp
  go_enter Tryz.func20, Tryz.ntmps20
  go_wp2_with fail
  refine HPK.out.mono ?_
  rintro e w1 ⟨rfl, tv1, hg1⟩
  have HG := Lib.hid hg1
  have hf0 := field_tok0
  clear hg1
  by_cases hk : q1 = 1
  · have hkb : (q1 != 1) = false := by rw [hk]; rfl
    have hkb2 : (q1 == 1) = true := by rw [hk]; rfl
    have hss : s1 = s := by rw [HS1.out]; unfold resdS; rw [if_pos (by rw [HQ.out]; exact hk)]
    have HG1 := Lib.hid (show Go12 P w tv w1 tv1 s1 from by rw [hss]; exact HG.out)
    clear hss
    go_wp2_with fail
    refine (HNX.out _ _ HG1.out.rd).mono ?_
    rintro e w2 ⟨rfl, tv2, hg2⟩
    have HG2 := Lib.hid (HG1.out.trans hg2)
    clear hg2
    go_wp2_with fail
    refine (HRF.out _ _ HG2.out.rd).mono ?_
    rintro e w3 ⟨rfl, tv3, hg3⟩
    have HG3 := Lib.hid (HG2.out.trans hg3)
    clear hg3
    go_wp2_with fail
    go_ret
    exact ⟨rfl, tv3, HG3.out⟩
  · have hkb : (q1 != 1) = true := by simpa using hk
    have hkb2 : (q1 == 1) = false := by simpa using hk
    have hss : s1 = s.fail 6 := by rw [HS1.out]; unfold resdS; rw [if_neg (by rw [HQ.out]; exact hk)]
    have hf := tfail HG.out.rd 6
    rw [← hss] at hf
    have HF := Lib.hid hf
    clear hss hf
    go_wp2_with fail
    refine HF.out.mono ?_
    rintro e w1b ⟨⟨v, rfl⟩, tv1b, hg1b⟩
    have HG1 := Lib.hid (HG.out.trans hg1b)
    clear hg1b
    go_wp2_with fail
    refine (HNX.out _ _ HG1.out.rd).mono ?_
    rintro e w2 ⟨rfl, tv2, hg2⟩
    have HG2 := Lib.hid (HG1.out.trans hg2)
    clear hg2
    go_wp2_with fail
    refine (HRF.out _ _ HG2.out.rd).mono ?_
    rintro e w3 ⟨rfl, tv3, hg3⟩
    have HG3 := Lib.hid (HG2.out.trans hg3)
    clear hg3
    go_wp2_with fail
    go_ret
    exact ⟨rfl, tv3, HG3.out⟩
/-- A prefix is laid into the map. -/
theorem RdT.store {w : World} {P : Pl} {tv : Value} {s : St} (h : RdT w P tv s) (i z : ByteArray) (hi : i.size ≤ 100000) (hz : z.size ≤ 90000) (hc : s.pre.length + 1 + s.rest.length ≤ 90000) :
    ∃ w', (Instr.mapUpdate 40 (.map (some P.pm)) (.string i) (.agg #[.string z])).run Tryz.prog w = .ok () w' ∧ Go12 P w tv w' tv { s with pre := (i.data.toList, z) :: s.pre } := by
  obtain ⟨w', h1, h2, h3⟩ := h.pm.store Tryz.underlying9 Tryz.underlying40 i (Nat.le_trans hi (by decide)) z (by unfold maxLen; omega)
  have m := turned_moved12 h3
  obtain ⟨n1, n2, n3, n4, n5, n6, n7, n8, n9⟩ := h.ne
  obtain ⟨rv, g1, g2⟩ := h.cells
  have hl := h.lts
  have hlow := h.low
  refine ⟨w', h1, ⟨⟨⟨rv, g1.moved m (fun e => n9 e), g2.moved m (fun e => n3 e)⟩, h.n.moved m (fun e => n6 e), h.lb.moved m (fun e => n8 e), h2, h.told.moved m (fun q hq e => by have := (h.told.lt q hq).1; omega), ⟨h.inv.size, ?_, ?_, h.inv.told, h.inv.dead⟩, h.lts, Nat.le_trans h.B m.size, h.ne, h.lab, h.tab.moved m (by omega), h.low⟩, m.mono (fun j hj => .inr (.inr (.inl hj))), fun q hq => .inl hq⟩⟩
  · intro p hp
    rcases List.mem_cons.1 hp with rfl | hp
    · exact hz
    · exact h.inv.pre p hp
  · simp only [List.length_cons]; omega
end Go.Proofs.YtefkppeicmipbaaGreatDoor
