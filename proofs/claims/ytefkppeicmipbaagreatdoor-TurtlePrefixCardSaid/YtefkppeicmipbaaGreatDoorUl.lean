/- Triples as text: deeper. -/
import Derived.Test.YtefkppeicmipbaaGreatDoorUk
namespace Go.Proofs.YtefkppeicmipbaaGreatDoor
open Go.RowKit Go.Shelf Go.Maps
set_option maxRecDepth 100000
set_option linter.unusedVariables false
set_option linter.unusedSimpArgs false
set_option maxHeartbeats 8000000 in
theorem tdeep_brk {w : World} {P : Pl} {tv : Value} {s : St} (h : RdT w P tv s) (x : Tm) (S1 : St)
    (hB : ∀ w1 tv1, RdT w1 P tv1 s.down → Calls Tryz.prog 23 #[.pointer (some ⟨P.r, 0, none⟩)] w1 (To12 P w1 tv1 x.val S1)) :
    Calls Tryz.prog 22 #[.pointer (some ⟨P.r, 0, none⟩), .func (.func 23) #[.pointer (some ⟨P.r, 0, none⟩)] #[]] w (To12 P w tv x.val S1.up) := by
  have hst := h.start
  obtain ⟨m, hm⟩ : ∃ m, m = wrap64 (s.deep + 1) := ⟨_, rfl⟩
  obtain ⟨xk, xs, xl, xt⟩ := x
  unfold Tm.val at hB ⊢
  dsimp only at hB ⊢
  have hds := h.deeps m
  have hdst := hds.rd.start
  obtain ⟨rv, -, c0, c1, c2, c3, c4, c5, c6⟩ := h.open
  have f4 := h.frozen 4
  have hlt := h.rlt
  have hszw : (w.setCell ⟨P.r, 4, none⟩ (.int .i64 m)).heap.size = w.heap.size := by simp
  have hT := hdst.2
  rw [hszw] at hT
  have HG0 := Lib.hid (hds.trans hdst.1)
  have HT0 := Lib.hid hT
  have hm' := hm.symm
  have HSS := Lib.hid (And.intro (show s.down = if 10 < m then ({ s with deep := m }).fail 10 else { s with deep := m } from by rw [hm]; rfl) (show S1.up = { S1 with deep := wrap64 (S1.deep - 1) } from rfl))
  have HB := Lib.hid hB
  have hmf : ∀ (f : Nat) (a b : Array Value) (w : World), (Instr.makeFunc (.func f) a b).run Tryz.prog w = .ok (.func (.func f) a b) w := fun f a b w => rfl
  have key : ∀ w2 tv2, Go12 P w tv w2 tv2 s.down → Tp w2 P tv2 w.heap.size #[.int .i64 0, .string ⟨#[]⟩, .string ⟨#[]⟩, .string ⟨#[]⟩] 33 → ∀ (a : Act), a = a → True := fun _ _ _ _ _ _ => trivial
  clear h hst hds hdst hT hszw hB key c0 c1 c2 c3 c5 c6 hm
  by_cases h10 : 10 < m
  · have hsd : s.down = ({ s with deep := m }).fail 10 := by rw [HSS.out.1, if_pos h10]
    have hF := tfail HG0.out.rd 10
    rw [← hsd] at hF
    have HF := Lib.hid hF
    clear hF hsd
    go_enter Tryz.func22, Tryz.ntmps22
    go_wp2_with fail
    refine HF.out.mono ?_
    rintro e w2 ⟨⟨v, rfl⟩, tv2, hg2⟩
    have HG2 := Lib.hid (HG0.out.trans hg2)
    have HT2 := Lib.hid (HT0.out.go hg2)
    clear hg2
    go_wp2_with fail
    refine (HB.out _ _ HG2.out.rd).mono ?_
    rintro e w3 ⟨rfl, tv3, hg3⟩
    have HG3 := Lib.hid (HG2.out.trans hg3)
    have HT3 := Lib.hid (HT2.out.go hg3)
    obtain ⟨m2, hm2⟩ : ∃ m2, m2 = wrap64 (S1.deep - 1) := ⟨_, rfl⟩
    have hd3 := hg3.rd.deeps m2
    have hup : S1.up = { S1 with deep := m2 } := by rw [HSS.out.2, hm2]
    have HF := Lib.hid ((HG3.out.trans hd3).fin (HT3.out.go hd3) ⟨xk, xs, xl, xt⟩)
    obtain ⟨rv3, -, -, -, -, -, e4, -, -⟩ := hg3.rd.open
    have y4 := hg3.rd.frozen 4
    have hlt3 := hg3.rd.rlt
    have hne3 : P.r ≠ w.heap.size := by have := HT3.out.ge; have := hg3.rd.lts.1; omega
    obtain ⟨t0, t1, t2, t3, t4, z1, z2, z3, z4⟩ := HT3.out.four
    have hm2' := hm2.symm
    have HUP := Lib.hid hup
    clear hg3 hd3 hup hm2
    go_wp2_with fail
    refine bodyPost_ret (v := .agg #[.int .i64 xk, .string xs, .string xl, .string xt]) (results_tm (p := 4) (by kernel_rfl) _ _ w.heap.size _ _ _ _ _ rfl (HF.out.2.alloc _)) rfl ⟨rfl, tv3, ?_⟩
    rw [HUP.out]
    exact HF.out.1.alloc _
  · have hsd : s.down = { s with deep := m } := by rw [HSS.out.1, if_neg h10]
    have HG2 := Lib.hid (show Go12 P w tv _ tv s.down from by rw [hsd]; exact HG0.out)
    have HT2 := Lib.hid HT0.out
    clear hsd
    go_enter Tryz.func22, Tryz.ntmps22
    go_wp2_with fail
    refine (HB.out _ _ HG2.out.rd).mono ?_
    rintro e w3 ⟨rfl, tv3, hg3⟩
    have HG3 := Lib.hid (HG2.out.trans hg3)
    have HT3 := Lib.hid (HT2.out.go hg3)
    obtain ⟨m2, hm2⟩ : ∃ m2, m2 = wrap64 (S1.deep - 1) := ⟨_, rfl⟩
    have hd3 := hg3.rd.deeps m2
    have hup : S1.up = { S1 with deep := m2 } := by rw [HSS.out.2, hm2]
    have HF := Lib.hid ((HG3.out.trans hd3).fin (HT3.out.go hd3) ⟨xk, xs, xl, xt⟩)
    obtain ⟨rv3, -, -, -, -, -, e4, -, -⟩ := hg3.rd.open
    have y4 := hg3.rd.frozen 4
    have hlt3 := hg3.rd.rlt
    have hne3 : P.r ≠ w.heap.size := by have := HT3.out.ge; have := hg3.rd.lts.1; omega
    obtain ⟨t0, t1, t2, t3, t4, z1, z2, z3, z4⟩ := HT3.out.four
    have hm2' := hm2.symm
    have HUP := Lib.hid hup
    clear hg3 hd3 hup hm2
    go_wp2_with fail
    refine bodyPost_ret (v := .agg #[.int .i64 xk, .string xs, .string xl, .string xt]) (results_tm (p := 4) (by kernel_rfl) _ _ w.heap.size _ _ _ _ _ rfl (HF.out.2.alloc _)) rfl ⟨rfl, tv3, ?_⟩
    rw [HUP.out]
    exact HF.out.1.alloc _
set_option maxHeartbeats 8000000 in
theorem tdeep_col {w : World} {P : Pl} {tv : Value} {s : St} (h : RdT w P tv s) (x : Tm) (S1 : St)
    (hB : ∀ w1 tv1, RdT w1 P tv1 s.down → Calls Tryz.prog 48 #[.pointer (some ⟨P.r, 0, none⟩)] w1 (To12 P w1 tv1 x.val S1)) :
    Calls Tryz.prog 22 #[.pointer (some ⟨P.r, 0, none⟩), .func (.func 48) #[.pointer (some ⟨P.r, 0, none⟩)] #[]] w (To12 P w tv x.val S1.up) := by
  have hst := h.start
  obtain ⟨m, hm⟩ : ∃ m, m = wrap64 (s.deep + 1) := ⟨_, rfl⟩
  obtain ⟨xk, xs, xl, xt⟩ := x
  unfold Tm.val at hB ⊢
  dsimp only at hB ⊢
  have hds := h.deeps m
  have hdst := hds.rd.start
  obtain ⟨rv, -, c0, c1, c2, c3, c4, c5, c6⟩ := h.open
  have f4 := h.frozen 4
  have hlt := h.rlt
  have hszw : (w.setCell ⟨P.r, 4, none⟩ (.int .i64 m)).heap.size = w.heap.size := by simp
  have hT := hdst.2
  rw [hszw] at hT
  have HG0 := Lib.hid (hds.trans hdst.1)
  have HT0 := Lib.hid hT
  have hm' := hm.symm
  have HSS := Lib.hid (And.intro (show s.down = if 10 < m then ({ s with deep := m }).fail 10 else { s with deep := m } from by rw [hm]; rfl) (show S1.up = { S1 with deep := wrap64 (S1.deep - 1) } from rfl))
  have HB := Lib.hid hB
  have hmf : ∀ (f : Nat) (a b : Array Value) (w : World), (Instr.makeFunc (.func f) a b).run Tryz.prog w = .ok (.func (.func f) a b) w := fun f a b w => rfl
  have key : ∀ w2 tv2, Go12 P w tv w2 tv2 s.down → Tp w2 P tv2 w.heap.size #[.int .i64 0, .string ⟨#[]⟩, .string ⟨#[]⟩, .string ⟨#[]⟩] 33 → ∀ (a : Act), a = a → True := fun _ _ _ _ _ _ => trivial
  clear h hst hds hdst hT hszw hB key c0 c1 c2 c3 c5 c6 hm
  by_cases h10 : 10 < m
  · have hsd : s.down = ({ s with deep := m }).fail 10 := by rw [HSS.out.1, if_pos h10]
    have hF := tfail HG0.out.rd 10
    rw [← hsd] at hF
    have HF := Lib.hid hF
    clear hF hsd
    go_enter Tryz.func22, Tryz.ntmps22
    go_wp2_with fail
    refine HF.out.mono ?_
    rintro e w2 ⟨⟨v, rfl⟩, tv2, hg2⟩
    have HG2 := Lib.hid (HG0.out.trans hg2)
    have HT2 := Lib.hid (HT0.out.go hg2)
    clear hg2
    go_wp2_with fail
    refine (HB.out _ _ HG2.out.rd).mono ?_
    rintro e w3 ⟨rfl, tv3, hg3⟩
    have HG3 := Lib.hid (HG2.out.trans hg3)
    have HT3 := Lib.hid (HT2.out.go hg3)
    obtain ⟨m2, hm2⟩ : ∃ m2, m2 = wrap64 (S1.deep - 1) := ⟨_, rfl⟩
    have hd3 := hg3.rd.deeps m2
    have hup : S1.up = { S1 with deep := m2 } := by rw [HSS.out.2, hm2]
    have HF := Lib.hid ((HG3.out.trans hd3).fin (HT3.out.go hd3) ⟨xk, xs, xl, xt⟩)
    obtain ⟨rv3, -, -, -, -, -, e4, -, -⟩ := hg3.rd.open
    have y4 := hg3.rd.frozen 4
    have hlt3 := hg3.rd.rlt
    have hne3 : P.r ≠ w.heap.size := by have := HT3.out.ge; have := hg3.rd.lts.1; omega
    obtain ⟨t0, t1, t2, t3, t4, z1, z2, z3, z4⟩ := HT3.out.four
    have hm2' := hm2.symm
    have HUP := Lib.hid hup
    clear hg3 hd3 hup hm2
    go_wp2_with fail
    refine bodyPost_ret (v := .agg #[.int .i64 xk, .string xs, .string xl, .string xt]) (results_tm (p := 4) (by kernel_rfl) _ _ w.heap.size _ _ _ _ _ rfl (HF.out.2.alloc _)) rfl ⟨rfl, tv3, ?_⟩
    rw [HUP.out]
    exact HF.out.1.alloc _
  · have hsd : s.down = { s with deep := m } := by rw [HSS.out.1, if_neg h10]
    have HG2 := Lib.hid (show Go12 P w tv _ tv s.down from by rw [hsd]; exact HG0.out)
    have HT2 := Lib.hid HT0.out
    clear hsd
    go_enter Tryz.func22, Tryz.ntmps22
    go_wp2_with fail
    refine (HB.out _ _ HG2.out.rd).mono ?_
    rintro e w3 ⟨rfl, tv3, hg3⟩
    have HG3 := Lib.hid (HG2.out.trans hg3)
    have HT3 := Lib.hid (HT2.out.go hg3)
    obtain ⟨m2, hm2⟩ : ∃ m2, m2 = wrap64 (S1.deep - 1) := ⟨_, rfl⟩
    have hd3 := hg3.rd.deeps m2
    have hup : S1.up = { S1 with deep := m2 } := by rw [HSS.out.2, hm2]
    have HF := Lib.hid ((HG3.out.trans hd3).fin (HT3.out.go hd3) ⟨xk, xs, xl, xt⟩)
    obtain ⟨rv3, -, -, -, -, -, e4, -, -⟩ := hg3.rd.open
    have y4 := hg3.rd.frozen 4
    have hlt3 := hg3.rd.rlt
    have hne3 : P.r ≠ w.heap.size := by have := HT3.out.ge; have := hg3.rd.lts.1; omega
    obtain ⟨t0, t1, t2, t3, t4, z1, z2, z3, z4⟩ := HT3.out.four
    have hm2' := hm2.symm
    have HUP := Lib.hid hup
    clear hg3 hd3 hup hm2
    go_wp2_with fail
    refine bodyPost_ret (v := .agg #[.int .i64 xk, .string xs, .string xl, .string xt]) (results_tm (p := 4) (by kernel_rfl) _ _ w.heap.size _ _ _ _ _ rfl (HF.out.2.alloc _)) rfl ⟨rfl, tv3, ?_⟩
    rw [HUP.out]
    exact HF.out.1.alloc _
end Go.Proofs.YtefkppeicmipbaaGreatDoor
