/- Triples as text: node, bracket. -/
import Derived.Test.YtefkppeicmipbaaGreatDoorUm
namespace Go.Proofs.YtefkppeicmipbaaGreatDoor
open Go.RowKit Go.Shelf Go.Maps
set_option maxRecDepth 100000
set_option linter.unusedVariables false
set_option linter.unusedSimpArgs false
def ptrR (P : Pl) : Value := .pointer (some ⟨P.r, 0, none⟩)
/-- What is known of the reader's calls at a measure n. -/
structure C12 (n : Nat) : Prop where
  obj : ∀ (w : World) (P : Pl) (tv : Value) (s : St), RdT w P tv s → 4 * s.len + 2 ≤ n → Calls Tryz.prog 53 #[.pointer (some ⟨P.r, 0, none⟩)] w (To12 P w tv (objP P.lab n s).1.val (objP P.lab n s).2)
  node : ∀ (w : World) (P : Pl) (tv : Value) (s : St) (t : Tok), RdT w P tv s → s.base.size + t.2.length ≤ 90000 → 1 ≤ n → (t = sg [40] → 4 * s.len + 4 ≤ n) → Calls Tryz.prog 25 #[.pointer (some ⟨P.r, 0, none⟩), tokV t] w (To12 P w tv (nodeP P.lab n t s).1.val (nodeP P.lab n t s).2)
  brk : ∀ (w : World) (P : Pl) (tv : Value) (s : St), RdT w P tv s → 4 * s.len + 5 ≤ n → Calls Tryz.prog 23 #[.pointer (some ⟨P.r, 0, none⟩)] w (To12 P w tv (brkP P.lab n s).1.val (brkP P.lab n s).2)
  verb : ∀ (w : World) (P : Pl) (tv : Value) (s : St) (b : Tm), RdT w P tv s → b.Ok → 4 * s.len + 4 ≤ n → Calls Tryz.prog 26 #[.pointer (some ⟨P.r, 0, none⟩), b.val] w (ToV12 P w tv (verbP P.lab n b s))
  col : ∀ (w : World) (P : Pl) (tv : Value) (s : St), RdT w P tv s → 4 * s.len + 3 ≤ n → Calls Tryz.prog 48 #[.pointer (some ⟨P.r, 0, none⟩)] w (To12 P w tv (colP P.lab n ⟨0, nobT, nobT, nobT⟩ none s).1.val (colP P.lab n ⟨0, nobT, nobT, nobT⟩ none s).2)
theorem blankT_val (lab : ByteArray) (n : Int) : (blankT lab n).val = .agg #[.int .i64 2, .string (lab ++ bl (Lib.itoa n)), .string ⟨#[]⟩, .string ⟨#[]⟩] := rfl
set_option maxHeartbeats 8000000 in
theorem tbracket {n : Nat} (hV : ∀ (w : World) (P : Pl) (tv : Value) (s : St) (b : Tm), RdT w P tv s → b.Ok → 4 * s.len + 4 ≤ n → Calls Tryz.prog 26 #[.pointer (some ⟨P.r, 0, none⟩), b.val] w (ToV12 P w tv (verbP P.lab n b s)))
    {w : World} {P : Pl} {tv : Value} {s : St} (h : RdT w P tv s) (hn : 4 * s.len + 5 ≤ n + 1) :
    Calls Tryz.prog 23 #[.pointer (some ⟨P.r, 0, none⟩)] w (To12 P w tv (brkP P.lab (n + 1) s).1.val (brkP P.lab (n + 1) s).2) := by
  have hst := h.start
  have hF := tfresh hst.1.rd
  obtain ⟨X, hX⟩ : ∃ X, X = blankT P.lab s.fresh.n := ⟨_, rfl⟩
  have hXo : X.Ok := by rw [hX]; exact blank_ok h.lab s
  obtain ⟨d, hd⟩ : ∃ d, d = decide (s.fresh.peek = sg [93]) := ⟨_, rfl⟩
  obtain ⟨Q, hQ⟩ : ∃ Q, Q = (brkP P.lab (n + 1) s).2 := ⟨_, rfl⟩
  have h1 : (brkP P.lab (n + 1) s).1 = X := by rw [brkP, hX]; split <;> rfl
  have HQ := Lib.hid (show Q = if d then s.fresh.next else (verbP P.lab n X s.fresh).need [93] from by
    rw [hQ, brkP, hd, hX]
    by_cases h : s.fresh.peek = sg [93]
    · rw [if_pos h, if_pos (by simpa using h)]
    · rw [if_neg h, if_neg (by simpa using h)])
  rw [h1, ← hQ]
  rw [← hX] at hF
  have HTK := Lib.hid (fun w1 tv1 (r : RdT w1 P tv1 s.fresh) => ttake r ⟨#[93]⟩)
  rw [show decide (s.fresh.peek = sg (⟨#[93]⟩ : ByteArray).data.toList) = d from hd.symm] at HTK
  have htk : s.fresh.take (⟨#[93]⟩ : ByteArray).data.toList = if d then s.fresh.next else s.fresh := by
    unfold St.take; rw [hd]
    by_cases h : s.fresh.peek = sg [93]
    · rw [if_pos (show s.fresh.peek = sg (⟨#[93]⟩ : ByteArray).data.toList from h), if_pos (by simpa using h)]
    · rw [if_neg (show ¬ s.fresh.peek = sg (⟨#[93]⟩ : ByteArray).data.toList from h), if_neg (by simpa using h)]
  rw [htk] at HTK
  have HVV := Lib.hid (fun w1 tv1 (r : RdT w1 P tv1 s.fresh) => hV w1 P tv1 s.fresh X r hXo (by rw [len_fresh]; omega))
  have HND := Lib.hid (fun w1 tv1 (r : RdT w1 P tv1 (verbP P.lab n X s.fresh)) => tneed r ⟨#[93]⟩)
  obtain ⟨S1, hS1⟩ : ∃ S1, S1 = verbP P.lab n X s.fresh := ⟨_, rfl⟩
  rw [← hS1] at HVV HND HQ
  obtain ⟨xk, xs, xl, xt⟩ := X
  unfold Tm.val at hF HVV ⊢
  dsimp only at hF HVV ⊢
  have HF := Lib.hid hF
  have HG0 := Lib.hid hst.1
  have HT0 := Lib.hid hst.2
  have c3 := hst.1.rd.open
  obtain ⟨rv, -, -, -, -, c3, -, -, -⟩ := c3
  have C3 := Lib.hid c3
  obtain ⟨rvw, -, -, -, -, w3, -, -, -⟩ := h.open
  have hlt := h.rlt
  unfold freshV at w3
  clear h hst hF hX hXo hd hQ h1 htk hV hn hS1 c3
  go_enter Tryz.func23, Tryz.ntmps23
  go_wp2_with fail
  refine HF.out.mono ?_
  rintro e w1 ⟨rfl, tv1, hg1⟩
  have hgr := HG0.out.trans hg1
  have HG := Lib.hid (hgr.alloc (.cells #[.int .i64 xk, .string xs, .string xl, .string xt] 33))
  have HT := Lib.hid ((HT0.out.go hg1).alloc (.cells #[.int .i64 xk, .string xs, .string xl, .string xt] 33))
  have HK := Lib.hid (Tp.new hg1.rd #[.int .i64 xk, .string xs, .string xl, .string xt] 33)
  clear hg1 hgr w3
  go_wp2_with fail
  generalize World.alloc w1 _ = W at HG HT HK ⊢
  generalize w1.heap.size = K at HK ⊢
  refine (HTK.out _ _ HG.out.rd).mono ?_
  rintro e w2 ⟨rfl, tv2, hg2⟩
  have HT2 := Lib.hid (HT.out.go hg2)
  have HK2 := Lib.hid (HK.out.go hg2)
  cases d with
  | true =>
    have hq : Q = s.fresh.next := HQ.out
    subst hq
    have HG2 := Lib.hid (HG.out.trans (show Go12 P W tv1 w2 tv2 s.fresh.next from hg2))
    have HFN := Lib.hid (HG2.out.fin HT2.out ⟨xk, xs, xl, xt⟩)
    obtain ⟨k0, k1, k2, k3, k4, -, -, -, -⟩ := HK2.out.four
    obtain ⟨t0, t1, t2, t3, t4, y1, y2, y3, y4⟩ := HT2.out.four
    clear hg2
    go_wp2_with fail
    exact bodyPost_ret (v := .agg #[.int .i64 xk, .string xs, .string xl, .string xt]) (results_tm (p := 2) (by kernel_rfl) _ _ w.heap.size _ _ _ _ _ rfl HFN.out.2) rfl ⟨rfl, tv2, HFN.out.1⟩
  | false =>
    have hq : Q = S1.need [93] := HQ.out
    subst hq
    have HG2 := Lib.hid (HG.out.trans (show Go12 P W tv1 w2 tv2 s.fresh from hg2))
    obtain ⟨k0, k1, k2, k3, k4, -, -, -, -⟩ := HK2.out.four
    clear hg2
    go_wp2_with fail
    refine (HVV.out _ _ HG2.out.rd).mono ?_
    rintro e w3 ⟨⟨v3, rfl⟩, tv3, hg3⟩
    have HG3 := Lib.hid (HG2.out.trans hg3)
    have HT3 := Lib.hid (HT2.out.go hg3)
    have HK3 := Lib.hid (HK2.out.go hg3)
    clear hg3 k0 k1 k2 k3 k4
    go_wp2_with fail
    refine (HND.out _ _ HG3.out.rd).mono ?_
    rintro e w4 ⟨⟨v4, rfl⟩, tv4, hg4⟩
    have HG4 := Lib.hid (HG3.out.trans hg4)
    have HT4 := Lib.hid (HT3.out.go hg4)
    have HK4 := Lib.hid (HK3.out.go hg4)
    have HFN := Lib.hid (HG4.out.fin HT4.out ⟨xk, xs, xl, xt⟩)
    obtain ⟨k0, k1, k2, k3, k4, -, -, -, -⟩ := HK4.out.four
    obtain ⟨t0, t1, t2, t3, t4, y1, y2, y3, y4⟩ := HT4.out.four
    clear hg4
    go_wp2_with fail
    exact bodyPost_ret (v := .agg #[.int .i64 xk, .string xs, .string xl, .string xt]) (results_tm (p := 2) (by kernel_rfl) _ _ w.heap.size _ _ _ _ _ rfl HFN.out.2) rfl ⟨rfl, tv4, HFN.out.1⟩
end Go.Proofs.YtefkppeicmipbaaGreatDoor
