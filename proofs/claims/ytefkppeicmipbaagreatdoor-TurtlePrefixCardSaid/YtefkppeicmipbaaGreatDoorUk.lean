/- Triples as text: predicate, literal. -/
import Derived.Test.YtefkppeicmipbaaGreatDoorUj
namespace Go.Proofs.YtefkppeicmipbaaGreatDoor
open Go.RowKit Go.Shelf Go.Maps
set_option maxRecDepth 100000
set_option linter.unusedVariables false
set_option linter.unusedSimpArgs false
def nilT : Array Value := #[.int .i64 0, .string ⟨#[]⟩, .string ⟨#[]⟩, .string ⟨#[]⟩]
/-- A call's opening: its answer's block. -/
theorem RdT.start {w : World} {P : Pl} {tv : Value} {s : St} (h : RdT w P tv s) : Go12 P w tv (w.alloc (.cells #[.int .i64 0, .string ⟨#[]⟩, .string ⟨#[]⟩, .string ⟨#[]⟩] 33)) tv s ∧ Tp (w.alloc (.cells #[.int .i64 0, .string ⟨#[]⟩, .string ⟨#[]⟩, .string ⟨#[]⟩] 33)) P tv w.heap.size #[.int .i64 0, .string ⟨#[]⟩, .string ⟨#[]⟩, .string ⟨#[]⟩] 33 :=
  ⟨(Go12.refl h).alloc _, Tp.new h _ _⟩
/-- A call's end: a term in the answer's block. -/
theorem Go12.fin {P : Pl} {w w1 : World} {tv tv1 : Value} {s1 : St} (h : Go12 P w tv w1 tv1 s1) (k : Tp w1 P tv1 w.heap.size #[.int .i64 0, .string ⟨#[]⟩, .string ⟨#[]⟩, .string ⟨#[]⟩] 33) (x : Tm) :
    Go12 P w tv ((((w1.setCell ⟨w.heap.size, 0, none⟩ (.int .i64 x.k)).setCell ⟨w.heap.size, 1, none⟩ (.string x.s)).setCell ⟨w.heap.size, 2, none⟩ (.string x.l)).setCell ⟨w.heap.size, 3, none⟩ (.string x.t)) tv1 s1 ∧ Blk ((((w1.setCell ⟨w.heap.size, 0, none⟩ (.int .i64 x.k)).setCell ⟨w.heap.size, 1, none⟩ (.string x.s)).setCell ⟨w.heap.size, 2, none⟩ (.string x.l)).setCell ⟨w.heap.size, 3, none⟩ (.string x.t)) w.heap.size #[.int .i64 x.k, .string x.s, .string x.l, .string x.t] 33 :=
  have t := h.temp4 k (.int .i64 x.k) (.string x.s) (.string x.l) (.string x.t) (Nat.le_refl _)
  ⟨t.1, t.2.blk⟩
set_option maxHeartbeats 8000000 in
theorem tpredicate {w : World} {P : Pl} {tv : Value} {s : St} (h : RdT w P tv s) :
    Calls Tryz.prog 51 #[.pointer (some ⟨P.r, 0, none⟩)] w (To12 P w tv (predT s).val (predS s)) := by
  have hst := h.start
  have hnx := tnext hst.1.rd
  obtain ⟨d, hd⟩ : ∃ d, d = decide (s.peek = wd [97]) := ⟨_, rfl⟩
  have heq := fun w => equal_tokB s.peek 8 ⟨#[97]⟩ w
  rw [show decide (s.peek = (8, (⟨#[97]⟩ : ByteArray).data.toList)) = d from hd.symm] at heq
  have HRF := Lib.hid (fun w1 tv1 (r : RdT w1 P tv1 s.next) => treference r s.peek (by have := h.inv.peek; exact this))
  obtain ⟨q1, q2, hq⟩ : ∃ q1 q2, s.peek = (q1, q2) := ⟨_, _, rfl⟩
  obtain ⟨RT, hRT⟩ : ∃ RT, RT = refT s.peek s.next := ⟨_, rfl⟩
  obtain ⟨RS, hRS⟩ : ∃ RS, RS = refS s.peek s.next := ⟨_, rfl⟩
  rw [← hRT, ← hRS] at HRF
  obtain ⟨V, hV⟩ : ∃ V, V = predT s := ⟨_, rfl⟩
  obtain ⟨S2, hS2⟩ : ∃ q, q = predS s := ⟨_, rfl⟩
  have HV := Lib.hid (show V = if d then named rTypeB else named RT from by
    rw [hV, hd, hRT]; unfold predT
    by_cases h : s.peek = wd [97]
    · rw [if_pos h, if_pos (by simpa using h)]
    · rw [if_neg h, if_neg (by simpa using h)])
  have HS2 := Lib.hid (show S2 = if d then s.next else RS from by
    rw [hS2, hd, hRS]; unfold predS
    by_cases h : s.peek = wd [97]
    · rw [if_pos h, if_pos (by simpa using h)]
    · rw [if_neg h, if_neg (by simpa using h)])
  rw [← hV, ← hS2]
  rw [hq] at hnx heq HRF
  unfold tokV at hnx HRF
  dsimp only at hnx heq HRF
  have HNX := Lib.hid hnx
  have HG0 := Lib.hid hst.1
  have HT0 := Lib.hid hst.2
  have HWD := Lib.hid (fun w => tword ⟨#[97]⟩ w)
  have HNM := Lib.hid (fun l w => tnamed l w)
  have HEQ := Lib.hid heq
  have hdq : d = decide ((q1, q2) = ((8 : Int), ([97] : List UInt8))) := by rw [hd, hq]; rfl
  have HIF := Lib.hid (fun wz : World => show (if q1 = 8 then if q2 = [97] then Result.ok (Next.value (Value.bool true)) wz else Result.ok (Next.value (Value.bool false)) wz else Result.ok (Next.value (Value.bool false)) wz) = Result.ok (Next.value (Value.bool d)) wz from by
    rw [hdq]
    by_cases h1 : q1 = 8 <;> by_cases h2 : q2 = [97] <;> simp [h1, h2])
  clear hdq
  clear h hst hnx hd hRT hRS hV hS2 hq
  clear heq
  go_enter Tryz.func51, Tryz.ntmps51
  go_wp2_with fail
  refine HNX.out.mono ?_
  rintro e w1 ⟨rfl, tv1, hg1⟩
  have HG := Lib.hid ((HG0.out.trans hg1).alloc (.cells #[.int .i64 q1, .string ⟨q2.toArray⟩] 47))
  have HT := Lib.hid ((HT0.out.go hg1).alloc (.cells #[.int .i64 q1, .string ⟨q2.toArray⟩] 47))
  have HK := Lib.hid (Tp.new hg1.rd #[.int .i64 q1, .string ⟨q2.toArray⟩] 47)
  have hw1 := hg1.mv.size
  have hw1' : w.heap.size ≤ w1.heap.size := by simp at hw1; omega
  clear hg1 hw1
  go_wp2_with fail
  generalize World.alloc w1 _ = W at HG HT HK ⊢
  generalize w1.heap.size = K at HK hw1' ⊢
  refine wp_region_any (by kernel_rfl) ?_
  change wpAny _ _ _ _ _ _ _ (World.drew _)
  refine wpAny_of_held (S := fun w' => Go12 P w tv w' tv1 s.next ∧ Tp w' P tv1 w.heap.size #[.int .i64 0, .string ⟨#[]⟩, .string ⟨#[]⟩, .string ⟨#[]⟩] 33 ∧ Tp w' P tv1 K #[.int .i64 q1, .string ⟨q2.toArray⟩] 47) _ _ _ _ ?_
  have hS : (fun w' => Go12 P w tv w' tv1 s.next ∧ Tp w' P tv1 w.heap.size #[.int .i64 0, .string ⟨#[]⟩, .string ⟨#[]⟩, .string ⟨#[]⟩] 33 ∧ Tp w' P tv1 K #[.int .i64 q1, .string ⟨q2.toArray⟩] 47) _ := ⟨HG.out.below (below_drew1 _), HT.out.go ((Go12.refl HG.out.rd).below (below_drew1 _)), HK.out.go ((Go12.refl HG.out.rd).below (below_drew1 _))⟩
  refine wpAnyH_take (i := 0) (oi := ⟨some 6, _, _, _, _, _⟩) (v := ?_) rfl (by kernel_rfl) (by kernel_rfl) (by kernel_rfl) (fun _ _ _ h => h) (Or.inl ⟨by simp only [Region.wanted], ?_⟩) hS ?_
  rotate_left
  · intro wz hSw; obtain ⟨-, k0, k1, -, -⟩ := hSw.2.2.two
    clear hSw
    go_simp
    first | done | with_reducible rfl
  try simp only [Act.put, List.setIfInBounds_toArray, List.set_cons_zero, List.set_cons_succ]
  refine wpAnyH_ready (rs := [1]) (by kernel_rfl) (by simp) ?_
  refine AllReadyH.cons (o := ⟨some 7, _, _, _, _, _⟩) rfl (fun K hK => ?_) AllReadyH.nil
  go_simp
  refine (HWD.out _).mono ?_
  rintro e w2 ⟨rfl, hb2⟩
  have HG2 := Lib.hid ((HG.out.below (below_drew1 _)).below hb2)
  have HT2 := Lib.hid (HT.out.go (((Go12.refl HG.out.rd).below (below_drew1 _)).below hb2))
  have HK2 := Lib.hid (HK.out.go (((Go12.refl HG.out.rd).below (below_drew1 _)).below hb2))
  clear hb2
  refine hK.out _ _ (⟨HG2.out, HT2.out, HK2.out⟩) (fun hS => ?_)
  clear hK K
  try simp only [Act.put, List.setIfInBounds_toArray, List.set_cons_zero, List.set_cons_succ]
  refine wpAnyH_take (i := 2) (oi := ⟨some 8, _, _, _, _, _⟩) (v := ?_) rfl (by kernel_rfl) (by kernel_rfl) (by kernel_rfl) (fun _ _ _ h => h) (Or.inl ⟨by simp only [Region.wanted], ?_⟩) hS ?_
  rotate_left
  · intro wz hSw
    clear hSw
    go_simp
    first | done | with_reducible rfl | exact HIF.out wz
  try simp only [Act.put, List.setIfInBounds_toArray, List.set_cons_zero, List.set_cons_succ]
  refine wpAnyH_done (by kernel_rfl) ?_ _
  clear hS HG HT HK
  cases d with
  | true =>
    have hv : V = named rTypeB := HV.out
    have hs : S2 = s.next := HS2.out
    subst hv hs
    go_wp2_with fail
    refine (HNM.out _ _).mono ?_
    rintro e w3 ⟨rfl, hb3⟩
    have HG3 := Lib.hid (HG2.out.below hb3)
    obtain ⟨t0, t1, t2, t3, t4, y1, y2, y3, y4⟩ := (HT2.out.go ((Go12.refl HG2.out.rd).below hb3)).four
    have HF := Lib.hid (HG3.out.fin (HT2.out.go ((Go12.refl HG2.out.rd).below hb3)) (named rTypeB))
    clear hb3
    unfold named Tm.val
    dsimp only
    go_wp2_with fail
    exact bodyPost_ret (v := .agg #[.int .i64 1, .string rTypeB, .string ⟨#[]⟩, .string ⟨#[]⟩]) (results_tm (p := 2) (by kernel_rfl) _ _ w.heap.size _ _ _ _ _ rfl HF.out.2) rfl ⟨rfl, tv1, HF.out.1⟩
  | false =>
    have hv : V = named RT := HV.out
    have hs : S2 = RS := HS2.out
    subst hv hs
    obtain ⟨k9, k0, k1, -, -⟩ := HK2.out.two
    go_wp2_with fail
    refine (HRF.out _ _ HG2.out.rd).mono ?_
    rintro e w3 ⟨rfl, tv3, hg3⟩
    have HG3 := Lib.hid (HG2.out.trans hg3)
    have HT3 := Lib.hid (HT2.out.go hg3)
    clear hg3 k0 k1 k9
    go_wp2_with fail
    refine (HNM.out _ _).mono ?_
    rintro e w4 ⟨rfl, hb3⟩
    have HG4 := Lib.hid (HG3.out.below hb3)
    obtain ⟨t0, t1, t2, t3, t4, y1, y2, y3, y4⟩ := (HT3.out.go ((Go12.refl HG3.out.rd).below hb3)).four
    have HF := Lib.hid (HG4.out.fin (HT3.out.go ((Go12.refl HG3.out.rd).below hb3)) (named RT))
    clear hb3
    unfold named Tm.val
    dsimp only
    go_wp2_with fail
    exact bodyPost_ret (v := .agg #[.int .i64 1, .string RT, .string ⟨#[]⟩, .string ⟨#[]⟩]) (results_tm (p := 2) (by kernel_rfl) _ _ w.heap.size _ _ _ _ _ rfl HF.out.2) rfl ⟨rfl, tv3, HF.out.1⟩
set_option maxHeartbeats 8000000 in
theorem tliteral {w : World} {P : Pl} {tv : Value} {s : St} (h : RdT w P tv s) (l : List UInt8) :
    Calls Tryz.prog 77 #[.pointer (some ⟨P.r, 0, none⟩), .string ⟨l.toArray⟩] w (To12 P w tv (litT l s).val (litS s)) := by
  have hst := h.start
  have hpk := tpeek hst.1.rd
  have hf0 := field_tok0
  have hf1 := field_tok1
  obtain ⟨q1, q2, hq⟩ : ∃ q1 q2, s.peek = (q1, q2) := ⟨_, _, rfl⟩
  have HNX := Lib.hid (fun w1 tv1 (r : RdT w1 P tv1 s) => tnext r)
  obtain ⟨d, hd⟩ : ∃ d, d = decide (s.peek = sg [94, 94]) := ⟨_, rfl⟩
  have HTK := Lib.hid (fun w1 tv1 (r : RdT w1 P tv1 s) => ttake r ⟨#[94, 94]⟩)
  rw [show decide (s.peek = sg (⟨#[94, 94]⟩ : ByteArray).data.toList) = d from hd.symm] at HTK
  have htk : s.take (⟨#[94, 94]⟩ : ByteArray).data.toList = if d then s.next else s := by
    unfold St.take; rw [hd]
    by_cases h : s.peek = sg [94, 94]
    · rw [if_pos (show s.peek = sg (⟨#[94, 94]⟩ : ByteArray).data.toList from h), if_pos (by simpa using h)]
    · rw [if_neg (show ¬ s.peek = sg (⟨#[94, 94]⟩ : ByteArray).data.toList from h), if_neg (by simpa using h)]
  rw [htk] at HTK
  have HN2 := Lib.hid (fun w1 tv1 (r : RdT w1 P tv1 s.next) => tnext r)
  have HRF := Lib.hid (fun w1 tv1 (r : RdT w1 P tv1 s.next.next) => treference r s.next.peek (by have := h.inv.next.peek; exact this))
  obtain ⟨p1, p2, hp⟩ : ∃ p1 p2, s.next.peek = (p1, p2) := ⟨_, _, rfl⟩
  obtain ⟨RT, hRT⟩ : ∃ RT, RT = refT s.next.peek s.next.next := ⟨_, rfl⟩
  obtain ⟨RS, hRS⟩ : ∃ RS, RS = refS s.next.peek s.next.next := ⟨_, rfl⟩
  rw [← hRT, ← hRS] at HRF
  rw [hp] at HN2 HRF
  obtain ⟨V, hV⟩ : ∃ V, V = litT l s := ⟨_, rfl⟩
  obtain ⟨S2, hS2⟩ : ∃ q, q = litS s := ⟨_, rfl⟩
  have HV := Lib.hid (show V = if q1 = 6 then ⟨3, bl l, bl q2, nobT⟩ else if d then typed (bl l) RT else typed (bl l) nobT from by
    rw [hV, hd, hRT]; unfold litT
    rw [hq]
    dsimp only
    by_cases h6 : q1 = 6
    · rw [if_pos h6, if_pos h6]
    · rw [if_neg h6, if_neg h6]
      by_cases h : (q1, q2) = sg [94, 94]
      · rw [if_pos h, if_pos (by simpa using h)]
      · rw [if_neg h, if_neg (by simpa using h)])
  have HS2 := Lib.hid (show S2 = if q1 = 6 then s.next else if d then RS else s from by
    rw [hS2, hd, hRS]; unfold litS
    rw [hq]
    dsimp only
    by_cases h6 : q1 = 6
    · rw [if_pos h6, if_pos h6]
    · rw [if_neg h6, if_neg h6]
      by_cases h : (q1, q2) = sg [94, 94]
      · rw [if_pos h, if_pos (by simpa using h)]
      · rw [if_neg h, if_neg (by simpa using h)])
  rw [← hV, ← hS2]
  rw [hq] at hpk HNX
  unfold tokV at hpk HNX HN2 HRF
  dsimp only at hpk HNX HN2 HRF
  have HPK := Lib.hid hpk
  have HG0 := Lib.hid hst.1
  have HT0 := Lib.hid hst.2
  have HTY := Lib.hid (fun l m w => ttyped l m w)
  obtain ⟨L, hL⟩ : ∃ z : ByteArray, z = ⟨l.toArray⟩ := ⟨_, rfl⟩
  have HBL := Lib.hid (show bl l = L from hL.symm)
  rw [← hL]
  clear h hst hpk hd hRT hRS hV hS2 hq hp htk hL
  go_enter Tryz.func77, Tryz.ntmps77
  go_wp2_with fail
  refine HPK.out.mono ?_
  rintro e w1 ⟨rfl, tv1, hg1⟩
  have HG := Lib.hid (HG0.out.trans hg1)
  have HT := Lib.hid (HT0.out.go hg1)
  clear hg1
  by_cases h6 : q1 = 6
  · have hv : V = ⟨3, L, bl q2, nobT⟩ := by rw [HV.out, if_pos h6, HBL.out]
    have hs : S2 = s.next := by rw [HS2.out, if_pos h6]
    have hqb : (q1 == 6) = true := by rw [h6]; rfl
    subst hv hs
    go_wp2_with fail
    refine (HNX.out _ _ HG.out.rd).mono ?_
    rintro e w2 ⟨rfl, tv2, hg2⟩
    have HG2 := Lib.hid (HG.out.trans hg2)
    obtain ⟨t0, t1, t2, t3, t4, y1, y2, y3, y4⟩ := (HT.out.go hg2).four
    have HF := Lib.hid (HG2.out.fin (HT.out.go hg2) ⟨3, L, bl q2, nobT⟩)
    clear hg2
    unfold bl nobT at HF
    unfold bl nobT Tm.val
    dsimp only at HF ⊢
    go_wp2_with fail
    exact bodyPost_ret (v := .agg #[.int .i64 3, .string L, .string ⟨q2.toArray⟩, .string ⟨#[]⟩]) (results_tm (p := 4) (by kernel_rfl) _ _ w.heap.size _ _ _ _ _ rfl HF.out.2) rfl ⟨rfl, tv2, HF.out.1⟩
  have hqb : (q1 == 6) = false := by simpa using h6
  have hv0 : V = if d then typed (bl l) RT else typed (bl l) nobT := by rw [HV.out, if_neg h6]
  have hs0 : S2 = if d then RS else s := by rw [HS2.out, if_neg h6]
  clear HV HS2
  have HV := Lib.hid hv0
  have HS2 := Lib.hid hs0
  clear hv0 hs0
  go_wp2_with fail
  refine (HTK.out _ _ HG.out.rd).mono ?_
  rintro e w2 ⟨rfl, tv2, hg2⟩
  have HT2 := Lib.hid (HT.out.go hg2)
  cases d with
  | true =>
    have hv : V = typed L RT := by rw [HV.out, HBL.out]; rfl
    have hs : S2 = RS := HS2.out
    subst hv hs
    have HG2 := Lib.hid (HG.out.trans (show Go12 P w1 tv1 w2 tv2 s.next from hg2))
    clear hg2
    go_wp2_with fail
    refine (HN2.out _ _ HG2.out.rd).mono ?_
    rintro e w3 ⟨rfl, tv3, hg3⟩
    have HG3 := Lib.hid (HG2.out.trans hg3)
    have HT3 := Lib.hid (HT2.out.go hg3)
    clear hg3
    go_wp2_with fail
    refine (HRF.out _ _ HG3.out.rd).mono ?_
    rintro e w4 ⟨rfl, tv4, hg4⟩
    have HG4 := Lib.hid (HG3.out.trans hg4)
    have HT4 := Lib.hid (HT3.out.go hg4)
    clear hg4
    go_wp2_with fail
    refine (HTY.out _ _ _).mono ?_
    rintro e w5 ⟨rfl, hb5⟩
    have HG5 := Lib.hid (HG4.out.below hb5)
    obtain ⟨t0, t1, t2, t3, t4, y1, y2, y3, y4⟩ := (HT4.out.go ((Go12.refl HG4.out.rd).below hb5)).four
    have HF := Lib.hid (HG5.out.fin (HT4.out.go ((Go12.refl HG4.out.rd).below hb5)) (typed L RT))
    clear hb5
    unfold typed nobT at HF
    unfold typed nobT Tm.val
    dsimp only at HF ⊢
    go_wp2_with fail
    exact bodyPost_ret (v := .agg #[.int .i64 3, .string L, .string ⟨#[]⟩, .string RT]) (results_tm (p := 4) (by kernel_rfl) _ _ w.heap.size _ _ _ _ _ rfl HF.out.2) rfl ⟨rfl, tv4, HF.out.1⟩
  | false =>
    have hv : V = typed L nobT := by rw [HV.out, HBL.out]; rfl
    have hs : S2 = s := HS2.out
    subst hv hs
    have HG2 := Lib.hid (HG.out.trans (show Go12 P w1 tv1 w2 tv2 S2 from hg2))
    clear hg2
    go_wp2_with fail
    refine (HTY.out _ _ _).mono ?_
    rintro e w5 ⟨rfl, hb5⟩
    have HG5 := Lib.hid (HG2.out.below hb5)
    obtain ⟨t0, t1, t2, t3, t4, y1, y2, y3, y4⟩ := (HT2.out.go ((Go12.refl HG2.out.rd).below hb5)).four
    have HF := Lib.hid (HG5.out.fin (HT2.out.go ((Go12.refl HG2.out.rd).below hb5)) (typed L ⟨#[]⟩))
    clear hb5
    unfold typed nobT at HF
    unfold typed nobT Tm.val
    dsimp only at HF ⊢
    go_wp2_with fail
    exact bodyPost_ret (v := .agg #[.int .i64 3, .string L, .string ⟨#[]⟩, .string ⟨#[]⟩]) (results_tm (p := 4) (by kernel_rfl) _ _ w.heap.size _ _ _ _ _ rfl HF.out.2) rfl ⟨rfl, tv2, HF.out.1⟩
end Go.Proofs.YtefkppeicmipbaaGreatDoor
