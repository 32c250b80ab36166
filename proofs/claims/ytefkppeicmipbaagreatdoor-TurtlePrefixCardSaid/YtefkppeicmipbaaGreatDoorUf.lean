/- Triples as text: the reader goes on. -/
import Derived.Test.YtefkppeicmipbaaGreatDoorUe
namespace Go.Proofs.YtefkppeicmipbaaGreatDoor
open Go.RowKit Go.Shelf
set_option maxRecDepth 100000
set_option linter.unusedVariables false
set_option linter.unusedSimpArgs false
/-- A token, a term stored into a block of a caller's own. -/
theorem Go12.temp2 {P : Pl} {w w1 : World} {tv tv1 : Value} {s1 : St} {T : Nat} {o0 o1 : Value} {t : TypeId} (h : Go12 P w tv w1 tv1 s1) (k : Tp w1 P tv1 T #[o0, o1] t) (a0 a1 : Value) (hT : w.heap.size ≤ T) :
    Go12 P w tv ((w1.setCell ⟨T, 0, none⟩ a0).setCell ⟨T, 1, none⟩ a1) tv1 s1 ∧ Tp ((w1.setCell ⟨T, 0, none⟩ a0).setCell ⟨T, 1, none⟩ a1) P tv1 T #[a0, a1] t := by
  obtain ⟨h1, k1⟩ := h.temp k 0 a0 hT
  obtain ⟨h2, k2⟩ := h1.temp k1 1 a1 hT
  refine ⟨h2, ?_⟩
  simpa only [List.setIfInBounds_toArray, List.set_cons_zero, List.set_cons_succ] using k2
theorem Go12.temp4 {P : Pl} {w w1 : World} {tv tv1 : Value} {s1 : St} {T : Nat} {o0 o1 o2 o3 : Value} {t : TypeId} (h : Go12 P w tv w1 tv1 s1) (k : Tp w1 P tv1 T #[o0, o1, o2, o3] t) (a0 a1 a2 a3 : Value) (hT : w.heap.size ≤ T) :
    Go12 P w tv ((((w1.setCell ⟨T, 0, none⟩ a0).setCell ⟨T, 1, none⟩ a1).setCell ⟨T, 2, none⟩ a2).setCell ⟨T, 3, none⟩ a3) tv1 s1 ∧ Tp ((((w1.setCell ⟨T, 0, none⟩ a0).setCell ⟨T, 1, none⟩ a1).setCell ⟨T, 2, none⟩ a2).setCell ⟨T, 3, none⟩ a3) P tv1 T #[a0, a1, a2, a3] t := by
  obtain ⟨h1, k1⟩ := h.temp k 0 a0 hT
  obtain ⟨h2, k2⟩ := h1.temp k1 1 a1 hT
  obtain ⟨h3, k3⟩ := h2.temp k2 2 a2 hT
  obtain ⟨h4, k4⟩ := h3.temp k3 3 a3 hT
  refine ⟨h4, ?_⟩
  simpa only [List.setIfInBounds_toArray, List.set_cons_zero, List.set_cons_succ] using k4
/-- What a walk wants of a block of two, of four cells. -/
theorem Tp.two {w : World} {P : Pl} {tv : Value} {T : Nat} {a0 a1 : Value} {t : TypeId} (h : Tp w P tv T #[a0, a1] t) : T < w.heap.size ∧ w.cell? ⟨T, 0, none⟩ = some a0 ∧ w.cell? ⟨T, 1, none⟩ = some a1 ∧ w.frozen? ⟨T, 0, none⟩ = false ∧ w.frozen? ⟨T, 1, none⟩ = false :=
  ⟨h.blk.lt, h.blk.cell 0, h.blk.cell 1, h.blk.frozen 0, h.blk.frozen 1⟩
theorem Tp.four {w : World} {P : Pl} {tv : Value} {T : Nat} {a0 a1 a2 a3 : Value} {t : TypeId} (h : Tp w P tv T #[a0, a1, a2, a3] t) : T < w.heap.size ∧ w.cell? ⟨T, 0, none⟩ = some a0 ∧ w.cell? ⟨T, 1, none⟩ = some a1 ∧ w.cell? ⟨T, 2, none⟩ = some a2 ∧ w.cell? ⟨T, 3, none⟩ = some a3 ∧ w.frozen? ⟨T, 0, none⟩ = false ∧ w.frozen? ⟨T, 1, none⟩ = false ∧ w.frozen? ⟨T, 2, none⟩ = false ∧ w.frozen? ⟨T, 3, none⟩ = false :=
  ⟨h.blk.lt, h.blk.cell 0, h.blk.cell 1, h.blk.cell 2, h.blk.cell 3, h.blk.frozen 0, h.blk.frozen 1, h.blk.frozen 2, h.blk.frozen 3⟩
theorem next_nil {s : St} (h : s.rest = []) : s.next = s := by
  obtain ⟨r, b, p, n, d, t, e⟩ := s
  dsimp only at h
  subst h
  rfl
set_option maxHeartbeats 4000000 in
theorem tnext {w : World} {P : Pl} {tv : Value} {s : St} (h : RdT w P tv s) :
    Calls Tryz.prog 17 #[.pointer (some ⟨P.r, 0, none⟩)] w (To12 P w tv (tokV s.peek) s.next) := by
  have ha : RdT (w.alloc (.cells #[.int .i64 0, .string ⟨#[]⟩] 47)) P tv s := h.below ((Below.refl _ _).alloc (Nat.le_refl _) _)
  have hpk := tpeek ha
  obtain ⟨q1, q2, hq⟩ : ∃ q1 q2, s.peek = (q1, q2) := ⟨_, _, rfl⟩
  rw [hq] at hpk ⊢
  unfold tokV at hpk ⊢
  dsimp only at hpk ⊢
  have HPK := Lib.hid hpk
  have HT0 := Lib.hid (Tp.new h #[.int .i64 0, .string ⟨#[]⟩] 47)
  have HG0 := Lib.hid ((Go12.refl h).alloc (.cells #[.int .i64 0, .string ⟨#[]⟩] 47))
  clear h ha hpk hq
  go_enter Tryz.func17, Tryz.ntmps17
  go_wp2_with fail
  refine HPK.out.mono ?_
  rintro e w1 ⟨rfl, tv1, hg1⟩
  have hg := HG0.out.trans hg1
  have ht := HT0.out.go hg1
  obtain ⟨rv, hrv, c0, -, -, -, -, -, -⟩ := hg.rd.open
  have f0 := hg.rd.frozen 0
  have hlt := hg.rd.rlt
  have hr0 : P.r ≠ w.heap.size := by have := ht.ge; have := hg.rd.lts.1; omega
  obtain ⟨htl, t0, t1, g0, g1⟩ := ht.two
  have HG := Lib.hid hg
  have HT := Lib.hid ht
  clear HPK HG0 HT0 hg1 hg ht
  cases hs : s.rest with
  | nil =>
    have HP := Lib.hid (show s.next = s from next_nil hs)
    obtain ⟨ao, cap, rfl, -, -, -⟩ := hrv
    rw [hs] at c0
    clear hs
    go_wp2_with fail
    have hf := HG.out.temp2 HT.out (.int .i64 q1) (.string ⟨q2.toArray⟩) (Nat.le_refl _)
    refine bodyPost_ret (v := .agg #[.int .i64 q1, .string ⟨q2.toArray⟩]) (results_tok (p := 2) (by kernel_rfl) _ _ w.heap.size _ _ _ rfl (hf.2.alloc _).blk) rfl ⟨rfl, tv1, ?_⟩
    rw [HP.out]
    exact hf.1.alloc _
  | cons a r =>
    obtain ⟨o, cap, rfl, h1, h2, d0, d1, hx⟩ := hrv.first (by rw [hs]; simp)
    have HX := Lib.hid hx
    rw [hs, List.length_cons] at c0 h1 HX
    clear hs hrv hx
    obtain ⟨n, hn⟩ : ∃ n, n = r.length + 1 := ⟨_, rfl⟩
    have hn1 : 0 < (n : Int) := by omega
    have hn3 : 0 < n := by omega
    have hn4 : 1 ≤ n := hn3
    have hn5 : 1 ≤ cap := by omega
    have hn6 : (1 : Int) ≤ (n : Int) := by omega
    rw [← hn] at c0 h1 HX
    clear hn d0 d1
    have key : ∀ ao cc, TkAt w1 P.tk (.slice ao (n - 1) cc) s.next.rest → ∃ tv', Go12 P w tv ((((w1.setCell ⟨P.r, 0, none⟩ (.slice ao (n - 1) cc)).setCell ⟨w.heap.size, 0, none⟩ (.int .i64 q1)).setCell ⟨w.heap.size, 1, none⟩ (.string ⟨q2.toArray⟩)).alloc (.cells #[.int .i64 q1, .string ⟨q2.toArray⟩] 47)) tv' s.next ∧
        Blk ((((w1.setCell ⟨P.r, 0, none⟩ (.slice ao (n - 1) cc)).setCell ⟨w.heap.size, 0, none⟩ (.int .i64 q1)).setCell ⟨w.heap.size, 1, none⟩ (.string ⟨q2.toArray⟩)).alloc (.cells #[.int .i64 q1, .string ⟨q2.toArray⟩] 47)) w.heap.size #[.int .i64 q1, .string ⟨q2.toArray⟩] 47 := fun ao cc hk => by
      have hg2 := HG.out.rd.rests _ hk
      have ht2 := HT.out.go hg2
      have hf := (HG.out.trans hg2).temp2 ht2 (.int .i64 q1) (.string ⟨q2.toArray⟩) (Nat.le_refl _)
      exact ⟨tv1, hf.1.alloc _, (hf.2.alloc _).blk⟩
    have KEY := Lib.hid key
    clear key
    go_wp2_with fail
    · subst h
      obtain ⟨tv', k1, k2⟩ := KEY.out (some ⟨P.tk, o, none⟩) 0 (HX.out _ (.inl rfl) (fun _ => by omega))
      exact bodyPost_ret (v := .agg #[.int .i64 q1, .string ⟨q2.toArray⟩]) (results_tok (p := 2) (by kernel_rfl) _ _ w.heap.size _ _ _ rfl k2) rfl ⟨rfl, tv', k1⟩
    · obtain ⟨tv', k1, k2⟩ := KEY.out (some ⟨P.tk, o + 2, none⟩) (cap - 1) (HX.out _ (.inr rfl) (fun h => by simp at h))
      exact bodyPost_ret (v := .agg #[.int .i64 q1, .string ⟨q2.toArray⟩]) (results_tok (p := 2) (by kernel_rfl) _ _ w.heap.size _ _ _ rfl k2) rfl ⟨rfl, tv', k1⟩
set_option maxHeartbeats 4000000 in
theorem ttake {w : World} {P : Pl} {tv : Value} {s : St} (h : RdT w P tv s) (l : ByteArray) :
    Calls Tryz.prog 47 #[.pointer (some ⟨P.r, 0, none⟩), .string l] w (To12 P w tv (.bool (decide (s.peek = sg l.data.toList))) (s.take l.data.toList)) := by
  obtain ⟨d, hd⟩ : ∃ d, d = decide (s.peek = sg l.data.toList) := ⟨_, rfl⟩
  have heq := fun w => equal_tokB s.peek 9 l w
  unfold sg at hd
  rw [← hd] at heq
  rw [show decide (s.peek = sg l.data.toList) = d from hd.symm]
  have HPK := Lib.hid (tpeek h)
  have HSG := Lib.hid (fun w => tsign l w)
  obtain ⟨q1, q2, hq⟩ : ∃ q1 q2, s.peek = (q1, q2) := ⟨_, _, rfl⟩
  have HD := Lib.hid hd
  rw [hq] at heq HPK
  unfold tokV at HPK
  dsimp only at HPK heq
  have HQ := Lib.hid hq
  clear h hd hq
  go_enter Tryz.func47, Tryz.ntmps47
  go_wp2_with fail
  refine HPK.out.mono ?_
  rintro e w1 ⟨rfl, tv1, hg1⟩
  have HG := Lib.hid hg1
  clear hg1
  go_wp2_with fail
  refine (HSG.out w1).mono ?_
  rintro e w2 ⟨rfl, hb2⟩
  have hg := HG.out.below hb2
  have HN := Lib.hid (tnext hg.rd)
  have HG2 := Lib.hid hg
  clear hb2 hg
  cases d with
  | true =>
    have HS := Lib.hid (show s.take l.data.toList = s.next from if_pos (of_decide_eq_true HD.out.symm))
    go_wp2_with fail
    refine HN.out.mono ?_
    rintro e w3 ⟨rfl, tv3, hg3⟩
    have HG3 := Lib.hid (HG2.out.trans hg3)
    clear hg3
    go_wp2_with fail
    go_ret
    rw [HS.out]
    exact ⟨rfl, tv3, HG3.out⟩
  | false =>
    have HS := Lib.hid (show s.take l.data.toList = s from if_neg (of_decide_eq_false HD.out.symm))
    go_wp2_with fail
    go_ret
    rw [HS.out]
    exact ⟨rfl, tv1, HG2.out⟩
set_option maxHeartbeats 4000000 in
theorem tneed {w : World} {P : Pl} {tv : Value} {s : St} (h : RdT w P tv s) (l : ByteArray) :
    Calls Tryz.prog 27 #[.pointer (some ⟨P.r, 0, none⟩), .string l] w (ToV12 P w tv (s.need l.data.toList)) := by
  obtain ⟨d, hd⟩ : ∃ d, d = decide (s.peek = sg l.data.toList) := ⟨_, rfl⟩
  have htk := ttake h l
  rw [← hd] at htk
  have HTK := Lib.hid htk
  have HD := Lib.hid hd
  clear h hd htk
  go_enter Tryz.func27, Tryz.ntmps27
  go_wp2_with fail
  refine HTK.out.mono ?_
  rintro e w1 ⟨rfl, tv1, hg1⟩
  have HG := Lib.hid hg1
  clear hg1
  cases d with
  | true =>
    have HS := Lib.hid (show s.need l.data.toList = s.take l.data.toList from (if_pos (of_decide_eq_true HD.out.symm)).trans (if_pos (of_decide_eq_true HD.out.symm)).symm)
    go_wp2_with fail
    refine bodyPost_end (results_none rfl _ _ _) rfl ⟨⟨_, rfl⟩, tv1, ?_⟩
    rw [HS.out]
    exact HG.out
  | false =>
    have HS := Lib.hid (show s.need l.data.toList = (s.take l.data.toList).fail 6 from by unfold St.need St.take; rw [if_neg (of_decide_eq_false HD.out.symm), if_neg (of_decide_eq_false HD.out.symm)])
    have HF := Lib.hid (tfail HG.out.rd 6)
    go_wp2_with fail
    refine HF.out.mono ?_
    rintro e w2 ⟨⟨v, rfl⟩, tv2, hg2⟩
    have HG2 := Lib.hid (HG.out.trans hg2)
    clear hg2
    go_wp2_with fail
    refine bodyPost_end (results_none rfl _ _ _) rfl ⟨⟨_, rfl⟩, tv2, ?_⟩
    rw [HS.out]
    exact HG2.out
end Go.Proofs.YtefkppeicmipbaaGreatDoor
