/- Package value's laws: the maker's inner expressions. -/
import Derived.Test.YtecomfhbdonkbaaGreatDoorCj
namespace Go.Proofs.YtecomfhbdonkbaaGreatDoor
open Go.RowKit Go.Shelf Flo
set_option maxRecDepth 100000
set_option linter.unusedVariables false
set_option linter.unusedSimpArgs false

theorem tbl_at {v : World} {q : Nat} {ty : TypeId} (h : Blk v q #[.int .i64 0, .int .i64 0, .int .i64 2, .int .i64 2, .int .i64 1, .int .i64 2, .int .i64 2, .int .i64 2, .int .i64 2, .int .i64 2, .int .i64 2, .int .i64 2, .int .i64 2, .int .i64 2, .int .i64 1, .int .i64 1, .int .i64 1, .int .i64 1, .int .i64 1, .int .i64 2, .int .i64 1, .int .i64 1, .int .i64 1, .int .i64 1, .int .i64 2, .int .i64 3, .int .i64 3] ty) {i : Nat} (h2 : 2 ≤ i) (h27 : i < 27) : ∃ k : Nat, v.cell? ⟨q, i, none⟩ = some (.int .i64 (k : Int)) ∧ 1 ≤ k ∧ k ≤ 3 := by
  have hc := h.cell i
  rcases (show i = 2 ∨ i = 3 ∨ i = 4 ∨ i = 5 ∨ i = 6 ∨ i = 7 ∨ i = 8 ∨ i = 9 ∨ i = 10 ∨ i = 11 ∨ i = 12 ∨ i = 13 ∨ i = 14 ∨ i = 15 ∨ i = 16 ∨ i = 17 ∨ i = 18 ∨ i = 19 ∨ i = 20 ∨ i = 21 ∨ i = 22 ∨ i = 23 ∨ i = 24 ∨ i = 25 ∨ i = 26 by omega) with rfl | rfl | rfl | rfl | rfl | rfl | rfl | rfl | rfl | rfl | rfl | rfl | rfl | rfl | rfl | rfl | rfl | rfl | rfl | rfl | rfl | rfl | rfl | rfl | rfl
  · exact ⟨2, hc, by decide, by decide⟩
  · exact ⟨2, hc, by decide, by decide⟩
  · exact ⟨1, hc, by decide, by decide⟩
  · exact ⟨2, hc, by decide, by decide⟩
  · exact ⟨2, hc, by decide, by decide⟩
  · exact ⟨2, hc, by decide, by decide⟩
  · exact ⟨2, hc, by decide, by decide⟩
  · exact ⟨2, hc, by decide, by decide⟩
  · exact ⟨2, hc, by decide, by decide⟩
  · exact ⟨2, hc, by decide, by decide⟩
  · exact ⟨2, hc, by decide, by decide⟩
  · exact ⟨2, hc, by decide, by decide⟩
  · exact ⟨1, hc, by decide, by decide⟩
  · exact ⟨1, hc, by decide, by decide⟩
  · exact ⟨1, hc, by decide, by decide⟩
  · exact ⟨1, hc, by decide, by decide⟩
  · exact ⟨1, hc, by decide, by decide⟩
  · exact ⟨2, hc, by decide, by decide⟩
  · exact ⟨1, hc, by decide, by decide⟩
  · exact ⟨1, hc, by decide, by decide⟩
  · exact ⟨1, hc, by decide, by decide⟩
  · exact ⟨1, hc, by decide, by decide⟩
  · exact ⟨2, hc, by decide, by decide⟩
  · exact ⟨3, hc, by decide, by decide⟩
  · exact ⟨3, hc, by decide, by decide⟩
theorem LoopE.new {m : Nat} {nsv : Value} {ns : List Int} {w z : World} {ge : Nat} {op : Int} {d : Nat} (h : MemR m nsv ns w [(ge, #[.int .i64 op, .int .i64 0, .string ⟨#[]⟩, .string ⟨#[]⟩, .string ⟨#[]⟩, .slice none 0 0], 28), (w.heap.size, #[.int .i64 0, .int .i64 0, .string ⟨#[]⟩, .string ⟨#[]⟩, .string ⟨#[]⟩, .slice none 0 0], 28)] z) : LoopE m nsv ns w ge op d [] (.slice none 0 0) z := ⟨h, OwG.nil _ _ _ _ _, fun p hp => absurd hp (by simp)⟩
theorem made_kids {m : Nat} {nsv : Value} {ns : List Int} {w z : World} {ge : Nat} {op : Int} {d : Nat} {Ls : List Kd} {kv : Value} (h : LoopE m nsv ns w ge op d Ls kv z) (hl : Ls.length ≤ 1000) (a0 a1 a2 a3 a4 a5 : Value) :
    KidsS w.heap.size ((((((z.setCell ⟨w.heap.size, 0, none⟩ a0).setCell ⟨w.heap.size, 1, none⟩ a1).setCell ⟨w.heap.size, 2, none⟩ a2).setCell ⟨w.heap.size, 3, none⟩ a3).setCell ⟨w.heap.size, 4, none⟩ a4).setCell ⟨w.heap.size, 5, none⟩ a5).heap.size
      ((((((z.setCell ⟨w.heap.size, 0, none⟩ a0).setCell ⟨w.heap.size, 1, none⟩ a1).setCell ⟨w.heap.size, 2, none⟩ a2).setCell ⟨w.heap.size, 3, none⟩ a3).setCell ⟨w.heap.size, 4, none⟩ a4).setCell ⟨w.heap.size, 5, none⟩ a5) (d + 1) kv (Ls.map (fun p : Kd => p.1)) := by
  have hm : Moved (fun k => k = w.heap.size) z _ := ((((((Moved.refl (fun k => k = w.heap.size) z).setCell ⟨w.heap.size, 0, none⟩ a0 (.inl rfl)).setCell ⟨w.heap.size, 1, none⟩ a1 (.inl rfl)).setCell ⟨w.heap.size, 2, none⟩ a2 (.inl rfl)).setCell ⟨w.heap.size, 3, none⟩ a3 (.inl rfl)).setCell ⟨w.heap.size, 4, none⟩ a4 (.inl rfl)).setCell ⟨w.heap.size, 5, none⟩ a5 (.inl rfl)
  have hsz : ((((((z.setCell ⟨w.heap.size, 0, none⟩ a0).setCell ⟨w.heap.size, 1, none⟩ a1).setCell ⟨w.heap.size, 2, none⟩ a2).setCell ⟨w.heap.size, 3, none⟩ a3).setCell ⟨w.heap.size, 4, none⟩ a4).setCell ⟨w.heap.size, 5, none⟩ a5).heap.size = z.heap.size := by simp
  generalize ((((((z.setCell ⟨w.heap.size, 0, none⟩ a0).setCell ⟨w.heap.size, 1, none⟩ a1).setCell ⟨w.heap.size, 2, none⟩ a2).setCell ⟨w.heap.size, 3, none⟩ a3).setCell ⟨w.heap.size, 4, none⟩ a4).setCell ⟨w.heap.size, 5, none⟩ a5) = z2 at hm hsz ⊢
  rw [hsz]
  have hge := h.ge_
  intro z' hz'
  have hzz : ∀ k, ge ≤ k → k < z.heap.size → z'.heap[k]? = z.heap[k]? := fun k h1 h2 => (hz' k (by omega) h2).trans (hm.block k h2 (by omega))
  by_cases h0 : Ls = []
  · subst h0
    obtain ⟨ao, cap, rfl, -⟩ := OwG.form h.own
    exact ⟨by simp, ao, cap, rfl, fun i hi => absurd hi (by simp)⟩
  · have hpos : 0 < Ls.length := List.length_pos_iff.2 h0
    obtain ⟨g, cap, e, h1, h2, h3, h4, h5, h6⟩ := OwG.at h.own kidC_len hpos
    obtain ⟨g', cap', cur, e', -, -, hb, -⟩ := OwG.open h.own hpos
    rw [e] at e'
    simp only [Value.slice.injEq, Option.some.injEq, Addr.mk.injEq, and_true, true_and] at e'
    obtain ⟨rfl, rfl⟩ := e'
    refine ⟨by rw [List.length_map]; exact hl, some ⟨g, 0, none⟩, cap, by rw [e, List.length_map], fun i hi => ?_⟩
    have hi' : i < Ls.length := by simpa using hi
    obtain ⟨k1, k2, lo, hi2, k3, k4, k5, k6⟩ := h.kids _ (List.getElem_mem hi')
    have hgz := hzz g (by omega) h2
    have hc := fun j u (hu : (kidC Ls[i])[j]? = some u) => (World.cell?_of_block (a := ⟨g, i * 6 + j, none⟩) hgz).trans (h6 i hi' j u hu)
    rw [List.getElem_map]
    refine ⟨g, 0, kvO Ls[i], rfl, h2, ⟨_, _, hgz.trans hb⟩, ?_, k1, k2, (k5 z' (fun k a b => hzz k (by omega) (by omega))).mono k4⟩
    rw [Nat.zero_add]
    exact ⟨hc 0 _ rfl, hc 1 _ rfl, hc 2 _ rfl, hc 3 _ rfl, hc 4 _ rfl, hc 5 _ rfl⟩
set_option maxHeartbeats 8000000 in
theorem mexpr_succ (m : Nat) (nsv : Value) (ns : List Int) (d : Nat) (w : World) (h : MkI m nsv ns w) (hd10 : d ≤ 10) (IH : ∀ wz, MkI m nsv ns wz → Calls Tryz.prog 26 #[.pointer (some ⟨m, 0, none⟩), .int .i64 (d : Int)] wz fun e' w' => MadeP m nsv ns wz d e' w') : Calls Tryz.prog 26 #[.pointer (some ⟨m, 0, none⟩), .int .i64 ((d : Int) + 1)] w fun e' w' => MadeP m nsv ns w (d + 1) e' w' := by
  have HIH := Lib.hid IH
  have hwd : IntKind.i64.wrap (d : Int) = (d : Int) := by rw [IntKind.wrap_i64]; omega
  clear IH
  have HNX := Lib.hid (fun wz hz => mnext_any m nsv ns wz hz)
  have HTM : Hid (∀ k, In64 k → ∃ t : Tm, t.Sm ∧ ∀ wz, Calls Tryz.prog 16 #[.int .i64 k] wz fun e w' => e = .returned (.agg #[.int .i64 t.k, .string t.s, .string t.l, .string t.t]) ∧ Below wz.heap.size wz w') := Lib.hid (fun k hk => ⟨termT k, termT_sm k, fun wz => term15_any k wz hk.1 hk.2⟩)
  have hm0 := (MemR.nil h).alloc w.heap.size rfl #[.int .i64 0, .int .i64 0, .string ⟨#[]⟩, .string ⟨#[]⟩, .string ⟨#[]⟩, .slice none 0 0] 28
  have HM0 := Lib.hid hm0
  clear hm0 h
  go_enter Tryz.func26, Tryz.ntmps26
  go_upto_region 1 with fail
  generalize World.alloc w _ = v0 at HM0 ⊢
  go_wp2_with fail
  refine (HNX.out _ HM0.out.mki).mono ?_
  rintro e v1 ⟨n, rfl, hn, hmk, hmv⟩
  have HM1 := Lib.hid (HM0.out.step hmv hmk)
  have HN := Lib.hid hn
  clear hmk hmv hn
  obtain ⟨j3, hj3, hj3l⟩ := rest_nat n 3 (by decide)
  have HW3 := Lib.hid (fun wz => within15_any n 3 wz (by decide) (by decide) HN.out.1 HN.out.2)
  rw [hj3] at HW3
  clear hj3 hj3l
  have hdd : decide ((d : Int) + 1 ≤ 0) = false := decide_eq_false (by omega)
  go_wp2_with fail
  refine (HW3.out _).mono ?_
  rintro e wz ⟨rfl, rfl⟩
  clear hdd
  cases j3 with
  | zero =>
    go_wp2_with fail
    refine (HNX.out _ HM1.out.mki).mono ?_
    rintro e v2 ⟨k2, rfl, hk2, hmk, hmv⟩
    have HM2 := Lib.hid (HM1.out.step hmv hmk)
    have HIk2 := Lib.hid hk2
    clear hmk hmv hk2
    obtain ⟨t, hts, htc⟩ := HTM.out k2 HIk2.out
    have HTS := Lib.hid hts
    clear hts
    go_wp2_with fail
    refine (htc _).mono ?_
    rintro e v3 ⟨rfl, hbb⟩
    have HM3 := Lib.hid (HM2.out.below hbb)
    clear hbb htc
    go_upto_region 4 with fail
    have hmm := HM3.out.alloc v3.heap.size rfl #[.int .i64 t.k, .string t.s, .string t.l, .string t.t] 25
    generalize World.alloc v3 _ = v4 at hmm ⊢
    generalize v3.heap.size = gt at hmm ⊢
    have HM4 := Lib.hid hmm
    clear hmm
    obtain ⟨hq3, hd⟩ := quo_in n 3 HN.out (by decide)
    obtain ⟨j2, hj2, hj2l⟩ := rest_nat (n.tdiv 3) 2 (by decide)
    have HW2 := Lib.hid (fun wz => within15_any (n.tdiv 3) 2 wz (by decide) (by decide) hd.1 hd.2)
    rw [hj2] at HW2
    have hJ2 := Lib.hid hj2l
    clear hd hj2 hj2l
    go_wp2_with fail
    refine (HW2.out _).mono ?_
    rintro e wz ⟨rfl, rfl⟩
    clear hq3
    cases j2 with
    | zero =>
      go_wp2_with fail
      have hmm := HM4.out.alloc v4.heap.size rfl #[.string ⟨#[97]⟩, .string ⟨#[98]⟩, .string ⟨#[99]⟩, .string ⟨#[100]⟩] 9
      generalize World.alloc v4 _ = v5 at hmm ⊢
      generalize v4.heap.size = gq at hmm ⊢
      have HM5 := Lib.hid hmm
      clear hmm
      refine (HNX.out _ HM5.out.mki).mono ?_
      rintro e v6 ⟨k3, rfl, hk3, hmk, hmv⟩
      have HM6 := Lib.hid (HM5.out.step hmv hmk)
      have HIk3 := Lib.hid hk3
      clear hmk hmv hk3
      obtain ⟨j4, hj4, hj4l⟩ := rest_nat k3 4 (by decide)
      have HW4 := Lib.hid (fun wz => within15_any k3 4 wz (by decide) (by decide) HIk3.out.1 HIk3.out.2)
      rw [hj4] at HW4
      obtain ⟨s, hsc, hss⟩ := names_at (HM6.out.at_ 0 rfl) (show j4 < 4 by omega)
      have hj40 : (0 : Int) ≤ (j4 : Int) := by omega
      have HSS := Lib.hid hss
      clear hj4 hss
      go_wp2_with fail
      refine (HW4.out _).mono ?_
      rintro e wz ⟨rfl, rfl⟩
      have xbt := HM6.out.at_ 1 rfl
      have qt0 := xbt.cell 0
      have qt1 := xbt.cell 1
      have qt2 := xbt.cell 2
      have qt3 := xbt.cell 3
      simp only [List.getElem?_toArray, List.getElem?_cons_zero, List.getElem?_cons_succ] at qt0 qt1 qt2 qt3
      have qtf0 := xbt.frozen 0
      have qtf1 := xbt.frozen 1
      have qtf2 := xbt.frozen 2
      have qtf3 := xbt.frozen 3
      clear xbt
      go_upto_region 6 with fail
      have hmm := ((((HM6.out.drop).set 0 (.int .i64 4)).set 1 (.string s)).set 2 (.string ⟨#[]⟩)).set 3 (.string ⟨#[]⟩)
      generalize World.setCell (World.setCell (World.setCell (World.setCell v6 _ _) _ _) _ _) _ _ = v7 at hmm ⊢
      obtain ⟨x, hx⟩ : ∃ x : Tm, x = ⟨4, s, ⟨#[]⟩, ⟨#[]⟩⟩ := ⟨_, rfl⟩
      have HM7 : Hid (MemR m nsv ns w [(gt, #[.int .i64 x.k, .string x.s, .string x.l, .string x.t], 25), (w.heap.size, #[.int .i64 0, .int .i64 0, .string ⟨#[]⟩, .string ⟨#[]⟩, .string ⟨#[]⟩, .slice none 0 0], 28)] v7) := Lib.hid (by rw [hx]; exact hmm)
      have HXS : Hid x.Sm := Lib.hid (by rw [hx]; exact ⟨(show -9223372036854775808 ≤ (4 : Int) ∧ (4 : Int) ≤ 9223372036854775807 from by decide), HSS.out, (show (⟨#[]⟩ : ByteArray).size ≤ 200 from by decide), (show (⟨#[]⟩ : ByteArray).size ≤ 200 from by decide)⟩)
      clear hmm hx hsc hj40 hj4l
      clear qt0 qt1 qt2 qt3 qtf0 qtf1 qtf2 qtf3
      have xbt := HM7.out.at_ 0 rfl
      have qt0 := xbt.cell 0
      have qt1 := xbt.cell 1
      have qt2 := xbt.cell 2
      have qt3 := xbt.cell 3
      simp only [List.getElem?_toArray, List.getElem?_cons_zero, List.getElem?_cons_succ] at qt0 qt1 qt2 qt3
      clear xbt
      have xba := HM7.out.at_ 1 rfl
      have qa0 := xba.cell 0
      have qa1 := xba.cell 1
      have qa2 := xba.cell 2
      have qa3 := xba.cell 3
      have qa4 := xba.cell 4
      have qa5 := xba.cell 5
      simp only [List.getElem?_toArray, List.getElem?_cons_zero, List.getElem?_cons_succ] at qa0 qa1 qa2 qa3 qa4 qa5
      have qaf0 := xba.frozen 0
      have qaf1 := xba.frozen 1
      have qaf2 := xba.frozen 2
      have qaf3 := xba.frozen 3
      have qaf4 := xba.frozen 4
      have qaf5 := xba.frozen 5
      clear xba
      have hfin := ((((((HM7.out.drop.set 0 (.int .i64 1)).set 1 (.int .i64 x.k)).set 2 (.string x.s)).set 3 (.string x.l)).set 4 (.string x.t)).set 5 (.slice none 0 0))
      have HFIN := Lib.hid (And.intro hfin.mki hfin.mv)
      clear hfin
      go_wp2_with fail
      refine bodyPost_ret (v := .agg #[.int .i64 1, .int .i64 x.k, .string x.s, .string x.l, .string x.t, .slice none 0 0]) (by simp [results, Tryz.results26, go_sem, qa0, qa1, qa2, qa3, qa4, qa5]) rfl ⟨.mk 1 x [], .slice none 0 0, rfl, (show opIn 1 from opIn_one), HXS.out, (fun z' _ => kids_nil _ _ _), HFIN.out.1, HFIN.out.2⟩
    | succ j2 =>
      have hne : (((j2 + 1 : Nat) : Int) == 0) = false := beq_eq_false_iff_ne.2 (by omega)
      go_upto_region 6 with fail
      have HXS := HTS
      generalize t = x at HM4 HXS ⊢
      have xbt := HM4.out.at_ 0 rfl
      have qt0 := xbt.cell 0
      have qt1 := xbt.cell 1
      have qt2 := xbt.cell 2
      have qt3 := xbt.cell 3
      simp only [List.getElem?_toArray, List.getElem?_cons_zero, List.getElem?_cons_succ] at qt0 qt1 qt2 qt3
      clear xbt
      have xba := HM4.out.at_ 1 rfl
      have qa0 := xba.cell 0
      have qa1 := xba.cell 1
      have qa2 := xba.cell 2
      have qa3 := xba.cell 3
      have qa4 := xba.cell 4
      have qa5 := xba.cell 5
      simp only [List.getElem?_toArray, List.getElem?_cons_zero, List.getElem?_cons_succ] at qa0 qa1 qa2 qa3 qa4 qa5
      have qaf0 := xba.frozen 0
      have qaf1 := xba.frozen 1
      have qaf2 := xba.frozen 2
      have qaf3 := xba.frozen 3
      have qaf4 := xba.frozen 4
      have qaf5 := xba.frozen 5
      clear xba
      have hfin := ((((((HM4.out.drop.set 0 (.int .i64 1)).set 1 (.int .i64 x.k)).set 2 (.string x.s)).set 3 (.string x.l)).set 4 (.string x.t)).set 5 (.slice none 0 0))
      have HFIN := Lib.hid (And.intro hfin.mki hfin.mv)
      clear hfin
      go_wp2_with fail
      refine bodyPost_ret (v := .agg #[.int .i64 1, .int .i64 x.k, .string x.s, .string x.l, .string x.t, .slice none 0 0]) (by simp [results, Tryz.results26, go_sem, qa0, qa1, qa2, qa3, qa4, qa5]) rfl ⟨.mk 1 x [], .slice none 0 0, rfl, (show opIn 1 from opIn_one), HXS.out, (fun z' _ => kids_nil _ _ _), HFIN.out.1, HFIN.out.2⟩
  | succ j3 =>
    have hne : (((j3 + 1 : Nat) : Int) == 0) = false := beq_eq_false_iff_ne.2 (by omega)
    go_wp2_with fail
    clear hne
    refine (HNX.out _ HM1.out.mki).mono ?_
    rintro e v2 ⟨o, rfl, ho, hmk, hmv⟩
    have HM2 := Lib.hid (HM1.out.step hmv hmk)
    have HIo := Lib.hid ho
    clear hmk hmv ho
    obtain ⟨j5, hj5, hj5l⟩ := rest_nat o 25 (by decide)
    have HW5 := Lib.hid (fun wz => within15_any o 25 wz (by decide) (by decide) HIo.out.1 HIo.out.2)
    rw [hj5] at HW5
    clear hj5
    go_wp2_with fail
    refine (HW5.out _).mono ?_
    rintro e wz ⟨rfl, rfl⟩
    go_upto_region 8 with fail
    obtain ⟨i0, hi0⟩ : ∃ i : Nat, i = j5 + 2 := ⟨_, rfl⟩
    have ho : (2 + (j5 : Int)) = (i0 : Int) := by omega
    rw [ho]
    have hi2 : 2 ≤ i0 := by omega
    have hi27 : i0 < 27 := by omega
    clear ho hi0 hj5l
    have hmm := HM2.out.alloc v2.heap.size rfl #[.int .i64 (i0 : Int), .int .i64 0, .string ⟨#[]⟩, .string ⟨#[]⟩, .string ⟨#[]⟩, .slice none 0 0] 28
    generalize World.alloc v2 _ = v3 at hmm ⊢
    generalize v2.heap.size = ge at hmm ⊢
    have HM3 := Lib.hid hmm
    clear hmm
    have hmm := HM3.out.alloc v3.heap.size rfl #[.int .i64 0, .int .i64 0, .int .i64 2, .int .i64 2, .int .i64 1, .int .i64 2, .int .i64 2, .int .i64 2, .int .i64 2, .int .i64 2, .int .i64 2, .int .i64 2, .int .i64 2, .int .i64 2, .int .i64 1, .int .i64 1, .int .i64 1, .int .i64 1, .int .i64 1, .int .i64 2, .int .i64 1, .int .i64 1, .int .i64 1, .int .i64 1, .int .i64 2, .int .i64 3, .int .i64 3] 3
    have xe := hmm.at_ 1 rfl
    have qe0 := xe.cell 0
    simp only [List.getElem?_toArray, List.getElem?_cons_zero, List.getElem?_cons_succ] at qe0
    obtain ⟨kn, hkc, hk1, hk3⟩ := tbl_at (hmm.at_ 0 rfl) hi2 hi27
    have hi0 : (0 : Int) ≤ (i0 : Int) := by omega
    have hi27' : (i0 : Int) < 27 := by omega
    go_upto_region 9 with fail
    generalize World.alloc v3 _ = v4 at hmm ⊢
    have HM4 := Lib.hid hmm.drop
    clear hmm xe qe0 hkc hi0 hi27'
    obtain ⟨hq3, hd⟩ := quo_in n 3 HN.out (by decide)
    obtain ⟨j7, hj7, hj7l⟩ := rest_nat (n.tdiv 3) 30 (by decide)
    have HW30 := Lib.hid (fun wz => within15_any (n.tdiv 3) 30 wz (by decide) (by decide) hd.1 hd.2)
    rw [hj7] at HW30
    clear hd hj7
    go_wp2_with fail
    refine (HW30.out _).mono ?_
    rintro e wz ⟨rfl, rfl⟩
    clear hq3
    by_cases h29 : j7 = 29
    · have e29 : ((j7 : Int) == 29) = true := beq_iff_eq.2 (by omega)
      have e28 : ((j7 : Int) == 28) = false := beq_eq_false_iff_ne.2 (by omega)
      have e27 : ((j7 : Int) == 27) = false := beq_eq_false_iff_ne.2 (by omega)
      clear h29 hj7l
      go_wp2_with fail
      obtain ⟨kf, hkf⟩ : ∃ k : Nat, k = kn + 1 := ⟨_, rfl⟩
      have hkf' : (kn : Int) + 1 = (kf : Int) := by omega
      rw [hkf']
      have hkf4 : kf ≤ 4 := by omega
      clear hkf hkf' e29 e28 e27 hk1 hk3
      have HL0 := Lib.hid (LoopE.new (d := d) HM4.out)
      go_loopw [10] (fun i wx => ∃ (j : Nat) (kv : Value) (Ls : List Kd), i = .int .i64 (j : Int) ∧ j ≤ kf ∧ Ls.length = j ∧ LoopE m nsv ns w ge (i0 : Int) d Ls kv wx) (fun i _ => kf - (intOf i).toNat)
      case atStart => exact ⟨0, _, [], rfl, Nat.zero_le _, rfl, HL0.out⟩
      case round =>
        obtain ⟨j, kv, Ls, rfl, hj, hlen, hl⟩ := hrel
        have HL := Lib.hid hl
        clear hl
        by_cases hjl : j < kf
        · have hlti : (j : Int) < (kf : Int) := by omega
          go_upto_region 19 with fail
          have HLZ := Lib.hid (HL.out.below (z' := World.drew wr) (below_drew15 _))
          refine wp_region_any (by kernel_rfl) ?_
          change wpAny _ _ _ _ _ _ _ (World.drew _)
          refine wpAny_of_T (C := fun z => z.cell? ⟨ge, 5, none⟩ = some kv) (T := [9]) _ _ _ _ ?_
          have hS : (fun z => z.cell? ⟨ge, 5, none⟩ = some kv) (World.drew wr) := (HLZ.out.mem.at_ 0 rfl).cell 5
          generalize World.drew wr = u0 at hS HLZ ⊢
          refine wpAnyT_take (i := 0) (oi := ⟨some 69, _, _, _, _, _⟩) (v := ?_) rfl (by kernel_rfl) (by kernel_rfl) (by kernel_rfl) (by kernel_rfl) (fun _ _ _ h => h) (Or.inl ⟨by simp only [Region.wanted], ?_⟩) hS ?_
          rotate_left
          · intro wz hSw
            clear hSw
            go_simp
            first | done | with_reducible rfl
          try simp only [Act.put, List.setIfInBounds_toArray, List.set_cons_zero, List.set_cons_succ]
          refine wpAnyT_take (i := 1) (oi := ⟨some 70, _, _, _, _, _⟩) (v := ?_) rfl (by kernel_rfl) (by kernel_rfl) (by kernel_rfl) (by kernel_rfl) (fun _ _ _ h => h) (Or.inl ⟨by simp only [Region.wanted], ?_⟩) hS ?_
          rotate_left
          · intro wz hSw; have q0 := hSw
            clear hSw
            go_simp
            first | done | with_reducible rfl
          try simp only [Act.put, List.setIfInBounds_toArray, List.set_cons_zero, List.set_cons_succ]
          refine wpAnyT_take (i := 2) (oi := ⟨some 71, _, _, _, _, _⟩) (v := ?_) rfl (by kernel_rfl) (by kernel_rfl) (by kernel_rfl) (by kernel_rfl) (fun _ _ _ h => h) (Or.inl ⟨by simp only [Region.wanted], ?_⟩) hS ?_
          rotate_left
          · intro wz hSw
            clear hSw
            go_simp
            first | done | with_reducible rfl
          try simp only [Act.put, List.setIfInBounds_toArray, List.set_cons_zero, List.set_cons_succ]
          refine wpAnyT_take (i := 3) (oi := ⟨some 72, _, _, _, _, _⟩) (v := ?_) rfl (by kernel_rfl) (by kernel_rfl) (by kernel_rfl) (by kernel_rfl) (fun _ _ _ h => h) (Or.inl ⟨by simp only [Region.wanted], ?_⟩) hS ?_
          rotate_left
          · intro wz hSw
            clear hSw
            go_simp
            first | done | with_reducible rfl
          try simp only [Act.put, List.setIfInBounds_toArray, List.set_cons_zero, List.set_cons_succ]
          refine wpAnyT_take (i := 4) (oi := ⟨some 73, _, _, _, _, _⟩) (v := ?_) rfl (by kernel_rfl) (by kernel_rfl) (by kernel_rfl) (by kernel_rfl) (fun _ _ _ h => h) (Or.inl ⟨by simp only [Region.wanted], ?_⟩) hS ?_
          rotate_left
          · intro wz hSw
            clear hSw
            go_simp
            first | done | with_reducible rfl
          try simp only [Act.put, List.setIfInBounds_toArray, List.set_cons_zero, List.set_cons_succ]
          refine wpAnyT_ready (rs := [5]) (by kernel_rfl) (by simp) ?_
          refine AllReadyT.cons (o := ⟨some 74, _, _, _, _, _⟩) rfl (fun KK hK => ?_) (AllReadyT.nil)
          · go_simp
            refine (HIH.out _ HLZ.out.mem.mki).mono ?_
            rintro e u1 ⟨x, kv', rfl, hop, hsm, hkk, hmk, hmv⟩
            obtain ⟨-, xo, xc, rfl⟩ := hkk.now.form
            have HL1 := Lib.hid (HLZ.out.step hmv hmk)
            have HOP := Lib.hid (And.intro hop hsm)
            have HKK := Lib.hid hkk
            clear hop hsm hkk hmk hmv
            go_wp2_with fail
            refine hK.out _ _ ((HL1.out.mem.at_ 0 rfl).cell 5) (fun hS => ?_)
            clear hK KK
            try simp only [Act.put, List.setIfInBounds_toArray, List.set_cons_zero, List.set_cons_succ]
            refine wpAnyT_ready (rs := [6]) (by kernel_rfl) (by simp) ?_
            refine AllReadyT.cons (o := ⟨some 75, _, _, _, _, _⟩) rfl (fun KK hK => ?_) (AllReadyT.nil)
            · have hal : Below u1.heap.size u1 (u1.alloc (.cells #[.int .i64 x.op, .int .i64 x.tm.k, .string x.tm.s, .string x.tm.l, .string x.tm.t, .slice xo x.kids.length xc] 28)) := (Below.refl _ _).alloc (Nat.le_refl _) _
              have hbx : Blk (u1.alloc (.cells #[.int .i64 x.op, .int .i64 x.tm.k, .string x.tm.s, .string x.tm.l, .string x.tm.t, .slice xo x.kids.length xc] 28)) u1.heap.size #[.int .i64 x.op, .int .i64 x.tm.k, .string x.tm.s, .string x.tm.l, .string x.tm.t, .slice xo x.kids.length xc] 28 := Blk.new _ _ _
              go_simp
              generalize World.alloc u1 _ = u2 at hal hbx ⊢
              have HL2 := Lib.hid (HL1.out.below hal)
              have HAL := Lib.hid hal
              have HBX := Lib.hid hbx
              clear hal hbx
              refine hK.out _ _ ((HL2.out.mem.at_ 0 rfl).cell 5) (fun hS => ?_)
              clear hK KK
              try simp only [Act.put, List.setIfInBounds_toArray, List.set_cons_zero, List.set_cons_succ]
              refine wpAnyT_ready (rs := [7]) (by kernel_rfl) (by simp) ?_
              refine AllReadyT.cons (o := ⟨some 76, _, _, _, _, _⟩) rfl (fun KK hK => ?_) (AllReadyT.nil)
              · have HGE := Lib.hid HL2.out.ge_
                refine step_append_g rfl _ _ 26 28 kidC 6 88 _ rfl Tryz.underlying26 Tryz.infoExpr rfl (by decide) (by decide) kidC_len kidC_one (ge + 1) HGE.out.1 kv Ls rfl HL2.out.own u1.heap.size rfl (⟨x, xo, x.kids.length, xc⟩ : Kd) HBX.out (j + 1) (by rw [hlen]) (by omega) ?_
                intro g cap u3 ho hc1 hc2 hgr hsame hlt2
                have hp : opIn x.op ∧ x.tm.Sm ∧ ∃ lo hi, ge < lo ∧ hi ≤ u2.heap.size ∧ KidsS lo hi u2 d (kvO (⟨x, xo, x.kids.length, xc⟩ : Kd)) x.kids ∧ ∀ q, kv.ownBlock = some q → q < lo ∨ hi ≤ q :=
                  ⟨HOP.out.1, HOP.out.2, u0.heap.size, u1.heap.size, HLZ.out.ge_.1, HAL.out.size, HKK.out.keep (fun k _ hk2 => HAL.out.block k hk2), fun q hq => .inl (OwG.lt HLZ.out.own q hq).2⟩
                have hput := HL2.out.put hgr ho (fun q hq => by
                  have hgq : g = q := Option.some.inj hq
                  subst hgq
                  rcases hsame with h | h
                  · exact .inl h
                  · exact .inr (by omega)) hp
                have hlow : Below (ge + 1) u2 u3 := ⟨hgr.os, hgr.tape, hgr.output, hgr.size, fun i hi => hgr.block i (by have := HGE.out.1; omega) (fun e => by have := (OwG.lt HL2.out.own i e.symm).1; omega)⟩
                have HP := Lib.hid hput
                have HLOW := Lib.hid hlow
                have y0 : u3.frozen? ⟨ge, 5, none⟩ = false := (show Blk u3 ge _ _ from (hlow.block ge (Nat.lt_succ_self _)).trans (HL2.out.mem.at_ 0 rfl)).frozen 5
                clear hp hput hlow ho hgr hsame
                refine hK.out _ _ ((HLOW.out.cell (p := ⟨ge, 5, none⟩) (Nat.lt_succ_self ge)).trans hS) (fun hS => ?_)
                clear hK KK
                try simp only [Act.put, List.setIfInBounds_toArray, List.set_cons_zero, List.set_cons_succ]
                refine wpAnyT_take (i := 8) (oi := ⟨some 77, _, _, _, _, _⟩) (v := ?_) rfl (by kernel_rfl) (by kernel_rfl) (by kernel_rfl) (by kernel_rfl) (fun _ _ _ h => h) (Or.inl ⟨by simp only [Region.wanted], ?_⟩) hS ?_
                rotate_left
                · intro wz hSw
                  clear hSw
                  go_simp
                  first | done | with_reducible rfl
                try simp only [Act.put, List.setIfInBounds_toArray, List.set_cons_zero, List.set_cons_succ]
                refine wpAnyT_ready (rs := [9]) (by kernel_rfl) (by simp) ?_
                refine AllReadyT.last (o := ⟨none, _, _, _, _, _⟩) rfl (by kernel_rfl) (fun KK hK => ?_) (AllReadyT.nil)
                · have c5 := hS
                  go_simp
                  refine hK.out _ _ ?_
                  clear hK KK
                  try simp only [Act.put, List.setIfInBounds_toArray, List.set_cons_zero, List.set_cons_succ]
                  refine wpAnyT_done (by kernel_rfl) ?_ _
                  generalize World.setCell u3 _ _ = u4 at HP ⊢
                  clear hS c5 y0 hlt2
                  go_wp2_with fail
                  go_roundw
                  case rel => exact ⟨j + 1, _, _, by go_num, by omega, by rw [List.length_append, hlen]; rfl, HP.out⟩
                  case measure => simp [intOf]; omega
        · have hlti : ¬ (j : Int) < (kf : Int) := by omega
          subst hlen
          obtain ⟨kao, kcap, rfl, -⟩ := OwG.form HL.out.own
          have xbe := HL.out.mem.at_ 0 rfl
          have qe0 := xbe.cell 0
          have qe1 := xbe.cell 1
          have qe2 := xbe.cell 2
          have qe3 := xbe.cell 3
          have qe4 := xbe.cell 4
          have qe5 := xbe.cell 5
          simp only [List.getElem?_toArray, List.getElem?_cons_zero, List.getElem?_cons_succ] at qe0 qe1 qe2 qe3 qe4 qe5
          clear xbe
          have xba := HL.out.mem.at_ 1 rfl
          have qa0 := xba.cell 0
          have qa1 := xba.cell 1
          have qa2 := xba.cell 2
          have qa3 := xba.cell 3
          have qa4 := xba.cell 4
          have qa5 := xba.cell 5
          simp only [List.getElem?_toArray, List.getElem?_cons_zero, List.getElem?_cons_succ] at qa0 qa1 qa2 qa3 qa4 qa5
          have qaf0 := xba.frozen 0
          have qaf1 := xba.frozen 1
          have qaf2 := xba.frozen 2
          have qaf3 := xba.frozen 3
          have qaf4 := xba.frozen 4
          have qaf5 := xba.frozen 5
          clear xba
          have hmf := HL.out.mem.drop
          have hfin := ((((((hmf.set 0 (.int .i64 (i0 : Int))).set 1 (.int .i64 0)).set 2 (.string ⟨#[]⟩)).set 3 (.string ⟨#[]⟩)).set 4 (.string ⟨#[]⟩)).set 5 (.slice kao Ls.length kcap))
          have hks := made_kids HL.out (by omega) (.int .i64 (i0 : Int)) (.int .i64 0) (.string ⟨#[]⟩) (.string ⟨#[]⟩) (.string ⟨#[]⟩) (.slice kao Ls.length kcap)
          have HFIN := Lib.hid (And.intro (And.intro hfin.mki hfin.mv) hks)
          clear hfin hmf hks
          go_wp2_with fail
          refine bodyPost_ret (v := .agg #[.int .i64 (i0 : Int), .int .i64 0, .string ⟨#[]⟩, .string ⟨#[]⟩, .string ⟨#[]⟩, .slice kao Ls.length kcap]) (by simp [results, Tryz.results26, go_sem, qa0, qa1, qa2, qa3, qa4, qa5]) rfl ⟨.mk (i0 : Int) zeroT (Ls.map (fun p : Kd => p.1)), .slice kao Ls.length kcap, rfl, (show opIn (i0 : Int) from by unfold opIn; omega), zeroT_sm, HFIN.out.2, HFIN.out.1.1, HFIN.out.1.2⟩
    by_cases h28 : j7 = 28
    · have e29 : ((j7 : Int) == 29) = false := beq_eq_false_iff_ne.2 (by omega)
      have e28 : ((j7 : Int) == 28) = true := beq_iff_eq.2 (by omega)
      have e27 : ((j7 : Int) == 27) = false := beq_eq_false_iff_ne.2 (by omega)
      clear h28 h29 hj7l
      go_wp2_with fail
      obtain ⟨kf, hkf⟩ : ∃ k : Nat, k = kn - 1 := ⟨_, rfl⟩
      have hkf' : (kn : Int) - 1 = (kf : Int) := by omega
      rw [hkf']
      have hkf4 : kf ≤ 4 := by omega
      clear hkf hkf' e29 e28 e27 hk1 hk3
      have HL0 := Lib.hid (LoopE.new (d := d) HM4.out)
      go_loopw [10] (fun i wx => ∃ (j : Nat) (kv : Value) (Ls : List Kd), i = .int .i64 (j : Int) ∧ j ≤ kf ∧ Ls.length = j ∧ LoopE m nsv ns w ge (i0 : Int) d Ls kv wx) (fun i _ => kf - (intOf i).toNat)
      case atStart => exact ⟨0, _, [], rfl, Nat.zero_le _, rfl, HL0.out⟩
      case round =>
        obtain ⟨j, kv, Ls, rfl, hj, hlen, hl⟩ := hrel
        have HL := Lib.hid hl
        clear hl
        by_cases hjl : j < kf
        · have hlti : (j : Int) < (kf : Int) := by omega
          go_upto_region 19 with fail
          have HLZ := Lib.hid (HL.out.below (z' := World.drew wr) (below_drew15 _))
          refine wp_region_any (by kernel_rfl) ?_
          change wpAny _ _ _ _ _ _ _ (World.drew _)
          refine wpAny_of_T (C := fun z => z.cell? ⟨ge, 5, none⟩ = some kv) (T := [9]) _ _ _ _ ?_
          have hS : (fun z => z.cell? ⟨ge, 5, none⟩ = some kv) (World.drew wr) := (HLZ.out.mem.at_ 0 rfl).cell 5
          generalize World.drew wr = u0 at hS HLZ ⊢
          refine wpAnyT_take (i := 0) (oi := ⟨some 69, _, _, _, _, _⟩) (v := ?_) rfl (by kernel_rfl) (by kernel_rfl) (by kernel_rfl) (by kernel_rfl) (fun _ _ _ h => h) (Or.inl ⟨by simp only [Region.wanted], ?_⟩) hS ?_
          rotate_left
          · intro wz hSw
            clear hSw
            go_simp
            first | done | with_reducible rfl
          try simp only [Act.put, List.setIfInBounds_toArray, List.set_cons_zero, List.set_cons_succ]
          refine wpAnyT_take (i := 1) (oi := ⟨some 70, _, _, _, _, _⟩) (v := ?_) rfl (by kernel_rfl) (by kernel_rfl) (by kernel_rfl) (by kernel_rfl) (fun _ _ _ h => h) (Or.inl ⟨by simp only [Region.wanted], ?_⟩) hS ?_
          rotate_left
          · intro wz hSw; have q0 := hSw
            clear hSw
            go_simp
            first | done | with_reducible rfl
          try simp only [Act.put, List.setIfInBounds_toArray, List.set_cons_zero, List.set_cons_succ]
          refine wpAnyT_take (i := 2) (oi := ⟨some 71, _, _, _, _, _⟩) (v := ?_) rfl (by kernel_rfl) (by kernel_rfl) (by kernel_rfl) (by kernel_rfl) (fun _ _ _ h => h) (Or.inl ⟨by simp only [Region.wanted], ?_⟩) hS ?_
          rotate_left
          · intro wz hSw
            clear hSw
            go_simp
            first | done | with_reducible rfl
          try simp only [Act.put, List.setIfInBounds_toArray, List.set_cons_zero, List.set_cons_succ]
          refine wpAnyT_take (i := 3) (oi := ⟨some 72, _, _, _, _, _⟩) (v := ?_) rfl (by kernel_rfl) (by kernel_rfl) (by kernel_rfl) (by kernel_rfl) (fun _ _ _ h => h) (Or.inl ⟨by simp only [Region.wanted], ?_⟩) hS ?_
          rotate_left
          · intro wz hSw
            clear hSw
            go_simp
            first | done | with_reducible rfl
          try simp only [Act.put, List.setIfInBounds_toArray, List.set_cons_zero, List.set_cons_succ]
          refine wpAnyT_take (i := 4) (oi := ⟨some 73, _, _, _, _, _⟩) (v := ?_) rfl (by kernel_rfl) (by kernel_rfl) (by kernel_rfl) (by kernel_rfl) (fun _ _ _ h => h) (Or.inl ⟨by simp only [Region.wanted], ?_⟩) hS ?_
          rotate_left
          · intro wz hSw
            clear hSw
            go_simp
            first | done | with_reducible rfl
          try simp only [Act.put, List.setIfInBounds_toArray, List.set_cons_zero, List.set_cons_succ]
          refine wpAnyT_ready (rs := [5]) (by kernel_rfl) (by simp) ?_
          refine AllReadyT.cons (o := ⟨some 74, _, _, _, _, _⟩) rfl (fun KK hK => ?_) (AllReadyT.nil)
          · go_simp
            refine (HIH.out _ HLZ.out.mem.mki).mono ?_
            rintro e u1 ⟨x, kv', rfl, hop, hsm, hkk, hmk, hmv⟩
            obtain ⟨-, xo, xc, rfl⟩ := hkk.now.form
            have HL1 := Lib.hid (HLZ.out.step hmv hmk)
            have HOP := Lib.hid (And.intro hop hsm)
            have HKK := Lib.hid hkk
            clear hop hsm hkk hmk hmv
            go_wp2_with fail
            refine hK.out _ _ ((HL1.out.mem.at_ 0 rfl).cell 5) (fun hS => ?_)
            clear hK KK
            try simp only [Act.put, List.setIfInBounds_toArray, List.set_cons_zero, List.set_cons_succ]
            refine wpAnyT_ready (rs := [6]) (by kernel_rfl) (by simp) ?_
            refine AllReadyT.cons (o := ⟨some 75, _, _, _, _, _⟩) rfl (fun KK hK => ?_) (AllReadyT.nil)
            · have hal : Below u1.heap.size u1 (u1.alloc (.cells #[.int .i64 x.op, .int .i64 x.tm.k, .string x.tm.s, .string x.tm.l, .string x.tm.t, .slice xo x.kids.length xc] 28)) := (Below.refl _ _).alloc (Nat.le_refl _) _
              have hbx : Blk (u1.alloc (.cells #[.int .i64 x.op, .int .i64 x.tm.k, .string x.tm.s, .string x.tm.l, .string x.tm.t, .slice xo x.kids.length xc] 28)) u1.heap.size #[.int .i64 x.op, .int .i64 x.tm.k, .string x.tm.s, .string x.tm.l, .string x.tm.t, .slice xo x.kids.length xc] 28 := Blk.new _ _ _
              go_simp
              generalize World.alloc u1 _ = u2 at hal hbx ⊢
              have HL2 := Lib.hid (HL1.out.below hal)
              have HAL := Lib.hid hal
              have HBX := Lib.hid hbx
              clear hal hbx
              refine hK.out _ _ ((HL2.out.mem.at_ 0 rfl).cell 5) (fun hS => ?_)
              clear hK KK
              try simp only [Act.put, List.setIfInBounds_toArray, List.set_cons_zero, List.set_cons_succ]
              refine wpAnyT_ready (rs := [7]) (by kernel_rfl) (by simp) ?_
              refine AllReadyT.cons (o := ⟨some 76, _, _, _, _, _⟩) rfl (fun KK hK => ?_) (AllReadyT.nil)
              · have HGE := Lib.hid HL2.out.ge_
                refine step_append_g rfl _ _ 26 28 kidC 6 88 _ rfl Tryz.underlying26 Tryz.infoExpr rfl (by decide) (by decide) kidC_len kidC_one (ge + 1) HGE.out.1 kv Ls rfl HL2.out.own u1.heap.size rfl (⟨x, xo, x.kids.length, xc⟩ : Kd) HBX.out (j + 1) (by rw [hlen]) (by omega) ?_
                intro g cap u3 ho hc1 hc2 hgr hsame hlt2
                have hp : opIn x.op ∧ x.tm.Sm ∧ ∃ lo hi, ge < lo ∧ hi ≤ u2.heap.size ∧ KidsS lo hi u2 d (kvO (⟨x, xo, x.kids.length, xc⟩ : Kd)) x.kids ∧ ∀ q, kv.ownBlock = some q → q < lo ∨ hi ≤ q :=
                  ⟨HOP.out.1, HOP.out.2, u0.heap.size, u1.heap.size, HLZ.out.ge_.1, HAL.out.size, HKK.out.keep (fun k _ hk2 => HAL.out.block k hk2), fun q hq => .inl (OwG.lt HLZ.out.own q hq).2⟩
                have hput := HL2.out.put hgr ho (fun q hq => by
                  have hgq : g = q := Option.some.inj hq
                  subst hgq
                  rcases hsame with h | h
                  · exact .inl h
                  · exact .inr (by omega)) hp
                have hlow : Below (ge + 1) u2 u3 := ⟨hgr.os, hgr.tape, hgr.output, hgr.size, fun i hi => hgr.block i (by have := HGE.out.1; omega) (fun e => by have := (OwG.lt HL2.out.own i e.symm).1; omega)⟩
                have HP := Lib.hid hput
                have HLOW := Lib.hid hlow
                have y0 : u3.frozen? ⟨ge, 5, none⟩ = false := (show Blk u3 ge _ _ from (hlow.block ge (Nat.lt_succ_self _)).trans (HL2.out.mem.at_ 0 rfl)).frozen 5
                clear hp hput hlow ho hgr hsame
                refine hK.out _ _ ((HLOW.out.cell (p := ⟨ge, 5, none⟩) (Nat.lt_succ_self ge)).trans hS) (fun hS => ?_)
                clear hK KK
                try simp only [Act.put, List.setIfInBounds_toArray, List.set_cons_zero, List.set_cons_succ]
                refine wpAnyT_take (i := 8) (oi := ⟨some 77, _, _, _, _, _⟩) (v := ?_) rfl (by kernel_rfl) (by kernel_rfl) (by kernel_rfl) (by kernel_rfl) (fun _ _ _ h => h) (Or.inl ⟨by simp only [Region.wanted], ?_⟩) hS ?_
                rotate_left
                · intro wz hSw
                  clear hSw
                  go_simp
                  first | done | with_reducible rfl
                try simp only [Act.put, List.setIfInBounds_toArray, List.set_cons_zero, List.set_cons_succ]
                refine wpAnyT_ready (rs := [9]) (by kernel_rfl) (by simp) ?_
                refine AllReadyT.last (o := ⟨none, _, _, _, _, _⟩) rfl (by kernel_rfl) (fun KK hK => ?_) (AllReadyT.nil)
                · have c5 := hS
                  go_simp
                  refine hK.out _ _ ?_
                  clear hK KK
                  try simp only [Act.put, List.setIfInBounds_toArray, List.set_cons_zero, List.set_cons_succ]
                  refine wpAnyT_done (by kernel_rfl) ?_ _
                  generalize World.setCell u3 _ _ = u4 at HP ⊢
                  clear hS c5 y0 hlt2
                  go_wp2_with fail
                  go_roundw
                  case rel => exact ⟨j + 1, _, _, by go_num, by omega, by rw [List.length_append, hlen]; rfl, HP.out⟩
                  case measure => simp [intOf]; omega
        · have hlti : ¬ (j : Int) < (kf : Int) := by omega
          subst hlen
          obtain ⟨kao, kcap, rfl, -⟩ := OwG.form HL.out.own
          have xbe := HL.out.mem.at_ 0 rfl
          have qe0 := xbe.cell 0
          have qe1 := xbe.cell 1
          have qe2 := xbe.cell 2
          have qe3 := xbe.cell 3
          have qe4 := xbe.cell 4
          have qe5 := xbe.cell 5
          simp only [List.getElem?_toArray, List.getElem?_cons_zero, List.getElem?_cons_succ] at qe0 qe1 qe2 qe3 qe4 qe5
          clear xbe
          have xba := HL.out.mem.at_ 1 rfl
          have qa0 := xba.cell 0
          have qa1 := xba.cell 1
          have qa2 := xba.cell 2
          have qa3 := xba.cell 3
          have qa4 := xba.cell 4
          have qa5 := xba.cell 5
          simp only [List.getElem?_toArray, List.getElem?_cons_zero, List.getElem?_cons_succ] at qa0 qa1 qa2 qa3 qa4 qa5
          have qaf0 := xba.frozen 0
          have qaf1 := xba.frozen 1
          have qaf2 := xba.frozen 2
          have qaf3 := xba.frozen 3
          have qaf4 := xba.frozen 4
          have qaf5 := xba.frozen 5
          clear xba
          have hmf := HL.out.mem.drop
          have hfin := ((((((hmf.set 0 (.int .i64 (i0 : Int))).set 1 (.int .i64 0)).set 2 (.string ⟨#[]⟩)).set 3 (.string ⟨#[]⟩)).set 4 (.string ⟨#[]⟩)).set 5 (.slice kao Ls.length kcap))
          have hks := made_kids HL.out (by omega) (.int .i64 (i0 : Int)) (.int .i64 0) (.string ⟨#[]⟩) (.string ⟨#[]⟩) (.string ⟨#[]⟩) (.slice kao Ls.length kcap)
          have HFIN := Lib.hid (And.intro (And.intro hfin.mki hfin.mv) hks)
          clear hfin hmf hks
          go_wp2_with fail
          refine bodyPost_ret (v := .agg #[.int .i64 (i0 : Int), .int .i64 0, .string ⟨#[]⟩, .string ⟨#[]⟩, .string ⟨#[]⟩, .slice kao Ls.length kcap]) (by simp [results, Tryz.results26, go_sem, qa0, qa1, qa2, qa3, qa4, qa5]) rfl ⟨.mk (i0 : Int) zeroT (Ls.map (fun p : Kd => p.1)), .slice kao Ls.length kcap, rfl, (show opIn (i0 : Int) from by unfold opIn; omega), zeroT_sm, HFIN.out.2, HFIN.out.1.1, HFIN.out.1.2⟩
    have e29 : ((j7 : Int) == 29) = false := beq_eq_false_iff_ne.2 (by omega)
    have e28 : ((j7 : Int) == 28) = false := beq_eq_false_iff_ne.2 (by omega)
    have hkf4 : kn ≤ 4 := by omega
    by_cases h27 : j7 = 27
    · have e27 : ((j7 : Int) == 27) = true := beq_iff_eq.2 (by omega)
      clear h27 h28 h29 hj7l hk1 hk3
      obtain ⟨hq90, hd90⟩ := quo_in n 90 HN.out (by decide)
      obtain ⟨j8, hj8, hj8l⟩ := rest_nat (n.tdiv 90) 5 (by decide)
      have HW9 := Lib.hid (fun wz => within15_any (n.tdiv 90) 5 wz (by decide) (by decide) hd90.1 hd90.2)
      rw [hj8] at HW9
      clear hd90 hj8
      go_wp2_with fail
      refine (HW9.out _).mono ?_
      rintro e wz ⟨rfl, rfl⟩
      clear hq90
      have xbe := HM4.out.at_ 0 rfl
      have qe0 := xbe.cell 0
      have qe1 := xbe.cell 1
      have qe2 := xbe.cell 2
      have qe3 := xbe.cell 3
      have qe4 := xbe.cell 4
      have qe5 := xbe.cell 5
      simp only [List.getElem?_toArray, List.getElem?_cons_zero, List.getElem?_cons_succ] at qe0 qe1 qe2 qe3 qe4 qe5
      have qef0 := xbe.frozen 0
      have qef1 := xbe.frozen 1
      have qef2 := xbe.frozen 2
      have qef3 := xbe.frozen 3
      have qef4 := xbe.frozen 4
      have qef5 := xbe.frozen 5
      clear xbe
      go_upto_region 16 with fail
      have hmm := HM4.out.set 0 (.int .i64 (27 + (j8 : Int)))
      generalize World.setCell v4 _ _ = v5 at hmm ⊢
      have HM5 : Hid (MemR m nsv ns w [(ge, #[.int .i64 (27 + (j8 : Int)), .int .i64 0, .string ⟨#[]⟩, .string ⟨#[]⟩, .string ⟨#[]⟩, .slice none 0 0], 28), (w.heap.size, #[.int .i64 0, .int .i64 0, .string ⟨#[]⟩, .string ⟨#[]⟩, .string ⟨#[]⟩, .slice none 0 0], 28)] v5) := Lib.hid hmm
      clear hmm e29 e28 e27
      clear qe0 qe1 qe2 qe3 qe4 qe5 qef0 qef1 qef2 qef3 qef4 qef5
      go_wp2_with fail
      have hj8o : opIn (27 + (j8 : Int)) := by unfold opIn; omega
      clear hj8l
      have HL0 := Lib.hid (LoopE.new (d := d) HM5.out)
      go_loopw [10] (fun i wx => ∃ (j : Nat) (kv : Value) (Ls : List Kd), i = .int .i64 (j : Int) ∧ j ≤ kn ∧ Ls.length = j ∧ LoopE m nsv ns w ge (27 + (j8 : Int)) d Ls kv wx) (fun i _ => kn - (intOf i).toNat)
      case atStart => exact ⟨0, _, [], rfl, Nat.zero_le _, rfl, HL0.out⟩
      case round =>
        obtain ⟨j, kv, Ls, rfl, hj, hlen, hl⟩ := hrel
        have HL := Lib.hid hl
        clear hl
        by_cases hjl : j < kn
        · have hlti : (j : Int) < (kn : Int) := by omega
          go_upto_region 19 with fail
          have HLZ := Lib.hid (HL.out.below (z' := World.drew wr) (below_drew15 _))
          refine wp_region_any (by kernel_rfl) ?_
          change wpAny _ _ _ _ _ _ _ (World.drew _)
          refine wpAny_of_T (C := fun z => z.cell? ⟨ge, 5, none⟩ = some kv) (T := [9]) _ _ _ _ ?_
          have hS : (fun z => z.cell? ⟨ge, 5, none⟩ = some kv) (World.drew wr) := (HLZ.out.mem.at_ 0 rfl).cell 5
          generalize World.drew wr = u0 at hS HLZ ⊢
          refine wpAnyT_take (i := 0) (oi := ⟨some 69, _, _, _, _, _⟩) (v := ?_) rfl (by kernel_rfl) (by kernel_rfl) (by kernel_rfl) (by kernel_rfl) (fun _ _ _ h => h) (Or.inl ⟨by simp only [Region.wanted], ?_⟩) hS ?_
          rotate_left
          · intro wz hSw
            clear hSw
            go_simp
            first | done | with_reducible rfl
          try simp only [Act.put, List.setIfInBounds_toArray, List.set_cons_zero, List.set_cons_succ]
          refine wpAnyT_take (i := 1) (oi := ⟨some 70, _, _, _, _, _⟩) (v := ?_) rfl (by kernel_rfl) (by kernel_rfl) (by kernel_rfl) (by kernel_rfl) (fun _ _ _ h => h) (Or.inl ⟨by simp only [Region.wanted], ?_⟩) hS ?_
          rotate_left
          · intro wz hSw; have q0 := hSw
            clear hSw
            go_simp
            first | done | with_reducible rfl
          try simp only [Act.put, List.setIfInBounds_toArray, List.set_cons_zero, List.set_cons_succ]
          refine wpAnyT_take (i := 2) (oi := ⟨some 71, _, _, _, _, _⟩) (v := ?_) rfl (by kernel_rfl) (by kernel_rfl) (by kernel_rfl) (by kernel_rfl) (fun _ _ _ h => h) (Or.inl ⟨by simp only [Region.wanted], ?_⟩) hS ?_
          rotate_left
          · intro wz hSw
            clear hSw
            go_simp
            first | done | with_reducible rfl
          try simp only [Act.put, List.setIfInBounds_toArray, List.set_cons_zero, List.set_cons_succ]
          refine wpAnyT_take (i := 3) (oi := ⟨some 72, _, _, _, _, _⟩) (v := ?_) rfl (by kernel_rfl) (by kernel_rfl) (by kernel_rfl) (by kernel_rfl) (fun _ _ _ h => h) (Or.inl ⟨by simp only [Region.wanted], ?_⟩) hS ?_
          rotate_left
          · intro wz hSw
            clear hSw
            go_simp
            first | done | with_reducible rfl
          try simp only [Act.put, List.setIfInBounds_toArray, List.set_cons_zero, List.set_cons_succ]
          refine wpAnyT_take (i := 4) (oi := ⟨some 73, _, _, _, _, _⟩) (v := ?_) rfl (by kernel_rfl) (by kernel_rfl) (by kernel_rfl) (by kernel_rfl) (fun _ _ _ h => h) (Or.inl ⟨by simp only [Region.wanted], ?_⟩) hS ?_
          rotate_left
          · intro wz hSw
            clear hSw
            go_simp
            first | done | with_reducible rfl
          try simp only [Act.put, List.setIfInBounds_toArray, List.set_cons_zero, List.set_cons_succ]
          refine wpAnyT_ready (rs := [5]) (by kernel_rfl) (by simp) ?_
          refine AllReadyT.cons (o := ⟨some 74, _, _, _, _, _⟩) rfl (fun KK hK => ?_) (AllReadyT.nil)
          · go_simp
            refine (HIH.out _ HLZ.out.mem.mki).mono ?_
            rintro e u1 ⟨x, kv', rfl, hop, hsm, hkk, hmk, hmv⟩
            obtain ⟨-, xo, xc, rfl⟩ := hkk.now.form
            have HL1 := Lib.hid (HLZ.out.step hmv hmk)
            have HOP := Lib.hid (And.intro hop hsm)
            have HKK := Lib.hid hkk
            clear hop hsm hkk hmk hmv
            go_wp2_with fail
            refine hK.out _ _ ((HL1.out.mem.at_ 0 rfl).cell 5) (fun hS => ?_)
            clear hK KK
            try simp only [Act.put, List.setIfInBounds_toArray, List.set_cons_zero, List.set_cons_succ]
            refine wpAnyT_ready (rs := [6]) (by kernel_rfl) (by simp) ?_
            refine AllReadyT.cons (o := ⟨some 75, _, _, _, _, _⟩) rfl (fun KK hK => ?_) (AllReadyT.nil)
            · have hal : Below u1.heap.size u1 (u1.alloc (.cells #[.int .i64 x.op, .int .i64 x.tm.k, .string x.tm.s, .string x.tm.l, .string x.tm.t, .slice xo x.kids.length xc] 28)) := (Below.refl _ _).alloc (Nat.le_refl _) _
              have hbx : Blk (u1.alloc (.cells #[.int .i64 x.op, .int .i64 x.tm.k, .string x.tm.s, .string x.tm.l, .string x.tm.t, .slice xo x.kids.length xc] 28)) u1.heap.size #[.int .i64 x.op, .int .i64 x.tm.k, .string x.tm.s, .string x.tm.l, .string x.tm.t, .slice xo x.kids.length xc] 28 := Blk.new _ _ _
              go_simp
              generalize World.alloc u1 _ = u2 at hal hbx ⊢
              have HL2 := Lib.hid (HL1.out.below hal)
              have HAL := Lib.hid hal
              have HBX := Lib.hid hbx
              clear hal hbx
              refine hK.out _ _ ((HL2.out.mem.at_ 0 rfl).cell 5) (fun hS => ?_)
              clear hK KK
              try simp only [Act.put, List.setIfInBounds_toArray, List.set_cons_zero, List.set_cons_succ]
              refine wpAnyT_ready (rs := [7]) (by kernel_rfl) (by simp) ?_
              refine AllReadyT.cons (o := ⟨some 76, _, _, _, _, _⟩) rfl (fun KK hK => ?_) (AllReadyT.nil)
              · have HGE := Lib.hid HL2.out.ge_
                refine step_append_g rfl _ _ 26 28 kidC 6 88 _ rfl Tryz.underlying26 Tryz.infoExpr rfl (by decide) (by decide) kidC_len kidC_one (ge + 1) HGE.out.1 kv Ls rfl HL2.out.own u1.heap.size rfl (⟨x, xo, x.kids.length, xc⟩ : Kd) HBX.out (j + 1) (by rw [hlen]) (by omega) ?_
                intro g cap u3 ho hc1 hc2 hgr hsame hlt2
                have hp : opIn x.op ∧ x.tm.Sm ∧ ∃ lo hi, ge < lo ∧ hi ≤ u2.heap.size ∧ KidsS lo hi u2 d (kvO (⟨x, xo, x.kids.length, xc⟩ : Kd)) x.kids ∧ ∀ q, kv.ownBlock = some q → q < lo ∨ hi ≤ q :=
                  ⟨HOP.out.1, HOP.out.2, u0.heap.size, u1.heap.size, HLZ.out.ge_.1, HAL.out.size, HKK.out.keep (fun k _ hk2 => HAL.out.block k hk2), fun q hq => .inl (OwG.lt HLZ.out.own q hq).2⟩
                have hput := HL2.out.put hgr ho (fun q hq => by
                  have hgq : g = q := Option.some.inj hq
                  subst hgq
                  rcases hsame with h | h
                  · exact .inl h
                  · exact .inr (by omega)) hp
                have hlow : Below (ge + 1) u2 u3 := ⟨hgr.os, hgr.tape, hgr.output, hgr.size, fun i hi => hgr.block i (by have := HGE.out.1; omega) (fun e => by have := (OwG.lt HL2.out.own i e.symm).1; omega)⟩
                have HP := Lib.hid hput
                have HLOW := Lib.hid hlow
                have y0 : u3.frozen? ⟨ge, 5, none⟩ = false := (show Blk u3 ge _ _ from (hlow.block ge (Nat.lt_succ_self _)).trans (HL2.out.mem.at_ 0 rfl)).frozen 5
                clear hp hput hlow ho hgr hsame
                refine hK.out _ _ ((HLOW.out.cell (p := ⟨ge, 5, none⟩) (Nat.lt_succ_self ge)).trans hS) (fun hS => ?_)
                clear hK KK
                try simp only [Act.put, List.setIfInBounds_toArray, List.set_cons_zero, List.set_cons_succ]
                refine wpAnyT_take (i := 8) (oi := ⟨some 77, _, _, _, _, _⟩) (v := ?_) rfl (by kernel_rfl) (by kernel_rfl) (by kernel_rfl) (by kernel_rfl) (fun _ _ _ h => h) (Or.inl ⟨by simp only [Region.wanted], ?_⟩) hS ?_
                rotate_left
                · intro wz hSw
                  clear hSw
                  go_simp
                  first | done | with_reducible rfl
                try simp only [Act.put, List.setIfInBounds_toArray, List.set_cons_zero, List.set_cons_succ]
                refine wpAnyT_ready (rs := [9]) (by kernel_rfl) (by simp) ?_
                refine AllReadyT.last (o := ⟨none, _, _, _, _, _⟩) rfl (by kernel_rfl) (fun KK hK => ?_) (AllReadyT.nil)
                · have c5 := hS
                  go_simp
                  refine hK.out _ _ ?_
                  clear hK KK
                  try simp only [Act.put, List.setIfInBounds_toArray, List.set_cons_zero, List.set_cons_succ]
                  refine wpAnyT_done (by kernel_rfl) ?_ _
                  generalize World.setCell u3 _ _ = u4 at HP ⊢
                  clear hS c5 y0 hlt2
                  go_wp2_with fail
                  go_roundw
                  case rel => exact ⟨j + 1, _, _, by go_num, by omega, by rw [List.length_append, hlen]; rfl, HP.out⟩
                  case measure => simp [intOf]; omega
        · have hlti : ¬ (j : Int) < (kn : Int) := by omega
          subst hlen
          obtain ⟨kao, kcap, rfl, -⟩ := OwG.form HL.out.own
          have xbe := HL.out.mem.at_ 0 rfl
          have qe0 := xbe.cell 0
          have qe1 := xbe.cell 1
          have qe2 := xbe.cell 2
          have qe3 := xbe.cell 3
          have qe4 := xbe.cell 4
          have qe5 := xbe.cell 5
          simp only [List.getElem?_toArray, List.getElem?_cons_zero, List.getElem?_cons_succ] at qe0 qe1 qe2 qe3 qe4 qe5
          clear xbe
          have xba := HL.out.mem.at_ 1 rfl
          have qa0 := xba.cell 0
          have qa1 := xba.cell 1
          have qa2 := xba.cell 2
          have qa3 := xba.cell 3
          have qa4 := xba.cell 4
          have qa5 := xba.cell 5
          simp only [List.getElem?_toArray, List.getElem?_cons_zero, List.getElem?_cons_succ] at qa0 qa1 qa2 qa3 qa4 qa5
          have qaf0 := xba.frozen 0
          have qaf1 := xba.frozen 1
          have qaf2 := xba.frozen 2
          have qaf3 := xba.frozen 3
          have qaf4 := xba.frozen 4
          have qaf5 := xba.frozen 5
          clear xba
          have hmf := HL.out.mem.drop
          have hfin := ((((((hmf.set 0 (.int .i64 (27 + (j8 : Int)))).set 1 (.int .i64 0)).set 2 (.string ⟨#[]⟩)).set 3 (.string ⟨#[]⟩)).set 4 (.string ⟨#[]⟩)).set 5 (.slice kao Ls.length kcap))
          have hks := made_kids HL.out (by omega) (.int .i64 (27 + (j8 : Int))) (.int .i64 0) (.string ⟨#[]⟩) (.string ⟨#[]⟩) (.string ⟨#[]⟩) (.slice kao Ls.length kcap)
          have HFIN := Lib.hid (And.intro (And.intro hfin.mki hfin.mv) hks)
          clear hfin hmf hks
          go_wp2_with fail
          refine bodyPost_ret (v := .agg #[.int .i64 (27 + (j8 : Int)), .int .i64 0, .string ⟨#[]⟩, .string ⟨#[]⟩, .string ⟨#[]⟩, .slice kao Ls.length kcap]) (by simp [results, Tryz.results26, go_sem, qa0, qa1, qa2, qa3, qa4, qa5]) rfl ⟨.mk (27 + (j8 : Int)) zeroT (Ls.map (fun p : Kd => p.1)), .slice kao Ls.length kcap, rfl, hj8o, zeroT_sm, HFIN.out.2, HFIN.out.1.1, HFIN.out.1.2⟩
    · have e27 : ((j7 : Int) == 27) = false := beq_eq_false_iff_ne.2 (by omega)
      clear h27 h28 h29 hj7l hk1 hk3
      go_wp2_with fail
      clear e29 e28 e27
      have HL0 := Lib.hid (LoopE.new (d := d) HM4.out)
      go_loopw [10] (fun i wx => ∃ (j : Nat) (kv : Value) (Ls : List Kd), i = .int .i64 (j : Int) ∧ j ≤ kn ∧ Ls.length = j ∧ LoopE m nsv ns w ge (i0 : Int) d Ls kv wx) (fun i _ => kn - (intOf i).toNat)
      case atStart => exact ⟨0, _, [], rfl, Nat.zero_le _, rfl, HL0.out⟩
      case round =>
        obtain ⟨j, kv, Ls, rfl, hj, hlen, hl⟩ := hrel
        have HL := Lib.hid hl
        clear hl
        by_cases hjl : j < kn
        · have hlti : (j : Int) < (kn : Int) := by omega
          go_upto_region 19 with fail
          have HLZ := Lib.hid (HL.out.below (z' := World.drew wr) (below_drew15 _))
          refine wp_region_any (by kernel_rfl) ?_
          change wpAny _ _ _ _ _ _ _ (World.drew _)
          refine wpAny_of_T (C := fun z => z.cell? ⟨ge, 5, none⟩ = some kv) (T := [9]) _ _ _ _ ?_
          have hS : (fun z => z.cell? ⟨ge, 5, none⟩ = some kv) (World.drew wr) := (HLZ.out.mem.at_ 0 rfl).cell 5
          generalize World.drew wr = u0 at hS HLZ ⊢
          refine wpAnyT_take (i := 0) (oi := ⟨some 69, _, _, _, _, _⟩) (v := ?_) rfl (by kernel_rfl) (by kernel_rfl) (by kernel_rfl) (by kernel_rfl) (fun _ _ _ h => h) (Or.inl ⟨by simp only [Region.wanted], ?_⟩) hS ?_
          rotate_left
          · intro wz hSw
            clear hSw
            go_simp
            first | done | with_reducible rfl
          try simp only [Act.put, List.setIfInBounds_toArray, List.set_cons_zero, List.set_cons_succ]
          refine wpAnyT_take (i := 1) (oi := ⟨some 70, _, _, _, _, _⟩) (v := ?_) rfl (by kernel_rfl) (by kernel_rfl) (by kernel_rfl) (by kernel_rfl) (fun _ _ _ h => h) (Or.inl ⟨by simp only [Region.wanted], ?_⟩) hS ?_
          rotate_left
          · intro wz hSw; have q0 := hSw
            clear hSw
            go_simp
            first | done | with_reducible rfl
          try simp only [Act.put, List.setIfInBounds_toArray, List.set_cons_zero, List.set_cons_succ]
          refine wpAnyT_take (i := 2) (oi := ⟨some 71, _, _, _, _, _⟩) (v := ?_) rfl (by kernel_rfl) (by kernel_rfl) (by kernel_rfl) (by kernel_rfl) (fun _ _ _ h => h) (Or.inl ⟨by simp only [Region.wanted], ?_⟩) hS ?_
          rotate_left
          · intro wz hSw
            clear hSw
            go_simp
            first | done | with_reducible rfl
          try simp only [Act.put, List.setIfInBounds_toArray, List.set_cons_zero, List.set_cons_succ]
          refine wpAnyT_take (i := 3) (oi := ⟨some 72, _, _, _, _, _⟩) (v := ?_) rfl (by kernel_rfl) (by kernel_rfl) (by kernel_rfl) (by kernel_rfl) (fun _ _ _ h => h) (Or.inl ⟨by simp only [Region.wanted], ?_⟩) hS ?_
          rotate_left
          · intro wz hSw
            clear hSw
            go_simp
            first | done | with_reducible rfl
          try simp only [Act.put, List.setIfInBounds_toArray, List.set_cons_zero, List.set_cons_succ]
          refine wpAnyT_take (i := 4) (oi := ⟨some 73, _, _, _, _, _⟩) (v := ?_) rfl (by kernel_rfl) (by kernel_rfl) (by kernel_rfl) (by kernel_rfl) (fun _ _ _ h => h) (Or.inl ⟨by simp only [Region.wanted], ?_⟩) hS ?_
          rotate_left
          · intro wz hSw
            clear hSw
            go_simp
            first | done | with_reducible rfl
          try simp only [Act.put, List.setIfInBounds_toArray, List.set_cons_zero, List.set_cons_succ]
          refine wpAnyT_ready (rs := [5]) (by kernel_rfl) (by simp) ?_
          refine AllReadyT.cons (o := ⟨some 74, _, _, _, _, _⟩) rfl (fun KK hK => ?_) (AllReadyT.nil)
          · go_simp
            refine (HIH.out _ HLZ.out.mem.mki).mono ?_
            rintro e u1 ⟨x, kv', rfl, hop, hsm, hkk, hmk, hmv⟩
            obtain ⟨-, xo, xc, rfl⟩ := hkk.now.form
            have HL1 := Lib.hid (HLZ.out.step hmv hmk)
            have HOP := Lib.hid (And.intro hop hsm)
            have HKK := Lib.hid hkk
            clear hop hsm hkk hmk hmv
            go_wp2_with fail
            refine hK.out _ _ ((HL1.out.mem.at_ 0 rfl).cell 5) (fun hS => ?_)
            clear hK KK
            try simp only [Act.put, List.setIfInBounds_toArray, List.set_cons_zero, List.set_cons_succ]
            refine wpAnyT_ready (rs := [6]) (by kernel_rfl) (by simp) ?_
            refine AllReadyT.cons (o := ⟨some 75, _, _, _, _, _⟩) rfl (fun KK hK => ?_) (AllReadyT.nil)
            · have hal : Below u1.heap.size u1 (u1.alloc (.cells #[.int .i64 x.op, .int .i64 x.tm.k, .string x.tm.s, .string x.tm.l, .string x.tm.t, .slice xo x.kids.length xc] 28)) := (Below.refl _ _).alloc (Nat.le_refl _) _
              have hbx : Blk (u1.alloc (.cells #[.int .i64 x.op, .int .i64 x.tm.k, .string x.tm.s, .string x.tm.l, .string x.tm.t, .slice xo x.kids.length xc] 28)) u1.heap.size #[.int .i64 x.op, .int .i64 x.tm.k, .string x.tm.s, .string x.tm.l, .string x.tm.t, .slice xo x.kids.length xc] 28 := Blk.new _ _ _
              go_simp
              generalize World.alloc u1 _ = u2 at hal hbx ⊢
              have HL2 := Lib.hid (HL1.out.below hal)
              have HAL := Lib.hid hal
              have HBX := Lib.hid hbx
              clear hal hbx
              refine hK.out _ _ ((HL2.out.mem.at_ 0 rfl).cell 5) (fun hS => ?_)
              clear hK KK
              try simp only [Act.put, List.setIfInBounds_toArray, List.set_cons_zero, List.set_cons_succ]
              refine wpAnyT_ready (rs := [7]) (by kernel_rfl) (by simp) ?_
              refine AllReadyT.cons (o := ⟨some 76, _, _, _, _, _⟩) rfl (fun KK hK => ?_) (AllReadyT.nil)
              · have HGE := Lib.hid HL2.out.ge_
                refine step_append_g rfl _ _ 26 28 kidC 6 88 _ rfl Tryz.underlying26 Tryz.infoExpr rfl (by decide) (by decide) kidC_len kidC_one (ge + 1) HGE.out.1 kv Ls rfl HL2.out.own u1.heap.size rfl (⟨x, xo, x.kids.length, xc⟩ : Kd) HBX.out (j + 1) (by rw [hlen]) (by omega) ?_
                intro g cap u3 ho hc1 hc2 hgr hsame hlt2
                have hp : opIn x.op ∧ x.tm.Sm ∧ ∃ lo hi, ge < lo ∧ hi ≤ u2.heap.size ∧ KidsS lo hi u2 d (kvO (⟨x, xo, x.kids.length, xc⟩ : Kd)) x.kids ∧ ∀ q, kv.ownBlock = some q → q < lo ∨ hi ≤ q :=
                  ⟨HOP.out.1, HOP.out.2, u0.heap.size, u1.heap.size, HLZ.out.ge_.1, HAL.out.size, HKK.out.keep (fun k _ hk2 => HAL.out.block k hk2), fun q hq => .inl (OwG.lt HLZ.out.own q hq).2⟩
                have hput := HL2.out.put hgr ho (fun q hq => by
                  have hgq : g = q := Option.some.inj hq
                  subst hgq
                  rcases hsame with h | h
                  · exact .inl h
                  · exact .inr (by omega)) hp
                have hlow : Below (ge + 1) u2 u3 := ⟨hgr.os, hgr.tape, hgr.output, hgr.size, fun i hi => hgr.block i (by have := HGE.out.1; omega) (fun e => by have := (OwG.lt HL2.out.own i e.symm).1; omega)⟩
                have HP := Lib.hid hput
                have HLOW := Lib.hid hlow
                have y0 : u3.frozen? ⟨ge, 5, none⟩ = false := (show Blk u3 ge _ _ from (hlow.block ge (Nat.lt_succ_self _)).trans (HL2.out.mem.at_ 0 rfl)).frozen 5
                clear hp hput hlow ho hgr hsame
                refine hK.out _ _ ((HLOW.out.cell (p := ⟨ge, 5, none⟩) (Nat.lt_succ_self ge)).trans hS) (fun hS => ?_)
                clear hK KK
                try simp only [Act.put, List.setIfInBounds_toArray, List.set_cons_zero, List.set_cons_succ]
                refine wpAnyT_take (i := 8) (oi := ⟨some 77, _, _, _, _, _⟩) (v := ?_) rfl (by kernel_rfl) (by kernel_rfl) (by kernel_rfl) (by kernel_rfl) (fun _ _ _ h => h) (Or.inl ⟨by simp only [Region.wanted], ?_⟩) hS ?_
                rotate_left
                · intro wz hSw
                  clear hSw
                  go_simp
                  first | done | with_reducible rfl
                try simp only [Act.put, List.setIfInBounds_toArray, List.set_cons_zero, List.set_cons_succ]
                refine wpAnyT_ready (rs := [9]) (by kernel_rfl) (by simp) ?_
                refine AllReadyT.last (o := ⟨none, _, _, _, _, _⟩) rfl (by kernel_rfl) (fun KK hK => ?_) (AllReadyT.nil)
                · have c5 := hS
                  go_simp
                  refine hK.out _ _ ?_
                  clear hK KK
                  try simp only [Act.put, List.setIfInBounds_toArray, List.set_cons_zero, List.set_cons_succ]
                  refine wpAnyT_done (by kernel_rfl) ?_ _
                  generalize World.setCell u3 _ _ = u4 at HP ⊢
                  clear hS c5 y0 hlt2
                  go_wp2_with fail
                  go_roundw
                  case rel => exact ⟨j + 1, _, _, by go_num, by omega, by rw [List.length_append, hlen]; rfl, HP.out⟩
                  case measure => simp [intOf]; omega
        · have hlti : ¬ (j : Int) < (kn : Int) := by omega
          subst hlen
          obtain ⟨kao, kcap, rfl, -⟩ := OwG.form HL.out.own
          have xbe := HL.out.mem.at_ 0 rfl
          have qe0 := xbe.cell 0
          have qe1 := xbe.cell 1
          have qe2 := xbe.cell 2
          have qe3 := xbe.cell 3
          have qe4 := xbe.cell 4
          have qe5 := xbe.cell 5
          simp only [List.getElem?_toArray, List.getElem?_cons_zero, List.getElem?_cons_succ] at qe0 qe1 qe2 qe3 qe4 qe5
          clear xbe
          have xba := HL.out.mem.at_ 1 rfl
          have qa0 := xba.cell 0
          have qa1 := xba.cell 1
          have qa2 := xba.cell 2
          have qa3 := xba.cell 3
          have qa4 := xba.cell 4
          have qa5 := xba.cell 5
          simp only [List.getElem?_toArray, List.getElem?_cons_zero, List.getElem?_cons_succ] at qa0 qa1 qa2 qa3 qa4 qa5
          have qaf0 := xba.frozen 0
          have qaf1 := xba.frozen 1
          have qaf2 := xba.frozen 2
          have qaf3 := xba.frozen 3
          have qaf4 := xba.frozen 4
          have qaf5 := xba.frozen 5
          clear xba
          have hmf := HL.out.mem.drop
          have hfin := ((((((hmf.set 0 (.int .i64 (i0 : Int))).set 1 (.int .i64 0)).set 2 (.string ⟨#[]⟩)).set 3 (.string ⟨#[]⟩)).set 4 (.string ⟨#[]⟩)).set 5 (.slice kao Ls.length kcap))
          have hks := made_kids HL.out (by omega) (.int .i64 (i0 : Int)) (.int .i64 0) (.string ⟨#[]⟩) (.string ⟨#[]⟩) (.string ⟨#[]⟩) (.slice kao Ls.length kcap)
          have HFIN := Lib.hid (And.intro (And.intro hfin.mki hfin.mv) hks)
          clear hfin hmf hks
          go_wp2_with fail
          refine bodyPost_ret (v := .agg #[.int .i64 (i0 : Int), .int .i64 0, .string ⟨#[]⟩, .string ⟨#[]⟩, .string ⟨#[]⟩, .slice kao Ls.length kcap]) (by simp [results, Tryz.results26, go_sem, qa0, qa1, qa2, qa3, qa4, qa5]) rfl ⟨.mk (i0 : Int) zeroT (Ls.map (fun p : Kd => p.1)), .slice kao Ls.length kcap, rfl, (show opIn (i0 : Int) from by unfold opIn; omega), zeroT_sm, HFIN.out.2, HFIN.out.1.1, HFIN.out.1.2⟩
end Go.Proofs.YtecomfhbdonkbaaGreatDoor
