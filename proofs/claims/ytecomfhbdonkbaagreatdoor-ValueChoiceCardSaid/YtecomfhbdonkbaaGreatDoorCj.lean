/- Package value's laws: the maker's expressions. -/
import Derived.Test.YtecomfhbdonkbaaGreatDoorCi
namespace Go.Proofs.YtecomfhbdonkbaaGreatDoor
open Go.RowKit Go.Shelf Flo
set_option maxRecDepth 100000
set_option linter.unusedVariables false
set_option linter.unusedSimpArgs false

theorem quo_in (n k : Int) (h : In64 n) (hk : 1 ≤ k) : IntKind.i64.wrap (n.tdiv k) = n.tdiv k ∧ In64 (n.tdiv k) := by
  have hb : In64 (n.tdiv k) := by
    unfold In64 at *
    rcases Int.le_total 0 n with h0 | h0
    · have h1 := Int.tdiv_nonneg h0 (show 0 ≤ k by omega)
      have h2 := Int.tdiv_le_self k h0
      omega
    · have e : n.tdiv k = -((-n).tdiv k) := by rw [Int.neg_tdiv, Int.neg_neg]
      have h1 := Int.tdiv_nonneg (show 0 ≤ -n by omega) (show 0 ≤ k by omega)
      have h2 := Int.tdiv_le_self k (show 0 ≤ -n by omega)
      omega
  exact ⟨by rw [IntKind.wrap_i64]; unfold In64 at hb; omega, hb⟩
theorem rest_nat (a k : Int) (hk : 0 < k) : ∃ j : Nat, a % k = (j : Int) ∧ (j : Int) < k := ⟨(a % k).toNat, by have := Int.emod_nonneg a (show k ≠ 0 by omega); omega, by have := Int.emod_nonneg a (show k ≠ 0 by omega); have := Int.emod_lt_of_pos a hk; omega⟩
theorem names_at {v : World} {q : Nat} {ty : TypeId} (h : Blk v q #[.string ⟨#[97]⟩, .string ⟨#[98]⟩, .string ⟨#[99]⟩, .string ⟨#[100]⟩] ty) {j : Nat} (hj : j < 4) : ∃ s : ByteArray, v.cell? ⟨q, j, none⟩ = some (.string s) ∧ s.size ≤ 200 := by
  rcases (show j = 0 ∨ j = 1 ∨ j = 2 ∨ j = 3 by omega) with rfl | rfl | rfl | rfl
  · exact ⟨_, h.cell 0, by decide⟩
  · exact ⟨_, h.cell 1, by decide⟩
  · exact ⟨_, h.cell 2, by decide⟩
  · exact ⟨_, h.cell 3, by decide⟩
set_option maxHeartbeats 8000000 in
theorem mexpr_zero (m : Nat) (nsv : Value) (ns : List Int) (w : World) (h : MkI m nsv ns w) : Calls Tryz.prog 26 #[.pointer (some ⟨m, 0, none⟩), .int .i64 0] w fun e' w' => MadeP m nsv ns w 0 e' w' := by
  have HNX := Lib.hid (fun wz hz => mnext_any m nsv ns wz hz)
  have HTM : Hid (∀ k, In64 k → ∃ t : Tm, t.Sm ∧ ∀ wz, Calls Tryz.prog 16 #[.int .i64 k] wz fun e w' => e = .returned (.agg #[.int .i64 t.k, .string t.s, .string t.l, .string t.t]) ∧ Below wz.heap.size wz w') := Lib.hid (fun k hk => ⟨termT k, termT_sm k, fun wz => term15_any k wz hk.1 hk.2⟩)
  have hm0 := (MemR.nil h).alloc w.heap.size rfl #[.int .i64 0, .int .i64 0, .string ⟨#[]⟩, .string ⟨#[]⟩, .string ⟨#[]⟩, .slice none 0 0] 28
  have HM0 := Lib.hid hm0
  clear hm0 h
  go_enter Tryz.func26, Tryz.ntmps26
  go_upto_region 1 with fail
  generalize World.alloc w _ = v0 at HM0 ⊢
  go_wp2_with fail
  refine (HNX.out _ HM0.out.mki).mono ?_
  rintro e v1 ⟨n, rfl, hn, hmk, hmv⟩
  have HM1 := Lib.hid (HM0.out.step hmv hmk)
  have HN := Lib.hid hn
  clear hmk hmv hn
  go_wp2_with fail
  refine (HNX.out _ HM1.out.mki).mono ?_
  rintro e v2 ⟨k2, rfl, hk2, hmk, hmv⟩
  have HM2 := Lib.hid (HM1.out.step hmv hmk)
  have HIk2 := Lib.hid hk2
  clear hmk hmv hk2
  obtain ⟨t, hts, htc⟩ := HTM.out k2 HIk2.out
  have HTS := Lib.hid hts
  clear hts
  go_wp2_with fail
  refine (htc _).mono ?_
  rintro e v3 ⟨rfl, hbb⟩
  have HM3 := Lib.hid (HM2.out.below hbb)
  clear hbb htc
  go_upto_region 4 with fail
  have hmm := HM3.out.alloc v3.heap.size rfl #[.int .i64 t.k, .string t.s, .string t.l, .string t.t] 25
  generalize World.alloc v3 _ = v4 at hmm ⊢
  generalize v3.heap.size = gt at hmm ⊢
  have HM4 := Lib.hid hmm
  clear hmm
  obtain ⟨hq3, hd⟩ := quo_in n 3 HN.out (by decide)
  obtain ⟨j2, hj2, hj2l⟩ := rest_nat (n.tdiv 3) 2 (by decide)
  have HW2 := Lib.hid (fun wz => within15_any (n.tdiv 3) 2 wz (by decide) (by decide) hd.1 hd.2)
  rw [hj2] at HW2
  have hJ2 := Lib.hid hj2l
  clear hd hj2 hj2l
  go_wp2_with fail
  refine (HW2.out _).mono ?_
  rintro e wz ⟨rfl, rfl⟩
  clear hq3
  cases j2 with
  | zero =>
    go_wp2_with fail
    have hmm := HM4.out.alloc v4.heap.size rfl #[.string ⟨#[97]⟩, .string ⟨#[98]⟩, .string ⟨#[99]⟩, .string ⟨#[100]⟩] 9
    generalize World.alloc v4 _ = v5 at hmm ⊢
    generalize v4.heap.size = gq at hmm ⊢
    have HM5 := Lib.hid hmm
    clear hmm
    refine (HNX.out _ HM5.out.mki).mono ?_
    rintro e v6 ⟨k3, rfl, hk3, hmk, hmv⟩
    have HM6 := Lib.hid (HM5.out.step hmv hmk)
    have HIk3 := Lib.hid hk3
    clear hmk hmv hk3
    obtain ⟨j4, hj4, hj4l⟩ := rest_nat k3 4 (by decide)
    have HW4 := Lib.hid (fun wz => within15_any k3 4 wz (by decide) (by decide) HIk3.out.1 HIk3.out.2)
    rw [hj4] at HW4
    obtain ⟨s, hsc, hss⟩ := names_at (HM6.out.at_ 0 rfl) (show j4 < 4 by omega)
    have hj40 : (0 : Int) ≤ (j4 : Int) := by omega
    have HSS := Lib.hid hss
    clear hj4 hss
    go_wp2_with fail
    refine (HW4.out _).mono ?_
    rintro e wz ⟨rfl, rfl⟩
    have xbt := HM6.out.at_ 1 rfl
    have qt0 := xbt.cell 0
    have qt1 := xbt.cell 1
    have qt2 := xbt.cell 2
    have qt3 := xbt.cell 3
    simp only [List.getElem?_toArray, List.getElem?_cons_zero, List.getElem?_cons_succ] at qt0 qt1 qt2 qt3
    have qtf0 := xbt.frozen 0
    have qtf1 := xbt.frozen 1
    have qtf2 := xbt.frozen 2
    have qtf3 := xbt.frozen 3
    clear xbt
    go_upto_region 6 with fail
    have hmm := ((((HM6.out.drop).set 0 (.int .i64 4)).set 1 (.string s)).set 2 (.string ⟨#[]⟩)).set 3 (.string ⟨#[]⟩)
    generalize World.setCell (World.setCell (World.setCell (World.setCell v6 _ _) _ _) _ _) _ _ = v7 at hmm ⊢
    obtain ⟨x, hx⟩ : ∃ x : Tm, x = ⟨4, s, ⟨#[]⟩, ⟨#[]⟩⟩ := ⟨_, rfl⟩
    have HM7 : Hid (MemR m nsv ns w [(gt, #[.int .i64 x.k, .string x.s, .string x.l, .string x.t], 25), (w.heap.size, #[.int .i64 0, .int .i64 0, .string ⟨#[]⟩, .string ⟨#[]⟩, .string ⟨#[]⟩, .slice none 0 0], 28)] v7) := Lib.hid (by rw [hx]; exact hmm)
    have HXS : Hid x.Sm := Lib.hid (by rw [hx]; exact ⟨(show -9223372036854775808 ≤ (4 : Int) ∧ (4 : Int) ≤ 9223372036854775807 from by decide), HSS.out, (show (⟨#[]⟩ : ByteArray).size ≤ 200 from by decide), (show (⟨#[]⟩ : ByteArray).size ≤ 200 from by decide)⟩)
    clear hmm hx hsc hj40 hj4l
    clear qt0 qt1 qt2 qt3 qtf0 qtf1 qtf2 qtf3
    have xbt := HM7.out.at_ 0 rfl
    have qt0 := xbt.cell 0
    have qt1 := xbt.cell 1
    have qt2 := xbt.cell 2
    have qt3 := xbt.cell 3
    simp only [List.getElem?_toArray, List.getElem?_cons_zero, List.getElem?_cons_succ] at qt0 qt1 qt2 qt3
    clear xbt
    have xba := HM7.out.at_ 1 rfl
    have qa0 := xba.cell 0
    have qa1 := xba.cell 1
    have qa2 := xba.cell 2
    have qa3 := xba.cell 3
    have qa4 := xba.cell 4
    have qa5 := xba.cell 5
    simp only [List.getElem?_toArray, List.getElem?_cons_zero, List.getElem?_cons_succ] at qa0 qa1 qa2 qa3 qa4 qa5
    have qaf0 := xba.frozen 0
    have qaf1 := xba.frozen 1
    have qaf2 := xba.frozen 2
    have qaf3 := xba.frozen 3
    have qaf4 := xba.frozen 4
    have qaf5 := xba.frozen 5
    clear xba
    have hfin := ((((((HM7.out.drop.set 0 (.int .i64 1)).set 1 (.int .i64 x.k)).set 2 (.string x.s)).set 3 (.string x.l)).set 4 (.string x.t)).set 5 (.slice none 0 0))
    have HFIN := Lib.hid (And.intro hfin.mki hfin.mv)
    clear hfin
    go_wp2_with fail
    refine bodyPost_ret (v := .agg #[.int .i64 1, .int .i64 x.k, .string x.s, .string x.l, .string x.t, .slice none 0 0]) (by simp [results, Tryz.results26, go_sem, qa0, qa1, qa2, qa3, qa4, qa5]) rfl ⟨.mk 1 x [], .slice none 0 0, rfl, (show opIn 1 from opIn_one), HXS.out, (fun z' _ => kids_nil _ _ _), HFIN.out.1, HFIN.out.2⟩
  | succ j2 =>
    have hne : (((j2 + 1 : Nat) : Int) == 0) = false := beq_eq_false_iff_ne.2 (by omega)
    go_upto_region 6 with fail
    have HXS := HTS
    generalize t = x at HM4 HXS ⊢
    have xbt := HM4.out.at_ 0 rfl
    have qt0 := xbt.cell 0
    have qt1 := xbt.cell 1
    have qt2 := xbt.cell 2
    have qt3 := xbt.cell 3
    simp only [List.getElem?_toArray, List.getElem?_cons_zero, List.getElem?_cons_succ] at qt0 qt1 qt2 qt3
    clear xbt
    have xba := HM4.out.at_ 1 rfl
    have qa0 := xba.cell 0
    have qa1 := xba.cell 1
    have qa2 := xba.cell 2
    have qa3 := xba.cell 3
    have qa4 := xba.cell 4
    have qa5 := xba.cell 5
    simp only [List.getElem?_toArray, List.getElem?_cons_zero, List.getElem?_cons_succ] at qa0 qa1 qa2 qa3 qa4 qa5
    have qaf0 := xba.frozen 0
    have qaf1 := xba.frozen 1
    have qaf2 := xba.frozen 2
    have qaf3 := xba.frozen 3
    have qaf4 := xba.frozen 4
    have qaf5 := xba.frozen 5
    clear xba
    have hfin := ((((((HM4.out.drop.set 0 (.int .i64 1)).set 1 (.int .i64 x.k)).set 2 (.string x.s)).set 3 (.string x.l)).set 4 (.string x.t)).set 5 (.slice none 0 0))
    have HFIN := Lib.hid (And.intro hfin.mki hfin.mv)
    clear hfin
    go_wp2_with fail
    refine bodyPost_ret (v := .agg #[.int .i64 1, .int .i64 x.k, .string x.s, .string x.l, .string x.t, .slice none 0 0]) (by simp [results, Tryz.results26, go_sem, qa0, qa1, qa2, qa3, qa4, qa5]) rfl ⟨.mk 1 x [], .slice none 0 0, rfl, (show opIn 1 from opIn_one), HXS.out, (fun z' _ => kids_nil _ _ _), HFIN.out.1, HFIN.out.2⟩
end Go.Proofs.YtecomfhbdonkbaaGreatDoor
