/- References: the document's path without dots. -/
import Derived.Test.YtbkokckpjmbjhaaKf
namespace Go.Proofs.Ytbkokckpjmbjhaa
open Go.RowKit Go.Shelf
set_option maxRecDepth 100000
set_option linter.unusedVariables false
theorem rdot_rel {D acc l o s : List UInt8} (hne : ¬ l = []) (hq : D = dotF l.length acc l) (hd : rstep acc l = (o, s)) : D = dotF s.length o s ∧ o.length + s.length ≤ acc.length + l.length ∧ s.length < l.length :=
  dot_rel hne hq ((rstep_eq acc l hne).symm.trans hd)
theorem ext_from (s : ByteArray) (k : Nat) : (s.extract k s.size).data.toList = s.data.toList.drop k := by
  rw [← Lib.toList_data, Lib.extract_toList, List.take_of_length_le (by rw [List.length_drop, ← Lib.size_eq]; omega)]
theorem ext_to (s : ByteArray) (k : Nat) : (s.extract 0 k).data.toList = s.data.toList.take k := by
  rw [← Lib.toList_data, Lib.extract_toList, List.drop_zero, Nat.sub_zero]
theorem ext_to' {s q : ByteArray} {k : Nat} (h : s.extract 0 k = q) : q.data.toList = s.data.toList.take k := by rw [← h, ext_to]
theorem ext_from' {s q : ByteArray} {k : Nat} (h : s.extract k s.size = q) : q.data.toList = s.data.toList.drop k := by rw [← h, ext_from]
theorem pre_len {l p : List UInt8} (h : Lib.hasPrefix l p = true) : p.length ≤ l.length := by
  unfold Lib.hasPrefix at h
  exact (List.isPrefixOf_iff_prefix.1 h).length_le
theorem drew_more {w wr : World} (h : ∃ n, wr = w.drewN n) (m : Nat) : ∃ n, wr.drewN m = w.drewN n := by
  obtain ⟨n, rfl⟩ := h
  exact ⟨n + m, by simp⟩
def DRel (D : List UInt8) (c o : ByteArray) (c' o' : ByteArray) : Prop := D = dotF c'.size o'.data.toList c'.data.toList ∧ o'.size + c'.size ≤ o.size + c.size ∧ c'.size < c.size
theorem drel_of {D l : List UInt8} {c o c' o' : ByteArray} (hl : l = c.data.toList) (hne : ¬ l = []) (hq : D = dotF c.size o.data.toList l) (hd : rstep o.data.toList l = (o'.data.toList, c'.data.toList)) : DRel D c o c' o' := by
  rw [Lib.size_eq, ← hl] at hq
  have h := rdot_rel hne hq hd
  unfold DRel
  rw [Lib.size_eq c', Lib.size_eq o', Lib.size_eq c, Lib.size_eq o, ← hl]
  exact h
set_option maxHeartbeats 8000000 in
theorem rdots_any (s : ByteArray) (hs : s.size ≤ 1000000) (w : World) : Calls Try.prog 22 #[.string s] w fun e w' => e = .returned (.string ⟨(dotL s.data.toList).toArray⟩) ∧ ∃ n, w' = w.drewN n := by
  obtain ⟨D, hD⟩ : ∃ D, D = dotL s.data.toList := ⟨_, rfl⟩
  rw [← hD]
  have HBG := Lib.hid (fun (x p : ByteArray) (h : x.size ≤ 1000000) (hp : p.size ≤ 1000000) w => begins_any x p h hp w)
  have HCT := Lib.hid (fun (x : ByteArray) (h : x.size ≤ 1000000) w => rcut_any x h w)
  have HUP := Lib.hid (fun (x : ByteArray) (h : x.size ≤ 1000000) (h1 : 1 ≤ x.size) w => upto_any x ⟨#[47]⟩ 1 h (show 1 ≤ 1000000 by decide) h1 w)
  have HD := Lib.hid hD
  have HS := Lib.hid hs
  clear hD
  go_enter Try.func22, Try.ntmps22
  go_wp2_with fail
  go_loopw [0, 3] (fun x v3 wr => ∃ (c o : ByteArray), x = .string c ∧ v3 = .string o ∧ o.size + c.size ≤ 1000000 ∧ D = dotF c.size o.data.toList c.data.toList ∧ ∃ n, wr = w.drewN n) (fun x _ _ => strLen x)
  case atStart => exact ⟨s, ⟨#[]⟩, rfl, rfl, by have := HS.out; show 0 + s.size ≤ _; omega, by rw [HD.out, dotL, Lib.size_eq], 0, rfl⟩
  case round =>
    obtain ⟨c, o, rfl, rfl, hlen, hq, hb⟩ := hrel
    have hci : c.size ≤ 1000000 := by omega
    have hoi : o.size ≤ 1000000 := by omega
    obtain ⟨l, hl⟩ : ∃ l, l = c.data.toList := ⟨_, rfl⟩
    rw [← hl] at hq
    have he : c.toList.isEmpty = decide (l = []) := by
      rw [Lib.toList_data, ← hl]
      cases l <;> simp
    have HQ := Lib.hid hq
    have HB := Lib.hid hb
    have HLEN := Lib.hid hlen
    have HL := Lib.hid hl
    have hcs : c.size = l.length := by rw [hl, Lib.size_eq]
    have HCS := Lib.hid hcs
    clear hq hb hlen hcs
    by_cases hnil : l = []
    · subst hnil
      rw [decide_eq_true rfl] at he
      clear hl
      go_wp2_with fail
      go_ret
      refine ⟨?_, HB.out⟩
      rw [HQ.out, dotF_nil]
      rfl
    rw [decide_eq_false hnil] at he
    have HNE := Lib.hid hnil
    have h1s : 1 ≤ c.size := by
      have := HCS.out
      cases l with
      | nil => exact absurd rfl hnil
      | cons a b => rw [List.length_cons] at this; omega
    clear hnil
    have hcz : (c.size : Int) ≤ 1000000 := by omega
    have HP1 := Lib.hid (fun w => HBG.out c ⟨#[46, 46, 47]⟩ hci (by show 3 ≤ 1000000; decide) w)
    rw [← HL.out] at HP1
    dsimp only at HP1
    have HP2 := Lib.hid (fun w => HBG.out c ⟨#[46, 47]⟩ hci (by show 2 ≤ 1000000; decide) w)
    rw [← HL.out] at HP2
    dsimp only at HP2
    have HP3 := Lib.hid (fun w => HBG.out c ⟨#[47, 46, 47]⟩ hci (by show 3 ≤ 1000000; decide) w)
    rw [← HL.out] at HP3
    dsimp only at HP3
    have HP4 := Lib.hid (fun w => HBG.out c ⟨#[47, 46, 46, 47]⟩ hci (by show 4 ≤ 1000000; decide) w)
    rw [← HL.out] at HP4
    dsimp only at HP4
    have q1 : (c.toList == [47, 46]) = decide (l = [47, 46]) := by
      rw [Lib.toList_data, ← HL.out]
      by_cases h : l = [47, 46]
      · rw [decide_eq_true h, beq_iff_eq.2 h]
      · rw [decide_eq_false h, beq_eq_false_iff_ne.2 h]
    have q2 : (c.toList == [47, 46, 46]) = decide (l = [47, 46, 46]) := by
      rw [Lib.toList_data, ← HL.out]
      by_cases h : l = [47, 46, 46]
      · rw [decide_eq_true h, beq_iff_eq.2 h]
      · rw [decide_eq_false h, beq_eq_false_iff_ne.2 h]
    have q3 : (c.toList == [46]) = decide (l = [46]) := by
      rw [Lib.toList_data, ← HL.out]
      by_cases h : l = [46]
      · rw [decide_eq_true h, beq_iff_eq.2 h]
      · rw [decide_eq_false h, beq_eq_false_iff_ne.2 h]
    have q4 : (c.toList == [46, 46]) = decide (l = [46, 46]) := by
      rw [Lib.toList_data, ← HL.out]
      by_cases h : l = [46, 46]
      · rw [decide_eq_true h, beq_iff_eq.2 h]
      · rw [decide_eq_false h, beq_eq_false_iff_ne.2 h]
    have HC1 := Lib.hid hci
    have HO1 := Lib.hid hoi
    clear hl
    by_cases c0 : Lib.hasPrefix l [46, 46, 47] = true
    · have C := Lib.hid c0
      rw [c0] at HP1
      have hpl := pre_len c0
      simp only [List.length_cons, List.length_nil] at hpl
      have hcl : (3 : Int) ≤ c.size := by have := HCS.out; omega
      obtain ⟨q, hq⟩ : ∃ q : ByteArray, c.extract 3 c.size = q := ⟨_, rfl⟩
      have HQQ := Lib.hid (show q.data.toList = l.drop 3 by rw [ext_from' hq, ← HL.out])
      clear c0 hpl
      have HREL := Lib.hid (drel_of (c' := q) (o' := o) HL.out HNE.out HQ.out (by
        unfold rstep; rw [if_pos C.out, HQQ.out]))
      clear HQ
      go_wp2_with fail
      refine (HP1.out _).mono ?_
      rintro e w1 ⟨rfl, hw⟩
      obtain rfl := hw.symm
      clear hw
      go_wp2_with fail
      go_roundw
      case rel => exact ⟨q, o, rfl, rfl, by have := HREL.out.2.1; have := HLEN.out; omega, HREL.out.1, HB.out⟩
      case measure => have := HREL.out.2.2; simp only [strLen]; omega
    have Np1 := Lib.hid c0
    rw [Bool.eq_false_iff.2 c0] at HP1
    clear c0
    by_cases c1 : Lib.hasPrefix l [46, 47] = true
    · have C := Lib.hid c1
      rw [c1] at HP2
      have hpl := pre_len c1
      simp only [List.length_cons, List.length_nil] at hpl
      have hcl : (2 : Int) ≤ c.size := by have := HCS.out; omega
      obtain ⟨q, hq⟩ : ∃ q : ByteArray, c.extract 2 c.size = q := ⟨_, rfl⟩
      have HQQ := Lib.hid (show q.data.toList = l.drop 2 by rw [ext_from' hq, ← HL.out])
      clear c1 hpl
      have HREL := Lib.hid (drel_of (c' := q) (o' := o) HL.out HNE.out HQ.out (by
        unfold rstep; rw [if_neg Np1.out, if_pos C.out, HQQ.out]))
      clear HQ
      go_wp2_with fail
      refine (HP1.out _).mono ?_
      rintro e w1 ⟨rfl, hw⟩
      obtain rfl := hw.symm
      clear hw
      go_wp2_with fail
      refine (HP2.out _).mono ?_
      rintro e w1 ⟨rfl, hw⟩
      obtain rfl := hw.symm
      clear hw
      go_wp2_with fail
      go_roundw
      case rel => exact ⟨q, o, rfl, rfl, by have := HREL.out.2.1; have := HLEN.out; omega, HREL.out.1, HB.out⟩
      case measure => have := HREL.out.2.2; simp only [strLen]; omega
    have Np2 := Lib.hid c1
    rw [Bool.eq_false_iff.2 c1] at HP2
    clear c1
    by_cases c2 : Lib.hasPrefix l [47, 46, 47] = true
    · have C := Lib.hid c2
      rw [c2] at HP3
      have hpl := pre_len c2
      simp only [List.length_cons, List.length_nil] at hpl
      have hcl : (2 : Int) ≤ c.size := by have := HCS.out; omega
      obtain ⟨q, hq⟩ : ∃ q : ByteArray, c.extract 2 c.size = q := ⟨_, rfl⟩
      have HQQ := Lib.hid (show q.data.toList = l.drop 2 by rw [ext_from' hq, ← HL.out])
      clear c2 hpl
      have HREL := Lib.hid (drel_of (c' := q) (o' := o) HL.out HNE.out HQ.out (by
        unfold rstep; rw [if_neg Np1.out, if_neg Np2.out, if_pos C.out, HQQ.out]))
      clear HQ
      go_wp2_with fail
      refine (HP1.out _).mono ?_
      rintro e w1 ⟨rfl, hw⟩
      obtain rfl := hw.symm
      clear hw
      go_wp2_with fail
      refine (HP2.out _).mono ?_
      rintro e w1 ⟨rfl, hw⟩
      obtain rfl := hw.symm
      clear hw
      go_wp2_with fail
      refine (HP3.out _).mono ?_
      rintro e w1 ⟨rfl, hw⟩
      obtain rfl := hw.symm
      clear hw
      go_wp2_with fail
      go_roundw
      case rel => exact ⟨q, o, rfl, rfl, by have := HREL.out.2.1; have := HLEN.out; omega, HREL.out.1, HB.out⟩
      case measure => have := HREL.out.2.2; simp only [strLen]; omega
    have Np3 := Lib.hid c2
    rw [Bool.eq_false_iff.2 c2] at HP3
    clear c2
    by_cases c3 : l = [47, 46]
    · have C := Lib.hid c3
      rw [decide_eq_true c3] at q1
      clear c3
      have HREL := Lib.hid (drel_of (c' := ⟨#[47]⟩) (o' := o) HL.out HNE.out HQ.out (by
        unfold rstep; rw [if_neg Np1.out, if_neg Np2.out, if_neg Np3.out, if_pos C.out]))
      clear HQ
      go_wp2_with fail
      refine (HP1.out _).mono ?_
      rintro e w1 ⟨rfl, hw⟩
      obtain rfl := hw.symm
      clear hw
      go_wp2_with fail
      refine (HP2.out _).mono ?_
      rintro e w1 ⟨rfl, hw⟩
      obtain rfl := hw.symm
      clear hw
      go_wp2_with fail
      refine (HP3.out _).mono ?_
      rintro e w1 ⟨rfl, hw⟩
      obtain rfl := hw.symm
      clear hw
      go_wp2_with fail
      go_roundw
      case rel => exact ⟨_, o, rfl, rfl, by have := HREL.out.2.1; have := HLEN.out; omega, HREL.out.1, HB.out⟩
      case measure => have := HREL.out.2.2; simp only [strLen]; omega
    have Nq1 := Lib.hid c3
    rw [decide_eq_false c3] at q1
    clear c3
    by_cases c4 : Lib.hasPrefix l [47, 46, 46, 47] = true
    · have C := Lib.hid c4
      rw [c4] at HP4
      have hpl := pre_len c4
      simp only [List.length_cons, List.length_nil] at hpl
      have hcl : (3 : Int) ≤ c.size := by have := HCS.out; omega
      obtain ⟨q, hq⟩ : ∃ q : ByteArray, c.extract 3 c.size = q := ⟨_, rfl⟩
      have HQQ := Lib.hid (show q.data.toList = l.drop 3 by rw [ext_from' hq, ← HL.out])
      obtain ⟨o2, ho2⟩ : ∃ o2 : ByteArray, o2 = ⟨(cutL o.data.toList).toArray⟩ := ⟨_, rfl⟩
      have HO2 := Lib.hid (show o2.data.toList = cutL o.data.toList by rw [ho2])
      have HCUT := Lib.hid (fun w => HCT.out o HO1.out w)
      rw [← ho2] at HCUT
      clear c4 hpl ho2
      have HREL := Lib.hid (drel_of (c' := q) (o' := o2) HL.out HNE.out HQ.out (by
        unfold rstep; rw [if_neg Np1.out, if_neg Np2.out, if_neg Np3.out, if_neg Nq1.out, if_pos C.out, HQQ.out, HO2.out]))
      clear HQ
      go_wp2_with fail
      refine (HP1.out _).mono ?_
      rintro e w1 ⟨rfl, hw⟩
      obtain rfl := hw.symm
      clear hw
      go_wp2_with fail
      refine (HP2.out _).mono ?_
      rintro e w1 ⟨rfl, hw⟩
      obtain rfl := hw.symm
      clear hw
      go_wp2_with fail
      refine (HP3.out _).mono ?_
      rintro e w1 ⟨rfl, hw⟩
      obtain rfl := hw.symm
      clear hw
      go_wp2_with fail
      refine (HP4.out _).mono ?_
      rintro e w1 ⟨rfl, hw⟩
      obtain rfl := hw.symm
      clear hw
      go_wp2_with fail
      go_quiet ((go_at_call 23; exact Calls.quiet_of_same (HCUT.out _)))
      go_wp2_with fail
      go_roundw
      case rel => exact ⟨q, o2, rfl, rfl, by have := HREL.out.2.1; have := HLEN.out; omega, HREL.out.1, drew_more HB.out _⟩
      case measure => have := HREL.out.2.2; simp only [strLen]; omega
    have Np4 := Lib.hid c4
    rw [Bool.eq_false_iff.2 c4] at HP4
    clear c4
    by_cases c5 : l = [47, 46, 46]
    · have C := Lib.hid c5
      rw [decide_eq_true c5] at q2
      obtain ⟨o2, ho2⟩ : ∃ o2 : ByteArray, o2 = ⟨(cutL o.data.toList).toArray⟩ := ⟨_, rfl⟩
      have HO2 := Lib.hid (show o2.data.toList = cutL o.data.toList by rw [ho2])
      have HCUT := Lib.hid (fun w => HCT.out o HO1.out w)
      rw [← ho2] at HCUT
      clear c5 ho2
      have HREL := Lib.hid (drel_of (c' := ⟨#[47]⟩) (o' := o2) HL.out HNE.out HQ.out (by
        unfold rstep; rw [if_neg Np1.out, if_neg Np2.out, if_neg Np3.out, if_neg Nq1.out, if_neg Np4.out, if_pos C.out, HO2.out]))
      clear HQ
      go_wp2_with fail
      refine (HP1.out _).mono ?_
      rintro e w1 ⟨rfl, hw⟩
      obtain rfl := hw.symm
      clear hw
      go_wp2_with fail
      refine (HP2.out _).mono ?_
      rintro e w1 ⟨rfl, hw⟩
      obtain rfl := hw.symm
      clear hw
      go_wp2_with fail
      refine (HP3.out _).mono ?_
      rintro e w1 ⟨rfl, hw⟩
      obtain rfl := hw.symm
      clear hw
      go_wp2_with fail
      refine (HP4.out _).mono ?_
      rintro e w1 ⟨rfl, hw⟩
      obtain rfl := hw.symm
      clear hw
      go_wp2_with fail
      refine (HCUT.out _).mono ?_
      rintro e w1 ⟨rfl, hw⟩
      obtain rfl := hw.symm
      clear hw
      go_wp2_with fail
      go_roundw
      case rel => exact ⟨_, o2, rfl, rfl, by have := HREL.out.2.1; have := HLEN.out; omega, HREL.out.1, HB.out⟩
      case measure => have := HREL.out.2.2; simp only [strLen]; omega
    have Nq2 := Lib.hid c5
    rw [decide_eq_false c5] at q2
    clear c5
    by_cases d3 : l = [46]
    · have C := Lib.hid d3
      rw [decide_eq_true d3] at q3
      clear d3
      have HREL := Lib.hid (drel_of (c' := ⟨#[]⟩) (o' := o) HL.out HNE.out HQ.out (by
        unfold rstep; rw [if_neg Np1.out, if_neg Np2.out, if_neg Np3.out, if_neg Nq1.out, if_neg Np4.out, if_neg Nq2.out, if_pos (Or.inl C.out)]))
      clear HQ
      go_wp2_with fail
      refine (HP1.out _).mono ?_
      rintro e w1 ⟨rfl, hw⟩
      obtain rfl := hw.symm
      clear hw
      go_wp2_with fail
      refine (HP2.out _).mono ?_
      rintro e w1 ⟨rfl, hw⟩
      obtain rfl := hw.symm
      clear hw
      go_wp2_with fail
      refine (HP3.out _).mono ?_
      rintro e w1 ⟨rfl, hw⟩
      obtain rfl := hw.symm
      clear hw
      go_wp2_with fail
      refine (HP4.out _).mono ?_
      rintro e w1 ⟨rfl, hw⟩
      obtain rfl := hw.symm
      clear hw
      go_wp2_with fail
      go_roundw
      case rel => exact ⟨_, o, rfl, rfl, by have := HREL.out.2.1; have := HLEN.out; omega, HREL.out.1, HB.out⟩
      case measure => have := HREL.out.2.2; simp only [strLen]; omega
    have ND3 := Lib.hid d3
    rw [decide_eq_false d3] at q3
    clear d3
    by_cases d4 : l = [46, 46]
    · have C := Lib.hid d4
      rw [decide_eq_true d4] at q4
      clear d4
      have HREL := Lib.hid (drel_of (c' := ⟨#[]⟩) (o' := o) HL.out HNE.out HQ.out (by
        unfold rstep; rw [if_neg Np1.out, if_neg Np2.out, if_neg Np3.out, if_neg Nq1.out, if_neg Np4.out, if_neg Nq2.out, if_pos (Or.inr C.out)]))
      clear HQ
      go_wp2_with fail
      refine (HP1.out _).mono ?_
      rintro e w1 ⟨rfl, hw⟩
      obtain rfl := hw.symm
      clear hw
      go_wp2_with fail
      refine (HP2.out _).mono ?_
      rintro e w1 ⟨rfl, hw⟩
      obtain rfl := hw.symm
      clear hw
      go_wp2_with fail
      refine (HP3.out _).mono ?_
      rintro e w1 ⟨rfl, hw⟩
      obtain rfl := hw.symm
      clear hw
      go_wp2_with fail
      refine (HP4.out _).mono ?_
      rintro e w1 ⟨rfl, hw⟩
      obtain rfl := hw.symm
      clear hw
      go_wp2_with fail
      go_roundw
      case rel => exact ⟨_, o, rfl, rfl, by have := HREL.out.2.1; have := HLEN.out; omega, HREL.out.1, HB.out⟩
      case measure => have := HREL.out.2.2; simp only [strLen]; omega
    have ND4 := Lib.hid d4
    rw [decide_eq_false d4] at q4
    clear d4
    have HUQ := Lib.hid (fun w => HUP.out c HC1.out h1s w)
    rw [← HL.out] at HUQ
    have hfl := front_len [47] (l.drop 1)
    rw [List.length_drop] at hfl
    obtain ⟨k, hk⟩ : ∃ k, k = 1 + (frontL [47] (l.drop 1)).length := ⟨_, rfl⟩
    have hkl : k ≤ c.size := by have := HCS.out; omega
    have hkz : (k : Int) ≤ c.size := by omega
    rw [← hk] at HUQ
    obtain ⟨q, hq⟩ : ∃ q : ByteArray, c.extract k c.size = q := ⟨_, rfl⟩
    obtain ⟨p, hp⟩ : ∃ p : ByteArray, c.extract 0 k = p := ⟨_, rfl⟩
    have HQQ := Lib.hid (show q.data.toList = l.drop k by rw [ext_from' hq, ← HL.out])
    have HPP := Lib.hid (show p.data.toList = l.take k by rw [ext_to' hp, ← HL.out])
    have HK := Lib.hid hk
    have hps : p.size ≤ c.size := by rw [Lib.size_eq p, ext_to' hp, List.length_take, ← Lib.size_eq]; omega
    have hadd : o.size + p.size ≤ 9223372036854775807 := by have := HLEN.out; omega
    clear hfl hk hkl hps
    obtain ⟨o2, ho2⟩ : ∃ o2 : ByteArray, o ++ p = o2 := ⟨_, rfl⟩
    have HO2 := Lib.hid (show o2.data.toList = o.data.toList ++ p.data.toList by rw [← ho2]; simp)
    have HREL := Lib.hid (drel_of (c' := q) (o' := o2) HL.out HNE.out HQ.out (by
      unfold rstep; rw [if_neg Np1.out, if_neg Np2.out, if_neg Np3.out, if_neg Nq1.out, if_neg Np4.out, if_neg Nq2.out, if_neg (fun e => e.elim ND3.out ND4.out), HQQ.out, HO2.out, HPP.out, ← HK.out]))
    clear HQ
    go_wp2_with fail
    refine (HP1.out _).mono ?_
    rintro e w1 ⟨rfl, hw⟩
    obtain rfl := hw.symm
    clear hw
    go_wp2_with fail
    refine (HP2.out _).mono ?_
    rintro e w1 ⟨rfl, hw⟩
    obtain rfl := hw.symm
    clear hw
    go_wp2_with fail
    refine (HP3.out _).mono ?_
    rintro e w1 ⟨rfl, hw⟩
    obtain rfl := hw.symm
    clear hw
    go_wp2_with fail
    refine (HP4.out _).mono ?_
    rintro e w1 ⟨rfl, hw⟩
    obtain rfl := hw.symm
    clear hw
    go_wp2_with fail
    refine (HUQ.out _).mono ?_
    rintro e w1 ⟨rfl, hw⟩
    obtain rfl := hw.symm
    clear hw
    go_wp2_with fail
    go_quiet (fail)
    go_wp2_with fail
    go_roundw
    case rel => exact ⟨q, o2, rfl, rfl, by have := HREL.out.2.1; have := HLEN.out; omega, HREL.out.1, drew_more HB.out _⟩
    case measure => have := HREL.out.2.2; simp only [strLen]; omega
end Go.Proofs.Ytbkokckpjmbjhaa
