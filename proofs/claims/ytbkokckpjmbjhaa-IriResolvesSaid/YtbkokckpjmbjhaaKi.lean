/- References: the document's own Split. -/
import Derived.Test.YtbkokckpjmbjhaaKh
namespace Go.Proofs.Ytbkokckpjmbjhaa
open Go.RowKit Go.Shelf
set_option maxRecDepth 100000
set_option linter.unusedVariables false
theorem upto0 (s m : ByteArray) (hs : s.size ≤ 1000000) (hm : m.size ≤ 1000000) {l : List UInt8} (hl : s.data.toList = l) (w : World) : Calls Try.prog 17 #[.string s, .int .i64 0, .string m] w fun e w' => e = .returned (.int .i64 (((frontL m.data.toList l).length : Nat) : Int)) ∧ w' = w := by
  have h := upto_any s m 0 hs hm (Nat.zero_le _) w
  rw [List.drop_zero, hl, Nat.zero_add] at h
  exact h
theorem upto2 (s m : ByteArray) (hs : s.size ≤ 1000000) (hm : m.size ≤ 1000000) (h2 : 2 ≤ s.size) {l : List UInt8} (hl : s.data.toList = l) (w : World) : Calls Try.prog 17 #[.string s, .int .i64 2, .string m] w fun e w' => e = .returned (.int .i64 ((2 + (frontL m.data.toList (l.drop 2)).length : Nat) : Int)) ∧ w' = w := by
  have h := upto_any s m 2 hs hm h2 w
  rw [hl] at h
  exact h
theorem no_query {l : List UInt8} (h : Lib.hasPrefix (restL [63, 35] l) [63] = false) : frontL [35] (restL [63, 35] l) = [] ∧ restL [35] (restL [63, 35] l) = restL [63, 35] l := by
  rw [pre_one] at h
  have h2 := of_decide_eq_false h
  cases hr : restL [63, 35] l with
  | nil => exact ⟨rfl, rfl⟩
  | cons c r =>
    have h3 := rest_head _ _ hr
    rw [hr, List.head?_cons] at h2
    have hc : c = 35 := by
      rw [List.contains_iff_mem] at h3
      simp only [List.mem_cons, List.not_mem_nil, or_false] at h3
      rcases h3 with e | e
      · exact absurd (by rw [e]) h2
      · exact e
    subst hc
    rw [front_cons, rest_cons]
    exact ⟨rfl, rfl⟩
theorem front_some {m l : List UInt8} {c : UInt8} (h : (restL m l).head? = some c) : ∃ h : (frontL m l).length < l.length, l[(frontL m l).length] = c := by
  have h0 := front_rest m l
  cases hr : restL m l with
  | nil => rw [hr] at h; cases h
  | cons d r =>
    rw [hr] at h
    cases h
    have h1 := front_len m l
    rw [hr, List.length_cons] at h1
    refine ⟨by omega, ?_⟩
    rw [hr] at h0
    have h2 : l[(frontL m l).length]? = some c := by
      conv => lhs; rw [← h0]
      rw [h0]
      have : (frontL m l ++ c :: r)[(frontL m l).length]? = some c := by simp
      rw [h0] at this
      exact this
    rw [List.getElem?_eq_getElem (by omega)] at h2
    exact Option.some.inj h2
set_option maxHeartbeats 16000000 in
theorem rsplit_any (s : ByteArray) (hs : s.size ≤ 1000000) (w : World) : Calls Try.prog 10 #[.string s] w fun e w' => e = .returned (ptV (splitL s.data.toList)) ∧ Below w.heap.size w w' := by
  obtain ⟨l, hl⟩ : ∃ l, l = s.data.toList := ⟨_, rfl⟩
  have hsl : s.size = l.length := by rw [hl, Lib.size_eq]
  rw [← hl]
  obtain ⟨R, hR⟩ : ∃ R, R = restL [58, 47, 63, 35] l := ⟨_, rfl⟩
  obtain ⟨F, hF⟩ : ∃ F, F = frontL [58, 47, 63, 35] l := ⟨_, rfl⟩
  have HU0 := Lib.hid (fun w => upto0 s ⟨#[58, 47, 63, 35]⟩ hs (by decide) hl.symm w)
  dsimp only at HU0
  rw [← hF] at HU0
  have hfl := front_len [58, 47, 63, 35] l
  rw [← hR, ← hF] at hfl
  have hsi : (s.size : Int) ≤ 1000000 := by omega
  obtain ⟨x, hx⟩ := exists_ba (schemeL l).1
  obtain ⟨s1, hs1⟩ := exists_ba (schemeL l).2
  have hsw := scheme_whole l
  have hs1l : s1.size ≤ s.size := by
    have := congrArg List.length hsw
    rw [List.length_append] at this
    rw [Lib.size_eq s1, hs1, hsl]
    omega
  obtain ⟨L1, hL1⟩ : ∃ L1, L1 = (schemeL l).2 := ⟨_, rfl⟩
  obtain ⟨y, hy⟩ := exists_ba (authL L1).1
  obtain ⟨s2, hs2⟩ := exists_ba (authL L1).2
  have haw := auth_whole L1
  rw [← hL1] at hs1
  have hL1s : s1.size = L1.length := by rw [Lib.size_eq, hs1]
  have hs2l : s2.size ≤ s1.size := by
    have := congrArg List.length haw
    rw [List.length_append] at this
    rw [Lib.size_eq s2, hs2, hL1s]
    omega
  have HU1 := Lib.hid (fun h2 w => upto2 s1 ⟨#[47, 63, 35]⟩ (by omega) (by decide) h2 hs1 w)
  dsimp only at HU1
  obtain ⟨L2, hL2⟩ : ∃ L2, L2 = (authL L1).2 := ⟨_, rfl⟩
  rw [← hL2] at hs2
  have HU2 := Lib.hid (fun w => upto0 s2 ⟨#[63, 35]⟩ (by omega) (by decide) hs2 w)
  dsimp only at HU2
  obtain ⟨f2, hf2⟩ := exists_ba (frontL [63, 35] L2)
  obtain ⟨r2, hr2⟩ := exists_ba (restL [63, 35] L2)
  have hf2s : f2.size = (frontL [63, 35] L2).length := by rw [Lib.size_eq, hf2]
  rw [← hf2s] at HU2
  have hr2s : r2.size ≤ s2.size := by
    rw [Lib.size_eq r2, hr2, Lib.size_eq s2, hs2]; exact rest_le _ _
  have hf2l : f2.size ≤ s2.size := by
    have := front_len [63, 35] L2
    rw [hf2s, Lib.size_eq s2, hs2]; omega
  have hx21 : s2.extract 0 f2.size = f2 := ba_ext (by rw [ext_to, hs2, hf2s, hf2]; exact front_take _ _)
  have hx22 : s2.extract f2.size s2.size = r2 := ba_ext (by rw [ext_from, hs2, hf2s, hr2]; exact rest_drop _ _)
  obtain ⟨L3, hL3⟩ : ∃ L3, L3 = restL [63, 35] L2 := ⟨_, rfl⟩
  rw [← hL3] at hr2
  have HU3 := Lib.hid (fun w => upto0 r2 ⟨#[35]⟩ (by omega) (by decide) hr2 w)
  dsimp only at HU3
  obtain ⟨f3, hf3⟩ := exists_ba (frontL [35] L3)
  obtain ⟨r3, hr3⟩ := exists_ba (restL [35] L3)
  have hf3s : f3.size = (frontL [35] L3).length := by rw [Lib.size_eq, hf3]
  rw [← hf3s] at HU3
  have hf3l : f3.size ≤ r2.size := by
    have := front_len [35] L3
    rw [hf3s, Lib.size_eq r2, hr2]; omega
  have hx31 : r2.extract 0 f3.size = f3 := ba_ext (by rw [ext_to, hr2, hf3s, hf3]; exact front_take _ _)
  have hx32 : r2.extract f3.size r2.size = r3 := ba_ext (by rw [ext_from, hr2, hf3s, hr3]; exact rest_drop _ _)
  have HV := Lib.hid (show ptV (splitL l) = .agg #[.string x, .string y, .string f2, .string f3, .string r3] by
    unfold ptV splitL
    rw [← hL1, ← hL2, ← hL3]
    rw [← hx, ← hy, ← hf2, ← hf3, ← hr3])
  have HSW := Lib.hid (And.intro hx hs1)
  have HAW := Lib.hid (And.intro hy hs2)
  have HFR := Lib.hid (And.intro hF hR)
  have HFL := Lib.hid hfl
  have HL := Lib.hid hl
  have HSL := Lib.hid hsl
  have HL1S := Lib.hid hL1s
  have HL1 := Lib.hid hL1
  have HL2 := Lib.hid hL2
  have HL3 := Lib.hid hL3
  have HR2 := Lib.hid hr2
  have HR3 := Lib.hid (And.intro hf3 hr3)
  have hs1z : (s1.size : Int) ≤ 1000000 := by omega
  have hs2z : (s2.size : Int) ≤ 1000000 := by omega
  have hr2z : (r2.size : Int) ≤ 1000000 := by omega
  have hf2z : (f2.size : Int) ≤ s2.size := by omega
  have hf3z : (f3.size : Int) ≤ r2.size := by omega
  have HG := Lib.hid (show ∀ (k : Nat) (h : k < s.size) (h2 : k < l.length), s[k]'h = l[k] from by subst hl; intro k h h2; rfl)
  have HG2 := Lib.hid (show ∀ (h : 0 < r2.size) (h2 : 0 < L3.length), r2[0]'h = L3[0] from by subst hr2; intro h h2; rfl)
  clear hF hR hfl hx hs1 hsw hs1l hL1 hy hs2 haw hs2l hf2 hr2 hr2s hf3 hr3 hl hsl hL1s hL2 hL3 hf2s hf3s hf2l hf3l
  have hbel : Below w.heap.size w ((w.alloc (.cells #[.string ⟨#[]⟩, .string ⟨#[]⟩, .string ⟨#[]⟩, .string ⟨#[]⟩, .string ⟨#[]⟩] 26)).alloc (.cells #[.string ⟨#[]⟩, .string ⟨#[]⟩, .string ⟨#[]⟩, .string ⟨#[]⟩, .string ⟨#[]⟩] 26)) := ((Below.refl _ w).alloc (Nat.le_refl _) _).alloc (by simp) _
  have hA : Blk ((w.alloc (.cells #[.string ⟨#[]⟩, .string ⟨#[]⟩, .string ⟨#[]⟩, .string ⟨#[]⟩, .string ⟨#[]⟩] 26)).alloc (.cells #[.string ⟨#[]⟩, .string ⟨#[]⟩, .string ⟨#[]⟩, .string ⟨#[]⟩, .string ⟨#[]⟩] 26)) w.heap.size #[.string ⟨#[]⟩, .string ⟨#[]⟩, .string ⟨#[]⟩, .string ⟨#[]⟩, .string ⟨#[]⟩] 26 := (Blk.new w _ _).alloc _
  have hB := Blk.new (w.alloc (.cells #[.string ⟨#[]⟩, .string ⟨#[]⟩, .string ⟨#[]⟩, .string ⟨#[]⟩, .string ⟨#[]⟩] 26)) #[.string ⟨#[]⟩, .string ⟨#[]⟩, .string ⟨#[]⟩, .string ⟨#[]⟩, .string ⟨#[]⟩] 26
  rw [show (w.alloc (.cells #[.string ⟨#[]⟩, .string ⟨#[]⟩, .string ⟨#[]⟩, .string ⟨#[]⟩, .string ⟨#[]⟩] 26)).heap.size = w.heap.size + 1 by simp] at hB
  go_enter Try.func10, Try.ntmps10
  go_wp2_with fail
  generalize World.alloc (World.alloc w _) _ = w3 at hbel hA hB ⊢
  refine (HU0.out _).mono ?_
  rintro e w2 ⟨rfl, hw⟩
  obtain rfl := hw.symm
  clear hw
  go_upto_region 3 with fail
  obtain ⟨b0, hb0⟩ : ∃ b : Bool, b = (decide (¬ F = []) && Lib.hasPrefix R [58]) := ⟨_, rfl⟩
  have HB0 := Lib.hid hb0
  clear hb0
  go_cut [20] from 7 to 20 (fun s20 wx => s20 = .bool b0 ∧ wx = w3)
  case first =>
    by_cases c1 : F = []
    · subst c1
      go_wp2_with fail
      go_meet
      exact ⟨by rw [HB0.out]; rfl, rfl⟩
    · have hk0 : (0 : Int) < (F.length : Nat) := by
        have : F.length ≠ 0 := fun e => c1 (List.length_eq_zero_iff.1 e)
        omega
      by_cases c2 : R = []
      · have hk1 : ¬ ((F.length : Int) < s.size) := by
          have h1 := HFL.out
          have h2 := HSL.out
          rw [c2, List.length_nil] at h1
          omega
        have HC2 := Lib.hid c2
        clear c2 c1
        go_wp2_with fail
        go_meet
        exact ⟨by rw [HB0.out, HC2.out]; simp [Lib.hasPrefix], rfl⟩
      · have hk1 : (F.length : Int) < s.size := by
          have h1 := HFL.out
          have h2 := HSL.out
          have : R.length ≠ 0 := fun e => c2 (List.length_eq_zero_iff.1 e)
          omega
        obtain ⟨c, hc⟩ : ∃ c, R.head? = some c := by
          cases R with
          | nil => exact absurd rfl c2
          | cons c r => exact ⟨c, rfl⟩
        have hkn : F.length < s.size := by omega
        have hgk : s[F.length]'hkn = c := by
          have h3 := front_some (m := [58, 47, 63, 35]) (l := l) (c := c) (by rw [← HFR.out.2]; exact hc)
          rw [← HFR.out.1] at h3
          obtain ⟨h4, h5⟩ := h3
          rw [HG.out _ hkn h4, h5]
        have hcb : (((c.toNat : Nat) : Int) == 58) = (c == 58) := u8_beq c 58
        have HCC := Lib.hid (And.intro hc c1)
        clear c1 c2 hc
        by_cases hc58 : c = 58
        · rw [beq_iff_eq.2 hc58] at hcb
          have HC5 := Lib.hid hc58
          clear hc58
          go_wp2_with fail
          go_meet
          exact ⟨by rw [HB0.out, pre_one, HCC.out.1, HC5.out, decide_eq_true HCC.out.2]; simp, rfl⟩
        · rw [beq_eq_false_iff_ne.2 hc58] at hcb
          have HC5 := Lib.hid hc58
          clear hc58
          go_wp2_with fail
          go_meet
          exact ⟨by rw [HB0.out, pre_one, HCC.out.1, decide_eq_false (fun e => HC5.out (Option.some.inj e)), Bool.and_false], rfl⟩
  case rest =>
  obtain ⟨rfl, rfl⟩ := hcut
  go_upto_if 20 with fail
  go_cut [0] from 21 to 29 (fun s0 wx => s0 = .string s1 ∧ Blk wx (w.heap.size + 1) #[.string x, .string ⟨#[]⟩, .string ⟨#[]⟩, .string ⟨#[]⟩, .string ⟨#[]⟩] 26 ∧ Blk wx w.heap.size #[.string ⟨#[]⟩, .string ⟨#[]⟩, .string ⟨#[]⟩, .string ⟨#[]⟩, .string ⟨#[]⟩] 26 ∧ Below w.heap.size w wx)
  case first =>
    cases b0 with
    | false =>
      go_wp2_with fail
      go_meet
      have hb0 := HB0.out
      have hsch := scheme_none (l := l) (by
        rw [← HFR.out.1, ← HFR.out.2]
        by_cases c1 : F = []
        · exact .inl c1
        · rw [decide_eq_true c1, Bool.true_and] at hb0
          right
          exact hb0.symm)
      have es : s1 = s := ba_ext (by rw [HSW.out.2, HL1.out, hsch, HL.out])
      have ex : x = ⟨#[]⟩ := ba_ext (by rw [HSW.out.1, hsch])
      rw [es, ex]
      exact ⟨rfl, hB, hA, hbel⟩
    | true =>
      have hb0 := HB0.out
      have hc := Bool.and_eq_true_iff.1 hb0.symm
      have c1 := of_decide_eq_true hc.1
      have c2 := hc.2
      have hsch := scheme_some (l := l) (by rw [← HFR.out.1]; exact c1) (by rw [← HFR.out.2]; exact c2)
      have hhd : (restL [58, 47, 63, 35] l).head? = some 58 := by
        rw [← HFR.out.2]
        rw [pre_one] at c2
        exact of_decide_eq_true c2
      have hpl := pre_len c2
      simp only [List.length_cons, List.length_nil] at hpl
      have hle1 : (F.length : Int) + 1 ≤ s.size := by have := HFL.out; have := HSL.out; omega
      have hex1 : s.extract 0 (F.length + 1) = x := ba_ext (by rw [ext_to, ← HL.out, HSW.out.1, hsch, HFR.out.1]; exact take_front hhd)
      have hex2 : s.extract (F.length + 1) s.size = s1 := ba_ext (by rw [ext_from, ← HL.out, HSW.out.2, HL1.out, hsch, HFR.out.1, ← List.drop_drop, rest_drop])
      clear hsch hhd hpl c1 c2 hb0 hc
      have z0 := hB.cell 0
      have z1 := hB.cell 1
      have z2 := hB.cell 2
      have z3 := hB.cell 3
      have z4 := hB.cell 4
      have y0 := hB.frozen 0
      have y1 := hB.frozen 1
      have y2 := hB.frozen 2
      have y3 := hB.frozen 3
      have y4 := hB.frozen 4
      simp only [List.getElem?_toArray, List.getElem?_cons_zero, List.getElem?_cons_succ] at z0 z1 z2 z3 z4
      go_wp2_with fail
      go_region
      all_goals go_wp2_with fail
      all_goals go_meet
      exact ⟨rfl, (hB.set 0 (.string x)).drew, (hA.other ⟨w.heap.size + 1, 0, none⟩ (.string x) (by show w.heap.size ≠ w.heap.size + 1; omega)).drew, below_drew (hbel.setCell (p := ⟨w.heap.size + 1, 0, none⟩) (Nat.le_succ _) (.string x))⟩
  case rest =>
  clear hA hB hbel
  obtain ⟨rfl, hB, hA, hbel⟩ := hcut
  go_upto_region 5 with fail
  obtain ⟨b1, hb1⟩ : ∃ b : Bool, b = Lib.hasPrefix L1 [47, 47] := ⟨_, rfl⟩
  have HB1 := Lib.hid hb1
  clear hb1
  go_cut [37] from 30 to 37 (fun s37 wx => s37 = .bool b1 ∧ wx = wc)
  case first =>
    by_cases c1 : (1 : Int) < s1.size
    · have hle : (2 : Int) ≤ s1.size := by omega
      have hbq : ((s1.extract 0 2).toList == [47, 47]) = b1 := by
        have h := beq_prefix s1 ⟨#[47, 47]⟩ (by show 2 ≤ s1.size; omega)
        rw [HSW.out.2] at h
        rw [HB1.out, ← h]
        congr 1
        rw [Lib.toList_data]
      cases b1 with
      | false =>
        go_wp2_with fail
        go_meet
        exact ⟨rfl, rfl⟩
      | true =>
        go_wp2_with fail
        go_meet
        exact ⟨rfl, rfl⟩
    · have hb : b1 = false := by
        have := HB1.out
        cases hb : Lib.hasPrefix L1 [47, 47] with
        | false => rw [this, hb]
        | true =>
          have h2 := pre_len hb
          simp only [List.length_cons, List.length_nil] at h2
          have := HL1S.out
          omega
      have HBF := Lib.hid hb
      clear hb
      go_wp2_with fail
      go_meet
      exact ⟨by rw [HBF.out], rfl⟩
  case rest =>
  obtain ⟨rfl, hwq⟩ := hcut
  obtain rfl := hwq
  go_upto_if 37 with fail
  go_cut [0, 4] from 38 to 46 (fun s0 _ wx => s0 = .string s2 ∧ Blk wx (w.heap.size + 1) #[.string x, .string y, .string ⟨#[]⟩, .string ⟨#[]⟩, .string ⟨#[]⟩] 26 ∧ Blk wx w.heap.size #[.string ⟨#[]⟩, .string ⟨#[]⟩, .string ⟨#[]⟩, .string ⟨#[]⟩, .string ⟨#[]⟩] 26 ∧ Below w.heap.size w wx)
  case first =>
    cases b1 with
    | false =>
      go_wp2_with fail
      go_meet
      have c3 := HB1.out.symm
      have hau : authL L1 = ([], L1) := by unfold authL; rw [c3]; rfl
      have es : s2 = s1 := ba_ext (by rw [HAW.out.2, HL2.out, hau, HSW.out.2])
      have ey : y = ⟨#[]⟩ := ba_ext (by rw [HAW.out.1, hau])
      rw [es, ey]
      exact ⟨rfl, hB, hA, hbel⟩
    | true =>
      have c3 := HB1.out.symm
      have hpl := pre_len c3
      simp only [List.length_cons, List.length_nil] at hpl
      have hau : authL L1 = ([47, 47] ++ frontL [47, 63, 35] (L1.drop 2), restL [47, 63, 35] (L1.drop 2)) := by unfold authL; rw [if_pos c3]
      have hfl1 := front_len [47, 63, 35] (L1.drop 2)
      rw [List.length_drop] at hfl1
      have HUU := Lib.hid (HU1.out (by have := HL1S.out; omega))
      obtain ⟨k, hk⟩ : ∃ k, k = 2 + (frontL [47, 63, 35] (L1.drop 2)).length := ⟨_, rfl⟩
      rw [← hk] at HUU
      have hle4 : (k : Int) ≤ s1.size := by have := HL1S.out; omega
      have hex3 : s1.extract 0 k = y := ba_ext (by rw [ext_to, HSW.out.2, HAW.out.1, hau, hk]; exact take_auth c3)
      have hex4 : s1.extract k s1.size = s2 := ba_ext (by rw [ext_from, HSW.out.2, HAW.out.2, HL2.out, hau, hk, ← List.drop_drop, rest_drop])
      clear hau hfl1 hpl c3 hk
      have z0 := hB.cell 0
      have z1 := hB.cell 1
      have z2 := hB.cell 2
      have z3 := hB.cell 3
      have z4 := hB.cell 4
      have y0 := hB.frozen 0
      have y1 := hB.frozen 1
      have y2 := hB.frozen 2
      have y3 := hB.frozen 3
      have y4 := hB.frozen 4
      simp only [List.getElem?_toArray, List.getElem?_cons_zero, List.getElem?_cons_succ] at z0 z1 z2 z3 z4
      go_wp2_with fail
      refine (HUU.out _).mono ?_
      rintro e w4 ⟨rfl, hw⟩
      obtain rfl := hw.symm
      clear hw
      go_wp2_with fail
      go_region
      all_goals go_wp2_with fail
      all_goals go_meet
      exact ⟨rfl, (hB.set 1 (.string y)).drew, (hA.other ⟨w.heap.size + 1, 1, none⟩ (.string y) (by show w.heap.size ≠ w.heap.size + 1; omega)).drew, below_drew (hbel.setCell (p := ⟨w.heap.size + 1, 1, none⟩) (Nat.le_succ _) (.string y))⟩
  case rest =>
  clear hA hB hbel
  obtain ⟨rfl, hB, hA, hbel⟩ := hcut
  have z0 := hB.cell 0
  have z1 := hB.cell 1
  have z2 := hB.cell 2
  have z3 := hB.cell 3
  have z4 := hB.cell 4
  have y0 := hB.frozen 0
  have y1 := hB.frozen 1
  have y2 := hB.frozen 2
  have y3 := hB.frozen 3
  have y4 := hB.frozen 4
  simp only [List.getElem?_toArray, List.getElem?_cons_zero, List.getElem?_cons_succ] at z0 z1 z2 z3 z4
  go_wp2_with fail
  refine (HU2.out _).mono ?_
  rintro e w5 ⟨rfl, hw⟩
  obtain rfl := hw.symm
  clear hw
  go_wp2_with fail
  go_region
  clear z0 z1 z2 z3 z4 y0 y1 y2 y3 y4
  replace hB := (hB.set 2 (.string f2)).drew
  simp only [List.setIfInBounds_toArray, List.set_cons_zero, List.set_cons_succ] at hB
  replace hA := (hA.other ⟨w.heap.size + 1, 2, none⟩ (.string f2) (by show w.heap.size ≠ w.heap.size + 1; omega)).drew
  replace hbel := below_drew (hbel.setCell (p := ⟨w.heap.size + 1, 2, none⟩) (Nat.le_succ _) (.string f2))
  generalize World.drew _ = w6 at hB hA hbel ⊢
  go_upto_region 10 with fail
  obtain ⟨b2, hb2⟩ : ∃ b : Bool, b = Lib.hasPrefix L3 [63] := ⟨_, rfl⟩
  have HB2 := Lib.hid hb2
  clear hb2
  go_cut [63] from 56 to 63 (fun s63 wx => s63 = .bool b2 ∧ wx = w6)
  case first =>
    have hr2l : r2.size = L3.length := by rw [Lib.size_eq, HR2.out]
    by_cases c1 : L3 = []
    · have hz : r2.size = 0 := by rw [hr2l, c1]; rfl
      have hzn : ¬ (0 : Int) < r2.size := by omega
      have HC1 := Lib.hid c1
      clear hz hr2l c1
      go_wp2_with fail
      go_meet
      exact ⟨by rw [HB2.out, HC1.out]; rfl, rfl⟩
    · have hz : 0 < L3.length := by
        have : L3.length ≠ 0 := fun e => c1 (List.length_eq_zero_iff.1 e)
        omega
      have hzp : (0 : Int) < r2.size := by omega
      have hzn : 0 < r2.size := by omega
      obtain ⟨c, hc⟩ : ∃ c, c = L3[0] := ⟨_, rfl⟩
      have hgk : r2[0]'hzn = c := by rw [hc]; exact HG2.out hzn hz
      have hcb : (((c.toNat : Nat) : Int) == 63) = (c == 63) := u8_beq c 63
      have hpr : Lib.hasPrefix L3 [63] = (c == 63) := by
        rw [pre_one, List.head?_eq_getElem?, List.getElem?_eq_getElem hz, ← hc]
        by_cases h : c = 63
        · subst h; simp
        · rw [decide_eq_false (fun e => h (Option.some.inj e)), beq_eq_false_iff_ne.2 h]
      have hbb := HB2.out
      rw [hpr] at hbb
      rw [← hbb] at hcb
      have HBB := Lib.hid hbb
      clear hbb hpr hc hr2l c1 hz
      cases b2 with
      | false =>
        go_wp2_with fail
        go_meet
        exact ⟨rfl, rfl⟩
      | true =>
        go_wp2_with fail
        go_meet
        exact ⟨rfl, rfl⟩
  case rest =>
  obtain ⟨rfl, hwq⟩ := hcut
  obtain rfl := hwq
  go_upto_if 63 with fail
  go_cut [0, 4] from 64 to 72 (fun s0 _ wx => s0 = .string r3 ∧ Blk wx (w.heap.size + 1) #[.string x, .string y, .string f2, .string f3, .string ⟨#[]⟩] 26 ∧ Blk wx w.heap.size #[.string ⟨#[]⟩, .string ⟨#[]⟩, .string ⟨#[]⟩, .string ⟨#[]⟩, .string ⟨#[]⟩] 26 ∧ Below w.heap.size w wx)
  case first =>
    cases b2 with
    | false =>
      go_wp2_with fail
      go_meet
      have hn := no_query (l := L2) (by rw [← HL3.out]; exact HB2.out.symm)
      rw [← HL3.out] at hn
      have es : r3 = r2 := ba_ext (by rw [HR3.out.2, hn.2, HR2.out])
      have ef : f3 = ⟨#[]⟩ := ba_ext (by rw [HR3.out.1, hn.1])
      rw [es, ef]
      exact ⟨rfl, hB, hA, hbel⟩
    | true =>
      have z0 := hB.cell 0
      have z1 := hB.cell 1
      have z2 := hB.cell 2
      have z3 := hB.cell 3
      have z4 := hB.cell 4
      have y0 := hB.frozen 0
      have y1 := hB.frozen 1
      have y2 := hB.frozen 2
      have y3 := hB.frozen 3
      have y4 := hB.frozen 4
      simp only [List.getElem?_toArray, List.getElem?_cons_zero, List.getElem?_cons_succ] at z0 z1 z2 z3 z4
      go_wp2_with fail
      refine (HU3.out _).mono ?_
      rintro e w7 ⟨rfl, hw⟩
      obtain rfl := hw.symm
      clear hw
      go_wp2_with fail
      go_region
      all_goals go_wp2_with fail
      all_goals go_meet
      exact ⟨rfl, (hB.set 3 (.string f3)).drew, (hA.other ⟨w.heap.size + 1, 3, none⟩ (.string f3) (by show w.heap.size ≠ w.heap.size + 1; omega)).drew, below_drew (hbel.setCell (p := ⟨w.heap.size + 1, 3, none⟩) (Nat.le_succ _) (.string f3))⟩
  case rest =>
  clear hA hB hbel
  obtain ⟨rfl, hB, hA, hbel⟩ := hcut
  have z0 := hB.cell 0
  have z1 := hB.cell 1
  have z2 := hB.cell 2
  have z3 := hB.cell 3
  have z4 := hB.cell 4
  have y0 := hB.frozen 0
  have y1 := hB.frozen 1
  have y2 := hB.frozen 2
  have y3 := hB.frozen 3
  have y4 := hB.frozen 4
  simp only [List.getElem?_toArray, List.getElem?_cons_zero, List.getElem?_cons_succ] at z0 z1 z2 z3 z4
  have x0 := hA.cell 0
  have x1 := hA.cell 1
  have x2 := hA.cell 2
  have x3 := hA.cell 3
  have x4 := hA.cell 4
  have v0 := hA.frozen 0
  have v1 := hA.frozen 1
  have v2 := hA.frozen 2
  have v3 := hA.frozen 3
  have v4 := hA.frozen 4
  simp only [List.getElem?_toArray, List.getElem?_cons_zero, List.getElem?_cons_succ] at x0 x1 x2 x3 x4
  go_wp2_with fail
  clear z0 z1 z2 z3 z4 y0 y1 y2 y3 y4
  clear x0 x1 x2 x3 x4 v0 v1 v2 v3 v4
  have hZ := ((((((hA).other ⟨w.heap.size + 1, 4, none⟩ (.string r3) (by show w.heap.size ≠ w.heap.size + 1; omega)).set 0 (.string x)).set 1 (.string y)).set 2 (.string f2)).set 3 (.string f3)).set 4 (.string r3)
  simp only [List.setIfInBounds_toArray, List.set_cons_zero, List.set_cons_succ] at hZ
  have hbZ := ((((((hbel).setCell (p := ⟨w.heap.size + 1, 4, none⟩) (Nat.le_succ _) (.string r3)).setCell (p := ⟨w.heap.size, 0, none⟩) (Nat.le_refl _) (.string x)).setCell (p := ⟨w.heap.size, 1, none⟩) (Nat.le_refl _) (.string y)).setCell (p := ⟨w.heap.size, 2, none⟩) (Nat.le_refl _) (.string f2)).setCell (p := ⟨w.heap.size, 3, none⟩) (Nat.le_refl _) (.string f3)).setCell (p := ⟨w.heap.size, 4, none⟩) (Nat.le_refl _) (.string r3)
  refine bodyPost_ret (results_cell5 (by kernel_rfl) _ _ w.heap.size _ _ _ _ _ _ rfl hZ) rfl ?_
  exact ⟨by rw [HV.out], hbZ⟩
end Go.Proofs.Ytbkokckpjmbjhaa
