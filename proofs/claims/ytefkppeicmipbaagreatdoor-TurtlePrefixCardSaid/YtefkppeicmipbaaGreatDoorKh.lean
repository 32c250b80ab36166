/- References: Split. -/
import Derived.Test.YtefkppeicmipbaaGreatDoorKg
import Derived.Deep.CutBlock
import Derived.Deep.DeepCutAuto
namespace Go.Proofs.YtefkppeicmipbaaGreatDoor
open Go.RowKit Go.Shelf
set_option maxRecDepth 100000
set_option linter.unusedVariables false
/-- IndexAny tells marks in a text and in what is left of it. -/
def MarksAt (l : List UInt8) : Prop := ∀ (x m : ByteArray), x.size ≤ 1000000 → (∀ c ∈ x.data.toList, c ∈ l) → m.size ≤ 10 → (∀ (j : Nat) b, m.data.toList[j]? = some b → b.toNat < 128) → AnyAt x m
theorem marksAt_ascii {l : List UInt8} (h : ∀ c ∈ l, c.toNat < 128) : MarksAt l := fun x m hx hl hm h2 =>
  anyAt_ascii x m hx (by omega) (fun j b hj => h b (hl b (List.mem_of_getElem? hj))) h2
def ptV (t : Pt) : Value := .agg #[.string ⟨t.s.toArray⟩, .string ⟨t.a.toArray⟩, .string ⟨t.p.toArray⟩, .string ⟨t.q.toArray⟩, .string ⟨t.f.toArray⟩]
theorem mem_rest {m l : List UInt8} {c : UInt8} (h : c ∈ restL m l) : c ∈ l := (List.dropWhile_sublist _).mem h
theorem mem_drop {n : Nat} {l : List UInt8} {c : UInt8} (h : c ∈ l.drop n) : c ∈ l := List.mem_of_mem_drop h
theorem ext_size (s : ByteArray) (k : Nat) : (s.extract k s.size).size ≤ s.size := by
  rw [Lib.size_eq, ext_fromK, List.length_drop, ← Lib.size_eq]; omega
theorem results_cell5 {fn : Func} (h : fn.results = #[.cell 2 109]) (tmps : Array Value) (w : World) (g : Nat) (t : TypeId) (a b c d e : Value)
    (hp : tmps.getD 2 undef = .pointer (some ⟨g, 0, none⟩)) (hg : Blk w g #[a, b, c, d, e] t) : (results fn tmps).run Tryz.prog w = .ok (.agg #[a, b, c, d, e]) w :=
  results_cell_row h tmps w g t _ (0, 0) _ hp hg Tryz.underlying109 rfl (by kernel_rfl)
theorem blk5_load {w : World} {g : Nat} {a b c d e : Value} {t : TypeId} (h : Blk w g #[a, b, c, d, e] t) (x : Value) (hx : x = .agg #[a, b, c, d, e]) : (loadVar 109 ⟨g, 0, none⟩).run Tryz.prog w = .ok x w := by
  rw [hx]
  exact run_loadVar_row w g t _ _ (0, 0) _ h Tryz.underlying109 rfl (by kernel_rfl)
theorem until_of (s m : ByteArray) (hs : s.size ≤ 1000000) {l : List UInt8} (hl : s.data.toList = l) (hA : AnyAt s m) (f r : ByteArray) (hf : f.data.toList = frontL m.data.toList l) (hr : r.data.toList = restL m.data.toList l) (w : World) : Calls Tryz.prog 111 #[.string s, .string m] w fun e w' => e = .returned (.tuple #[.string f, .string r]) ∧ Below w.heap.size w w' := by
  have h := until_any s m hs hA w
  rw [hl, ← hf, ← hr] at h
  exact h
theorem exists_ba (l : List UInt8) : ∃ b : ByteArray, b.data.toList = l := ⟨⟨l.toArray⟩, rfl⟩
theorem pre_oneK (l : List UInt8) (c : UInt8) : Lib.hasPrefix l [c] = decide (l.head? = some c) := by
  cases l with
  | nil => rfl
  | cons d r =>
    show ((c == d) && List.isPrefixOf [] r) = _
    rw [List.head?_cons]
    by_cases h : c = d
    · subst h; simp
    · rw [beq_eq_false_iff_ne.2 h, Bool.false_and, decide_eq_false (fun e => h (Option.some.inj e).symm)]
theorem scheme_none {l : List UInt8} (h : frontL [58, 47, 63, 35] l = [] ∨ Lib.hasPrefix (restL [58, 47, 63, 35] l) [58] = false) : schemeL l = ([], l) := by
  unfold schemeL
  rw [pre_oneK] at h
  rw [if_neg]
  rintro ⟨h1, h2⟩
  rcases h with h | h
  · exact h1 h
  · exact of_decide_eq_false h h2
theorem scheme_some {l : List UInt8} (h1 : ¬ frontL [58, 47, 63, 35] l = []) (h2 : Lib.hasPrefix (restL [58, 47, 63, 35] l) [58] = true) : schemeL l = (frontL [58, 47, 63, 35] l ++ [58], (restL [58, 47, 63, 35] l).drop 1) := by
  unfold schemeL
  rw [pre_oneK] at h2
  rw [if_pos ⟨h1, of_decide_eq_true h2⟩]
theorem take_front {m l : List UInt8} {c : UInt8} (h : (restL m l).head? = some c) : l.take ((frontL m l).length + 1) = frontL m l ++ [c] := by
  cases hr : restL m l with
  | nil => rw [hr] at h; cases h
  | cons d r =>
    rw [hr] at h
    cases h
    have := front_rest m l
    rw [hr] at this
    have e : l.take ((frontL m l).length + 1) = (frontL m l ++ c :: r).take ((frontL m l).length + 1) := by rw [this]
    rw [e, List.take_append, List.take_of_length_le (by omega)]
    simp
theorem below_drewK {b : Nat} {w w' : World} (h : Below b w w') : Below b w w'.drew := ⟨h.os, h.tape, h.output, h.size, h.block⟩
theorem take_auth {m l : List UInt8} (h : Lib.hasPrefix l [47, 47] = true) : l.take (2 + (frontL m (l.drop 2)).length) = [47, 47] ++ frontL m (l.drop 2) := by
  match l, h with
  | c :: d :: r, h =>
    have hc : c = 47 ∧ d = 47 := by
      simp [Lib.hasPrefix] at h
      exact ⟨h.1.symm, h.2.symm⟩
    obtain ⟨rfl, rfl⟩ := hc
    rw [Nat.add_comm]
    simp only [List.take_succ_cons, List.drop_succ_cons, List.drop_zero, front_take]
    rfl
  | [c], h => exact absurd h (by simp [Lib.hasPrefix])
  | [], h => exact absurd h (by simp [Lib.hasPrefix])
set_option maxHeartbeats 16000000 in
theorem isplit_any (s : ByteArray) (hs : s.size ≤ 1000000) (hM : MarksAt s.data.toList) (w : World) : Calls Tryz.prog 97 #[.string s] w fun e w' => e = .returned (ptV (splitL s.data.toList)) ∧ Below w.heap.size w w' := by
  obtain ⟨l, hl⟩ : ∃ l, l = s.data.toList := ⟨_, rfl⟩
  have hsl : s.size = l.length := by rw [hl, Lib.size_eq]
  rw [← hl] at hM ⊢
  have HCL := Lib.hid (fun w => sclone_anyK s w hs)
  obtain ⟨f0, hf0⟩ := exists_ba (frontL [58, 47, 63, 35] l)
  obtain ⟨r0, hr0⟩ := exists_ba (restL [58, 47, 63, 35] l)
  have HU0 := Lib.hid (fun w => until_of s ⟨#[58, 47, 63, 35]⟩ hs hl.symm (hM s _ hs (fun c hc => by rw [hl]; exact hc) (by decide) (ascii_allK (by decide))) f0 r0 hf0 hr0 w)
  have HP0 := Lib.hid (fun w => spre_anyK r0 ⟨#[58]⟩ w)
  rw [hr0] at HP0
  dsimp only at HP0
  obtain ⟨R, hR⟩ : ∃ R, R = restL [58, 47, 63, 35] l := ⟨_, rfl⟩
  have hfl := front_len [58, 47, 63, 35] l
  rw [← hR] at HP0 hfl
  have hfs : f0.size = (frontL [58, 47, 63, 35] l).length := by rw [Lib.size_eq, hf0]
  have hrs : r0.size = R.length := by rw [Lib.size_eq, hr0, hR]
  rw [← hfs] at hfl
  have he0 : f0.toList.isEmpty = decide (frontL [58, 47, 63, 35] l = []) := by
    rw [Lib.toList_data, hf0]
    cases frontL [58, 47, 63, 35] l <;> simp
  have hsi : (s.size : Int) ≤ 1000000 := by omega
  obtain ⟨x, hx⟩ := exists_ba (schemeL l).1
  obtain ⟨s1, hs1⟩ := exists_ba (schemeL l).2
  have hsw := scheme_whole l
  have hs1l : s1.size ≤ s.size := by
    have := congrArg List.length hsw
    rw [List.length_append] at this
    rw [Lib.size_eq s1, hs1, hsl]
    omega
  have hs1m : ∀ c ∈ s1.data.toList, c ∈ l := fun c hc => by rw [hs1] at hc; rw [← hsw]; exact List.mem_append_right _ hc
  obtain ⟨L1, hL1⟩ : ∃ L1, L1 = (schemeL l).2 := ⟨_, rfl⟩
  have HX := Lib.hid hx
  obtain ⟨y, hy⟩ := exists_ba (authL L1).1
  obtain ⟨s2, hs2⟩ := exists_ba (authL L1).2
  have haw := auth_whole L1
  rw [← hL1] at hs1
  have hL1s : s1.size = L1.length := by rw [Lib.size_eq, hs1]
  have hs2l : s2.size ≤ s1.size := by
    have := congrArg List.length haw
    rw [List.length_append] at this
    rw [Lib.size_eq s2, hs2, hL1s]
    omega
  have hs2m : ∀ c ∈ s2.data.toList, c ∈ l := fun c hc => hs1m c (by rw [hs1, ← haw]; rw [hs2] at hc; exact List.mem_append_right _ hc)
  obtain ⟨t1, ht1⟩ : ∃ t1 : ByteArray, s1.extract 2 s1.size = t1 := ⟨_, rfl⟩
  have ht1l : t1.data.toList = L1.drop 2 := by rw [ext_from' ht1, hs1]
  have ht1s : t1.size ≤ s1.size := by rw [← ht1]; exact ext_size s1 2
  have ht1m : ∀ c ∈ t1.data.toList, c ∈ l := fun c hc => hs1m c (by rw [hs1]; rw [ht1l] at hc; exact mem_drop hc)
  obtain ⟨f1, hf1⟩ := exists_ba (frontL [47, 63, 35] (L1.drop 2))
  obtain ⟨r1, hr1⟩ := exists_ba (restL [47, 63, 35] (L1.drop 2))
  have HU1 := Lib.hid (fun w => until_of t1 ⟨#[47, 63, 35]⟩ (by omega) ht1l (hM t1 _ (by omega) ht1m (by decide) (ascii_allK (by decide))) f1 r1 hf1 hr1 w)
  have HP1 := Lib.hid (fun w => spre_anyK s1 ⟨#[47, 47]⟩ w)
  rw [hs1] at HP1
  dsimp only at HP1
  obtain ⟨f2, hf2⟩ := exists_ba (frontL [63, 35] (authL L1).2)
  obtain ⟨r2, hr2⟩ := exists_ba (restL [63, 35] (authL L1).2)
  have HU2 := Lib.hid (fun w => until_of s2 ⟨#[63, 35]⟩ (by omega) hs2 (hM s2 _ (by omega) hs2m (by decide) (ascii_allK (by decide))) f2 r2 hf2 hr2 w)
  have hr2s : r2.size ≤ s2.size := by
    rw [Lib.size_eq r2, hr2, Lib.size_eq s2, hs2]; exact rest_le _ _
  obtain ⟨f3, hf3⟩ := exists_ba (frontL [35] (restL [63, 35] (authL L1).2))
  obtain ⟨r3, hr3⟩ := exists_ba (restL [35] (restL [63, 35] (authL L1).2))
  have HU3 := Lib.hid (fun w => until_of r2 ⟨#[35]⟩ (by omega) hr2 (anyAt_one r2 35 (by decide)) f3 r3 hf3 hr3 w)
  have HV := Lib.hid (show ptV (splitL l) = .agg #[.string x, .string y, .string f2, .string f3, .string r3] by
    unfold ptV splitL
    rw [← hL1]
    rw [← hx, ← hy, ← hf2, ← hf3, ← hr3])
  have HSW := Lib.hid (And.intro hx hs1)
  have HAW := Lib.hid (And.intro hy hs2)
  have HF1 := Lib.hid (And.intro hf1 hr1)
  have hs1z : (s1.size : Int) ≤ 1000000 := by omega
  have HT1 := Lib.hid ht1l
  have HFR := Lib.hid (And.intro hf0 hr0)
  have HRR := Lib.hid hR
  have HFL := Lib.hid hfl
  have HFS := Lib.hid hfs
  have HRS := Lib.hid hrs
  have HL := Lib.hid hl
  have HSL := Lib.hid hsl
  have HL1S := Lib.hid hL1s
  have HL1 := Lib.hid hL1
  have HS1 := Lib.hid hs1
  clear hf0 hr0 hR hfl hfs hrs hx hs1 hsw hs1l hs1m hL1 hy hs2 haw hs2l hs2m ht1l ht1s ht1m hf1 hr1 hf2 hr2 hr2s hf3 hr3 hM hl hsl hL1s
  have hbel : Below w.heap.size w ((w.alloc (.cells #[.string ⟨#[]⟩, .string ⟨#[]⟩, .string ⟨#[]⟩, .string ⟨#[]⟩, .string ⟨#[]⟩] 109)).alloc (.cells #[.string ⟨#[]⟩, .string ⟨#[]⟩, .string ⟨#[]⟩, .string ⟨#[]⟩, .string ⟨#[]⟩] 109)) := ((Below.refl _ w).alloc (Nat.le_refl _) _).alloc (by simp) _
  have hA : Blk ((w.alloc (.cells #[.string ⟨#[]⟩, .string ⟨#[]⟩, .string ⟨#[]⟩, .string ⟨#[]⟩, .string ⟨#[]⟩] 109)).alloc (.cells #[.string ⟨#[]⟩, .string ⟨#[]⟩, .string ⟨#[]⟩, .string ⟨#[]⟩, .string ⟨#[]⟩] 109)) w.heap.size #[.string ⟨#[]⟩, .string ⟨#[]⟩, .string ⟨#[]⟩, .string ⟨#[]⟩, .string ⟨#[]⟩] 109 := (Blk.new w _ _).alloc _
  have hB := Blk.new (w.alloc (.cells #[.string ⟨#[]⟩, .string ⟨#[]⟩, .string ⟨#[]⟩, .string ⟨#[]⟩, .string ⟨#[]⟩] 109)) #[.string ⟨#[]⟩, .string ⟨#[]⟩, .string ⟨#[]⟩, .string ⟨#[]⟩, .string ⟨#[]⟩] 109
  rw [show (w.alloc (.cells #[.string ⟨#[]⟩, .string ⟨#[]⟩, .string ⟨#[]⟩, .string ⟨#[]⟩, .string ⟨#[]⟩] 109)).heap.size = w.heap.size + 1 by simp] at hB
  go_enter Tryz.func97, Tryz.ntmps97
  go_wp2_with fail
  generalize World.alloc (World.alloc w _) _ = w1 at hbel hA hB ⊢
  refine (HCL.out _).mono ?_
  rintro e w2 ⟨rfl, hb2⟩
  replace hA : Blk w2 w.heap.size _ _ := (hb2.block _ hA.lt).trans hA
  replace hB : Blk w2 (w.heap.size + 1) _ _ := (hb2.block _ hB.lt).trans hB
  replace hbel := hbel.trans (hb2.mono hbel.size)
  clear hb2
  go_wp2_with fail
  refine (HU0.out _).mono ?_
  rintro e w3 ⟨rfl, hb3⟩
  replace hA : Blk w3 w.heap.size _ _ := (hb3.block _ hA.lt).trans hA
  replace hB : Blk w3 (w.heap.size + 1) _ _ := (hb3.block _ hB.lt).trans hB
  replace hbel := hbel.trans (hb3.mono hbel.size)
  clear hb3
  go_upto_region 4 with fail
  obtain ⟨b0, hb0⟩ : ∃ b : Bool, b = (decide (¬ frontL [58, 47, 63, 35] l = []) && Lib.hasPrefix R [58]) := ⟨_, rfl⟩
  go_cut [18] from 13 to 18 (fun s18 wx => s18 = .bool b0 ∧ wx = w3)
  case first =>
    by_cases c1 : frontL [58, 47, 63, 35] l = []
    · rw [decide_eq_true c1] at he0
      rw [decide_eq_false (fun h => h c1), Bool.false_and] at hb0
      subst hb0
      go_wp2_with fail
      go_meet
      exact ⟨rfl, rfl⟩
    · rw [decide_eq_false c1] at he0
      rw [decide_eq_true c1, Bool.true_and] at hb0
      rw [← hb0] at HP0
      go_wp2_with fail
      refine (HP0.out _).mono ?_
      rintro e w4 ⟨rfl, hw⟩
      obtain rfl := hw.symm
      go_wp2_with fail
      go_meet
      exact ⟨by rw [hb0], rfl⟩
  case rest =>
  obtain ⟨rfl, rfl⟩ := hcut
  have HB0 := Lib.hid hb0
  clear hb0
  go_upto_if 18 with fail
  go_cut [0] from 19 to 26 (fun s0 wx => s0 = .string s1 ∧ Blk wx (w.heap.size + 1) #[.string x, .string ⟨#[]⟩, .string ⟨#[]⟩, .string ⟨#[]⟩, .string ⟨#[]⟩] 109 ∧ Blk wx w.heap.size #[.string ⟨#[]⟩, .string ⟨#[]⟩, .string ⟨#[]⟩, .string ⟨#[]⟩, .string ⟨#[]⟩] 109 ∧ Below w.heap.size w wx)
  case first =>
    cases b0 with
    | false =>
      go_wp2_with fail
      go_meet
      have hb0 := HB0.out
      have hsch := scheme_none (l := l) (by
        by_cases c1 : frontL [58, 47, 63, 35] l = []
        · exact .inl c1
        · rw [decide_eq_true c1, Bool.true_and] at hb0
          right
          rw [← HRR.out]
          exact hb0.symm)
      have es : s1 = s := ba_extK (by rw [HS1.out, HL1.out, hsch, HL.out])
      have ex : x = ⟨#[]⟩ := ba_extK (by rw [HX.out, hsch])
      rw [es, ex]
      exact ⟨rfl, hB, hA, hbel⟩
    | true =>
      have hb0 := HB0.out
      have hc := Bool.and_eq_true_iff.1 hb0.symm
      have c1 := of_decide_eq_true hc.1
      have c2 := hc.2
      have hsch := scheme_some (l := l) c1 (by rw [← HRR.out]; exact c2)
      have hhd : (restL [58, 47, 63, 35] l).head? = some 58 := by
        rw [← HRR.out]
        rw [pre_oneK] at c2
        exact of_decide_eq_true c2
      have hpl := pre_len c2
      simp only [List.length_cons, List.length_nil] at hpl
      have hle1 : (f0.size : Int) + 1 ≤ s.size := by have := HFL.out; have := HSL.out; omega
      have hle2 : (1 : Int) ≤ r0.size := by have := HRS.out; omega
      have hex1 : s.extract 0 (f0.size + 1) = x := ba_extK (by rw [ext_toK, ← HL.out, HX.out, hsch, HFS.out]; exact take_front hhd)
      have hex2 : r0.extract 1 r0.size = s1 := ba_extK (by rw [ext_fromK, HFR.out.2, HS1.out, HL1.out, hsch])
      clear hsch hhd hpl c1 c2 hb0 hc
      have z0 := hB.cell 0
      have z1 := hB.cell 1
      have z2 := hB.cell 2
      have z3 := hB.cell 3
      have z4 := hB.cell 4
      have y0 := hB.frozen 0
      have y1 := hB.frozen 1
      have y2 := hB.frozen 2
      have y3 := hB.frozen 3
      have y4 := hB.frozen 4
      simp only [List.getElem?_toArray, List.getElem?_cons_zero, List.getElem?_cons_succ] at z0 z1 z2 z3 z4
      go_wp2_with fail
      go_region
      all_goals go_wp2_with fail
      all_goals go_meet
      exact ⟨rfl, (hB.set 0 (.string x)).drew, (hA.other ⟨w.heap.size + 1, 0, none⟩ (.string x) (by show w.heap.size ≠ w.heap.size + 1; omega)).drew, below_drewK (hbel.setCell (p := ⟨w.heap.size + 1, 0, none⟩) (Nat.le_succ _) (.string x))⟩
  case rest =>
  clear hA hB hbel
  obtain ⟨rfl, hB, hA, hbel⟩ := hcut
  obtain ⟨b1, hb1⟩ : ∃ b : Bool, b = Lib.hasPrefix L1 [47, 47] := ⟨_, rfl⟩
  rw [← hb1] at HP1
  have HB1 := Lib.hid hb1
  clear hb1
  go_wp2_with fail
  refine (HP1.out _).mono ?_
  rintro e w4 ⟨rfl, hw⟩
  obtain rfl := hw.symm
  clear hw
  go_upto_if 28 with fail
  go_cut [0, 4, 5] from 29 to 41 (fun s0 _ _ wx => s0 = .string s2 ∧ Blk wx (w.heap.size + 1) #[.string x, .string y, .string ⟨#[]⟩, .string ⟨#[]⟩, .string ⟨#[]⟩] 109 ∧ Blk wx w.heap.size #[.string ⟨#[]⟩, .string ⟨#[]⟩, .string ⟨#[]⟩, .string ⟨#[]⟩, .string ⟨#[]⟩] 109 ∧ Below w.heap.size w wx)
  case first =>
    cases b1 with
    | false =>
      go_wp2_with fail
      go_meet
      have c3 := HB1.out.symm
      have hau : authL L1 = ([], L1) := by unfold authL; rw [c3]; rfl
      have es : s2 = s1 := ba_extK (by rw [HAW.out.2, hau, HS1.out])
      have ey : y = ⟨#[]⟩ := ba_extK (by rw [HAW.out.1, hau])
      rw [es, ey]
      exact ⟨rfl, hB, hA, hbel⟩
    | true =>
      have c3 := HB1.out.symm
      have hpl := pre_len c3
      simp only [List.length_cons, List.length_nil] at hpl
      have hau : authL L1 = ([47, 47] ++ frontL [47, 63, 35] (L1.drop 2), restL [47, 63, 35] (L1.drop 2)) := by unfold authL; rw [if_pos c3]
      have hfl1 := front_len [47, 63, 35] (L1.drop 2)
      rw [← HF1.out.1, ← Lib.size_eq, List.length_drop] at hfl1
      have hle3 : (2 : Int) ≤ s1.size := by have := HL1S.out; omega
      have hle4 : (2 : Int) + f1.size ≤ s1.size := by have := HL1S.out; omega
      have hex3 : s1.extract 0 (2 + f1.size) = y := ba_extK (by rw [ext_toK, HS1.out, HAW.out.1, hau, Lib.size_eq f1, HF1.out.1]; exact take_auth c3)
      have es : s2 = r1 := ba_extK (by rw [HAW.out.2, hau, HF1.out.2])
      have HES := Lib.hid es
      clear es hau hfl1 hpl c3
      go_wp2_with fail
      refine (HU1.out _).mono ?_
      rintro e w5 ⟨rfl, hb5⟩
      replace hA : Blk w5 w.heap.size _ _ := (hb5.block _ hA.lt).trans hA
      replace hB : Blk w5 (w.heap.size + 1) _ _ := (hb5.block _ hB.lt).trans hB
      replace hbel := hbel.trans (hb5.mono hbel.size)
      clear hb5
      have z0 := hB.cell 0
      have z1 := hB.cell 1
      have z2 := hB.cell 2
      have z3 := hB.cell 3
      have z4 := hB.cell 4
      have y0 := hB.frozen 0
      have y1 := hB.frozen 1
      have y2 := hB.frozen 2
      have y3 := hB.frozen 3
      have y4 := hB.frozen 4
      simp only [List.getElem?_toArray, List.getElem?_cons_zero, List.getElem?_cons_succ] at z0 z1 z2 z3 z4
      go_wp2_with fail
      go_meet
      rw [HES.out]
      exact ⟨rfl, hB.set 1 (.string y), hA.other ⟨w.heap.size + 1, 1, none⟩ (.string y) (by show w.heap.size ≠ w.heap.size + 1; omega), hbel.setCell (p := ⟨w.heap.size + 1, 1, none⟩) (Nat.le_succ _) (.string y)⟩
  case rest =>
  clear hA hB hbel
  obtain ⟨rfl, hB, hA, hbel⟩ := hcut
  go_wp2_with fail
  refine (HU2.out _).mono ?_
  rintro e w6 ⟨rfl, hb6⟩
  replace hA : Blk w6 w.heap.size _ _ := (hb6.block _ hA.lt).trans hA
  replace hB : Blk w6 (w.heap.size + 1) _ _ := (hb6.block _ hB.lt).trans hB
  replace hbel := hbel.trans (hb6.mono hbel.size)
  clear hb6
  have z0 := hB.cell 0
  have z1 := hB.cell 1
  have z2 := hB.cell 2
  have z3 := hB.cell 3
  have z4 := hB.cell 4
  have y0 := hB.frozen 0
  have y1 := hB.frozen 1
  have y2 := hB.frozen 2
  have y3 := hB.frozen 3
  have y4 := hB.frozen 4
  simp only [List.getElem?_toArray, List.getElem?_cons_zero, List.getElem?_cons_succ] at z0 z1 z2 z3 z4
  go_wp2_with fail
  clear z0 z1 z2 z3 z4 y0 y1 y2 y3 y4
  replace hB := hB.set 2 (.string f2)
  simp only [List.setIfInBounds_toArray, List.set_cons_zero, List.set_cons_succ] at hB
  replace hA := hA.other ⟨w.heap.size + 1, 2, none⟩ (.string f2) (by show w.heap.size ≠ w.heap.size + 1; omega)
  replace hbel := hbel.setCell (p := ⟨w.heap.size + 1, 2, none⟩) (Nat.le_succ _) (.string f2)
  generalize World.setCell w6 _ _ = w7 at hA hB hbel ⊢
  refine (HU3.out _).mono ?_
  rintro e w8 ⟨rfl, hb8⟩
  replace hA : Blk w8 w.heap.size _ _ := (hb8.block _ hA.lt).trans hA
  replace hB : Blk w8 (w.heap.size + 1) _ _ := (hb8.block _ hB.lt).trans hB
  replace hbel := hbel.trans (hb8.mono hbel.size)
  clear hb8
  have z0 := hB.cell 0
  have z1 := hB.cell 1
  have z2 := hB.cell 2
  have z3 := hB.cell 3
  have z4 := hB.cell 4
  have y0 := hB.frozen 0
  have y1 := hB.frozen 1
  have y2 := hB.frozen 2
  have y3 := hB.frozen 3
  have y4 := hB.frozen 4
  simp only [List.getElem?_toArray, List.getElem?_cons_zero, List.getElem?_cons_succ] at z0 z1 z2 z3 z4
  have x0 := hA.cell 0
  have x1 := hA.cell 1
  have x2 := hA.cell 2
  have x3 := hA.cell 3
  have x4 := hA.cell 4
  have v0 := hA.frozen 0
  have v1 := hA.frozen 1
  have v2 := hA.frozen 2
  have v3 := hA.frozen 3
  have v4 := hA.frozen 4
  simp only [List.getElem?_toArray, List.getElem?_cons_zero, List.getElem?_cons_succ] at x0 x1 x2 x3 x4
  go_wp2_with fail
  clear z0 z1 z2 z3 z4 y0 y1 y2 y3 y4
  clear x0 x1 x2 x3 x4 v0 v1 v2 v3 v4
  have hZ := (((((((hA).other ⟨w.heap.size + 1, 3, none⟩ (.string f3) (by show w.heap.size ≠ w.heap.size + 1; omega)).other ⟨w.heap.size + 1, 4, none⟩ (.string r3) (by show w.heap.size ≠ w.heap.size + 1; omega)).set 0 (.string x)).set 1 (.string y)).set 2 (.string f2)).set 3 (.string f3)).set 4 (.string r3)
  simp only [List.setIfInBounds_toArray, List.set_cons_zero, List.set_cons_succ] at hZ
  have hbZ := (((((((hbel).setCell (p := ⟨w.heap.size + 1, 3, none⟩) (Nat.le_succ _) (.string f3)).setCell (p := ⟨w.heap.size + 1, 4, none⟩) (Nat.le_succ _) (.string r3)).setCell (p := ⟨w.heap.size, 0, none⟩) (Nat.le_refl _) (.string x)).setCell (p := ⟨w.heap.size, 1, none⟩) (Nat.le_refl _) (.string y)).setCell (p := ⟨w.heap.size, 2, none⟩) (Nat.le_refl _) (.string f2)).setCell (p := ⟨w.heap.size, 3, none⟩) (Nat.le_refl _) (.string f3)).setCell (p := ⟨w.heap.size, 4, none⟩) (Nat.le_refl _) (.string r3)
  refine bodyPost_ret (results_cell5 (by kernel_rfl) _ _ w.heap.size _ _ _ _ _ _ rfl hZ) rfl ?_
  exact ⟨by rw [HV.out], hbZ⟩
end Go.Proofs.YtefkppeicmipbaaGreatDoor
