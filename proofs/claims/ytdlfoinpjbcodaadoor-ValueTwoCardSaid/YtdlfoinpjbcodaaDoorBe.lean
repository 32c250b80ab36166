/- The reference of value: Equal, Less. -/
import Derived.Test.YtdlfoinpjbcodaaDoorBd
namespace Go.Proofs.YtdlfoinpjbcodaaDoor
open Go.RowKit Go.Shelf Flo
set_option maxRecDepth 100000
set_option linter.unusedVariables false
set_option linter.unusedSimpArgs false

theorem numO_good {t : Tm} {p : Int × Nat} (h : numO t = some p) : GoodD p.1 (p.2 : Int) := by
  unfold numO at h
  cases hw : wt t <;> rw [hw] at h <;> cases h
  exact wt_num_good hw
theorem Below.drewN15 {B : Nat} {a b : World} (h : Below B a b) : ∀ n, Below B a (b.drewN n)
  | 0 => h
  | n + 1 => by
    have := Below.drewN15 h n
    exact ⟨this.os, this.tape, this.output, this.size, this.block⟩
set_option maxHeartbeats 1000000 in
theorem requal15_any (a b : Tm) (ha : a.Sm) (hb : b.Sm) (pa : a.Pu) (pb : b.Pu) (w : World) : Calls Tryd.prog 11 #[a.val, b.val] w fun e w' => e = .returned (.tuple #[.bool (equalO a b).1, .bool (equalO a b).2]) ∧ Below w.heap.size w w' := by
  have HNA0 := Lib.hid (fun w => rnumber_any a ha w)
  have HNB0 := Lib.hid (fun w => rnumber_any b hb w)
  have HKN := Lib.hid (fun w => rknown15_any a b w)
  have HPA := Lib.hid (fun w => rplain_any a w)
  have HPB := Lib.hid (fun w => rplain_any b w)
  have HBA := Lib.hid (fun w => rboolean_any a w)
  have HBB := Lib.hid (fun w => rboolean_any b w)
  have HX := Lib.hid (TwoT.new w a b 23)
  have heq := equal_bool a b
  obtain ⟨V, hV⟩ : ∃ V, V = Value.tuple #[.bool (equalO a b).1, .bool (equalO a b).2] := ⟨_, rfl⟩
  rw [← hV]
  have HV := Lib.hid hV
  clear hV
  have hc := equal_cases a b pa pb
  unfold Tm.val
  unfold Tm.val at HNA0 HNB0 HKN
  generalize hna : numO a = o at HNA0 hc
  generalize hnb : numO b = r at HNB0 hc
  cases o with
  | some p =>
    cases r with
    | some q =>
      have HG := Lib.hid (And.intro (numO_good hna) (numO_good hnb))
      have HF := Lib.hid (show V = .tuple #[.bool (cmpI (sixI p.1 p.2) (sixI q.1 q.2) == 0), .bool true] by rw [HV.out, show equalO a b = _ from hc, cmpI_eq])
      clear hna hnb hc HV
      have HNA : Hid (∀ w, Calls Tryd.prog 20 #[.agg #[.int .i64 a.k, .string a.s, .string a.l, .string a.t]] w fun e w' => e = .returned (.tuple #[.agg #[.int .i64 p.1, .int .i64 (p.2 : Int)], .bool true]) ∧ Below w.heap.size w w') := HNA0
      have HNB : Hid (∀ w, Calls Tryd.prog 20 #[.agg #[.int .i64 b.k, .string b.s, .string b.l, .string b.t]] w fun e w' => e = .returned (.tuple #[.agg #[.int .i64 q.1, .int .i64 (q.2 : Int)], .bool true]) ∧ Below w.heap.size w w') := HNB0
      clear HNA0 HNB0
      go_enter Tryd.func11, Tryd.ntmps11
      go_wp2_with fail
      generalize World.alloc (World.alloc w _) _ = wr at HX ⊢
      refine (HNA.out _).mono ?_
      rintro e w1 ⟨rfl, hb1⟩
      have HT1 := Lib.hid (HX.out.below hb1)
      clear hb1
      obtain ⟨hl0, ka0, ka1, ka2, ka3⟩ := HT1.out.2.1
      obtain ⟨hl1, kb0, kb1, kb2, kb3⟩ := HT1.out.2.2
      have hne0 : ¬ w.heap.size = w1.heap.size := by omega
      have hne1 : ¬ w.heap.size + 1 = w1.heap.size := by omega
      go_wp2_with fail
      clear ka0 ka1 ka2 ka3 kb0 kb1 kb2 kb3 hl0 hl1 hne0 hne1
      have HT2 := Lib.hid (HT1.out.below ((Below.refl _ _).alloc (Nat.le_refl _) (.cells #[.int .i64 p.1, .int .i64 (p.2 : Int)] 43)))
      have HD2 := Lib.hid (DecB.new w1 p.1 (p.2 : Int) 43)
      have hz2 : w1.heap.size < (World.alloc w1 (.cells #[.int .i64 p.1, .int .i64 (p.2 : Int)] 43)).heap.size := by simp
      generalize World.alloc w1 (.cells #[.int .i64 p.1, .int .i64 (p.2 : Int)] 43) = w2 at HT2 HD2 hz2 ⊢
      refine (HNB.out _).mono ?_
      rintro e w3 ⟨rfl, hb3⟩
      have HT3 := Lib.hid (HT2.out.below hb3)
      have HD3 := Lib.hid (HD2.out.below hb3)
      have hz3 : w1.heap.size < w3.heap.size := Nat.lt_of_lt_of_le hz2 hb3.size
      clear hb3 hz2
      have HT4 := Lib.hid (HT3.out.below ((Below.refl _ _).alloc (Nat.le_refl _) (.cells #[.int .i64 q.1, .int .i64 (q.2 : Int)] 43)))
      have HD4 := Lib.hid (HD3.out.below ((Below.refl _ _).alloc (Nat.le_refl _) (.cells #[.int .i64 q.1, .int .i64 (q.2 : Int)] 43)))
      have HE4 := Lib.hid (DecB.new w3 q.1 (q.2 : Int) 43)
      have hne : ¬ w1.heap.size = w3.heap.size := by omega
      obtain ⟨hd0, d0, d1, -, -⟩ := HD3.out
      go_wp2_with fail
      generalize World.alloc w3 (.cells #[.int .i64 q.1, .int .i64 (q.2 : Int)] 43) = w4 at HT4 HD4 HE4 ⊢
      clear hne hz3 hd0 d0 d1
      refine (rcmp_any w4 p.1 (p.2 : Int) q.1 (q.2 : Int) HG.out.1 HG.out.2).mono ?_
      rintro e w5 ⟨rfl, hb5⟩
      have HT5 := Lib.hid (HT4.out.below hb5)
      clear hb5
      simp only [Int.toNat_natCast]
      generalize cmpI (sixI p.1 p.2) (sixI q.1 q.2) = c at HF ⊢
      go_wp2_with fail
      go_ret2
      exact ⟨by rw [HF.out]; rfl, HT5.out.1⟩
    | none =>
      have HF := Lib.hid (show V = .tuple #[.bool (tmEq a b), .bool (tmEq a b || knownF a b)] by rw [HV.out, show equalO a b = _ from hc])
      generalize tmEq a b = tq at heq HF
      generalize knownF a b = kf at HKN HF
      clear hna hnb hc HV
      have HNA : Hid (∀ w, Calls Tryd.prog 20 #[.agg #[.int .i64 a.k, .string a.s, .string a.l, .string a.t]] w fun e w' => e = .returned (.tuple #[.agg #[.int .i64 p.1, .int .i64 (p.2 : Int)], .bool true]) ∧ Below w.heap.size w w') := HNA0
      have HNB : Hid (∀ w, Calls Tryd.prog 20 #[.agg #[.int .i64 b.k, .string b.s, .string b.l, .string b.t]] w fun e w' => e = .returned (.tuple #[.agg #[.int .i64 0, .int .i64 0], .bool false]) ∧ Below w.heap.size w w') := HNB0
      clear HNA0 HNB0
      go_enter Tryd.func11, Tryd.ntmps11
      go_wp2_with fail
      generalize World.alloc (World.alloc w _) _ = wr at HX ⊢
      refine (HNA.out _).mono ?_
      rintro e w1 ⟨rfl, hb1⟩
      have HT1 := Lib.hid (HX.out.below hb1)
      clear hb1
      obtain ⟨hl0, ka0, ka1, ka2, ka3⟩ := HT1.out.2.1
      obtain ⟨hl1, kb0, kb1, kb2, kb3⟩ := HT1.out.2.2
      have hne0 : ¬ w.heap.size = w1.heap.size := by omega
      have hne1 : ¬ w.heap.size + 1 = w1.heap.size := by omega
      go_wp2_with fail
      clear ka0 ka1 ka2 ka3 kb0 kb1 kb2 kb3 hl0 hl1 hne0 hne1
      have HT2 := Lib.hid (HT1.out.below ((Below.refl _ _).alloc (Nat.le_refl _) (.cells #[.int .i64 p.1, .int .i64 (p.2 : Int)] 43)))
      have HD2 := Lib.hid (DecB.new w1 p.1 (p.2 : Int) 43)
      have hz2 : w1.heap.size < (World.alloc w1 (.cells #[.int .i64 p.1, .int .i64 (p.2 : Int)] 43)).heap.size := by simp
      generalize World.alloc w1 (.cells #[.int .i64 p.1, .int .i64 (p.2 : Int)] 43) = w2 at HT2 HD2 hz2 ⊢
      refine (HNB.out _).mono ?_
      rintro e w3 ⟨rfl, hb3⟩
      have HT3 := Lib.hid (HT2.out.below hb3)
      have HD3 := Lib.hid (HD2.out.below hb3)
      have hz3 : w1.heap.size < w3.heap.size := Nat.lt_of_lt_of_le hz2 hb3.size
      clear hb3 hz2
      have HT4 := Lib.hid (HT3.out.below ((Below.refl _ _).alloc (Nat.le_refl _) (.cells #[.int .i64 0, .int .i64 0] 43)))
      have HD4 := Lib.hid (HD3.out.below ((Below.refl _ _).alloc (Nat.le_refl _) (.cells #[.int .i64 0, .int .i64 0] 43)))
      have HE4 := Lib.hid (DecB.new w3 0 0 43)
      obtain ⟨hl0, ka0, ka1, ka2, ka3⟩ := HT3.out.2.1
      obtain ⟨hl1, kb0, kb1, kb2, kb3⟩ := HT3.out.2.2
      have hne0 : ¬ w.heap.size = w3.heap.size := by omega
      have hne1 : ¬ w.heap.size + 1 = w3.heap.size := by omega
      go_wp2_with fail
      clear ka0 ka1 ka2 ka3 kb0 kb1 kb2 kb3 hl0 hl1 hne0 hne1
      generalize World.alloc w3 (.cells #[.int .i64 0, .int .i64 0] 43) = w4 at HT4 HD4 HE4 ⊢
      clear hz3 HD4 HE4 HD3 HD2
      refine (HKN.out _).mono ?_
      rintro e w5 ⟨rfl, hb5⟩
      have HT5 := Lib.hid (HT4.out.below hb5)
      clear hb5 HT4
      obtain ⟨hl0, ka0, ka1, ka2, ka3⟩ := HT5.out.2.1
      obtain ⟨hl1, kb0, kb1, kb2, kb3⟩ := HT5.out.2.2
      cases kf with
      | true =>
        have HF2 := Lib.hid (show V = .tuple #[.bool tq, .bool true] by rw [HF.out, Bool.or_true])
        go_wp2_with fail
        go_ret2
        exact ⟨by rw [HF2.out]; rfl, HT5.out.1⟩
      | false =>
        have HF2 := Lib.hid (show V = .tuple #[.bool tq, .bool tq] by rw [HF.out, Bool.or_false])
        go_wp2_with fail
        go_quiet (fail)
        go_wp2_with fail
        go_ret2
        exact ⟨by rw [HF2.out]; rfl, Below.drewN15 HT5.out.1 _⟩
  | none =>
    cases r with
    | some q =>
      have HF := Lib.hid (show V = .tuple #[.bool (tmEq a b), .bool (tmEq a b || knownF a b)] by rw [HV.out, show equalO a b = _ from hc])
      generalize tmEq a b = tq at heq HF
      generalize knownF a b = kf at HKN HF
      clear hna hnb hc HV
      have HNA : Hid (∀ w, Calls Tryd.prog 20 #[.agg #[.int .i64 a.k, .string a.s, .string a.l, .string a.t]] w fun e w' => e = .returned (.tuple #[.agg #[.int .i64 0, .int .i64 0], .bool false]) ∧ Below w.heap.size w w') := HNA0
      have HNB : Hid (∀ w, Calls Tryd.prog 20 #[.agg #[.int .i64 b.k, .string b.s, .string b.l, .string b.t]] w fun e w' => e = .returned (.tuple #[.agg #[.int .i64 q.1, .int .i64 (q.2 : Int)], .bool true]) ∧ Below w.heap.size w w') := HNB0
      clear HNA0 HNB0
      go_enter Tryd.func11, Tryd.ntmps11
      go_wp2_with fail
      generalize World.alloc (World.alloc w _) _ = wr at HX ⊢
      refine (HNA.out _).mono ?_
      rintro e w1 ⟨rfl, hb1⟩
      have HT1 := Lib.hid (HX.out.below hb1)
      clear hb1
      obtain ⟨hl0, ka0, ka1, ka2, ka3⟩ := HT1.out.2.1
      obtain ⟨hl1, kb0, kb1, kb2, kb3⟩ := HT1.out.2.2
      have hne0 : ¬ w.heap.size = w1.heap.size := by omega
      have hne1 : ¬ w.heap.size + 1 = w1.heap.size := by omega
      go_wp2_with fail
      clear ka0 ka1 ka2 ka3 kb0 kb1 kb2 kb3 hl0 hl1 hne0 hne1
      have HT2 := Lib.hid (HT1.out.below ((Below.refl _ _).alloc (Nat.le_refl _) (.cells #[.int .i64 0, .int .i64 0] 43)))
      have HD2 := Lib.hid (DecB.new w1 0 0 43)
      have hz2 : w1.heap.size < (World.alloc w1 (.cells #[.int .i64 0, .int .i64 0] 43)).heap.size := by simp
      generalize World.alloc w1 (.cells #[.int .i64 0, .int .i64 0] 43) = w2 at HT2 HD2 hz2 ⊢
      refine (HNB.out _).mono ?_
      rintro e w3 ⟨rfl, hb3⟩
      have HT3 := Lib.hid (HT2.out.below hb3)
      have HD3 := Lib.hid (HD2.out.below hb3)
      have hz3 : w1.heap.size < w3.heap.size := Nat.lt_of_lt_of_le hz2 hb3.size
      clear hb3 hz2
      have HT4 := Lib.hid (HT3.out.below ((Below.refl _ _).alloc (Nat.le_refl _) (.cells #[.int .i64 q.1, .int .i64 (q.2 : Int)] 43)))
      have HD4 := Lib.hid (HD3.out.below ((Below.refl _ _).alloc (Nat.le_refl _) (.cells #[.int .i64 q.1, .int .i64 (q.2 : Int)] 43)))
      have HE4 := Lib.hid (DecB.new w3 q.1 (q.2 : Int) 43)
      obtain ⟨hl0, ka0, ka1, ka2, ka3⟩ := HT3.out.2.1
      obtain ⟨hl1, kb0, kb1, kb2, kb3⟩ := HT3.out.2.2
      have hne0 : ¬ w.heap.size = w3.heap.size := by omega
      have hne1 : ¬ w.heap.size + 1 = w3.heap.size := by omega
      go_wp2_with fail
      clear ka0 ka1 ka2 ka3 kb0 kb1 kb2 kb3 hl0 hl1 hne0 hne1
      generalize World.alloc w3 (.cells #[.int .i64 q.1, .int .i64 (q.2 : Int)] 43) = w4 at HT4 HD4 HE4 ⊢
      clear hz3 HD4 HE4 HD3 HD2
      refine (HKN.out _).mono ?_
      rintro e w5 ⟨rfl, hb5⟩
      have HT5 := Lib.hid (HT4.out.below hb5)
      clear hb5 HT4
      obtain ⟨hl0, ka0, ka1, ka2, ka3⟩ := HT5.out.2.1
      obtain ⟨hl1, kb0, kb1, kb2, kb3⟩ := HT5.out.2.2
      cases kf with
      | true =>
        have HF2 := Lib.hid (show V = .tuple #[.bool tq, .bool true] by rw [HF.out, Bool.or_true])
        go_wp2_with fail
        go_ret2
        exact ⟨by rw [HF2.out]; rfl, HT5.out.1⟩
      | false =>
        have HF2 := Lib.hid (show V = .tuple #[.bool tq, .bool tq] by rw [HF.out, Bool.or_false])
        go_wp2_with fail
        go_quiet (fail)
        go_wp2_with fail
        go_ret2
        exact ⟨by rw [HF2.out]; rfl, Below.drewN15 HT5.out.1 _⟩
    | none =>
      have HF := Lib.hid (show V = .tuple #[.bool (tmEq a b), .bool (tmEq a b || knownF a b)] by rw [HV.out, show equalO a b = _ from hc])
      generalize tmEq a b = tq at heq HF
      generalize knownF a b = kf at HKN HF
      clear hna hnb hc HV
      have HNA : Hid (∀ w, Calls Tryd.prog 20 #[.agg #[.int .i64 a.k, .string a.s, .string a.l, .string a.t]] w fun e w' => e = .returned (.tuple #[.agg #[.int .i64 0, .int .i64 0], .bool false]) ∧ Below w.heap.size w w') := HNA0
      have HNB : Hid (∀ w, Calls Tryd.prog 20 #[.agg #[.int .i64 b.k, .string b.s, .string b.l, .string b.t]] w fun e w' => e = .returned (.tuple #[.agg #[.int .i64 0, .int .i64 0], .bool false]) ∧ Below w.heap.size w w') := HNB0
      clear HNA0 HNB0
      go_enter Tryd.func11, Tryd.ntmps11
      go_wp2_with fail
      generalize World.alloc (World.alloc w _) _ = wr at HX ⊢
      refine (HNA.out _).mono ?_
      rintro e w1 ⟨rfl, hb1⟩
      have HT1 := Lib.hid (HX.out.below hb1)
      clear hb1
      obtain ⟨hl0, ka0, ka1, ka2, ka3⟩ := HT1.out.2.1
      obtain ⟨hl1, kb0, kb1, kb2, kb3⟩ := HT1.out.2.2
      have hne0 : ¬ w.heap.size = w1.heap.size := by omega
      have hne1 : ¬ w.heap.size + 1 = w1.heap.size := by omega
      go_wp2_with fail
      clear ka0 ka1 ka2 ka3 kb0 kb1 kb2 kb3 hl0 hl1 hne0 hne1
      have HT2 := Lib.hid (HT1.out.below ((Below.refl _ _).alloc (Nat.le_refl _) (.cells #[.int .i64 0, .int .i64 0] 43)))
      have HD2 := Lib.hid (DecB.new w1 0 0 43)
      have hz2 : w1.heap.size < (World.alloc w1 (.cells #[.int .i64 0, .int .i64 0] 43)).heap.size := by simp
      generalize World.alloc w1 (.cells #[.int .i64 0, .int .i64 0] 43) = w2 at HT2 HD2 hz2 ⊢
      refine (HNB.out _).mono ?_
      rintro e w3 ⟨rfl, hb3⟩
      have HT3 := Lib.hid (HT2.out.below hb3)
      have HD3 := Lib.hid (HD2.out.below hb3)
      have hz3 : w1.heap.size < w3.heap.size := Nat.lt_of_lt_of_le hz2 hb3.size
      clear hb3 hz2
      have HT4 := Lib.hid (HT3.out.below ((Below.refl _ _).alloc (Nat.le_refl _) (.cells #[.int .i64 0, .int .i64 0] 43)))
      have HD4 := Lib.hid (HD3.out.below ((Below.refl _ _).alloc (Nat.le_refl _) (.cells #[.int .i64 0, .int .i64 0] 43)))
      have HE4 := Lib.hid (DecB.new w3 0 0 43)
      obtain ⟨hl0, ka0, ka1, ka2, ka3⟩ := HT3.out.2.1
      obtain ⟨hl1, kb0, kb1, kb2, kb3⟩ := HT3.out.2.2
      have hne0 : ¬ w.heap.size = w3.heap.size := by omega
      have hne1 : ¬ w.heap.size + 1 = w3.heap.size := by omega
      go_wp2_with fail
      clear ka0 ka1 ka2 ka3 kb0 kb1 kb2 kb3 hl0 hl1 hne0 hne1
      generalize World.alloc w3 (.cells #[.int .i64 0, .int .i64 0] 43) = w4 at HT4 HD4 HE4 ⊢
      clear hz3 HD4 HE4 HD3 HD2
      refine (HKN.out _).mono ?_
      rintro e w5 ⟨rfl, hb5⟩
      have HT5 := Lib.hid (HT4.out.below hb5)
      clear hb5 HT4
      obtain ⟨hl0, ka0, ka1, ka2, ka3⟩ := HT5.out.2.1
      obtain ⟨hl1, kb0, kb1, kb2, kb3⟩ := HT5.out.2.2
      cases kf with
      | true =>
        have HF2 := Lib.hid (show V = .tuple #[.bool tq, .bool true] by rw [HF.out, Bool.or_true])
        go_wp2_with fail
        go_ret2
        exact ⟨by rw [HF2.out]; rfl, HT5.out.1⟩
      | false =>
        have HF2 := Lib.hid (show V = .tuple #[.bool tq, .bool tq] by rw [HF.out, Bool.or_false])
        go_wp2_with fail
        go_quiet (fail)
        go_wp2_with fail
        go_ret2
        exact ⟨by rw [HF2.out]; rfl, Below.drewN15 HT5.out.1 _⟩
set_option maxHeartbeats 1000000 in
theorem rless15_any (a b : Tm) (ha : a.Sm) (hb : b.Sm) (pa : a.Pu) (pb : b.Pu) (w : World) : Calls Tryd.prog 13 #[a.val, b.val] w fun e w' => e = .returned (twoB (lessO a b)) ∧ Below w.heap.size w w' := by
  have HNA0 := Lib.hid (fun w => rnumber_any a ha w)
  have HNB0 := Lib.hid (fun w => rnumber_any b hb w)
  have HKN := Lib.hid (fun w => rknown15_any a b w)
  have HPA := Lib.hid (fun w => rplain_any a w)
  have HPB := Lib.hid (fun w => rplain_any b w)
  have HBA := Lib.hid (fun w => rboolean_any a w)
  have HBB := Lib.hid (fun w => rboolean_any b w)
  have HX := Lib.hid (TwoT.new w a b 23)
  have heq := equal_bool a b
  obtain ⟨V, hV⟩ : ∃ V, V = lessO a b := ⟨_, rfl⟩
  rw [← hV]
  have HV := Lib.hid hV
  clear hV
  have hc := less_cases a b
  unfold Tm.val
  unfold Tm.val at HNA0 HNB0 HPA HPB HBA HBB
  generalize hna : numO a = o at HNA0 hc
  generalize hnb : numO b = r at HNB0 hc
  cases o with
  | some p =>
    cases r with
    | some q =>
      have HG := Lib.hid (And.intro (numO_good hna) (numO_good hnb))
      have HF := Lib.hid (show twoB V = .tuple #[.bool (decide (cmpI (sixI p.1 p.2) (sixI q.1 q.2) < 0)), .bool true] by rw [HV.out, show lessO a b = _ from hc, cmpI_lt]; rfl)
      clear hna hnb hc HV
      have HNA : Hid (∀ w, Calls Tryd.prog 20 #[.agg #[.int .i64 a.k, .string a.s, .string a.l, .string a.t]] w fun e w' => e = .returned (.tuple #[.agg #[.int .i64 p.1, .int .i64 (p.2 : Int)], .bool true]) ∧ Below w.heap.size w w') := HNA0
      have HNB : Hid (∀ w, Calls Tryd.prog 20 #[.agg #[.int .i64 b.k, .string b.s, .string b.l, .string b.t]] w fun e w' => e = .returned (.tuple #[.agg #[.int .i64 q.1, .int .i64 (q.2 : Int)], .bool true]) ∧ Below w.heap.size w w') := HNB0
      clear HNA0 HNB0
      go_enter Tryd.func13, Tryd.ntmps13
      go_wp2_with fail
      generalize World.alloc (World.alloc w _) _ = wr at HX ⊢
      refine (HNA.out _).mono ?_
      rintro e w1 ⟨rfl, hb1⟩
      have HT1 := Lib.hid (HX.out.below hb1)
      clear hb1
      obtain ⟨hl0, ka0, ka1, ka2, ka3⟩ := HT1.out.2.1
      obtain ⟨hl1, kb0, kb1, kb2, kb3⟩ := HT1.out.2.2
      have hne0 : ¬ w.heap.size = w1.heap.size := by omega
      have hne1 : ¬ w.heap.size + 1 = w1.heap.size := by omega
      go_wp2_with fail
      clear ka0 ka1 ka2 ka3 kb0 kb1 kb2 kb3 hl0 hl1 hne0 hne1
      have HT2 := Lib.hid (HT1.out.below ((Below.refl _ _).alloc (Nat.le_refl _) (.cells #[.int .i64 p.1, .int .i64 (p.2 : Int)] 43)))
      have HD2 := Lib.hid (DecB.new w1 p.1 (p.2 : Int) 43)
      have hz2 : w1.heap.size < (World.alloc w1 (.cells #[.int .i64 p.1, .int .i64 (p.2 : Int)] 43)).heap.size := by simp
      generalize World.alloc w1 (.cells #[.int .i64 p.1, .int .i64 (p.2 : Int)] 43) = w2 at HT2 HD2 hz2 ⊢
      refine (HNB.out _).mono ?_
      rintro e w3 ⟨rfl, hb3⟩
      have HT3 := Lib.hid (HT2.out.below hb3)
      have HD3 := Lib.hid (HD2.out.below hb3)
      have hz3 : w1.heap.size < w3.heap.size := Nat.lt_of_lt_of_le hz2 hb3.size
      clear hb3 hz2
      have HT4 := Lib.hid (HT3.out.below ((Below.refl _ _).alloc (Nat.le_refl _) (.cells #[.int .i64 q.1, .int .i64 (q.2 : Int)] 43)))
      have HD4 := Lib.hid (HD3.out.below ((Below.refl _ _).alloc (Nat.le_refl _) (.cells #[.int .i64 q.1, .int .i64 (q.2 : Int)] 43)))
      have HE4 := Lib.hid (DecB.new w3 q.1 (q.2 : Int) 43)
      have hne : ¬ w1.heap.size = w3.heap.size := by omega
      obtain ⟨hd0, d0, d1, -, -⟩ := HD3.out
      go_wp2_with fail
      generalize World.alloc w3 (.cells #[.int .i64 q.1, .int .i64 (q.2 : Int)] 43) = w4 at HT4 HD4 HE4 ⊢
      clear hne hz3 hd0 d0 d1
      refine (rcmp_any w4 p.1 (p.2 : Int) q.1 (q.2 : Int) HG.out.1 HG.out.2).mono ?_
      rintro e w5 ⟨rfl, hb5⟩
      have HT5 := Lib.hid (HT4.out.below hb5)
      clear hb5
      simp only [Int.toNat_natCast]
      generalize cmpI (sixI p.1 p.2) (sixI q.1 q.2) = c at HF ⊢
      go_wp2_with fail
      go_ret2
      exact ⟨by rw [HF.out]; rfl, HT5.out.1⟩
    | none =>
      have HF := Lib.hid (show V = if plainB a && plainB b then some (Op.bytesLess a.sl b.sl) else match boolO a, boolO b with
        | some x, some y => some (!x && y)
        | _, _ => none by rw [HV.out]; exact hc)
      generalize plainB a = va at HPA HF
      generalize plainB b = vb at HPB HF
      generalize boolO a = qa at HBA HF
      generalize boolO b = qb at HBB HF
      clear hna hnb hc HV heq HKN
      have HNA : Hid (∀ w, Calls Tryd.prog 20 #[.agg #[.int .i64 a.k, .string a.s, .string a.l, .string a.t]] w fun e w' => e = .returned (.tuple #[.agg #[.int .i64 p.1, .int .i64 (p.2 : Int)], .bool true]) ∧ Below w.heap.size w w') := HNA0
      have HNB : Hid (∀ w, Calls Tryd.prog 20 #[.agg #[.int .i64 b.k, .string b.s, .string b.l, .string b.t]] w fun e w' => e = .returned (.tuple #[.agg #[.int .i64 0, .int .i64 0], .bool false]) ∧ Below w.heap.size w w') := HNB0
      clear HNA0 HNB0
      go_enter Tryd.func13, Tryd.ntmps13
      go_wp2_with fail
      generalize World.alloc (World.alloc w _) _ = wr at HX ⊢
      refine (HNA.out _).mono ?_
      rintro e w1 ⟨rfl, hb1⟩
      have HT1 := Lib.hid (HX.out.below hb1)
      clear hb1
      obtain ⟨hl0, ka0, ka1, ka2, ka3⟩ := HT1.out.2.1
      obtain ⟨hl1, kb0, kb1, kb2, kb3⟩ := HT1.out.2.2
      have hne0 : ¬ w.heap.size = w1.heap.size := by omega
      have hne1 : ¬ w.heap.size + 1 = w1.heap.size := by omega
      go_wp2_with fail
      clear ka0 ka1 ka2 ka3 kb0 kb1 kb2 kb3 hl0 hl1 hne0 hne1
      have HT2 := Lib.hid (HT1.out.below ((Below.refl _ _).alloc (Nat.le_refl _) (.cells #[.int .i64 p.1, .int .i64 (p.2 : Int)] 43)))
      have HD2 := Lib.hid (DecB.new w1 p.1 (p.2 : Int) 43)
      have hz2 : w1.heap.size < (World.alloc w1 (.cells #[.int .i64 p.1, .int .i64 (p.2 : Int)] 43)).heap.size := by simp
      generalize World.alloc w1 (.cells #[.int .i64 p.1, .int .i64 (p.2 : Int)] 43) = w2 at HT2 HD2 hz2 ⊢
      refine (HNB.out _).mono ?_
      rintro e w3 ⟨rfl, hb3⟩
      have HT3 := Lib.hid (HT2.out.below hb3)
      have HD3 := Lib.hid (HD2.out.below hb3)
      have hz3 : w1.heap.size < w3.heap.size := Nat.lt_of_lt_of_le hz2 hb3.size
      clear hb3 hz2
      have HT4 := Lib.hid (HT3.out.below ((Below.refl _ _).alloc (Nat.le_refl _) (.cells #[.int .i64 0, .int .i64 0] 43)))
      have HD4 := Lib.hid (HD3.out.below ((Below.refl _ _).alloc (Nat.le_refl _) (.cells #[.int .i64 0, .int .i64 0] 43)))
      have HE4 := Lib.hid (DecB.new w3 0 0 43)
      obtain ⟨hl0, ka0, ka1, ka2, ka3⟩ := HT3.out.2.1
      obtain ⟨hl1, kb0, kb1, kb2, kb3⟩ := HT3.out.2.2
      have hne0 : ¬ w.heap.size = w3.heap.size := by omega
      have hne1 : ¬ w.heap.size + 1 = w3.heap.size := by omega
      go_wp2_with fail
      clear ka0 ka1 ka2 ka3 kb0 kb1 kb2 kb3 hl0 hl1 hne0 hne1
      generalize World.alloc w3 (.cells #[.int .i64 0, .int .i64 0] 43) = w4 at HT4 HD4 HE4 ⊢
      clear hz3 HD4 HE4 HD3 HD2
      refine (HPA.out _).mono ?_
      rintro e w5 ⟨rfl, hb5⟩
      have HT5 := Lib.hid (HT4.out.below hb5)
      clear hb5 HT4
      obtain ⟨hl0, ka0, ka1, ka2, ka3⟩ := HT5.out.2.1
      obtain ⟨hl1, kb0, kb1, kb2, kb3⟩ := HT5.out.2.2
      cases va with
      | true =>
        go_wp2_with fail
        clear ka0 ka1 ka2 ka3 kb0 kb1 kb2 kb3 hl0 hl1
        refine (HPB.out _).mono ?_
        rintro e w6 ⟨rfl, hb6⟩
        have HT6 := Lib.hid (HT5.out.below hb6)
        clear hb6
        obtain ⟨hl0, ka0, ka1, ka2, ka3⟩ := HT6.out.2.1
        obtain ⟨hl1, kb0, kb1, kb2, kb3⟩ := HT6.out.2.2
        cases vb with
        | true =>
          go_wp2_with fail
          go_ret2
          exact ⟨by rw [HF.out]; unfold Tm.sl; rw [← Lib.toList_data a.s, ← Lib.toList_data b.s]; rfl, HT6.out.1⟩
        | false =>
          go_wp2_with fail
          clear ka0 ka1 ka2 ka3 kb0 kb1 kb2 kb3 hl0 hl1
          refine (HBA.out _).mono ?_
          rintro e wa ⟨rfl, hba⟩
          have HTA := Lib.hid (HT6.out.below hba)
          clear hba
          obtain ⟨hl0, ka0, ka1, ka2, ka3⟩ := HTA.out.2.1
          obtain ⟨hl1, kb0, kb1, kb2, kb3⟩ := HTA.out.2.2
          rcases qa with _ | x
          all_goals
            unfold twoB
            go_wp2_with fail
            clear ka0 ka1 ka2 ka3 kb0 kb1 kb2 kb3 hl0 hl1
            refine (HBB.out _).mono ?_
            rintro e wb ⟨rfl, hbb⟩
            have HTB := Lib.hid (HTA.out.below hbb)
            clear hbb
            rcases qb with _ | y
            all_goals
              unfold twoB
              first | (cases x <;> cases y) | skip
              all_goals
                go_wp2_with fail
                go_ret2
                exact ⟨by rw [HF.out]; first | rfl | (cases vb <;> rfl), HTB.out.1⟩
      | false =>
        go_wp2_with fail
        clear ka0 ka1 ka2 ka3 kb0 kb1 kb2 kb3 hl0 hl1
        refine (HBA.out _).mono ?_
        rintro e wa ⟨rfl, hba⟩
        have HTA := Lib.hid (HT5.out.below hba)
        clear hba
        obtain ⟨hl0, ka0, ka1, ka2, ka3⟩ := HTA.out.2.1
        obtain ⟨hl1, kb0, kb1, kb2, kb3⟩ := HTA.out.2.2
        rcases qa with _ | x
        all_goals
          unfold twoB
          go_wp2_with fail
          clear ka0 ka1 ka2 ka3 kb0 kb1 kb2 kb3 hl0 hl1
          refine (HBB.out _).mono ?_
          rintro e wb ⟨rfl, hbb⟩
          have HTB := Lib.hid (HTA.out.below hbb)
          clear hbb
          rcases qb with _ | y
          all_goals
            unfold twoB
            first | (cases x <;> cases y) | skip
            all_goals
              go_wp2_with fail
              go_ret2
              exact ⟨by rw [HF.out]; first | rfl | (cases vb <;> rfl), HTB.out.1⟩
  | none =>
    cases r with
    | some q =>
      have HF := Lib.hid (show V = if plainB a && plainB b then some (Op.bytesLess a.sl b.sl) else match boolO a, boolO b with
        | some x, some y => some (!x && y)
        | _, _ => none by rw [HV.out]; exact hc)
      generalize plainB a = va at HPA HF
      generalize plainB b = vb at HPB HF
      generalize boolO a = qa at HBA HF
      generalize boolO b = qb at HBB HF
      clear hna hnb hc HV heq HKN
      have HNA : Hid (∀ w, Calls Tryd.prog 20 #[.agg #[.int .i64 a.k, .string a.s, .string a.l, .string a.t]] w fun e w' => e = .returned (.tuple #[.agg #[.int .i64 0, .int .i64 0], .bool false]) ∧ Below w.heap.size w w') := HNA0
      have HNB : Hid (∀ w, Calls Tryd.prog 20 #[.agg #[.int .i64 b.k, .string b.s, .string b.l, .string b.t]] w fun e w' => e = .returned (.tuple #[.agg #[.int .i64 q.1, .int .i64 (q.2 : Int)], .bool true]) ∧ Below w.heap.size w w') := HNB0
      clear HNA0 HNB0
      go_enter Tryd.func13, Tryd.ntmps13
      go_wp2_with fail
      generalize World.alloc (World.alloc w _) _ = wr at HX ⊢
      refine (HNA.out _).mono ?_
      rintro e w1 ⟨rfl, hb1⟩
      have HT1 := Lib.hid (HX.out.below hb1)
      clear hb1
      obtain ⟨hl0, ka0, ka1, ka2, ka3⟩ := HT1.out.2.1
      obtain ⟨hl1, kb0, kb1, kb2, kb3⟩ := HT1.out.2.2
      have hne0 : ¬ w.heap.size = w1.heap.size := by omega
      have hne1 : ¬ w.heap.size + 1 = w1.heap.size := by omega
      go_wp2_with fail
      clear ka0 ka1 ka2 ka3 kb0 kb1 kb2 kb3 hl0 hl1 hne0 hne1
      have HT2 := Lib.hid (HT1.out.below ((Below.refl _ _).alloc (Nat.le_refl _) (.cells #[.int .i64 0, .int .i64 0] 43)))
      have HD2 := Lib.hid (DecB.new w1 0 0 43)
      have hz2 : w1.heap.size < (World.alloc w1 (.cells #[.int .i64 0, .int .i64 0] 43)).heap.size := by simp
      generalize World.alloc w1 (.cells #[.int .i64 0, .int .i64 0] 43) = w2 at HT2 HD2 hz2 ⊢
      refine (HNB.out _).mono ?_
      rintro e w3 ⟨rfl, hb3⟩
      have HT3 := Lib.hid (HT2.out.below hb3)
      have HD3 := Lib.hid (HD2.out.below hb3)
      have hz3 : w1.heap.size < w3.heap.size := Nat.lt_of_lt_of_le hz2 hb3.size
      clear hb3 hz2
      have HT4 := Lib.hid (HT3.out.below ((Below.refl _ _).alloc (Nat.le_refl _) (.cells #[.int .i64 q.1, .int .i64 (q.2 : Int)] 43)))
      have HD4 := Lib.hid (HD3.out.below ((Below.refl _ _).alloc (Nat.le_refl _) (.cells #[.int .i64 q.1, .int .i64 (q.2 : Int)] 43)))
      have HE4 := Lib.hid (DecB.new w3 q.1 (q.2 : Int) 43)
      obtain ⟨hl0, ka0, ka1, ka2, ka3⟩ := HT3.out.2.1
      obtain ⟨hl1, kb0, kb1, kb2, kb3⟩ := HT3.out.2.2
      have hne0 : ¬ w.heap.size = w3.heap.size := by omega
      have hne1 : ¬ w.heap.size + 1 = w3.heap.size := by omega
      go_wp2_with fail
      clear ka0 ka1 ka2 ka3 kb0 kb1 kb2 kb3 hl0 hl1 hne0 hne1
      generalize World.alloc w3 (.cells #[.int .i64 q.1, .int .i64 (q.2 : Int)] 43) = w4 at HT4 HD4 HE4 ⊢
      clear hz3 HD4 HE4 HD3 HD2
      refine (HPA.out _).mono ?_
      rintro e w5 ⟨rfl, hb5⟩
      have HT5 := Lib.hid (HT4.out.below hb5)
      clear hb5 HT4
      obtain ⟨hl0, ka0, ka1, ka2, ka3⟩ := HT5.out.2.1
      obtain ⟨hl1, kb0, kb1, kb2, kb3⟩ := HT5.out.2.2
      cases va with
      | true =>
        go_wp2_with fail
        clear ka0 ka1 ka2 ka3 kb0 kb1 kb2 kb3 hl0 hl1
        refine (HPB.out _).mono ?_
        rintro e w6 ⟨rfl, hb6⟩
        have HT6 := Lib.hid (HT5.out.below hb6)
        clear hb6
        obtain ⟨hl0, ka0, ka1, ka2, ka3⟩ := HT6.out.2.1
        obtain ⟨hl1, kb0, kb1, kb2, kb3⟩ := HT6.out.2.2
        cases vb with
        | true =>
          go_wp2_with fail
          go_ret2
          exact ⟨by rw [HF.out]; unfold Tm.sl; rw [← Lib.toList_data a.s, ← Lib.toList_data b.s]; rfl, HT6.out.1⟩
        | false =>
          go_wp2_with fail
          clear ka0 ka1 ka2 ka3 kb0 kb1 kb2 kb3 hl0 hl1
          refine (HBA.out _).mono ?_
          rintro e wa ⟨rfl, hba⟩
          have HTA := Lib.hid (HT6.out.below hba)
          clear hba
          obtain ⟨hl0, ka0, ka1, ka2, ka3⟩ := HTA.out.2.1
          obtain ⟨hl1, kb0, kb1, kb2, kb3⟩ := HTA.out.2.2
          rcases qa with _ | x
          all_goals
            unfold twoB
            go_wp2_with fail
            clear ka0 ka1 ka2 ka3 kb0 kb1 kb2 kb3 hl0 hl1
            refine (HBB.out _).mono ?_
            rintro e wb ⟨rfl, hbb⟩
            have HTB := Lib.hid (HTA.out.below hbb)
            clear hbb
            rcases qb with _ | y
            all_goals
              unfold twoB
              first | (cases x <;> cases y) | skip
              all_goals
                go_wp2_with fail
                go_ret2
                exact ⟨by rw [HF.out]; first | rfl | (cases vb <;> rfl), HTB.out.1⟩
      | false =>
        go_wp2_with fail
        clear ka0 ka1 ka2 ka3 kb0 kb1 kb2 kb3 hl0 hl1
        refine (HBA.out _).mono ?_
        rintro e wa ⟨rfl, hba⟩
        have HTA := Lib.hid (HT5.out.below hba)
        clear hba
        obtain ⟨hl0, ka0, ka1, ka2, ka3⟩ := HTA.out.2.1
        obtain ⟨hl1, kb0, kb1, kb2, kb3⟩ := HTA.out.2.2
        rcases qa with _ | x
        all_goals
          unfold twoB
          go_wp2_with fail
          clear ka0 ka1 ka2 ka3 kb0 kb1 kb2 kb3 hl0 hl1
          refine (HBB.out _).mono ?_
          rintro e wb ⟨rfl, hbb⟩
          have HTB := Lib.hid (HTA.out.below hbb)
          clear hbb
          rcases qb with _ | y
          all_goals
            unfold twoB
            first | (cases x <;> cases y) | skip
            all_goals
              go_wp2_with fail
              go_ret2
              exact ⟨by rw [HF.out]; first | rfl | (cases vb <;> rfl), HTB.out.1⟩
    | none =>
      have HF := Lib.hid (show V = if plainB a && plainB b then some (Op.bytesLess a.sl b.sl) else match boolO a, boolO b with
        | some x, some y => some (!x && y)
        | _, _ => none by rw [HV.out]; exact hc)
      generalize plainB a = va at HPA HF
      generalize plainB b = vb at HPB HF
      generalize boolO a = qa at HBA HF
      generalize boolO b = qb at HBB HF
      clear hna hnb hc HV heq HKN
      have HNA : Hid (∀ w, Calls Tryd.prog 20 #[.agg #[.int .i64 a.k, .string a.s, .string a.l, .string a.t]] w fun e w' => e = .returned (.tuple #[.agg #[.int .i64 0, .int .i64 0], .bool false]) ∧ Below w.heap.size w w') := HNA0
      have HNB : Hid (∀ w, Calls Tryd.prog 20 #[.agg #[.int .i64 b.k, .string b.s, .string b.l, .string b.t]] w fun e w' => e = .returned (.tuple #[.agg #[.int .i64 0, .int .i64 0], .bool false]) ∧ Below w.heap.size w w') := HNB0
      clear HNA0 HNB0
      go_enter Tryd.func13, Tryd.ntmps13
      go_wp2_with fail
      generalize World.alloc (World.alloc w _) _ = wr at HX ⊢
      refine (HNA.out _).mono ?_
      rintro e w1 ⟨rfl, hb1⟩
      have HT1 := Lib.hid (HX.out.below hb1)
      clear hb1
      obtain ⟨hl0, ka0, ka1, ka2, ka3⟩ := HT1.out.2.1
      obtain ⟨hl1, kb0, kb1, kb2, kb3⟩ := HT1.out.2.2
      have hne0 : ¬ w.heap.size = w1.heap.size := by omega
      have hne1 : ¬ w.heap.size + 1 = w1.heap.size := by omega
      go_wp2_with fail
      clear ka0 ka1 ka2 ka3 kb0 kb1 kb2 kb3 hl0 hl1 hne0 hne1
      have HT2 := Lib.hid (HT1.out.below ((Below.refl _ _).alloc (Nat.le_refl _) (.cells #[.int .i64 0, .int .i64 0] 43)))
      have HD2 := Lib.hid (DecB.new w1 0 0 43)
      have hz2 : w1.heap.size < (World.alloc w1 (.cells #[.int .i64 0, .int .i64 0] 43)).heap.size := by simp
      generalize World.alloc w1 (.cells #[.int .i64 0, .int .i64 0] 43) = w2 at HT2 HD2 hz2 ⊢
      refine (HNB.out _).mono ?_
      rintro e w3 ⟨rfl, hb3⟩
      have HT3 := Lib.hid (HT2.out.below hb3)
      have HD3 := Lib.hid (HD2.out.below hb3)
      have hz3 : w1.heap.size < w3.heap.size := Nat.lt_of_lt_of_le hz2 hb3.size
      clear hb3 hz2
      have HT4 := Lib.hid (HT3.out.below ((Below.refl _ _).alloc (Nat.le_refl _) (.cells #[.int .i64 0, .int .i64 0] 43)))
      have HD4 := Lib.hid (HD3.out.below ((Below.refl _ _).alloc (Nat.le_refl _) (.cells #[.int .i64 0, .int .i64 0] 43)))
      have HE4 := Lib.hid (DecB.new w3 0 0 43)
      obtain ⟨hl0, ka0, ka1, ka2, ka3⟩ := HT3.out.2.1
      obtain ⟨hl1, kb0, kb1, kb2, kb3⟩ := HT3.out.2.2
      have hne0 : ¬ w.heap.size = w3.heap.size := by omega
      have hne1 : ¬ w.heap.size + 1 = w3.heap.size := by omega
      go_wp2_with fail
      clear ka0 ka1 ka2 ka3 kb0 kb1 kb2 kb3 hl0 hl1 hne0 hne1
      generalize World.alloc w3 (.cells #[.int .i64 0, .int .i64 0] 43) = w4 at HT4 HD4 HE4 ⊢
      clear hz3 HD4 HE4 HD3 HD2
      refine (HPA.out _).mono ?_
      rintro e w5 ⟨rfl, hb5⟩
      have HT5 := Lib.hid (HT4.out.below hb5)
      clear hb5 HT4
      obtain ⟨hl0, ka0, ka1, ka2, ka3⟩ := HT5.out.2.1
      obtain ⟨hl1, kb0, kb1, kb2, kb3⟩ := HT5.out.2.2
      cases va with
      | true =>
        go_wp2_with fail
        clear ka0 ka1 ka2 ka3 kb0 kb1 kb2 kb3 hl0 hl1
        refine (HPB.out _).mono ?_
        rintro e w6 ⟨rfl, hb6⟩
        have HT6 := Lib.hid (HT5.out.below hb6)
        clear hb6
        obtain ⟨hl0, ka0, ka1, ka2, ka3⟩ := HT6.out.2.1
        obtain ⟨hl1, kb0, kb1, kb2, kb3⟩ := HT6.out.2.2
        cases vb with
        | true =>
          go_wp2_with fail
          go_ret2
          exact ⟨by rw [HF.out]; unfold Tm.sl; rw [← Lib.toList_data a.s, ← Lib.toList_data b.s]; rfl, HT6.out.1⟩
        | false =>
          go_wp2_with fail
          clear ka0 ka1 ka2 ka3 kb0 kb1 kb2 kb3 hl0 hl1
          refine (HBA.out _).mono ?_
          rintro e wa ⟨rfl, hba⟩
          have HTA := Lib.hid (HT6.out.below hba)
          clear hba
          obtain ⟨hl0, ka0, ka1, ka2, ka3⟩ := HTA.out.2.1
          obtain ⟨hl1, kb0, kb1, kb2, kb3⟩ := HTA.out.2.2
          rcases qa with _ | x
          all_goals
            unfold twoB
            go_wp2_with fail
            clear ka0 ka1 ka2 ka3 kb0 kb1 kb2 kb3 hl0 hl1
            refine (HBB.out _).mono ?_
            rintro e wb ⟨rfl, hbb⟩
            have HTB := Lib.hid (HTA.out.below hbb)
            clear hbb
            rcases qb with _ | y
            all_goals
              unfold twoB
              first | (cases x <;> cases y) | skip
              all_goals
                go_wp2_with fail
                go_ret2
                exact ⟨by rw [HF.out]; first | rfl | (cases vb <;> rfl), HTB.out.1⟩
      | false =>
        go_wp2_with fail
        clear ka0 ka1 ka2 ka3 kb0 kb1 kb2 kb3 hl0 hl1
        refine (HBA.out _).mono ?_
        rintro e wa ⟨rfl, hba⟩
        have HTA := Lib.hid (HT5.out.below hba)
        clear hba
        obtain ⟨hl0, ka0, ka1, ka2, ka3⟩ := HTA.out.2.1
        obtain ⟨hl1, kb0, kb1, kb2, kb3⟩ := HTA.out.2.2
        rcases qa with _ | x
        all_goals
          unfold twoB
          go_wp2_with fail
          clear ka0 ka1 ka2 ka3 kb0 kb1 kb2 kb3 hl0 hl1
          refine (HBB.out _).mono ?_
          rintro e wb ⟨rfl, hbb⟩
          have HTB := Lib.hid (HTA.out.below hbb)
          clear hbb
          rcases qb with _ | y
          all_goals
            unfold twoB
            first | (cases x <;> cases y) | skip
            all_goals
              go_wp2_with fail
              go_ret2
              exact ⟨by rw [HF.out]; first | rfl | (cases vb <;> rfl), HTB.out.1⟩
end Go.Proofs.YtdlfoinpjbcodaaDoor
