/- ValueTwo: the walk. -/
import Derived.Test.YtdlfoinpjbcodaaDoorBe
import Derived.Test.YtdlfoinpjbcodaaDoorBb
import Derived.Test.YtdlfoinpjbcodaaDoorTl
import Derived.ChangeMaps5
import Derived.Lib.SmallJoins
import Derived.OpenShut
import Derived.Deep.DeepCutAuto
namespace Go.Proofs.YtdlfoinpjbcodaaDoor
open Go.RowKit Go.Shelf Flo Go.ChangeShapes Go.WideShapes
set_option maxRecDepth 100000
set_option linter.unusedVariables false
set_option linter.unusedSimpArgs false

theorem open_term {H : Type} {enc : TypeId × Value → H} {w : World} {base : Nat} {sp : Nat → Bool} {held : Bool} {r : Reach} {b0 : Nat} {v : Value} {d : DataW H} {ps : List MemPlace}
    (hv : Value.okWide Tryd.prog w r b0 23 v) (h : DataW.Trod enc Tryd.prog w base sp held 23 v d ps) : ∃ x : Tm, v = x.val ∧ ps = [] ∧ x.Ok := by
  obtain ⟨u0, u1, u2, u3, y0, y1, y2, y3, n, rfl, -, rfl, g0, g1, g2, g3⟩ := Go.Joins.open_agg4 Tryd.underlying23 (by kernel_rfl) (by kernel_rfl) hv h
  obtain ⟨k, e0, rfl, hk⟩ := DataW.trod_int Tryd.underlying3 g0
  obtain ⟨s, e1, rfl, hs⟩ := DataW.trod_string Tryd.underlying9 g1
  obtain ⟨l, e2, rfl, hl⟩ := DataW.trod_string Tryd.underlying9 g2
  obtain ⟨t, e3, rfl, ht⟩ := DataW.trod_string Tryd.underlying9 g3
  simp only [List.cons.injEq, and_true] at e0 e1 e2 e3
  subst e0 e1 e2 e3
  exact ⟨⟨k, s, l, t⟩, rfl, rfl, ⟨hk, hs, hl, ht⟩⟩

theorem goodT_sm (x : Tm) (h : x.Few) : (goodT x).Sm := by
  have hs := h.s
  have a1 := letL_size x.s 8
  have a2 := letL_size x.s 5
  have a3 := letL_size x.l 4
  have a4 := letL_size x.t 6
  have a5 : (x.s.extract 0 (min x.s.size 60)).size ≤ 60 := by rw [ByteArray.size_extract]; omega
  have c1 : ∀ n, (num1 n).size ≤ 60 := by
    intro n
    unfold num1
    repeat' split
    all_goals decide
  have c2 : ∀ n, (num2 n).size ≤ 60 := by
    intro n
    unfold num2
    repeat' split
    all_goals decide
  have z : nob.size = 0 := rfl
  have k : ∀ a b : ByteArray, (a ++ b).size = a.size + b.size := fun a b => ByteArray.size_append
  unfold goodT
  repeat' split
  all_goals
    refine ⟨by dsimp only; omega, ?_, ?_, ?_⟩
    all_goals dsimp only
    all_goals first
      | (rw [z]; omega)
      | (rw [k]; first | (show 9 + _ ≤ 200; omega) | (show 1 + _ ≤ 200; omega) | (show 2 + _ ≤ 200; omega))
      | omega
      | exact Nat.le_trans (c1 _) (by decide)
      | exact Nat.le_trans (c2 _) (by decide)
      | decide
theorem goodT_pu (x : Tm) : (goodT x).Pu := by
  unfold goodT Tm.Pu
  repeat' split
  all_goals first | exact .inl rfl | exact .inr rfl
def puB (t : Tm) : Bool := t.ll.isEmpty || t.tl.isEmpty
theorem terms_pu : ∀ k, k < 24 → puB (termsT.getD k zeroT) = true := by decide +kernel
theorem termT_pu (n : Int) : (termT n).Pu := by
  have h := terms_pu (n % 24).toNat (by omega)
  unfold puB at h
  rw [Bool.or_eq_true, List.isEmpty_iff, List.isEmpty_iff] at h
  exact h
theorem known_eq : equalO (mkT 3 [49] [] xIntL) (mkT 3 [49, 46, 48] [] xDecL) = (true, true) := by decide +kernel
theorem known15_any (w : World) (hP : PowAt w) : Calls Tryd.prog 4 #[] w fun e w' => e = .returned (.bool true) ∧ Below w.heap.size w w' := by
  have HU := Lib.hid (fun s t w => num15_any s t w)
  have s1 : (mkT 3 [49] [] xIntL).Sm := tmSm_of (by decide +kernel)
  have s2 : (mkT 3 [49, 46, 48] [] xDecL).Sm := tmSm_of (by decide +kernel)
  have HE := Lib.hid (fun w1 (h : Below w.heap.size w w1) => equal_any (mkT 3 [49] [] xIntL) (mkT 3 [49, 46, 48] [] xDecL) s1 s2 w1 (hP.below h))
  rw [known_eq] at HE
  clear hP
  go_enter Tryd.func4, Tryd.ntmps4
  go_wp2_with fail
  refine (HU.out _ _ _).mono ?_
  rintro e w1 ⟨rfl, hb1⟩
  have HB1 := Lib.hid hb1
  clear hb1
  go_wp2_with fail
  refine (HU.out _ _ _).mono ?_
  rintro e w2 ⟨rfl, hb2⟩
  have HB2 := Lib.hid (HB1.out.trans (hb2.mono HB1.out.size))
  clear hb2
  go_wp2_with fail
  refine (HE.out _ HB2.out).mono ?_
  rintro e w3 ⟨rfl, hb3⟩
  have HB3 := Lib.hid (HB2.out.trans (hb3.mono HB2.out.size))
  clear hb3
  go_wp2_with fail
  go_ret
  exact ⟨rfl, HB3.out⟩
/-- Four pairs of terms, in a block. -/
def PrT (v : World) (g : Nat) (A B : Nat → Tm) : Prop := g < v.heap.size ∧ ∀ j, j < 4 → v.cell? ⟨g, j * 8, none⟩ = some (.int .i64 (A j).k) ∧ v.cell? ⟨g, j * 8 + 1, none⟩ = some (.string (A j).s) ∧ v.cell? ⟨g, j * 8 + 2, none⟩ = some (.string (A j).l) ∧ v.cell? ⟨g, j * 8 + 3, none⟩ = some (.string (A j).t) ∧
  v.cell? ⟨g, j * 8 + 4, none⟩ = some (.int .i64 (B j).k) ∧ v.cell? ⟨g, j * 8 + 4 + 1, none⟩ = some (.string (B j).s) ∧ v.cell? ⟨g, j * 8 + 4 + 2, none⟩ = some (.string (B j).l) ∧ v.cell? ⟨g, j * 8 + 4 + 3, none⟩ = some (.string (B j).t)
theorem PrT.below {w w' : World} {g : Nat} {A B : Nat → Tm} (h : PrT w g A B) (hb : Below w.heap.size w w') : PrT w' g A B := by
  have c : ∀ i, w'.cell? ⟨g, i, none⟩ = w.cell? ⟨g, i, none⟩ := fun i => hb.cell (p := ⟨g, i, none⟩) h.1
  refine ⟨Nat.lt_of_lt_of_le h.1 hb.size, fun j hj => ?_⟩
  simp only [c]
  exact h.2 j hj
def pairA (a b : Tm) (n m : Int) (j : Nat) : Tm := if j = 0 then goodT a else if j = 1 then termT n else if j = 2 then termT n else goodT a
def pairB (a b : Tm) (n m : Int) (j : Nat) : Tm := if j = 0 then goodT b else if j = 1 then termT m else if j = 2 then termT n else termT m
/-- A term's box that may be written. -/
def AnsD (v : World) (b : Nat) : Prop := (∃ x : Tm, TmB v b x) ∧ ∀ j, v.frozen? ⟨b, j, none⟩ = false
theorem AnsD.below {w w' : World} {b : Nat} (h : AnsD w b) (hb : Below w.heap.size w w') : AnsD w' b := by
  obtain ⟨⟨x, hx⟩, hf⟩ := h
  exact ⟨⟨x, hx.below hb⟩, fun j => (hb.frozen (p := ⟨b, j, none⟩) hx.1).trans (hf j)⟩
theorem AnsD.new (w : World) (ty : TypeId) : AnsD (w.alloc (.cells #[.int .i64 0, .string ⟨#[]⟩, .string ⟨#[]⟩, .string ⟨#[]⟩] ty)) w.heap.size := ⟨⟨zeroT, TmB.new w zeroT ty⟩, fun j => (Blk.new w _ ty).frozen j⟩
theorem TmB.farD {w : World} {b q : Nat} {t : Tm} (h : TmB w b t) (hne : b ≠ q) (a s l y : Value) : TmB ((((w.setCell ⟨q, 0, none⟩ a).setCell ⟨q, 1, none⟩ s).setCell ⟨q, 2, none⟩ l).setCell ⟨q, 3, none⟩ y) b t := by
  obtain ⟨h0, h1, h2, h3, h4⟩ := h
  have c : ∀ (v : World) (i j : Nat) (u : Value), (v.setCell ⟨q, j, none⟩ u).cell? ⟨b, i, none⟩ = v.cell? ⟨b, i, none⟩ := fun v i j u => World.cell?_setCell_other _ _ _ _ (by simp [hne])
  exact ⟨by simpa using h0, by simp only [c]; exact h1, by simp only [c]; exact h2, by simp only [c]; exact h3, by simp only [c]; exact h4⟩
theorem AnsD.far {w : World} {b q : Nat} (h : AnsD w b) (hne : b ≠ q) (a s l y : Value) : AnsD ((((w.setCell ⟨q, 0, none⟩ a).setCell ⟨q, 1, none⟩ s).setCell ⟨q, 2, none⟩ l).setCell ⟨q, 3, none⟩ y) b := by
  obtain ⟨⟨x, hx⟩, hf⟩ := h
  exact ⟨⟨x, hx.farD hne _ _ _ _⟩, fun j => by simp only [World.frozen?_setCell]; exact hf j⟩
theorem TmB.setD {w : World} {q : Nat} {y : Tm} (h : TmB w q y) (x : Tm) : TmB ((((w.setCell ⟨q, 0, none⟩ (.int .i64 x.k)).setCell ⟨q, 1, none⟩ (.string x.s)).setCell ⟨q, 2, none⟩ (.string x.l)).setCell ⟨q, 3, none⟩ (.string x.t)) q x := by
  obtain ⟨h0, h1, h2, h3, h4⟩ := h
  have same : ∀ (v : World) (j : Nat) (u : Value), (v.cell? ⟨q, j, none⟩).isSome = true → (v.setCell ⟨q, j, none⟩ u).cell? ⟨q, j, none⟩ = some u := fun v j u h => World.cell?_setCell_same' _ _ _ h
  have other : ∀ (v : World) (i j : Nat) (u : Value), i ≠ j → (v.setCell ⟨q, j, none⟩ u).cell? ⟨q, i, none⟩ = v.cell? ⟨q, i, none⟩ := fun v i j u h => World.cell?_setCell_other _ _ _ _ (by simp [h])
  refine ⟨by simpa using h0, ?_, ?_, ?_, ?_⟩
  · rw [other _ 0 3 _ (by decide), other _ 0 2 _ (by decide), other _ 0 1 _ (by decide)]; exact same _ _ _ (by rw [h1]; rfl)
  · rw [other _ 1 3 _ (by decide), other _ 1 2 _ (by decide)]; exact same _ _ _ (by rw [other _ 1 0 _ (by decide), h2]; rfl)
  · rw [other _ 2 3 _ (by decide)]; exact same _ _ _ (by rw [other _ 2 1 _ (by decide), other _ 2 0 _ (by decide), h3]; rfl)
  · exact same _ _ _ (by rw [other _ 3 2 _ (by decide), other _ 3 1 _ (by decide), other _ 3 0 _ (by decide), h4]; rfl)
theorem set_four {B : Nat} {w v : World} {q : Nat} (h : Below B w v) (hq : B ≤ q) (a s l y : Value) : Below B w ((((v.setCell ⟨q, 0, none⟩ a).setCell ⟨q, 1, none⟩ s).setCell ⟨q, 2, none⟩ l).setCell ⟨q, 3, none⟩ y) :=
  (((h.setCell hq _).setCell hq _).setCell hq _).setCell hq _
theorem twoB_form (o : Option Bool) : ∃ p q : Bool, twoB o = .tuple #[.bool p, .bool q] := by cases o <;> exact ⟨_, _, rfl⟩
set_option maxHeartbeats 4000000 in
theorem two15_walk (a b : Tm) (n m : Int) (w : World) (ha : a.Ok) (hb : b.Ok) (hn : In64 n) (hm : In64 m) (hP : PowAt w) : Calls Tryd.prog 3 #[a.val, b.val, .int .i64 n, .int .i64 m] w fun e w' => e = .returned (.bool true) ∧ Below w.heap.size w w' := by
  have HKN := Lib.hid (fun w1 (h : Below w.heap.size w w1) => known15_any w1 (hP.below h))
  have HFA := Lib.hid (fun w => few_any a w)
  have HFB := Lib.hid (fun w => few_any b w)
  have HTN := Lib.hid (fun w => term15_any n w hn.1 hn.2)
  have HTM := Lib.hid (fun w => term15_any m w hm.1 hm.2)
  have HX := Lib.hid (TwoT.new w a b 23)
  have HPW := Lib.hid hP
  have hga : fewB a = true → a.Few := fun h => by
    unfold fewB at h
    simp only [Bool.and_eq_true, decide_eq_true_eq] at h
    exact ⟨ha.k, h.1.1, h.1.2, h.2⟩
  have hgb : fewB b = true → b.Few := fun h => by
    unfold fewB at h
    simp only [Bool.and_eq_true, decide_eq_true_eq] at h
    exact ⟨hb.k, h.1.1, h.1.2, h.2⟩
  have HGA0 := Lib.hid hga
  have HGB0 := Lib.hid hgb
  clear hga hgb ha hb hn hm hP
  unfold Tm.val
  unfold Tm.val at HFA HFB HTN HTM
  go_enter Tryd.func3, Tryd.ntmps3
  go_wp2_with fail
  generalize World.alloc (World.alloc w _) _ = wr at HX ⊢
  refine (HKN.out _ HX.out.1).mono ?_
  rintro e w1 ⟨rfl, hb1⟩
  have HT1 := Lib.hid (HX.out.below hb1)
  clear hb1 HX
  obtain ⟨-, ka0, ka1, ka2, ka3⟩ := HT1.out.2.1
  go_wp2_with fail
  clear ka0 ka1 ka2 ka3
  refine (HFA.out _).mono ?_
  rintro e w2 ⟨rfl, hb2⟩
  have HT2 := Lib.hid (HT1.out.below hb2)
  clear hb2 HT1
  cases hfa : fewB a with
  | false =>
    go_wp2_with fail
    go_ret
    exact ⟨rfl, HT2.out.1⟩
  | true =>
    obtain ⟨-, kb0, kb1, kb2, kb3⟩ := HT2.out.2.2
    go_wp2_with fail
    clear kb0 kb1 kb2 kb3
    refine (HFB.out _).mono ?_
    rintro e w3 ⟨rfl, hb3⟩
    have HT3 := Lib.hid (HT2.out.below hb3)
    clear hb3 HT2
    cases hfb : fewB b with
    | false =>
      go_wp2_with fail
      go_ret
      exact ⟨rfl, HT3.out.1⟩
    | true =>
      have fa := HGA0.out hfa
      have fb := HGB0.out hfb
      have HGA := Lib.hid (fun w => tgood_any a fa w)
      have HGB := Lib.hid (fun w => tgood_any b fb w)
      have HSM := Lib.hid (fun j : Nat => (show ((pairA a b n m j).Sm ∧ (pairA a b n m j).Pu) ∧ (pairB a b n m j).Sm ∧ (pairB a b n m j).Pu by
        unfold pairA pairB
        (repeat' split) <;> exact ⟨⟨by first | exact goodT_sm _ fa | exact goodT_sm _ fb | exact termT_sm _, by first | exact goodT_pu _ | exact termT_pu _⟩, by first | exact goodT_sm _ fa | exact goodT_sm _ fb | exact termT_sm _, by first | exact goodT_pu _ | exact termT_pu _⟩))
      have HPA := Lib.hid (show ∀ j, j < 4 → (pairA a b n m j = if j = 0 then goodT a else if j = 1 then termT n else if j = 2 then termT n else goodT a) ∧ pairB a b n m j = if j = 0 then goodT b else if j = 1 then termT m else if j = 2 then termT n else termT m from fun j _ => ⟨rfl, rfl⟩)
      clear fa fb hfa hfb HGA0 HGB0 HFA HFB HKN
      unfold Tm.val at HGA HGB
      generalize goodT a = ga at HGA HPA
      generalize goodT b = gb at HGB HPA
      generalize termT n = tn at HTN HPA
      generalize termT m = tm at HTM HPA
      go_upto_region 5 with fail
      refine wp_region_any (by kernel_rfl) ?_
      change wpAny _ _ _ _ _ _ _ (World.drew _)
      refine wpAny_of_held (S := fun v => TwoT w a b v) _ _ _ _ ?_
      have hS : (fun v => TwoT w a b v) _ := HT3.out.below (below_drew15 _)
      refine wpAnyH_take (i := 0) (oi := ⟨some 31, _, _, _, _, _⟩) (v := ?_) rfl (by kernel_rfl) (by kernel_rfl) (by kernel_rfl) (fun _ _ _ h => h) (Or.inl ⟨by simp only [Region.wanted], ?_⟩) hS ?_
      rotate_left
      · intro wz hSw; obtain ⟨-, k0, k1, k2, k3⟩ := hSw.2.1
        clear hSw
        go_simp
        first | done | with_reducible rfl
      try simp only [Act.put, List.setIfInBounds_toArray, List.set_cons_zero, List.set_cons_succ]
      refine wpAnyH_take (i := 2) (oi := ⟨some 33, _, _, _, _, _⟩) (v := ?_) rfl (by kernel_rfl) (by kernel_rfl) (by kernel_rfl) (fun _ _ _ h => h) (Or.inl ⟨by simp only [Region.wanted], ?_⟩) hS ?_
      rotate_left
      · intro wz hSw; obtain ⟨-, k0, k1, k2, k3⟩ := hSw.2.2
        clear hSw
        go_simp
        first | done | with_reducible rfl
      try simp only [Act.put, List.setIfInBounds_toArray, List.set_cons_zero, List.set_cons_succ]
      refine wpAnyH_take (i := 5) (oi := ⟨some 36, _, _, _, _, _⟩) (v := ?_) rfl (by kernel_rfl) (by kernel_rfl) (by kernel_rfl) (fun _ _ _ h => h) (Or.inl ⟨by simp only [Region.wanted], ?_⟩) hS ?_
      rotate_left
      · intro wz hSw
        clear hSw
        go_simp
        first | done | with_reducible rfl
      try simp only [Act.put, List.setIfInBounds_toArray, List.set_cons_zero, List.set_cons_succ]
      refine wpAnyH_take (i := 7) (oi := ⟨some 38, _, _, _, _, _⟩) (v := ?_) rfl (by kernel_rfl) (by kernel_rfl) (by kernel_rfl) (fun _ _ _ h => h) (Or.inl ⟨by simp only [Region.wanted], ?_⟩) hS ?_
      rotate_left
      · intro wz hSw
        clear hSw
        go_simp
        first | done | with_reducible rfl
      try simp only [Act.put, List.setIfInBounds_toArray, List.set_cons_zero, List.set_cons_succ]
      refine wpAnyH_take (i := 10) (oi := ⟨some 41, _, _, _, _, _⟩) (v := ?_) rfl (by kernel_rfl) (by kernel_rfl) (by kernel_rfl) (fun _ _ _ h => h) (Or.inl ⟨by simp only [Region.wanted], ?_⟩) hS ?_
      rotate_left
      · intro wz hSw
        clear hSw
        go_simp
        first | done | with_reducible rfl
      try simp only [Act.put, List.setIfInBounds_toArray, List.set_cons_zero, List.set_cons_succ]
      refine wpAnyH_take (i := 12) (oi := ⟨some 43, _, _, _, _, _⟩) (v := ?_) rfl (by kernel_rfl) (by kernel_rfl) (by kernel_rfl) (fun _ _ _ h => h) (Or.inl ⟨by simp only [Region.wanted], ?_⟩) hS ?_
      rotate_left
      · intro wz hSw
        clear hSw
        go_simp
        first | done | with_reducible rfl
      try simp only [Act.put, List.setIfInBounds_toArray, List.set_cons_zero, List.set_cons_succ]
      refine wpAnyH_take (i := 15) (oi := ⟨some 46, _, _, _, _, _⟩) (v := ?_) rfl (by kernel_rfl) (by kernel_rfl) (by kernel_rfl) (fun _ _ _ h => h) (Or.inl ⟨by simp only [Region.wanted], ?_⟩) hS ?_
      rotate_left
      · intro wz hSw; obtain ⟨-, k0, k1, k2, k3⟩ := hSw.2.1
        clear hSw
        go_simp
        first | done | with_reducible rfl
      try simp only [Act.put, List.setIfInBounds_toArray, List.set_cons_zero, List.set_cons_succ]
      refine wpAnyH_take (i := 17) (oi := ⟨some 48, _, _, _, _, _⟩) (v := ?_) rfl (by kernel_rfl) (by kernel_rfl) (by kernel_rfl) (fun _ _ _ h => h) (Or.inl ⟨by simp only [Region.wanted], ?_⟩) hS ?_
      rotate_left
      · intro wz hSw
        clear hSw
        go_simp
        first | done | with_reducible rfl
      try simp only [Act.put, List.setIfInBounds_toArray, List.set_cons_zero, List.set_cons_succ]
      refine wpAnyH_ready (rs := [1]) (by kernel_rfl) (by simp) ?_
      refine AllReadyH.cons (o := ⟨some 32, _, _, _, _, _⟩) rfl (fun K hK => ?_) AllReadyH.nil
      go_simp
      refine (HGA.out _).mono ?_
      rintro e y1 ⟨rfl, hb1⟩
      have HY1 := Lib.hid (hS.below hb1)
      clear hb1
      go_wp2_with fail
      refine hK.out _ _ (HY1.out) (fun hS => ?_)
      clear hK K
      try simp only [Act.put, List.setIfInBounds_toArray, List.set_cons_zero, List.set_cons_succ]
      refine wpAnyH_ready (rs := [3]) (by kernel_rfl) (by simp) ?_
      refine AllReadyH.cons (o := ⟨some 34, _, _, _, _, _⟩) rfl (fun K hK => ?_) AllReadyH.nil
      go_simp
      refine (HGB.out _).mono ?_
      rintro e y2 ⟨rfl, hb2⟩
      have HY2 := Lib.hid (hS.below hb2)
      clear hb2
      go_wp2_with fail
      refine hK.out _ _ (HY2.out) (fun hS => ?_)
      clear hK K
      try simp only [Act.put, List.setIfInBounds_toArray, List.set_cons_zero, List.set_cons_succ]
      refine wpAnyH_take (i := 4) (oi := ⟨some 35, _, _, _, _, _⟩) (v := ?_) rfl (by kernel_rfl) (by kernel_rfl) (by kernel_rfl) (fun _ _ _ h => h) (Or.inl ⟨by simp only [Region.wanted], ?_⟩) hS ?_
      rotate_left
      · intro wz hSw
        clear hSw
        go_simp
        first | done | with_reducible rfl
      try simp only [Act.put, List.setIfInBounds_toArray, List.set_cons_zero, List.set_cons_succ]
      refine wpAnyH_ready (rs := [6]) (by kernel_rfl) (by simp) ?_
      refine AllReadyH.cons (o := ⟨some 37, _, _, _, _, _⟩) rfl (fun K hK => ?_) AllReadyH.nil
      go_simp
      refine (HTN.out _).mono ?_
      rintro e y3 ⟨rfl, hb3⟩
      have HY3 := Lib.hid (hS.below hb3)
      clear hb3
      go_wp2_with fail
      refine hK.out _ _ (HY3.out) (fun hS => ?_)
      clear hK K
      try simp only [Act.put, List.setIfInBounds_toArray, List.set_cons_zero, List.set_cons_succ]
      refine wpAnyH_ready (rs := [8]) (by kernel_rfl) (by simp) ?_
      refine AllReadyH.cons (o := ⟨some 39, _, _, _, _, _⟩) rfl (fun K hK => ?_) AllReadyH.nil
      go_simp
      refine (HTM.out _).mono ?_
      rintro e y4 ⟨rfl, hb4⟩
      have HY4 := Lib.hid (hS.below hb4)
      clear hb4
      go_wp2_with fail
      refine hK.out _ _ (HY4.out) (fun hS => ?_)
      clear hK K
      try simp only [Act.put, List.setIfInBounds_toArray, List.set_cons_zero, List.set_cons_succ]
      refine wpAnyH_take (i := 9) (oi := ⟨some 40, _, _, _, _, _⟩) (v := ?_) rfl (by kernel_rfl) (by kernel_rfl) (by kernel_rfl) (fun _ _ _ h => h) (Or.inl ⟨by simp only [Region.wanted], ?_⟩) hS ?_
      rotate_left
      · intro wz hSw
        clear hSw
        go_simp
        first | done | with_reducible rfl
      try simp only [Act.put, List.setIfInBounds_toArray, List.set_cons_zero, List.set_cons_succ]
      refine wpAnyH_ready (rs := [11]) (by kernel_rfl) (by simp) ?_
      refine AllReadyH.cons (o := ⟨some 42, _, _, _, _, _⟩) rfl (fun K hK => ?_) AllReadyH.nil
      go_simp
      refine (HTN.out _).mono ?_
      rintro e y5 ⟨rfl, hb5⟩
      have HY5 := Lib.hid (hS.below hb5)
      clear hb5
      go_wp2_with fail
      refine hK.out _ _ (HY5.out) (fun hS => ?_)
      clear hK K
      try simp only [Act.put, List.setIfInBounds_toArray, List.set_cons_zero, List.set_cons_succ]
      refine wpAnyH_ready (rs := [13]) (by kernel_rfl) (by simp) ?_
      refine AllReadyH.cons (o := ⟨some 44, _, _, _, _, _⟩) rfl (fun K hK => ?_) AllReadyH.nil
      go_simp
      refine (HTN.out _).mono ?_
      rintro e y6 ⟨rfl, hb6⟩
      have HY6 := Lib.hid (hS.below hb6)
      clear hb6
      go_wp2_with fail
      refine hK.out _ _ (HY6.out) (fun hS => ?_)
      clear hK K
      try simp only [Act.put, List.setIfInBounds_toArray, List.set_cons_zero, List.set_cons_succ]
      refine wpAnyH_take (i := 14) (oi := ⟨some 45, _, _, _, _, _⟩) (v := ?_) rfl (by kernel_rfl) (by kernel_rfl) (by kernel_rfl) (fun _ _ _ h => h) (Or.inl ⟨by simp only [Region.wanted], ?_⟩) hS ?_
      rotate_left
      · intro wz hSw
        clear hSw
        go_simp
        first | done | with_reducible rfl
      try simp only [Act.put, List.setIfInBounds_toArray, List.set_cons_zero, List.set_cons_succ]
      refine wpAnyH_ready (rs := [16]) (by kernel_rfl) (by simp) ?_
      refine AllReadyH.cons (o := ⟨some 47, _, _, _, _, _⟩) rfl (fun K hK => ?_) AllReadyH.nil
      go_simp
      refine (HGA.out _).mono ?_
      rintro e y7 ⟨rfl, hb7⟩
      have HY7 := Lib.hid (hS.below hb7)
      clear hb7
      go_wp2_with fail
      refine hK.out _ _ (HY7.out) (fun hS => ?_)
      clear hK K
      try simp only [Act.put, List.setIfInBounds_toArray, List.set_cons_zero, List.set_cons_succ]
      refine wpAnyH_ready (rs := [18]) (by kernel_rfl) (by simp) ?_
      refine AllReadyH.cons (o := ⟨some 49, _, _, _, _, _⟩) rfl (fun K hK => ?_) AllReadyH.nil
      go_simp
      refine (HTM.out _).mono ?_
      rintro e y8 ⟨rfl, hb8⟩
      have HY8 := Lib.hid (hS.below hb8)
      clear hb8
      go_wp2_with fail
      refine hK.out _ _ (HY8.out) (fun hS => ?_)
      clear hK K
      try simp only [Act.put, List.setIfInBounds_toArray, List.set_cons_zero, List.set_cons_succ]
      refine wpAnyH_take (i := 19) (oi := ⟨some 50, _, _, _, _, _⟩) (v := ?_) rfl (by kernel_rfl) (by kernel_rfl) (by kernel_rfl) (fun _ _ _ h => h) (Or.inl ⟨by simp only [Region.wanted], ?_⟩) hS ?_
      rotate_left
      · intro wz hSw
        clear hSw
        go_simp
        first | done | with_reducible rfl
      try simp only [Act.put, List.setIfInBounds_toArray, List.set_cons_zero, List.set_cons_succ]
      refine wpAnyH_ready (rs := [20]) (by kernel_rfl) (by simp) ?_
      refine AllReadyH.cons (o := ⟨some 51, _, _, _, _, _⟩) rfl (fun K hK => ?_) AllReadyH.nil
      go_simp
      go_wp2_with fail
      refine hK.out _ _ (hS.below ((Below.refl _ _).alloc (Nat.le_refl _) _)) (fun hS => ?_)
      clear hK K
      try simp only [Act.put, List.setIfInBounds_toArray, List.set_cons_zero, List.set_cons_succ]
      refine wpAnyH_take (i := 21) (oi := ⟨some 9, _, _, _, _, _⟩) (v := ?_) rfl (by kernel_rfl) (by kernel_rfl) (by kernel_rfl) (fun _ _ _ h => h) (Or.inl ⟨by simp only [Region.wanted], ?_⟩) hS ?_
      rotate_left
      · intro wz hSw
        clear hSw
        go_simp
        first | done | with_reducible rfl
      try simp only [Act.put, List.setIfInBounds_toArray, List.set_cons_zero, List.set_cons_succ]
      refine wpAnyH_done (by kernel_rfl) ?_ _
      have HB0 := Lib.hid hS.1
      obtain ⟨wq, cur, hwq⟩ : ∃ (wq : World) (cur : Nat), cur = wq.heap.size := ⟨y8, _, rfl⟩
      have hblk := Blk.new y8 #[.int .i64 ga.k, .string ga.s, .string ga.l, .string ga.t, .int .i64 gb.k, .string gb.s, .string gb.l, .string gb.t, .int .i64 tn.k, .string tn.s, .string tn.l, .string tn.t, .int .i64 tm.k, .string tm.s, .string tm.l, .string tm.t, .int .i64 tn.k, .string tn.s, .string tn.l, .string tn.t, .int .i64 tn.k, .string tn.s, .string tn.l, .string tn.t, .int .i64 ga.k, .string ga.s, .string ga.l, .string ga.t, .int .i64 tm.k, .string tm.s, .string tm.l, .string tm.t] 27
      have HBX := Lib.hid (hS.1)
      clear hwq wq cur
      clear hS HT3 HGA HGB HTN HTM HY1 HY2 HY3 HY4 HY5 HY6 HY7 HY8
      generalize World.alloc y8 (.cells #[.int .i64 ga.k, .string ga.s, .string ga.l, .string ga.t, .int .i64 gb.k, .string gb.s, .string gb.l, .string gb.t, .int .i64 tn.k, .string tn.s, .string tn.l, .string tn.t, .int .i64 tm.k, .string tm.s, .string tm.l, .string tm.t, .int .i64 tn.k, .string tn.s, .string tn.l, .string tn.t, .int .i64 tn.k, .string tn.s, .string tn.l, .string tn.t, .int .i64 ga.k, .string ga.s, .string ga.l, .string ga.t, .int .i64 tm.k, .string tm.s, .string tm.l, .string tm.t] 27) = wt at hblk HB0 HBX ⊢
      generalize hgq : y8.heap.size = g at hblk ⊢
      clear hgq
      have hcell : ∀ j, j < 4 → wt.cell? ⟨g, j * 8, none⟩ = some (.int .i64 (pairA a b n m j).k) ∧ wt.cell? ⟨g, j * 8 + 1, none⟩ = some (.string (pairA a b n m j).s) ∧ wt.cell? ⟨g, j * 8 + 2, none⟩ = some (.string (pairA a b n m j).l) ∧ wt.cell? ⟨g, j * 8 + 3, none⟩ = some (.string (pairA a b n m j).t) ∧
          wt.cell? ⟨g, j * 8 + 4, none⟩ = some (.int .i64 (pairB a b n m j).k) ∧ wt.cell? ⟨g, j * 8 + 4 + 1, none⟩ = some (.string (pairB a b n m j).s) ∧ wt.cell? ⟨g, j * 8 + 4 + 2, none⟩ = some (.string (pairB a b n m j).l) ∧ wt.cell? ⟨g, j * 8 + 4 + 3, none⟩ = some (.string (pairB a b n m j).t) := by
        intro j hj
        obtain ⟨e1, e2⟩ := HPA.out j hj
        rw [e1, e2]
        simp only [hblk.cell]
        rcases (show j = 0 ∨ j = 1 ∨ j = 2 ∨ j = 3 by omega) with rfl | rfl | rfl | rfl
        all_goals exact ⟨rfl, rfl, rfl, rfl, rfl, rfl, rfl, rfl⟩
      have HPR := Lib.hid (show PrT wt g (pairA a b n m) (pairB a b n m) from ⟨hblk.lt, hcell⟩)
      clear hblk hcell HPA
      generalize pairA a b n m = A at HPR HSM
      generalize pairB a b n m = B at HPR HSM
      go_upto_region 6 with fail
      go_wp2_with fail
      go_loopw [10] (fun i wx => ∃ j : Nat, i = .int .i64 (j : Int) ∧ j ≤ 4 ∧ PrT wx g A B ∧ Below w.heap.size w wx) (fun i _ => 4 - (intOf i).toNat)
      case atStart => exact ⟨0, rfl, by omega, HPR.out, HB0.out⟩
      case round =>
        obtain ⟨j, rfl, hj, hP, hB⟩ := hrel
        have HP := Lib.hid hP
        have HB := Lib.hid hB
        clear hP hB
        by_cases hlt : j < 4
        · have hlti : (j : Int) < 4 := by omega
          have HJ := Lib.hid hlt
          obtain ⟨x, hx⟩ : ∃ x, x = A j := ⟨_, rfl⟩
          obtain ⟨y, hy⟩ : ∃ x, x = B j := ⟨_, rfl⟩
          have FX : ∀ wz, Below wr.heap.size wr wz → wz.cell? ⟨g, j * 8, none⟩ = some (.int .i64 x.k) ∧ wz.cell? ⟨g, j * 8 + 1, none⟩ = some (.string x.s) ∧ wz.cell? ⟨g, j * 8 + 2, none⟩ = some (.string x.l) ∧ wz.cell? ⟨g, j * 8 + 3, none⟩ = some (.string x.t) ∧
              wz.cell? ⟨g, j * 8 + 4, none⟩ = some (.int .i64 y.k) ∧ wz.cell? ⟨g, j * 8 + 4 + 1, none⟩ = some (.string y.s) ∧ wz.cell? ⟨g, j * 8 + 4 + 2, none⟩ = some (.string y.l) ∧ wz.cell? ⟨g, j * 8 + 4 + 3, none⟩ = some (.string y.t) := by
            intro wz hz
            have := (HP.out.below hz).2 j HJ.out
            rw [← hx, ← hy] at this
            exact this
          have HF := Lib.hid FX
          have hsm := HSM.out j
          rw [← hx, ← hy] at hsm
          have HQ := Lib.hid hsm
          clear FX hx hy hsm
          go_upto_region 9 with fail
          go_cut [11, 12] from 58 to 67 (fun s11 s12 wx => ∃ bx bY : Nat, s11 = .pointer (some ⟨bx, 0, none⟩) ∧ s12 = .pointer (some ⟨bY, 0, none⟩) ∧ TmB wx bx x ∧ TmB wx bY y ∧ Below wr.heap.size wr wx)
          case first =>
            refine wp_region_any (by kernel_rfl) ?_
            change wpAny _ _ _ _ _ _ _ (World.drew _)
            refine wpAny_of_held (S := fun v => Below wr.heap.size wr v) _ _ _ _ ?_
            have hS : (fun v => Below wr.heap.size wr v) _ := (Below.refl _ wr).drew
            generalize hwd : World.drew wr = wd at hS ⊢
            clear hwd
            refine wpAnyH_take (i := 0) (oi := ⟨some 58, _, _, _, _, _⟩) (v := ?_) rfl (by kernel_rfl) (by kernel_rfl) (by kernel_rfl) (fun _ _ _ h => h) (Or.inl ⟨by simp only [Region.wanted], ?_⟩) hS ?_
            rotate_left
            · intro wz hSw
              clear hSw
              go_simp
              first | done | with_reducible rfl
            try simp only [Act.put, List.setIfInBounds_toArray, List.set_cons_zero, List.set_cons_succ]
            refine wpAnyH_take (i := 1) (oi := ⟨some 59, _, _, _, _, _⟩) (v := ?_) rfl (by kernel_rfl) (by kernel_rfl) (by kernel_rfl) (fun _ _ _ h => h) (Or.inl ⟨by simp only [Region.wanted], ?_⟩) hS ?_
            rotate_left
            · intro wz hSw
              clear hSw
              go_simp
              first | done | with_reducible rfl
            try simp only [Act.put, List.setIfInBounds_toArray, List.set_cons_zero, List.set_cons_succ]
            refine wpAnyH_take (i := 2) (oi := ⟨some 60, _, _, _, _, _⟩) (v := ?_) rfl (by kernel_rfl) (by kernel_rfl) (by kernel_rfl) (fun _ _ _ h => h) (Or.inl ⟨by simp only [Region.wanted], ?_⟩) hS ?_
            rotate_left
            · intro wz hSw
              clear hSw
              go_simp
              first | done | with_reducible rfl
            try simp only [Act.put, List.setIfInBounds_toArray, List.set_cons_zero, List.set_cons_succ]
            refine wpAnyH_take (i := 3) (oi := ⟨some 61, _, _, _, _, _⟩) (v := ?_) rfl (by kernel_rfl) (by kernel_rfl) (by kernel_rfl) (fun _ _ _ h => h) (Or.inl ⟨by simp only [Region.wanted], ?_⟩) hS ?_
            rotate_left
            · intro wz hSw
              clear hSw
              go_simp
              first | done | with_reducible rfl
            try simp only [Act.put, List.setIfInBounds_toArray, List.set_cons_zero, List.set_cons_succ]
            refine wpAnyH_take (i := 4) (oi := ⟨some 62, _, _, _, _, _⟩) (v := ?_) rfl (by kernel_rfl) (by kernel_rfl) (by kernel_rfl) (fun _ _ _ h => h) (Or.inl ⟨by simp only [Region.wanted], ?_⟩) hS ?_
            rotate_left
            · intro wz hSw; obtain ⟨f0, f1, f2, f3, f4, f5, f6, f7⟩ := HF.out _ hSw
              clear hSw
              go_simp
              first | done | with_reducible rfl
            try simp only [Act.put, List.setIfInBounds_toArray, List.set_cons_zero, List.set_cons_succ]
            refine wpAnyH_take (i := 5) (oi := ⟨some 63, _, _, _, _, _⟩) (v := ?_) rfl (by kernel_rfl) (by kernel_rfl) (by kernel_rfl) (fun _ _ _ h => h) (Or.inl ⟨by simp only [Region.wanted], ?_⟩) hS ?_
            rotate_left
            · intro wz hSw
              clear hSw
              go_simp
              first | done | with_reducible rfl
            try simp only [Act.put, List.setIfInBounds_toArray, List.set_cons_zero, List.set_cons_succ]
            refine wpAnyH_take (i := 6) (oi := ⟨some 64, _, _, _, _, _⟩) (v := ?_) rfl (by kernel_rfl) (by kernel_rfl) (by kernel_rfl) (fun _ _ _ h => h) (Or.inl ⟨by simp only [Region.wanted], ?_⟩) hS ?_
            rotate_left
            · intro wz hSw
              clear hSw
              go_simp
              first | done | with_reducible rfl
            try simp only [Act.put, List.setIfInBounds_toArray, List.set_cons_zero, List.set_cons_succ]
            refine wpAnyH_take (i := 7) (oi := ⟨some 65, _, _, _, _, _⟩) (v := ?_) rfl (by kernel_rfl) (by kernel_rfl) (by kernel_rfl) (fun _ _ _ h => h) (Or.inl ⟨by simp only [Region.wanted], ?_⟩) hS ?_
            rotate_left
            · intro wz hSw
              clear hSw
              go_simp
              first | done | with_reducible rfl
            try simp only [Act.put, List.setIfInBounds_toArray, List.set_cons_zero, List.set_cons_succ]
            refine wpAnyH_take (i := 8) (oi := ⟨some 66, _, _, _, _, _⟩) (v := ?_) rfl (by kernel_rfl) (by kernel_rfl) (by kernel_rfl) (fun _ _ _ h => h) (Or.inl ⟨by simp only [Region.wanted], ?_⟩) hS ?_
            rotate_left
            · intro wz hSw
              clear hSw
              go_simp
              first | done | with_reducible rfl
            try simp only [Act.put, List.setIfInBounds_toArray, List.set_cons_zero, List.set_cons_succ]
            refine wpAnyH_take (i := 9) (oi := ⟨some 67, _, _, _, _, _⟩) (v := ?_) rfl (by kernel_rfl) (by kernel_rfl) (by kernel_rfl) (fun _ _ _ h => h) (Or.inl ⟨by simp only [Region.wanted], ?_⟩) hS ?_
            rotate_left
            · intro wz hSw; obtain ⟨f0, f1, f2, f3, f4, f5, f6, f7⟩ := HF.out _ hSw
              clear hSw
              go_simp
              first | done | with_reducible rfl
            try simp only [Act.put, List.setIfInBounds_toArray, List.set_cons_zero, List.set_cons_succ]
            refine wpAnyH_ready (rs := [10, 11]) (by kernel_rfl) (by simp) ?_
            refine AllReadyH.cons (o := ⟨some 11, _, _, _, _, _⟩) rfl (fun K hK => ?_) (AllReadyH.cons (o := ⟨some 12, _, _, _, _, _⟩) rfl (fun K hK => ?_) AllReadyH.nil)
            · go_simp
              have hA1 := AnsD.new wd 23
              have hSa := hS.alloc hS.size (.cells #[.int .i64 0, .string ⟨#[]⟩, .string ⟨#[]⟩, .string ⟨#[]⟩] 23)
              have hle1 : wr.heap.size ≤ wd.heap.size := hS.size
              generalize hq1 : wd.heap.size = q1 at hA1 hle1 ⊢
              generalize World.alloc wd (.cells #[.int .i64 0, .string ⟨#[]⟩, .string ⟨#[]⟩, .string ⟨#[]⟩] 23) = wa at hA1 hSa ⊢
              have HA1 := Lib.hid hA1
              have HLE1 := Lib.hid hle1
              clear hA1 hle1 hq1
              refine hK.out _ _ (hSa) (fun hS => ?_)
              clear hK K
              try simp only [Act.put, List.setIfInBounds_toArray, List.set_cons_zero, List.set_cons_succ]
              refine wpAnyH_ready (rs := [11]) (by kernel_rfl) (by simp) ?_
              refine AllReadyH.cons (o := ⟨some 12, _, _, _, _, _⟩) rfl (fun K hK => ?_) AllReadyH.nil
              go_simp
              have hA2 := AnsD.new wa 23
              have hS2 := hS.alloc hS.size (.cells #[.int .i64 0, .string ⟨#[]⟩, .string ⟨#[]⟩, .string ⟨#[]⟩] 23)
              have hle2 : wr.heap.size ≤ wa.heap.size := hS.size
              have hA1b := HA1.out.below ((Below.refl wa.heap.size wa).alloc (Nat.le_refl _) (.cells #[.int .i64 0, .string ⟨#[]⟩, .string ⟨#[]⟩, .string ⟨#[]⟩] 23))
              generalize hq2 : wa.heap.size = q2 at hA2 hle2 ⊢
              have hlt12 : q1 ≠ q2 := by have := HA1.out.1; obtain ⟨z, hz⟩ := this; have := hz.1; omega
              generalize World.alloc wa (.cells #[.int .i64 0, .string ⟨#[]⟩, .string ⟨#[]⟩, .string ⟨#[]⟩] 23) = wb at hA2 hS2 hA1b ⊢
              have HA2 := Lib.hid hA2
              have HA1b := Lib.hid hA1b
              have HLE2 := Lib.hid (And.intro hle2 hlt12)
              clear hA2 hA1b hle2 hlt12 hq2
              refine hK.out _ _ (hS2) (fun hS => ?_)
              clear hK K
              try simp only [Act.put, List.setIfInBounds_toArray, List.set_cons_zero, List.set_cons_succ]
              refine wpAnyH_ready (rs := [12]) (by kernel_rfl) (by simp) ?_
              refine AllReadyH.cons (o := ⟨none, _, _, _, _, _⟩) rfl (fun K hK => ?_) AllReadyH.nil
              go_simp
              obtain ⟨⟨z1, hz0, kz0, kz1, kz2, kz3⟩, fz⟩ := HA1b.out
              have fz0 := fz 0
              have fz1 := fz 1
              have fz2 := fz 2
              have fz3 := fz 3
              clear fz
              go_simp
              have hS3 := set_four hS HLE1.out (.int .i64 x.k) (.string x.s) (.string x.l) (.string x.t)
              have hx1 := TmB.setD ⟨hz0, kz0, kz1, kz2, kz3⟩ x
              have hx2 := HA2.out.far (Ne.symm HLE2.out.2) (.int .i64 x.k) (.string x.s) (.string x.l) (.string x.t)
              clear kz0 kz1 kz2 kz3 fz0 fz1 fz2 fz3 hz0
              generalize World.setCell (World.setCell (World.setCell (World.setCell wb _ _) _ _) _ _) _ _ = wc at hS3 hx1 hx2 ⊢
              have HX1 := Lib.hid hx1
              have HX2 := Lib.hid hx2
              clear hx1 hx2
              refine hK.out _ _ (hS3) (fun hS => ?_)
              clear hK K
              try simp only [Act.put, List.setIfInBounds_toArray, List.set_cons_zero, List.set_cons_succ]
              refine wpAnyH_ready (rs := [13]) (by kernel_rfl) (by simp) ?_
              refine AllReadyH.cons (o := ⟨none, _, _, _, _, _⟩) rfl (fun K hK => ?_) AllReadyH.nil
              go_simp
              obtain ⟨⟨z2, hz0, kz0, kz1, kz2, kz3⟩, fz⟩ := HX2.out
              have fz0 := fz 0
              have fz1 := fz 1
              have fz2 := fz 2
              have fz3 := fz 3
              clear fz
              go_simp
              have hS4 := set_four hS HLE2.out.1 (.int .i64 y.k) (.string y.s) (.string y.l) (.string y.t)
              have hy1 := TmB.setD ⟨hz0, kz0, kz1, kz2, kz3⟩ y
              have hy2 := HX1.out.farD HLE2.out.2 (.int .i64 y.k) (.string y.s) (.string y.l) (.string y.t)
              clear kz0 kz1 kz2 kz3 fz0 fz1 fz2 fz3 hz0
              generalize World.setCell (World.setCell (World.setCell (World.setCell wc _ _) _ _) _ _) _ _ = we at hS4 hy1 hy2 ⊢
              have HY1 := Lib.hid hy1
              have HY2 := Lib.hid hy2
              clear hy1 hy2
              refine hK.out _ _ (hS4) (fun hS => ?_)
              clear hK K
              try simp only [Act.put, List.setIfInBounds_toArray, List.set_cons_zero, List.set_cons_succ]
              refine wpAnyH_done (by kernel_rfl) ?_ _
              go_wp2_with fail
              go_meet
              exact ⟨_, _, rfl, rfl, HY2.out, HY1.out, hS⟩
            · go_simp
              have hA1 := AnsD.new wd 23
              have hSa := hS.alloc hS.size (.cells #[.int .i64 0, .string ⟨#[]⟩, .string ⟨#[]⟩, .string ⟨#[]⟩] 23)
              have hle1 : wr.heap.size ≤ wd.heap.size := hS.size
              generalize hq1 : wd.heap.size = q1 at hA1 hle1 ⊢
              generalize World.alloc wd (.cells #[.int .i64 0, .string ⟨#[]⟩, .string ⟨#[]⟩, .string ⟨#[]⟩] 23) = wa at hA1 hSa ⊢
              have HA1 := Lib.hid hA1
              have HLE1 := Lib.hid hle1
              clear hA1 hle1 hq1
              refine hK.out _ _ (hSa) (fun hS => ?_)
              clear hK K
              try simp only [Act.put, List.setIfInBounds_toArray, List.set_cons_zero, List.set_cons_succ]
              refine wpAnyH_ready (rs := [10]) (by kernel_rfl) (by simp) ?_
              refine AllReadyH.cons (o := ⟨some 11, _, _, _, _, _⟩) rfl (fun K hK => ?_) AllReadyH.nil
              go_simp
              have hA2 := AnsD.new wa 23
              have hS2 := hS.alloc hS.size (.cells #[.int .i64 0, .string ⟨#[]⟩, .string ⟨#[]⟩, .string ⟨#[]⟩] 23)
              have hle2 : wr.heap.size ≤ wa.heap.size := hS.size
              have hA1b := HA1.out.below ((Below.refl wa.heap.size wa).alloc (Nat.le_refl _) (.cells #[.int .i64 0, .string ⟨#[]⟩, .string ⟨#[]⟩, .string ⟨#[]⟩] 23))
              generalize hq2 : wa.heap.size = q2 at hA2 hle2 ⊢
              have hlt12 : q1 ≠ q2 := by have := HA1.out.1; obtain ⟨z, hz⟩ := this; have := hz.1; omega
              generalize World.alloc wa (.cells #[.int .i64 0, .string ⟨#[]⟩, .string ⟨#[]⟩, .string ⟨#[]⟩] 23) = wb at hA2 hS2 hA1b ⊢
              have HA2 := Lib.hid hA2
              have HA1b := Lib.hid hA1b
              have HLE2 := Lib.hid (And.intro hle2 hlt12)
              clear hA2 hA1b hle2 hlt12 hq2
              refine hK.out _ _ (hS2) (fun hS => ?_)
              clear hK K
              try simp only [Act.put, List.setIfInBounds_toArray, List.set_cons_zero, List.set_cons_succ]
              refine wpAnyH_ready (rs := [12]) (by kernel_rfl) (by simp) ?_
              refine AllReadyH.cons (o := ⟨none, _, _, _, _, _⟩) rfl (fun K hK => ?_) AllReadyH.nil
              go_simp
              obtain ⟨⟨z1, hz0, kz0, kz1, kz2, kz3⟩, fz⟩ := HA2.out
              have fz0 := fz 0
              have fz1 := fz 1
              have fz2 := fz 2
              have fz3 := fz 3
              clear fz
              go_simp
              have hS3 := set_four hS HLE2.out.1 (.int .i64 x.k) (.string x.s) (.string x.l) (.string x.t)
              have hx1 := TmB.setD ⟨hz0, kz0, kz1, kz2, kz3⟩ x
              have hx2 := HA1b.out.far HLE2.out.2 (.int .i64 x.k) (.string x.s) (.string x.l) (.string x.t)
              clear kz0 kz1 kz2 kz3 fz0 fz1 fz2 fz3 hz0
              generalize World.setCell (World.setCell (World.setCell (World.setCell wb _ _) _ _) _ _) _ _ = wc at hS3 hx1 hx2 ⊢
              have HX1 := Lib.hid hx1
              have HX2 := Lib.hid hx2
              clear hx1 hx2
              refine hK.out _ _ (hS3) (fun hS => ?_)
              clear hK K
              try simp only [Act.put, List.setIfInBounds_toArray, List.set_cons_zero, List.set_cons_succ]
              refine wpAnyH_ready (rs := [13]) (by kernel_rfl) (by simp) ?_
              refine AllReadyH.cons (o := ⟨none, _, _, _, _, _⟩) rfl (fun K hK => ?_) AllReadyH.nil
              go_simp
              obtain ⟨⟨z2, hz0, kz0, kz1, kz2, kz3⟩, fz⟩ := HX2.out
              have fz0 := fz 0
              have fz1 := fz 1
              have fz2 := fz 2
              have fz3 := fz 3
              clear fz
              go_simp
              have hS4 := set_four hS HLE1.out (.int .i64 y.k) (.string y.s) (.string y.l) (.string y.t)
              have hy1 := TmB.setD ⟨hz0, kz0, kz1, kz2, kz3⟩ y
              have hy2 := HX1.out.farD (Ne.symm HLE2.out.2) (.int .i64 y.k) (.string y.s) (.string y.l) (.string y.t)
              clear kz0 kz1 kz2 kz3 fz0 fz1 fz2 fz3 hz0
              generalize World.setCell (World.setCell (World.setCell (World.setCell wc _ _) _ _) _ _) _ _ = we at hS4 hy1 hy2 ⊢
              have HY1 := Lib.hid hy1
              have HY2 := Lib.hid hy2
              clear hy1 hy2
              refine hK.out _ _ (hS4) (fun hS => ?_)
              clear hK K
              try simp only [Act.put, List.setIfInBounds_toArray, List.set_cons_zero, List.set_cons_succ]
              refine wpAnyH_done (by kernel_rfl) ?_ _
              go_wp2_with fail
              go_meet
              exact ⟨_, _, rfl, rfl, HY2.out, HY1.out, hS⟩
          case rest =>
            obtain ⟨bx, bY, rfl, rfl, hD1, hD2, hB1⟩ := hcut
            have HD := Lib.hid (And.intro hD1 hD2)
            have HBa := Lib.hid (HB.out.trans (hB1.mono HB.out.size))
            have HPa := Lib.hid (HP.out.below hB1)
            clear hD1 hD2 hB1 HF
            rename World => wA
            obtain ⟨⟨hs1, hp1⟩, hs2, hp2⟩ := HQ.out
            have HT := Lib.hid (fun w => truth_any x hs1 w)
            have HRT := Lib.hid (fun w => rtruth_any x hs1 w)
            have HE := Lib.hid (fun w1 (h : Below w.heap.size w w1) => equal_any x y hs1 hs2 w1 (HPW.out.below h))
            have HRE := Lib.hid (fun w => requal15_any x y hs1 hs2 hp1 hp2 w)
            have HL := Lib.hid (fun w1 (h : Below w.heap.size w w1) => less_any x y hs1 hs2 w1 (HPW.out.below h))
            have HRL := Lib.hid (fun w => rless15_any x y hs1 hs2 hp1 hp2 w)
            clear hs1 hp1 hs2 hp2
            obtain ⟨p1, q1, e1⟩ := twoB_form (truthO x)
            obtain ⟨p2, q2, e2⟩ := twoB_form (lessO x y)
            rw [e1] at HT HRT
            rw [e2] at HL HRL
            clear e1 e2
            generalize (equalO x y).1 = p3 at HE HRE
            generalize (equalO x y).2 = q3 at HE HRE
            unfold Tm.val at HT HRT HE HRE HL HRL
            obtain ⟨-, k0, k1, k2, k3⟩ := HD.out.1
            go_wp2_with fail
            clear k0 k1 k2 k3
            refine (HT.out _).mono ?_
            rintro e v0 ⟨rfl, hb0⟩
            have HD0 := Lib.hid (And.intro (HD.out.1.below hb0) (HD.out.2.below hb0))
            have HB0 := Lib.hid (HBa.out.trans (hb0.mono HBa.out.size))
            have HP0 := Lib.hid (HPa.out.below hb0)
            clear hb0
            obtain ⟨-, k0, k1, k2, k3⟩ := HD0.out.1
            go_wp2_with fail
            clear k0 k1 k2 k3
            refine (HRT.out _).mono ?_
            rintro e v1 ⟨rfl, hb1⟩
            have HD1 := Lib.hid (And.intro (HD0.out.1.below hb1) (HD0.out.2.below hb1))
            have HB1 := Lib.hid (HB0.out.trans (hb1.mono HB0.out.size))
            have HP1 := Lib.hid (HP0.out.below hb1)
            clear hb1
            obtain ⟨-, k0, k1, k2, k3⟩ := HD1.out.1
            obtain ⟨-, l0, l1, l2, l3⟩ := HD1.out.2
            go_wp2_with fail
            clear k0 k1 k2 k3 l0 l1 l2 l3
            refine (HE.out _ HB1.out).mono ?_
            rintro e v2 ⟨rfl, hb2⟩
            have HD2 := Lib.hid (And.intro (HD1.out.1.below hb2) (HD1.out.2.below hb2))
            have HB2 := Lib.hid (HB1.out.trans (hb2.mono HB1.out.size))
            have HP2 := Lib.hid (HP1.out.below hb2)
            clear hb2
            obtain ⟨-, k0, k1, k2, k3⟩ := HD2.out.1
            obtain ⟨-, l0, l1, l2, l3⟩ := HD2.out.2
            go_wp2_with fail
            clear k0 k1 k2 k3 l0 l1 l2 l3
            refine (HRE.out _).mono ?_
            rintro e v3 ⟨rfl, hb3⟩
            have HD3 := Lib.hid (And.intro (HD2.out.1.below hb3) (HD2.out.2.below hb3))
            have HB3 := Lib.hid (HB2.out.trans (hb3.mono HB2.out.size))
            have HP3 := Lib.hid (HP2.out.below hb3)
            clear hb3
            obtain ⟨-, k0, k1, k2, k3⟩ := HD3.out.1
            obtain ⟨-, l0, l1, l2, l3⟩ := HD3.out.2
            go_wp2_with fail
            clear k0 k1 k2 k3 l0 l1 l2 l3
            refine (HL.out _ HB3.out).mono ?_
            rintro e v4 ⟨rfl, hb4⟩
            have HD4 := Lib.hid (And.intro (HD3.out.1.below hb4) (HD3.out.2.below hb4))
            have HB4 := Lib.hid (HB3.out.trans (hb4.mono HB3.out.size))
            have HP4 := Lib.hid (HP3.out.below hb4)
            clear hb4
            obtain ⟨-, k0, k1, k2, k3⟩ := HD4.out.1
            obtain ⟨-, l0, l1, l2, l3⟩ := HD4.out.2
            go_wp2_with fail
            clear k0 k1 k2 k3 l0 l1 l2 l3
            refine (HRL.out _).mono ?_
            rintro e v5 ⟨rfl, hb5⟩
            have HD5 := Lib.hid (And.intro (HD4.out.1.below hb5) (HD4.out.2.below hb5))
            have HB5 := Lib.hid (HB4.out.trans (hb5.mono HB4.out.size))
            have HP5 := Lib.hid (HP4.out.below hb5)
            clear hb5
            go_wp2_with fail
            exact ⟨⟨j + 1, by go_num, by omega, HP5.out, HB5.out⟩, by simp [intOf]; omega⟩
        · have hlti : ¬ (j : Int) < 4 := by omega
          go_wp2_with fail
          go_ret
          exact ⟨rfl, HB.out⟩
end Go.Proofs.YtdlfoinpjbcodaaDoor
