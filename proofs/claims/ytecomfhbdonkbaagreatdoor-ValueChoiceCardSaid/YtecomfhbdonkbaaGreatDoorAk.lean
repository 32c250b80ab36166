/- Package value: two. -/
import Derived.Test.YtecomfhbdonkbaaGreatDoorAj
namespace Go.Proofs.YtecomfhbdonkbaaGreatDoor
open Go.RowKit Go.Shelf Flo
set_option maxRecDepth 100000
set_option linter.unusedVariables false
set_option linter.unusedSimpArgs false

/-- Two terms' boxes and the answer's. -/
def ThreeA (w : World) (a b : Tm) (v : World) : Prop := Below w.heap.size w v ∧ TmB v w.heap.size a ∧ TmB v (w.heap.size + 1) b ∧ AnsB v (w.heap.size + 1 + 1) ∧ ∀ j, v.frozen? ⟨w.heap.size, j, none⟩ = false ∧ v.frozen? ⟨w.heap.size + 1, j, none⟩ = false
theorem ThreeA.below {w v v' : World} {a b : Tm} (h : ThreeA w a b v) (hb : Below v.heap.size v v') : ThreeA w a b v' := ⟨h.1.trans (hb.mono h.1.size), h.2.1.below hb, h.2.2.1.below hb, h.2.2.2.1.below hb, fun j => ⟨(hb.frozen (p := ⟨w.heap.size, j, none⟩) h.2.1.1).trans (h.2.2.2.2 j).1, (hb.frozen (p := ⟨w.heap.size + 1, j, none⟩) h.2.2.1.1).trans (h.2.2.2.2 j).2⟩⟩
theorem ThreeA.put {w v : World} {a b : Tm} (h : ThreeA w a b v) (x : Tm) : ThreeA w a b ((((v.setCell ⟨w.heap.size + 1 + 1, 0, none⟩ (.int .i64 x.k)).setCell ⟨w.heap.size + 1 + 1, 1, none⟩ (.string x.s)).setCell ⟨w.heap.size + 1 + 1, 2, none⟩ (.string x.l)).setCell ⟨w.heap.size + 1 + 1, 3, none⟩ (.string x.t)) :=
  ⟨(((h.1.setCell (by simp only []; omega) _).setCell (by simp only []; omega) _).setCell (by simp only []; omega) _).setCell (by simp only []; omega) _, h.2.1.far (by omega) _ _ _ _, h.2.2.1.far (by omega) _ _ _ _, h.2.2.2.1.put x, fun j => by simp only [World.frozen?_setCell]; exact h.2.2.2.2 j⟩
theorem ThreeA.new (w : World) (a b : Tm) (ty : TypeId) : ThreeA w a b (((w.alloc (.cells #[.int .i64 a.k, .string a.s, .string a.l, .string a.t] ty)).alloc (.cells #[.int .i64 b.k, .string b.s, .string b.l, .string b.t] ty)).alloc (.cells #[.int .i64 0, .string ⟨#[]⟩, .string ⟨#[]⟩, .string ⟨#[]⟩] ty)) := by
  have h := ThreeT.new w a b ty
  have f1 := fun j => frozen_new w #[.int .i64 a.k, .string a.s, .string a.l, .string a.t] ty j
  have l1 : w.heap.size < (w.alloc (.cells #[.int .i64 a.k, .string a.s, .string a.l, .string a.t] ty)).heap.size := by simp
  have z1 : (w.alloc (.cells #[.int .i64 a.k, .string a.s, .string a.l, .string a.t] ty)).heap.size = w.heap.size + 1 := by simp
  generalize w.alloc (.cells #[.int .i64 a.k, .string a.s, .string a.l, .string a.t] ty) = w1 at *
  have f2 := fun j => frozen_new w1 #[.int .i64 b.k, .string b.s, .string b.l, .string b.t] ty j
  have b2 := (Below.refl w1.heap.size w1).alloc (Nat.le_refl _) (.cells #[.int .i64 b.k, .string b.s, .string b.l, .string b.t] ty)
  have z2 : (w1.alloc (.cells #[.int .i64 b.k, .string b.s, .string b.l, .string b.t] ty)).heap.size = w1.heap.size + 1 := by simp
  generalize w1.alloc (.cells #[.int .i64 b.k, .string b.s, .string b.l, .string b.t] ty) = w2 at *
  have b3 := (Below.refl w2.heap.size w2).alloc (Nat.le_refl _) (.cells #[.int .i64 0, .string ⟨#[]⟩, .string ⟨#[]⟩, .string ⟨#[]⟩] ty)
  rw [z1] at f2
  exact ⟨h.1.1, h.1.2.1, h.1.2.2, ⟨⟨zeroT, h.2.1⟩, h.2.2⟩, fun j => ⟨(b3.frozen (p := ⟨w.heap.size, j, none⟩) (by simp only []; omega)).trans ((b2.frozen (p := ⟨w.heap.size, j, none⟩) (by simp only []; omega)).trans (f1 j)), (b3.frozen (p := ⟨w.heap.size + 1, j, none⟩) (by simp only []; omega)).trans (f2 j)⟩⟩
theorem TmB.set {w : World} {q : Nat} {y : Tm} (h : TmB w q y) (x : Tm) : TmB ((((w.setCell ⟨q, 0, none⟩ (.int .i64 x.k)).setCell ⟨q, 1, none⟩ (.string x.s)).setCell ⟨q, 2, none⟩ (.string x.l)).setCell ⟨q, 3, none⟩ (.string x.t)) q x := by
  obtain ⟨h0, h1, h2, h3, h4⟩ := h
  have same : ∀ (v : World) (j : Nat) (u : Value), (v.cell? ⟨q, j, none⟩).isSome = true → (v.setCell ⟨q, j, none⟩ u).cell? ⟨q, j, none⟩ = some u := fun v j u h => World.cell?_setCell_same' _ _ _ h
  have other : ∀ (v : World) (i j : Nat) (u : Value), i ≠ j → (v.setCell ⟨q, j, none⟩ u).cell? ⟨q, i, none⟩ = v.cell? ⟨q, i, none⟩ := fun v i j u h => World.cell?_setCell_other _ _ _ _ (by simp [h])
  refine ⟨by simpa using h0, ?_, ?_, ?_, ?_⟩
  · rw [other _ 0 3 _ (by decide), other _ 0 2 _ (by decide), other _ 0 1 _ (by decide)]; exact same _ _ _ (by rw [h1]; rfl)
  · rw [other _ 1 3 _ (by decide), other _ 1 2 _ (by decide)]; exact same _ _ _ (by rw [other _ 1 0 _ (by decide), h2]; rfl)
  · rw [other _ 2 3 _ (by decide)]; exact same _ _ _ (by rw [other _ 2 1 _ (by decide), other _ 2 0 _ (by decide), h3]; rfl)
  · exact same _ _ _ (by rw [other _ 3 2 _ (by decide), other _ 3 1 _ (by decide), other _ 3 0 _ (by decide), h4]; rfl)
theorem AnsB.far {w : World} {b q : Nat} (h : AnsB w b) (hne : b ≠ q) (a s l y : Value) : AnsB ((((w.setCell ⟨q, 0, none⟩ a).setCell ⟨q, 1, none⟩ s).setCell ⟨q, 2, none⟩ l).setCell ⟨q, 3, none⟩ y) b := by
  obtain ⟨⟨x, hx⟩, hf⟩ := h
  exact ⟨⟨x, hx.far hne _ _ _ _⟩, fun j => by simp only [World.frozen?_setCell]; exact hf j⟩
/-- Both turned about. -/
theorem ThreeA.swap {w v : World} {a b : Tm} (h : ThreeA w a b v) : ThreeA w b a ((((((((v.setCell ⟨w.heap.size, 0, none⟩ (.int .i64 b.k)).setCell ⟨w.heap.size, 1, none⟩ (.string b.s)).setCell ⟨w.heap.size, 2, none⟩ (.string b.l)).setCell ⟨w.heap.size, 3, none⟩ (.string b.t)).setCell ⟨w.heap.size + 1, 0, none⟩ (.int .i64 a.k)).setCell ⟨w.heap.size + 1, 1, none⟩ (.string a.s)).setCell ⟨w.heap.size + 1, 2, none⟩ (.string a.l)).setCell ⟨w.heap.size + 1, 3, none⟩ (.string a.t)) := by
  obtain ⟨h1, h2, h3, h4, h5⟩ := h
  refine ⟨?_, (h2.set b).far (by omega) _ _ _ _, (h3.far (by omega) _ _ _ _).set a, (h4.far (by omega) _ _ _ _).far (by omega) _ _ _ _, fun j => by simp only [World.frozen?_setCell]; exact h5 j⟩
  exact (((((((h1.setCell (by simp only []; omega) _).setCell (by simp only []; omega) _).setCell (by simp only []; omega) _).setCell (by simp only []; omega) _).setCell (by simp only []; omega) _).setCell (by simp only []; omega) _).setCell (by simp only []; omega) _).setCell (by simp only []; omega) _
/-- The variable of strings.Index. -/
def MaxAt (w : World) : Prop := ∃ m, w.cell? ⟨1, 0, none⟩ = some (.int .i64 m)
theorem MaxAt.below {w w' : World} (h : MaxAt w) (hb : Below w.heap.size w w') : MaxAt w' := by
  obtain ⟨m, h⟩ := h
  exact ⟨m, (hb.cell (p := ⟨1, 0, none⟩) (World.block_lt_of_cell? w _ h)).trans h⟩
theorem contains_any (s t : ByteArray) (hs : s.size ≤ 200) (w : World) (hm : MaxAt w) : Calls Tryz.prog 61 #[.string s, .string t] w fun e w' => e = .returned (.bool (hasL s.data.toList t.data.toList)) ∧ w' = w := by
  obtain ⟨m, hm⟩ := hm
  exact Any.strings_Contains Tryz.lays144 s t m w (by omega) hm
set_option maxHeartbeats 1000000 in
theorem two_2 (a b : Tm) (ha : a.Sm) (hb : b.Sm) (w : World) (hP : PowAt w) (hY : TabP w) (hM : MaxAt w) : Calls Tryz.prog 71 #[.int .i64 2, a.val, b.val] w fun e w' => Tells e (twoO 2 a b) ∧ Below w.heap.size w w' := by
  have HN := Lib.hid (ThreeA.new w a b 25)
  have HPW := Lib.hid hP
  have HY := Lib.hid hY
  have HMX := Lib.hid hM
  obtain ⟨V, hV⟩ : ∃ V, V = twoO 2 a b := ⟨_, rfl⟩
  rw [← hV]
  have HV := Lib.hid hV
  have HA := Lib.hid (fun w1 (h : Below w.heap.size w w1) => logic_any 2 a b ha hb (by unfold opIn; decide) w1)
  clear hV ha hb hP hY hM
  unfold Tm.val
  have HF := Lib.hid (show V = logicO 2 a b from HV.out)
  generalize logicO 2 a b = q at HA HF
  unfold Tm.val at HA
  clear HV
  go_enter Tryz.func71, Tryz.ntmps71
  go_wp2_with fail
  generalize World.alloc (World.alloc (World.alloc w _) _) _ = wr at HN ⊢
  refine (HA.out _ HN.out.1).mono ?_
  rintro e w3 ⟨⟨x, rfl, hx⟩, hb3⟩
  have HX := Lib.hid hx
  have HT3 := Lib.hid (HN.out.below hb3)
  clear hx hb3
  obtain ⟨-, ka0, ka1, ka2, ka3⟩ := HT3.out.2.1
  obtain ⟨-, kb0, kb1, kb2, kb3⟩ := HT3.out.2.2.1
  obtain ⟨⟨xz, -, kz0, kz1, kz2, kz3⟩, fz⟩ := HT3.out.2.2.2.1
  have fz0 := fz 0
  have fz1 := fz 1
  have fz2 := fz 2
  have fz3 := fz 3
  clear fz
  generalize hqs : q.isSome = o
  have HO := Lib.hid hqs
  clear hqs
  obtain ⟨k, s, l, y⟩ := x
  unfold Tm.val
  go_wp2_with fail
  refine bodyPost_ret (v := .tuple #[.agg #[.int .i64 k, .string s, .string l, .string y], .bool o]) (by simp [results, Tryz.results71, go_sem, kz0, kz1, kz2, kz3]) rfl ⟨?_, (HT3.out.put ⟨k, s, l, y⟩).1⟩
  rw [HF.out]
  exact ⟨⟨k, s, l, y⟩, by rw [HO.out]; rfl, HX.out⟩
set_option maxHeartbeats 1000000 in
theorem two_3 (a b : Tm) (ha : a.Sm) (hb : b.Sm) (w : World) (hP : PowAt w) (hY : TabP w) (hM : MaxAt w) : Calls Tryz.prog 71 #[.int .i64 3, a.val, b.val] w fun e w' => Tells e (twoO 3 a b) ∧ Below w.heap.size w w' := by
  have HN := Lib.hid (ThreeA.new w a b 25)
  have HPW := Lib.hid hP
  have HY := Lib.hid hY
  have HMX := Lib.hid hM
  obtain ⟨V, hV⟩ : ∃ V, V = twoO 3 a b := ⟨_, rfl⟩
  rw [← hV]
  have HV := Lib.hid hV
  have HA := Lib.hid (fun w1 (h : Below w.heap.size w w1) => logic_any 3 a b ha hb (by unfold opIn; decide) w1)
  clear hV ha hb hP hY hM
  unfold Tm.val
  have HF := Lib.hid (show V = logicO 3 a b from HV.out)
  generalize logicO 3 a b = q at HA HF
  unfold Tm.val at HA
  clear HV
  go_enter Tryz.func71, Tryz.ntmps71
  go_wp2_with fail
  generalize World.alloc (World.alloc (World.alloc w _) _) _ = wr at HN ⊢
  refine (HA.out _ HN.out.1).mono ?_
  rintro e w3 ⟨⟨x, rfl, hx⟩, hb3⟩
  have HX := Lib.hid hx
  have HT3 := Lib.hid (HN.out.below hb3)
  clear hx hb3
  obtain ⟨-, ka0, ka1, ka2, ka3⟩ := HT3.out.2.1
  obtain ⟨-, kb0, kb1, kb2, kb3⟩ := HT3.out.2.2.1
  obtain ⟨⟨xz, -, kz0, kz1, kz2, kz3⟩, fz⟩ := HT3.out.2.2.2.1
  have fz0 := fz 0
  have fz1 := fz 1
  have fz2 := fz 2
  have fz3 := fz 3
  clear fz
  generalize hqs : q.isSome = o
  have HO := Lib.hid hqs
  clear hqs
  obtain ⟨k, s, l, y⟩ := x
  unfold Tm.val
  go_wp2_with fail
  refine bodyPost_ret (v := .tuple #[.agg #[.int .i64 k, .string s, .string l, .string y], .bool o]) (by simp [results, Tryz.results71, go_sem, kz0, kz1, kz2, kz3]) rfl ⟨?_, (HT3.out.put ⟨k, s, l, y⟩).1⟩
  rw [HF.out]
  exact ⟨⟨k, s, l, y⟩, by rw [HO.out]; rfl, HX.out⟩
set_option maxHeartbeats 1000000 in
theorem two_5 (a b : Tm) (ha : a.Sm) (hb : b.Sm) (w : World) (hP : PowAt w) (hY : TabP w) (hM : MaxAt w) : Calls Tryz.prog 71 #[.int .i64 5, a.val, b.val] w fun e w' => Tells e (twoO 5 a b) ∧ Below w.heap.size w w' := by
  have HN := Lib.hid (ThreeA.new w a b 25)
  have HPW := Lib.hid hP
  have HY := Lib.hid hY
  have HMX := Lib.hid hM
  obtain ⟨V, hV⟩ : ∃ V, V = twoO 5 a b := ⟨_, rfl⟩
  rw [← hV]
  have HV := Lib.hid hV
  have HA := Lib.hid (fun w1 (h : Below w.heap.size w w1) => equal_any a b ha hb w1 (hP.below h))
  clear hV ha hb hP hY hM
  unfold Tm.val
  unfold Tm.val at HA
  have HF0 := Lib.hid (show V = if (equalO a b).2 then some (boolT ((equalO a b).1)) else none from HV.out)
  generalize (equalO a b).1 = c at HA HF0
  generalize (equalO a b).2 = d at HA HF0
  clear HV
  cases d
  · have HF := Lib.hid (show V = none from HF0.out)
    clear HF0
    go_enter Tryz.func71, Tryz.ntmps71
    go_wp2_with fail
    generalize World.alloc (World.alloc (World.alloc w _) _) _ = wr at HN ⊢
    refine (HA.out _ HN.out.1).mono ?_
    rintro e w1 ⟨rfl, hb1⟩
    have HT1 := Lib.hid (HN.out.below hb1)
    clear hb1
    go_wp2_with fail
    refine (boolean_ex _ _ _).mono ?_
    rintro e w3 ⟨k, s, l, y, o, rfl, hx, ho, hb3⟩
    have HX := Lib.hid (And.intro hx ho)
    have HT3 := Lib.hid (HT1.out.below hb3)
    clear hx ho hb3
    obtain ⟨-, ka0, ka1, ka2, ka3⟩ := HT3.out.2.1
    obtain ⟨-, kb0, kb1, kb2, kb3⟩ := HT3.out.2.2.1
    obtain ⟨⟨xz, -, kz0, kz1, kz2, kz3⟩, fz⟩ := HT3.out.2.2.2.1
    have fz0 := fz 0
    have fz1 := fz 1
    have fz2 := fz 2
    have fz3 := fz 3
    clear fz
    go_wp2_with fail
    refine bodyPost_ret (v := .tuple #[.agg #[.int .i64 k, .string s, .string l, .string y], .bool o]) (by simp [results, Tryz.results71, go_sem, kz0, kz1, kz2, kz3]) rfl ⟨?_, (HT3.out.put ⟨k, s, l, y⟩).1⟩
    rw [HF.out]
    obtain ⟨hx, ho⟩ := HX.out
    subst ho
    first | exact hx ▸ Tells.some (x := ⟨k, s, l, y⟩) rfl | exact Tells.none (x := ⟨k, s, l, y⟩) rfl
  · have HF := Lib.hid (show V = some (boolT (c)) from HF0.out)
    clear HF0
    go_enter Tryz.func71, Tryz.ntmps71
    go_wp2_with fail
    generalize World.alloc (World.alloc (World.alloc w _) _) _ = wr at HN ⊢
    refine (HA.out _ HN.out.1).mono ?_
    rintro e w1 ⟨rfl, hb1⟩
    have HT1 := Lib.hid (HN.out.below hb1)
    clear hb1
    go_wp2_with fail
    refine (boolean_ex _ _ _).mono ?_
    rintro e w3 ⟨k, s, l, y, o, rfl, hx, ho, hb3⟩
    have HX := Lib.hid (And.intro hx ho)
    have HT3 := Lib.hid (HT1.out.below hb3)
    clear hx ho hb3
    obtain ⟨-, ka0, ka1, ka2, ka3⟩ := HT3.out.2.1
    obtain ⟨-, kb0, kb1, kb2, kb3⟩ := HT3.out.2.2.1
    obtain ⟨⟨xz, -, kz0, kz1, kz2, kz3⟩, fz⟩ := HT3.out.2.2.2.1
    have fz0 := fz 0
    have fz1 := fz 1
    have fz2 := fz 2
    have fz3 := fz 3
    clear fz
    go_wp2_with fail
    refine bodyPost_ret (v := .tuple #[.agg #[.int .i64 k, .string s, .string l, .string y], .bool o]) (by simp [results, Tryz.results71, go_sem, kz0, kz1, kz2, kz3]) rfl ⟨?_, (HT3.out.put ⟨k, s, l, y⟩).1⟩
    rw [HF.out]
    obtain ⟨hx, ho⟩ := HX.out
    subst ho
    first | exact hx ▸ Tells.some (x := ⟨k, s, l, y⟩) rfl | exact Tells.none (x := ⟨k, s, l, y⟩) rfl
set_option maxHeartbeats 1000000 in
theorem two_6 (a b : Tm) (ha : a.Sm) (hb : b.Sm) (w : World) (hP : PowAt w) (hY : TabP w) (hM : MaxAt w) : Calls Tryz.prog 71 #[.int .i64 6, a.val, b.val] w fun e w' => Tells e (twoO 6 a b) ∧ Below w.heap.size w w' := by
  have HN := Lib.hid (ThreeA.new w a b 25)
  have HPW := Lib.hid hP
  have HY := Lib.hid hY
  have HMX := Lib.hid hM
  obtain ⟨V, hV⟩ : ∃ V, V = twoO 6 a b := ⟨_, rfl⟩
  rw [← hV]
  have HV := Lib.hid hV
  have HA := Lib.hid (fun w1 (h : Below w.heap.size w w1) => equal_any a b ha hb w1 (hP.below h))
  clear hV ha hb hP hY hM
  unfold Tm.val
  unfold Tm.val at HA
  have HF0 := Lib.hid (show V = if (equalO a b).2 then some (boolT (!(equalO a b).1)) else none from HV.out)
  generalize (equalO a b).1 = c at HA HF0
  generalize (equalO a b).2 = d at HA HF0
  clear HV
  cases d
  · have HF := Lib.hid (show V = none from HF0.out)
    clear HF0
    go_enter Tryz.func71, Tryz.ntmps71
    go_wp2_with fail
    generalize World.alloc (World.alloc (World.alloc w _) _) _ = wr at HN ⊢
    refine (HA.out _ HN.out.1).mono ?_
    rintro e w1 ⟨rfl, hb1⟩
    have HT1 := Lib.hid (HN.out.below hb1)
    clear hb1
    go_wp2_with fail
    refine (boolean_ex _ _ _).mono ?_
    rintro e w3 ⟨k, s, l, y, o, rfl, hx, ho, hb3⟩
    have HX := Lib.hid (And.intro hx ho)
    have HT3 := Lib.hid (HT1.out.below hb3)
    clear hx ho hb3
    obtain ⟨-, ka0, ka1, ka2, ka3⟩ := HT3.out.2.1
    obtain ⟨-, kb0, kb1, kb2, kb3⟩ := HT3.out.2.2.1
    obtain ⟨⟨xz, -, kz0, kz1, kz2, kz3⟩, fz⟩ := HT3.out.2.2.2.1
    have fz0 := fz 0
    have fz1 := fz 1
    have fz2 := fz 2
    have fz3 := fz 3
    clear fz
    go_wp2_with fail
    refine bodyPost_ret (v := .tuple #[.agg #[.int .i64 k, .string s, .string l, .string y], .bool o]) (by simp [results, Tryz.results71, go_sem, kz0, kz1, kz2, kz3]) rfl ⟨?_, (HT3.out.put ⟨k, s, l, y⟩).1⟩
    rw [HF.out]
    obtain ⟨hx, ho⟩ := HX.out
    subst ho
    first | exact hx ▸ Tells.some (x := ⟨k, s, l, y⟩) rfl | exact Tells.none (x := ⟨k, s, l, y⟩) rfl
  · have HF := Lib.hid (show V = some (boolT (!c)) from HF0.out)
    clear HF0
    go_enter Tryz.func71, Tryz.ntmps71
    go_wp2_with fail
    generalize World.alloc (World.alloc (World.alloc w _) _) _ = wr at HN ⊢
    refine (HA.out _ HN.out.1).mono ?_
    rintro e w1 ⟨rfl, hb1⟩
    have HT1 := Lib.hid (HN.out.below hb1)
    clear hb1
    go_wp2_with fail
    refine (boolean_ex _ _ _).mono ?_
    rintro e w3 ⟨k, s, l, y, o, rfl, hx, ho, hb3⟩
    have HX := Lib.hid (And.intro hx ho)
    have HT3 := Lib.hid (HT1.out.below hb3)
    clear hx ho hb3
    obtain ⟨-, ka0, ka1, ka2, ka3⟩ := HT3.out.2.1
    obtain ⟨-, kb0, kb1, kb2, kb3⟩ := HT3.out.2.2.1
    obtain ⟨⟨xz, -, kz0, kz1, kz2, kz3⟩, fz⟩ := HT3.out.2.2.2.1
    have fz0 := fz 0
    have fz1 := fz 1
    have fz2 := fz 2
    have fz3 := fz 3
    clear fz
    go_wp2_with fail
    refine bodyPost_ret (v := .tuple #[.agg #[.int .i64 k, .string s, .string l, .string y], .bool o]) (by simp [results, Tryz.results71, go_sem, kz0, kz1, kz2, kz3]) rfl ⟨?_, (HT3.out.put ⟨k, s, l, y⟩).1⟩
    rw [HF.out]
    obtain ⟨hx, ho⟩ := HX.out
    subst ho
    first | exact hx ▸ Tells.some (x := ⟨k, s, l, y⟩) rfl | exact Tells.none (x := ⟨k, s, l, y⟩) rfl
set_option maxHeartbeats 1000000 in
theorem two_7 (a b : Tm) (ha : a.Sm) (hb : b.Sm) (w : World) (hP : PowAt w) (hY : TabP w) (hM : MaxAt w) : Calls Tryz.prog 71 #[.int .i64 7, a.val, b.val] w fun e w' => Tells e (twoO 7 a b) ∧ Below w.heap.size w w' := by
  have HN := Lib.hid (ThreeA.new w a b 25)
  have HPW := Lib.hid hP
  have HY := Lib.hid hY
  have HMX := Lib.hid hM
  obtain ⟨V, hV⟩ : ∃ V, V = twoO 7 a b := ⟨_, rfl⟩
  rw [← hV]
  have HV := Lib.hid hV
  have HA := Lib.hid (fun w1 (h : Below w.heap.size w w1) => less_any a b ha hb w1 (hP.below h))
  clear hV ha hb hP hY hM
  unfold Tm.val
  unfold Tm.val at HA
  have HF0 := Lib.hid (show V = (lessO a b).map (boolT) from HV.out)
  generalize lessO a b = q at HA HF0
  clear HV
  rcases q with _ | d
  · have HF := Lib.hid (show V = none from HF0.out)
    have HA2 : Hid (∀ w1, Below w.heap.size w w1 → Calls Tryz.prog 98 #[.agg #[.int .i64 a.k, .string a.s, .string a.l, .string a.t], .agg #[.int .i64 b.k, .string b.s, .string b.l, .string b.t]] w1 fun e w' => e = .returned (.tuple #[.bool false, .bool false]) ∧ Below w1.heap.size w1 w') := HA
    clear HF0 HA
    go_enter Tryz.func71, Tryz.ntmps71
    go_wp2_with fail
    generalize World.alloc (World.alloc (World.alloc w _) _) _ = wr at HN ⊢
    refine (HA2.out _ HN.out.1).mono ?_
    rintro e w1 ⟨rfl, hb1⟩
    have HT1 := Lib.hid (HN.out.below hb1)
    clear hb1
    go_wp2_with fail
    refine (boolean_ex _ _ _).mono ?_
    rintro e w3 ⟨k, s, l, y, o, rfl, hx, ho, hb3⟩
    have HX := Lib.hid (And.intro hx ho)
    have HT3 := Lib.hid (HT1.out.below hb3)
    clear hx ho hb3
    obtain ⟨-, ka0, ka1, ka2, ka3⟩ := HT3.out.2.1
    obtain ⟨-, kb0, kb1, kb2, kb3⟩ := HT3.out.2.2.1
    obtain ⟨⟨xz, -, kz0, kz1, kz2, kz3⟩, fz⟩ := HT3.out.2.2.2.1
    have fz0 := fz 0
    have fz1 := fz 1
    have fz2 := fz 2
    have fz3 := fz 3
    clear fz
    go_wp2_with fail
    refine bodyPost_ret (v := .tuple #[.agg #[.int .i64 k, .string s, .string l, .string y], .bool o]) (by simp [results, Tryz.results71, go_sem, kz0, kz1, kz2, kz3]) rfl ⟨?_, (HT3.out.put ⟨k, s, l, y⟩).1⟩
    rw [HF.out]
    obtain ⟨hx, ho⟩ := HX.out
    subst ho
    first | exact hx ▸ Tells.some (x := ⟨k, s, l, y⟩) rfl | exact Tells.none (x := ⟨k, s, l, y⟩) rfl
  · have HF := Lib.hid (show V = some (boolT d) from HF0.out)
    have HA2 : Hid (∀ w1, Below w.heap.size w w1 → Calls Tryz.prog 98 #[.agg #[.int .i64 a.k, .string a.s, .string a.l, .string a.t], .agg #[.int .i64 b.k, .string b.s, .string b.l, .string b.t]] w1 fun e w' => e = .returned (.tuple #[.bool d, .bool true]) ∧ Below w1.heap.size w1 w') := HA
    clear HF0 HA
    go_enter Tryz.func71, Tryz.ntmps71
    go_wp2_with fail
    generalize World.alloc (World.alloc (World.alloc w _) _) _ = wr at HN ⊢
    refine (HA2.out _ HN.out.1).mono ?_
    rintro e w1 ⟨rfl, hb1⟩
    have HT1 := Lib.hid (HN.out.below hb1)
    clear hb1
    go_wp2_with fail
    refine (boolean_ex _ _ _).mono ?_
    rintro e w3 ⟨k, s, l, y, o, rfl, hx, ho, hb3⟩
    have HX := Lib.hid (And.intro hx ho)
    have HT3 := Lib.hid (HT1.out.below hb3)
    clear hx ho hb3
    obtain ⟨-, ka0, ka1, ka2, ka3⟩ := HT3.out.2.1
    obtain ⟨-, kb0, kb1, kb2, kb3⟩ := HT3.out.2.2.1
    obtain ⟨⟨xz, -, kz0, kz1, kz2, kz3⟩, fz⟩ := HT3.out.2.2.2.1
    have fz0 := fz 0
    have fz1 := fz 1
    have fz2 := fz 2
    have fz3 := fz 3
    clear fz
    go_wp2_with fail
    refine bodyPost_ret (v := .tuple #[.agg #[.int .i64 k, .string s, .string l, .string y], .bool o]) (by simp [results, Tryz.results71, go_sem, kz0, kz1, kz2, kz3]) rfl ⟨?_, (HT3.out.put ⟨k, s, l, y⟩).1⟩
    rw [HF.out]
    obtain ⟨hx, ho⟩ := HX.out
    subst ho
    first | exact hx ▸ Tells.some (x := ⟨k, s, l, y⟩) rfl | exact Tells.none (x := ⟨k, s, l, y⟩) rfl
set_option maxHeartbeats 1000000 in
theorem two_8 (a b : Tm) (ha : a.Sm) (hb : b.Sm) (w : World) (hP : PowAt w) (hY : TabP w) (hM : MaxAt w) : Calls Tryz.prog 71 #[.int .i64 8, a.val, b.val] w fun e w' => Tells e (twoO 8 a b) ∧ Below w.heap.size w w' := by
  have HN := Lib.hid (ThreeA.new w a b 25)
  have HPW := Lib.hid hP
  have HY := Lib.hid hY
  have HMX := Lib.hid hM
  obtain ⟨V, hV⟩ : ∃ V, V = twoO 8 a b := ⟨_, rfl⟩
  rw [← hV]
  have HV := Lib.hid hV
  have HA := Lib.hid (fun w1 (h : Below w.heap.size w w1) => less_any a b ha hb w1 (hP.below h))
  have HE := Lib.hid (fun w1 (h : Below w.heap.size w w1) => equal_any a b ha hb w1 (hP.below h))
  clear hV ha hb hP hY hM
  unfold Tm.val
  unfold Tm.val at HA HE
  have HF0 := Lib.hid (show V = (lessO a b).map (fun l => boolT (l || (equalO a b).1)) from HV.out)
  generalize lessO a b = q at HA HF0
  generalize (equalO a b).1 = c at HE HF0
  generalize (equalO a b).2 = cok at HE
  clear HV
  rcases q with _ | d
  · have HF := Lib.hid (show V = none from HF0.out)
    have HA2 : Hid (∀ w1, Below w.heap.size w w1 → Calls Tryz.prog 98 #[.agg #[.int .i64 a.k, .string a.s, .string a.l, .string a.t], .agg #[.int .i64 b.k, .string b.s, .string b.l, .string b.t]] w1 fun e w' => e = .returned (.tuple #[.bool false, .bool false]) ∧ Below w1.heap.size w1 w') := HA
    clear HF0 HA
    go_enter Tryz.func71, Tryz.ntmps71
    go_wp2_with fail
    generalize World.alloc (World.alloc (World.alloc w _) _) _ = wr at HN ⊢
    refine (HA2.out _ HN.out.1).mono ?_
    rintro e w1 ⟨rfl, hb1⟩
    have HT1 := Lib.hid (HN.out.below hb1)
    clear hb1
    obtain ⟨-, ka0, ka1, ka2, ka3⟩ := HT1.out.2.1
    obtain ⟨-, kb0, kb1, kb2, kb3⟩ := HT1.out.2.2.1
    go_wp2_with fail
    clear ka0 ka1 ka2 ka3 kb0 kb1 kb2 kb3
    refine (HE.out _ HT1.out.1).mono ?_
    rintro e w2 ⟨rfl, hb2⟩
    have HT2 := Lib.hid (HT1.out.below hb2)
    clear hb2
    go_wp2_with fail
    refine (boolean_ex _ _ _).mono ?_
    rintro e w3 ⟨k, s, l, y, o, rfl, hx, ho, hb3⟩
    have HX := Lib.hid (And.intro hx ho)
    have HT3 := Lib.hid (HT2.out.below hb3)
    clear hx ho hb3
    obtain ⟨-, ka0, ka1, ka2, ka3⟩ := HT3.out.2.1
    obtain ⟨-, kb0, kb1, kb2, kb3⟩ := HT3.out.2.2.1
    obtain ⟨⟨xz, -, kz0, kz1, kz2, kz3⟩, fz⟩ := HT3.out.2.2.2.1
    have fz0 := fz 0
    have fz1 := fz 1
    have fz2 := fz 2
    have fz3 := fz 3
    clear fz
    go_wp2_with fail
    refine bodyPost_ret (v := .tuple #[.agg #[.int .i64 k, .string s, .string l, .string y], .bool o]) (by simp [results, Tryz.results71, go_sem, kz0, kz1, kz2, kz3]) rfl ⟨?_, (HT3.out.put ⟨k, s, l, y⟩).1⟩
    rw [HF.out]
    obtain ⟨hx, ho⟩ := HX.out
    subst ho
    first | exact hx ▸ Tells.some (x := ⟨k, s, l, y⟩) rfl | exact Tells.none (x := ⟨k, s, l, y⟩) rfl
  · have HF := Lib.hid (show V = some (boolT (d || c)) from HF0.out)
    have HA2 : Hid (∀ w1, Below w.heap.size w w1 → Calls Tryz.prog 98 #[.agg #[.int .i64 a.k, .string a.s, .string a.l, .string a.t], .agg #[.int .i64 b.k, .string b.s, .string b.l, .string b.t]] w1 fun e w' => e = .returned (.tuple #[.bool d, .bool true]) ∧ Below w1.heap.size w1 w') := HA
    clear HF0 HA
    go_enter Tryz.func71, Tryz.ntmps71
    go_wp2_with fail
    generalize World.alloc (World.alloc (World.alloc w _) _) _ = wr at HN ⊢
    refine (HA2.out _ HN.out.1).mono ?_
    rintro e w1 ⟨rfl, hb1⟩
    have HT1 := Lib.hid (HN.out.below hb1)
    clear hb1
    obtain ⟨-, ka0, ka1, ka2, ka3⟩ := HT1.out.2.1
    obtain ⟨-, kb0, kb1, kb2, kb3⟩ := HT1.out.2.2.1
    go_wp2_with fail
    clear ka0 ka1 ka2 ka3 kb0 kb1 kb2 kb3
    refine (HE.out _ HT1.out.1).mono ?_
    rintro e w2 ⟨rfl, hb2⟩
    have HT2 := Lib.hid (HT1.out.below hb2)
    clear hb2
    cases d
    all_goals
      go_wp2_with fail
      refine (boolean_ex _ _ _).mono ?_
      rintro e w3 ⟨k, s, l, y, o, rfl, hx, ho, hb3⟩
      have HX := Lib.hid (And.intro hx ho)
      have HT3 := Lib.hid (HT2.out.below hb3)
      clear hx ho hb3
      obtain ⟨-, ka0, ka1, ka2, ka3⟩ := HT3.out.2.1
      obtain ⟨-, kb0, kb1, kb2, kb3⟩ := HT3.out.2.2.1
      obtain ⟨⟨xz, -, kz0, kz1, kz2, kz3⟩, fz⟩ := HT3.out.2.2.2.1
      have fz0 := fz 0
      have fz1 := fz 1
      have fz2 := fz 2
      have fz3 := fz 3
      clear fz
      go_wp2_with fail
      refine bodyPost_ret (v := .tuple #[.agg #[.int .i64 k, .string s, .string l, .string y], .bool o]) (by simp [results, Tryz.results71, go_sem, kz0, kz1, kz2, kz3]) rfl ⟨?_, (HT3.out.put ⟨k, s, l, y⟩).1⟩
      rw [HF.out]
      obtain ⟨hx, ho⟩ := HX.out
      subst ho
      first | exact hx ▸ Tells.some (x := ⟨k, s, l, y⟩) rfl | exact Tells.none (x := ⟨k, s, l, y⟩) rfl
set_option maxHeartbeats 1000000 in
theorem two_9 (a b : Tm) (ha : a.Sm) (hb : b.Sm) (w : World) (hP : PowAt w) (hY : TabP w) (hM : MaxAt w) : Calls Tryz.prog 71 #[.int .i64 9, a.val, b.val] w fun e w' => Tells e (twoO 9 a b) ∧ Below w.heap.size w w' := by
  have HN := Lib.hid (ThreeA.new w a b 25)
  have HPW := Lib.hid hP
  have HY := Lib.hid hY
  have HMX := Lib.hid hM
  obtain ⟨V, hV⟩ : ∃ V, V = twoO 9 a b := ⟨_, rfl⟩
  rw [← hV]
  have HV := Lib.hid hV
  have HA := Lib.hid (fun w1 (h : Below w.heap.size w w1) => less_any b a hb ha w1 (hP.below h))
  clear hV ha hb hP hY hM
  unfold Tm.val
  unfold Tm.val at HA
  have HF0 := Lib.hid (show V = (lessO b a).map (boolT) from HV.out)
  generalize lessO b a = q at HA HF0
  clear HV
  rcases q with _ | d
  · have HF := Lib.hid (show V = none from HF0.out)
    have HA2 : Hid (∀ w1, Below w.heap.size w w1 → Calls Tryz.prog 98 #[.agg #[.int .i64 b.k, .string b.s, .string b.l, .string b.t], .agg #[.int .i64 a.k, .string a.s, .string a.l, .string a.t]] w1 fun e w' => e = .returned (.tuple #[.bool false, .bool false]) ∧ Below w1.heap.size w1 w') := HA
    clear HF0 HA
    go_enter Tryz.func71, Tryz.ntmps71
    go_upto_region 16 with fail
    generalize World.alloc (World.alloc (World.alloc w _) _) _ = wr at HN ⊢
    obtain ⟨-, ka0, ka1, ka2, ka3⟩ := HN.out.2.1
    obtain ⟨-, kb0, kb1, kb2, kb3⟩ := HN.out.2.2.1
    have fa0 := (HN.out.2.2.2.2 0).1
    have fa1 := (HN.out.2.2.2.2 1).1
    have fa2 := (HN.out.2.2.2.2 2).1
    have fa3 := (HN.out.2.2.2.2 3).1
    have fb0 := (HN.out.2.2.2.2 0).2
    have fb1 := (HN.out.2.2.2.2 1).2
    have fb2 := (HN.out.2.2.2.2 2).2
    have fb3 := (HN.out.2.2.2.2 3).2
    have HSW := Lib.hid HN.out.swap
    go_wp2_with fail
    clear ka0 ka1 ka2 ka3 kb0 kb1 kb2 kb3 fa0 fa1 fa2 fa3 fb0 fb1 fb2 fb3 HN
    generalize World.setCell (World.setCell (World.setCell (World.setCell (World.setCell (World.setCell (World.setCell (World.setCell wr _ _) _ _) _ _) _ _) _ _) _ _) _ _) _ _ = ws at HSW ⊢
    have HN := HSW
    clear HSW
    refine (HA2.out _ HN.out.1).mono ?_
    rintro e w1 ⟨rfl, hb1⟩
    have HT1 := Lib.hid (HN.out.below hb1)
    clear hb1
    go_wp2_with fail
    refine (boolean_ex _ _ _).mono ?_
    rintro e w3 ⟨k, s, l, y, o, rfl, hx, ho, hb3⟩
    have HX := Lib.hid (And.intro hx ho)
    have HT3 := Lib.hid (HT1.out.below hb3)
    clear hx ho hb3
    obtain ⟨-, ka0, ka1, ka2, ka3⟩ := HT3.out.2.1
    obtain ⟨-, kb0, kb1, kb2, kb3⟩ := HT3.out.2.2.1
    obtain ⟨⟨xz, -, kz0, kz1, kz2, kz3⟩, fz⟩ := HT3.out.2.2.2.1
    have fz0 := fz 0
    have fz1 := fz 1
    have fz2 := fz 2
    have fz3 := fz 3
    clear fz
    go_wp2_with fail
    refine bodyPost_ret (v := .tuple #[.agg #[.int .i64 k, .string s, .string l, .string y], .bool o]) (by simp [results, Tryz.results71, go_sem, kz0, kz1, kz2, kz3]) rfl ⟨?_, (HT3.out.put ⟨k, s, l, y⟩).1⟩
    rw [HF.out]
    obtain ⟨hx, ho⟩ := HX.out
    subst ho
    first | exact hx ▸ Tells.some (x := ⟨k, s, l, y⟩) rfl | exact Tells.none (x := ⟨k, s, l, y⟩) rfl
  · have HF := Lib.hid (show V = some (boolT d) from HF0.out)
    have HA2 : Hid (∀ w1, Below w.heap.size w w1 → Calls Tryz.prog 98 #[.agg #[.int .i64 b.k, .string b.s, .string b.l, .string b.t], .agg #[.int .i64 a.k, .string a.s, .string a.l, .string a.t]] w1 fun e w' => e = .returned (.tuple #[.bool d, .bool true]) ∧ Below w1.heap.size w1 w') := HA
    clear HF0 HA
    go_enter Tryz.func71, Tryz.ntmps71
    go_upto_region 16 with fail
    generalize World.alloc (World.alloc (World.alloc w _) _) _ = wr at HN ⊢
    obtain ⟨-, ka0, ka1, ka2, ka3⟩ := HN.out.2.1
    obtain ⟨-, kb0, kb1, kb2, kb3⟩ := HN.out.2.2.1
    have fa0 := (HN.out.2.2.2.2 0).1
    have fa1 := (HN.out.2.2.2.2 1).1
    have fa2 := (HN.out.2.2.2.2 2).1
    have fa3 := (HN.out.2.2.2.2 3).1
    have fb0 := (HN.out.2.2.2.2 0).2
    have fb1 := (HN.out.2.2.2.2 1).2
    have fb2 := (HN.out.2.2.2.2 2).2
    have fb3 := (HN.out.2.2.2.2 3).2
    have HSW := Lib.hid HN.out.swap
    go_wp2_with fail
    clear ka0 ka1 ka2 ka3 kb0 kb1 kb2 kb3 fa0 fa1 fa2 fa3 fb0 fb1 fb2 fb3 HN
    generalize World.setCell (World.setCell (World.setCell (World.setCell (World.setCell (World.setCell (World.setCell (World.setCell wr _ _) _ _) _ _) _ _) _ _) _ _) _ _) _ _ = ws at HSW ⊢
    have HN := HSW
    clear HSW
    refine (HA2.out _ HN.out.1).mono ?_
    rintro e w1 ⟨rfl, hb1⟩
    have HT1 := Lib.hid (HN.out.below hb1)
    clear hb1
    go_wp2_with fail
    refine (boolean_ex _ _ _).mono ?_
    rintro e w3 ⟨k, s, l, y, o, rfl, hx, ho, hb3⟩
    have HX := Lib.hid (And.intro hx ho)
    have HT3 := Lib.hid (HT1.out.below hb3)
    clear hx ho hb3
    obtain ⟨-, ka0, ka1, ka2, ka3⟩ := HT3.out.2.1
    obtain ⟨-, kb0, kb1, kb2, kb3⟩ := HT3.out.2.2.1
    obtain ⟨⟨xz, -, kz0, kz1, kz2, kz3⟩, fz⟩ := HT3.out.2.2.2.1
    have fz0 := fz 0
    have fz1 := fz 1
    have fz2 := fz 2
    have fz3 := fz 3
    clear fz
    go_wp2_with fail
    refine bodyPost_ret (v := .tuple #[.agg #[.int .i64 k, .string s, .string l, .string y], .bool o]) (by simp [results, Tryz.results71, go_sem, kz0, kz1, kz2, kz3]) rfl ⟨?_, (HT3.out.put ⟨k, s, l, y⟩).1⟩
    rw [HF.out]
    obtain ⟨hx, ho⟩ := HX.out
    subst ho
    first | exact hx ▸ Tells.some (x := ⟨k, s, l, y⟩) rfl | exact Tells.none (x := ⟨k, s, l, y⟩) rfl
set_option maxHeartbeats 1000000 in
theorem two_10 (a b : Tm) (ha : a.Sm) (hb : b.Sm) (w : World) (hP : PowAt w) (hY : TabP w) (hM : MaxAt w) : Calls Tryz.prog 71 #[.int .i64 10, a.val, b.val] w fun e w' => Tells e (twoO 10 a b) ∧ Below w.heap.size w w' := by
  have HN := Lib.hid (ThreeA.new w a b 25)
  have HPW := Lib.hid hP
  have HY := Lib.hid hY
  have HMX := Lib.hid hM
  obtain ⟨V, hV⟩ : ∃ V, V = twoO 10 a b := ⟨_, rfl⟩
  rw [← hV]
  have HV := Lib.hid hV
  have HA := Lib.hid (fun w1 (h : Below w.heap.size w w1) => less_any b a hb ha w1 (hP.below h))
  have HE := Lib.hid (fun w1 (h : Below w.heap.size w w1) => equal_any b a hb ha w1 (hP.below h))
  clear hV ha hb hP hY hM
  unfold Tm.val
  unfold Tm.val at HA HE
  have HF0 := Lib.hid (show V = (lessO b a).map (fun l => boolT (l || (equalO b a).1)) from HV.out)
  generalize lessO b a = q at HA HF0
  generalize (equalO b a).1 = c at HE HF0
  generalize (equalO b a).2 = cok at HE
  clear HV
  rcases q with _ | d
  · have HF := Lib.hid (show V = none from HF0.out)
    have HA2 : Hid (∀ w1, Below w.heap.size w w1 → Calls Tryz.prog 98 #[.agg #[.int .i64 b.k, .string b.s, .string b.l, .string b.t], .agg #[.int .i64 a.k, .string a.s, .string a.l, .string a.t]] w1 fun e w' => e = .returned (.tuple #[.bool false, .bool false]) ∧ Below w1.heap.size w1 w') := HA
    clear HF0 HA
    go_enter Tryz.func71, Tryz.ntmps71
    go_upto_region 18 with fail
    generalize World.alloc (World.alloc (World.alloc w _) _) _ = wr at HN ⊢
    obtain ⟨-, ka0, ka1, ka2, ka3⟩ := HN.out.2.1
    obtain ⟨-, kb0, kb1, kb2, kb3⟩ := HN.out.2.2.1
    have fa0 := (HN.out.2.2.2.2 0).1
    have fa1 := (HN.out.2.2.2.2 1).1
    have fa2 := (HN.out.2.2.2.2 2).1
    have fa3 := (HN.out.2.2.2.2 3).1
    have fb0 := (HN.out.2.2.2.2 0).2
    have fb1 := (HN.out.2.2.2.2 1).2
    have fb2 := (HN.out.2.2.2.2 2).2
    have fb3 := (HN.out.2.2.2.2 3).2
    have HSW := Lib.hid HN.out.swap
    go_wp2_with fail
    clear ka0 ka1 ka2 ka3 kb0 kb1 kb2 kb3 fa0 fa1 fa2 fa3 fb0 fb1 fb2 fb3 HN
    generalize World.setCell (World.setCell (World.setCell (World.setCell (World.setCell (World.setCell (World.setCell (World.setCell wr _ _) _ _) _ _) _ _) _ _) _ _) _ _) _ _ = ws at HSW ⊢
    have HN := HSW
    clear HSW
    refine (HA2.out _ HN.out.1).mono ?_
    rintro e w1 ⟨rfl, hb1⟩
    have HT1 := Lib.hid (HN.out.below hb1)
    clear hb1
    obtain ⟨-, ka0, ka1, ka2, ka3⟩ := HT1.out.2.1
    obtain ⟨-, kb0, kb1, kb2, kb3⟩ := HT1.out.2.2.1
    go_wp2_with fail
    clear ka0 ka1 ka2 ka3 kb0 kb1 kb2 kb3
    refine (HE.out _ HT1.out.1).mono ?_
    rintro e w2 ⟨rfl, hb2⟩
    have HT2 := Lib.hid (HT1.out.below hb2)
    clear hb2
    go_wp2_with fail
    refine (boolean_ex _ _ _).mono ?_
    rintro e w3 ⟨k, s, l, y, o, rfl, hx, ho, hb3⟩
    have HX := Lib.hid (And.intro hx ho)
    have HT3 := Lib.hid (HT2.out.below hb3)
    clear hx ho hb3
    obtain ⟨-, ka0, ka1, ka2, ka3⟩ := HT3.out.2.1
    obtain ⟨-, kb0, kb1, kb2, kb3⟩ := HT3.out.2.2.1
    obtain ⟨⟨xz, -, kz0, kz1, kz2, kz3⟩, fz⟩ := HT3.out.2.2.2.1
    have fz0 := fz 0
    have fz1 := fz 1
    have fz2 := fz 2
    have fz3 := fz 3
    clear fz
    go_wp2_with fail
    refine bodyPost_ret (v := .tuple #[.agg #[.int .i64 k, .string s, .string l, .string y], .bool o]) (by simp [results, Tryz.results71, go_sem, kz0, kz1, kz2, kz3]) rfl ⟨?_, (HT3.out.put ⟨k, s, l, y⟩).1⟩
    rw [HF.out]
    obtain ⟨hx, ho⟩ := HX.out
    subst ho
    first | exact hx ▸ Tells.some (x := ⟨k, s, l, y⟩) rfl | exact Tells.none (x := ⟨k, s, l, y⟩) rfl
  · have HF := Lib.hid (show V = some (boolT (d || c)) from HF0.out)
    have HA2 : Hid (∀ w1, Below w.heap.size w w1 → Calls Tryz.prog 98 #[.agg #[.int .i64 b.k, .string b.s, .string b.l, .string b.t], .agg #[.int .i64 a.k, .string a.s, .string a.l, .string a.t]] w1 fun e w' => e = .returned (.tuple #[.bool d, .bool true]) ∧ Below w1.heap.size w1 w') := HA
    clear HF0 HA
    go_enter Tryz.func71, Tryz.ntmps71
    go_upto_region 18 with fail
    generalize World.alloc (World.alloc (World.alloc w _) _) _ = wr at HN ⊢
    obtain ⟨-, ka0, ka1, ka2, ka3⟩ := HN.out.2.1
    obtain ⟨-, kb0, kb1, kb2, kb3⟩ := HN.out.2.2.1
    have fa0 := (HN.out.2.2.2.2 0).1
    have fa1 := (HN.out.2.2.2.2 1).1
    have fa2 := (HN.out.2.2.2.2 2).1
    have fa3 := (HN.out.2.2.2.2 3).1
    have fb0 := (HN.out.2.2.2.2 0).2
    have fb1 := (HN.out.2.2.2.2 1).2
    have fb2 := (HN.out.2.2.2.2 2).2
    have fb3 := (HN.out.2.2.2.2 3).2
    have HSW := Lib.hid HN.out.swap
    go_wp2_with fail
    clear ka0 ka1 ka2 ka3 kb0 kb1 kb2 kb3 fa0 fa1 fa2 fa3 fb0 fb1 fb2 fb3 HN
    generalize World.setCell (World.setCell (World.setCell (World.setCell (World.setCell (World.setCell (World.setCell (World.setCell wr _ _) _ _) _ _) _ _) _ _) _ _) _ _) _ _ = ws at HSW ⊢
    have HN := HSW
    clear HSW
    refine (HA2.out _ HN.out.1).mono ?_
    rintro e w1 ⟨rfl, hb1⟩
    have HT1 := Lib.hid (HN.out.below hb1)
    clear hb1
    obtain ⟨-, ka0, ka1, ka2, ka3⟩ := HT1.out.2.1
    obtain ⟨-, kb0, kb1, kb2, kb3⟩ := HT1.out.2.2.1
    go_wp2_with fail
    clear ka0 ka1 ka2 ka3 kb0 kb1 kb2 kb3
    refine (HE.out _ HT1.out.1).mono ?_
    rintro e w2 ⟨rfl, hb2⟩
    have HT2 := Lib.hid (HT1.out.below hb2)
    clear hb2
    cases d
    all_goals
      go_wp2_with fail
      refine (boolean_ex _ _ _).mono ?_
      rintro e w3 ⟨k, s, l, y, o, rfl, hx, ho, hb3⟩
      have HX := Lib.hid (And.intro hx ho)
      have HT3 := Lib.hid (HT2.out.below hb3)
      clear hx ho hb3
      obtain ⟨-, ka0, ka1, ka2, ka3⟩ := HT3.out.2.1
      obtain ⟨-, kb0, kb1, kb2, kb3⟩ := HT3.out.2.2.1
      obtain ⟨⟨xz, -, kz0, kz1, kz2, kz3⟩, fz⟩ := HT3.out.2.2.2.1
      have fz0 := fz 0
      have fz1 := fz 1
      have fz2 := fz 2
      have fz3 := fz 3
      clear fz
      go_wp2_with fail
      refine bodyPost_ret (v := .tuple #[.agg #[.int .i64 k, .string s, .string l, .string y], .bool o]) (by simp [results, Tryz.results71, go_sem, kz0, kz1, kz2, kz3]) rfl ⟨?_, (HT3.out.put ⟨k, s, l, y⟩).1⟩
      rw [HF.out]
      obtain ⟨hx, ho⟩ := HX.out
      subst ho
      first | exact hx ▸ Tells.some (x := ⟨k, s, l, y⟩) rfl | exact Tells.none (x := ⟨k, s, l, y⟩) rfl
set_option maxHeartbeats 1000000 in
theorem two_11 (a b : Tm) (ha : a.Sm) (hb : b.Sm) (w : World) (hP : PowAt w) (hY : TabP w) (hM : MaxAt w) : Calls Tryz.prog 71 #[.int .i64 11, a.val, b.val] w fun e w' => Tells e (twoO 11 a b) ∧ Below w.heap.size w w' := by
  have HN := Lib.hid (ThreeA.new w a b 25)
  have HPW := Lib.hid hP
  have HY := Lib.hid hY
  have HMX := Lib.hid hM
  obtain ⟨V, hV⟩ : ∃ V, V = twoO 11 a b := ⟨_, rfl⟩
  rw [← hV]
  have HV := Lib.hid hV
  have HA := Lib.hid (fun w1 (h : Below w.heap.size w w1) => reckon_11 a b ha hb w1 (hP.below h) (hY.below h))
  clear hV ha hb hP hY hM
  unfold Tm.val
  have HF := Lib.hid (show V = reckonO 11 a b from HV.out)
  generalize reckonO 11 a b = q at HA HF
  unfold Tm.val at HA
  clear HV
  go_enter Tryz.func71, Tryz.ntmps71
  go_wp2_with fail
  generalize World.alloc (World.alloc (World.alloc w _) _) _ = wr at HN ⊢
  refine (HA.out _ HN.out.1).mono ?_
  rintro e w3 ⟨⟨x, rfl, hx⟩, hb3⟩
  have HX := Lib.hid hx
  have HT3 := Lib.hid (HN.out.below hb3)
  clear hx hb3
  obtain ⟨-, ka0, ka1, ka2, ka3⟩ := HT3.out.2.1
  obtain ⟨-, kb0, kb1, kb2, kb3⟩ := HT3.out.2.2.1
  obtain ⟨⟨xz, -, kz0, kz1, kz2, kz3⟩, fz⟩ := HT3.out.2.2.2.1
  have fz0 := fz 0
  have fz1 := fz 1
  have fz2 := fz 2
  have fz3 := fz 3
  clear fz
  generalize hqs : q.isSome = o
  have HO := Lib.hid hqs
  clear hqs
  obtain ⟨k, s, l, y⟩ := x
  unfold Tm.val
  go_wp2_with fail
  refine bodyPost_ret (v := .tuple #[.agg #[.int .i64 k, .string s, .string l, .string y], .bool o]) (by simp [results, Tryz.results71, go_sem, kz0, kz1, kz2, kz3]) rfl ⟨?_, (HT3.out.put ⟨k, s, l, y⟩).1⟩
  rw [HF.out]
  exact ⟨⟨k, s, l, y⟩, by rw [HO.out]; rfl, HX.out⟩
set_option maxHeartbeats 1000000 in
theorem two_12 (a b : Tm) (ha : a.Sm) (hb : b.Sm) (w : World) (hP : PowAt w) (hY : TabP w) (hM : MaxAt w) : Calls Tryz.prog 71 #[.int .i64 12, a.val, b.val] w fun e w' => Tells e (twoO 12 a b) ∧ Below w.heap.size w w' := by
  have HN := Lib.hid (ThreeA.new w a b 25)
  have HPW := Lib.hid hP
  have HY := Lib.hid hY
  have HMX := Lib.hid hM
  obtain ⟨V, hV⟩ : ∃ V, V = twoO 12 a b := ⟨_, rfl⟩
  rw [← hV]
  have HV := Lib.hid hV
  have HA := Lib.hid (fun w1 (h : Below w.heap.size w w1) => reckon_12 a b ha hb w1 (hP.below h) (hY.below h))
  clear hV ha hb hP hY hM
  unfold Tm.val
  have HF := Lib.hid (show V = reckonO 12 a b from HV.out)
  generalize reckonO 12 a b = q at HA HF
  unfold Tm.val at HA
  clear HV
  go_enter Tryz.func71, Tryz.ntmps71
  go_wp2_with fail
  generalize World.alloc (World.alloc (World.alloc w _) _) _ = wr at HN ⊢
  refine (HA.out _ HN.out.1).mono ?_
  rintro e w3 ⟨⟨x, rfl, hx⟩, hb3⟩
  have HX := Lib.hid hx
  have HT3 := Lib.hid (HN.out.below hb3)
  clear hx hb3
  obtain ⟨-, ka0, ka1, ka2, ka3⟩ := HT3.out.2.1
  obtain ⟨-, kb0, kb1, kb2, kb3⟩ := HT3.out.2.2.1
  obtain ⟨⟨xz, -, kz0, kz1, kz2, kz3⟩, fz⟩ := HT3.out.2.2.2.1
  have fz0 := fz 0
  have fz1 := fz 1
  have fz2 := fz 2
  have fz3 := fz 3
  clear fz
  generalize hqs : q.isSome = o
  have HO := Lib.hid hqs
  clear hqs
  obtain ⟨k, s, l, y⟩ := x
  unfold Tm.val
  go_wp2_with fail
  refine bodyPost_ret (v := .tuple #[.agg #[.int .i64 k, .string s, .string l, .string y], .bool o]) (by simp [results, Tryz.results71, go_sem, kz0, kz1, kz2, kz3]) rfl ⟨?_, (HT3.out.put ⟨k, s, l, y⟩).1⟩
  rw [HF.out]
  exact ⟨⟨k, s, l, y⟩, by rw [HO.out]; rfl, HX.out⟩
set_option maxHeartbeats 1000000 in
theorem two_13 (a b : Tm) (ha : a.Sm) (hb : b.Sm) (w : World) (hP : PowAt w) (hY : TabP w) (hM : MaxAt w) : Calls Tryz.prog 71 #[.int .i64 13, a.val, b.val] w fun e w' => Tells e (twoO 13 a b) ∧ Below w.heap.size w w' := by
  have HN := Lib.hid (ThreeA.new w a b 25)
  have HPW := Lib.hid hP
  have HY := Lib.hid hY
  have HMX := Lib.hid hM
  obtain ⟨V, hV⟩ : ∃ V, V = twoO 13 a b := ⟨_, rfl⟩
  rw [← hV]
  have HV := Lib.hid hV
  have HA := Lib.hid (fun w1 (h : Below w.heap.size w w1) => reckon_13 a b ha hb w1 (hP.below h) (hY.below h))
  clear hV ha hb hP hY hM
  unfold Tm.val
  have HF := Lib.hid (show V = reckonO 13 a b from HV.out)
  generalize reckonO 13 a b = q at HA HF
  unfold Tm.val at HA
  clear HV
  go_enter Tryz.func71, Tryz.ntmps71
  go_wp2_with fail
  generalize World.alloc (World.alloc (World.alloc w _) _) _ = wr at HN ⊢
  refine (HA.out _ HN.out.1).mono ?_
  rintro e w3 ⟨⟨x, rfl, hx⟩, hb3⟩
  have HX := Lib.hid hx
  have HT3 := Lib.hid (HN.out.below hb3)
  clear hx hb3
  obtain ⟨-, ka0, ka1, ka2, ka3⟩ := HT3.out.2.1
  obtain ⟨-, kb0, kb1, kb2, kb3⟩ := HT3.out.2.2.1
  obtain ⟨⟨xz, -, kz0, kz1, kz2, kz3⟩, fz⟩ := HT3.out.2.2.2.1
  have fz0 := fz 0
  have fz1 := fz 1
  have fz2 := fz 2
  have fz3 := fz 3
  clear fz
  generalize hqs : q.isSome = o
  have HO := Lib.hid hqs
  clear hqs
  obtain ⟨k, s, l, y⟩ := x
  unfold Tm.val
  go_wp2_with fail
  refine bodyPost_ret (v := .tuple #[.agg #[.int .i64 k, .string s, .string l, .string y], .bool o]) (by simp [results, Tryz.results71, go_sem, kz0, kz1, kz2, kz3]) rfl ⟨?_, (HT3.out.put ⟨k, s, l, y⟩).1⟩
  rw [HF.out]
  exact ⟨⟨k, s, l, y⟩, by rw [HO.out]; rfl, HX.out⟩
set_option maxHeartbeats 1000000 in
theorem two_19 (a b : Tm) (ha : a.Sm) (hb : b.Sm) (w : World) (hP : PowAt w) (hY : TabP w) (hM : MaxAt w) : Calls Tryz.prog 71 #[.int .i64 19, a.val, b.val] w fun e w' => Tells e (twoO 19 a b) ∧ Below w.heap.size w w' := by
  have HN := Lib.hid (ThreeA.new w a b 25)
  have HPW := Lib.hid hP
  have HY := Lib.hid hY
  have HMX := Lib.hid hM
  obtain ⟨V, hV⟩ : ∃ V, V = twoO 19 a b := ⟨_, rfl⟩
  rw [← hV]
  have HV := Lib.hid hV
  have HC := Lib.hid (fun w1 (h : Below w.heap.size w w1) => contains_any a.s b.s ha.s w1 (hM.below h))
  clear hV ha hb hP hY hM
  unfold Tm.val
  have HF0 := Lib.hid (show V = if a.k = 3 ∧ b.k = 3 then some (boolT (hasL a.s.data.toList b.s.data.toList)) else none from HV.out)
  generalize hasL a.s.data.toList b.s.data.toList = c at HC HF0
  clear HV
  by_cases h3 : a.k = 3
  · by_cases h4 : b.k = 3
    · have HF := Lib.hid (show V = some (boolT c) by rw [HF0.out, if_pos ⟨h3, h4⟩])
      have e3 : (a.k == 3) = true := beq_iff_eq.2 h3
      have e4 : (b.k == 3) = true := beq_iff_eq.2 h4
      clear h3 h4 HF0
      go_enter Tryz.func71, Tryz.ntmps71
      go_upto_region 22 with fail
      generalize World.alloc (World.alloc (World.alloc w _) _) _ = wr at HN ⊢
      refine wp_region_any (by kernel_rfl) ?_
      change wpAny _ _ _ _ _ _ _ (World.drew _)
      refine wpAny_of_held (S := fun v => ThreeA w a b v) _ _ _ _ ?_
      have hS : (fun v => ThreeA w a b v) _ := HN.out.below (below_drew15 _)
      refine wpAnyH_take (i := 0) (oi := ⟨some 92, _, _, _, _, _⟩) (v := ?_) rfl (by kernel_rfl) (by kernel_rfl) (by kernel_rfl) (fun _ _ _ h => h) (Or.inl ⟨by simp only [Region.wanted], ?_⟩) hS ?_
      rotate_left
      · intro wz hSw
        clear hSw
        go_simp
        first | done | with_reducible rfl
      try simp only [Act.put, List.setIfInBounds_toArray, List.set_cons_zero, List.set_cons_succ]
      refine wpAnyH_take (i := 1) (oi := ⟨some 93, _, _, _, _, _⟩) (v := ?_) rfl (by kernel_rfl) (by kernel_rfl) (by kernel_rfl) (fun _ _ _ h => h) (Or.inl ⟨by simp only [Region.wanted], ?_⟩) hS ?_
      rotate_left
      · intro wz hSw; obtain ⟨-, k0, k1, k2, k3⟩ := hSw.2.1; obtain ⟨-, q0, q1, q2, q3⟩ := hSw.2.2.1
        clear hSw
        go_simp
        first | done | with_reducible rfl
      try simp only [Act.put, List.setIfInBounds_toArray, List.set_cons_zero, List.set_cons_succ]
      refine wpAnyH_take (i := 2) (oi := ⟨some 94, _, _, _, _, _⟩) (v := ?_) rfl (by kernel_rfl) (by kernel_rfl) (by kernel_rfl) (fun _ _ _ h => h) (Or.inl ⟨by simp only [Region.wanted], ?_⟩) hS ?_
      rotate_left
      · intro wz hSw
        clear hSw
        go_simp
        first | done | with_reducible rfl
      try simp only [Act.put, List.setIfInBounds_toArray, List.set_cons_zero, List.set_cons_succ]
      refine wpAnyH_take (i := 3) (oi := ⟨some 95, _, _, _, _, _⟩) (v := ?_) rfl (by kernel_rfl) (by kernel_rfl) (by kernel_rfl) (fun _ _ _ h => h) (Or.inl ⟨by simp only [Region.wanted], ?_⟩) hS ?_
      rotate_left
      · intro wz hSw; obtain ⟨-, k0, k1, k2, k3⟩ := hSw.2.1; obtain ⟨-, q0, q1, q2, q3⟩ := hSw.2.2.1
        clear hSw
        go_simp
        first | done | with_reducible rfl
      try simp only [Act.put, List.setIfInBounds_toArray, List.set_cons_zero, List.set_cons_succ]
      refine wpAnyH_take (i := 5) (oi := ⟨some 97, _, _, _, _, _⟩) (v := ?_) rfl (by kernel_rfl) (by kernel_rfl) (by kernel_rfl) (fun _ _ _ h => h) (Or.inl ⟨by simp only [Region.wanted], ?_⟩) hS ?_
      rotate_left
      · intro wz hSw
        clear hSw
        go_simp
        first | done | with_reducible rfl
      try simp only [Act.put, List.setIfInBounds_toArray, List.set_cons_zero, List.set_cons_succ]
      refine wpAnyH_take (i := 6) (oi := ⟨some 98, _, _, _, _, _⟩) (v := ?_) rfl (by kernel_rfl) (by kernel_rfl) (by kernel_rfl) (fun _ _ _ h => h) (Or.inl ⟨by simp only [Region.wanted], ?_⟩) hS ?_
      rotate_left
      · intro wz hSw; obtain ⟨-, k0, k1, k2, k3⟩ := hSw.2.1; obtain ⟨-, q0, q1, q2, q3⟩ := hSw.2.2.1
        clear hSw
        go_simp
        first | done | with_reducible rfl
      try simp only [Act.put, List.setIfInBounds_toArray, List.set_cons_zero, List.set_cons_succ]
      refine wpAnyH_take (i := 7) (oi := ⟨some 99, _, _, _, _, _⟩) (v := ?_) rfl (by kernel_rfl) (by kernel_rfl) (by kernel_rfl) (fun _ _ _ h => h) (Or.inl ⟨by simp only [Region.wanted], ?_⟩) hS ?_
      rotate_left
      · intro wz hSw
        clear hSw
        go_simp
        first | done | with_reducible rfl
      try simp only [Act.put, List.setIfInBounds_toArray, List.set_cons_zero, List.set_cons_succ]
      refine wpAnyH_ready (rs := [4]) (by kernel_rfl) (by simp) ?_
      refine AllReadyH.cons (o := ⟨some 96, _, _, _, _, _⟩) rfl (fun K hK => ?_) AllReadyH.nil
      go_simp
      refine (HC.out _ hS.1).mono ?_
      rintro e w2 ⟨rfl, rfl⟩
      go_wp2_with fail
      refine hK.out _ _ (hS) (fun hS => ?_)
      clear hK K
      try simp only [Act.put, List.setIfInBounds_toArray, List.set_cons_zero, List.set_cons_succ]
      refine wpAnyH_take (i := 8) (oi := ⟨some 100, _, _, _, _, _⟩) (v := ?_) rfl (by kernel_rfl) (by kernel_rfl) (by kernel_rfl) (fun _ _ _ h => h) (Or.inl ⟨by simp only [Region.wanted], ?_⟩) hS ?_
      rotate_left
      · intro wz hSw
        clear hSw
        go_simp
        first | done | with_reducible rfl
      try simp only [Act.put, List.setIfInBounds_toArray, List.set_cons_zero, List.set_cons_succ]
      refine wpAnyH_take (i := 9) (oi := ⟨some 101, _, _, _, _, _⟩) (v := ?_) rfl (by kernel_rfl) (by kernel_rfl) (by kernel_rfl) (fun _ _ _ h => h) (Or.inl ⟨by first | rfl | (simp [Region.wanted, yielded]; done), ?_⟩) hS ?_
      rotate_left
      · intro wz hSw
        clear hSw
        go_simp
        first | done | with_reducible rfl
      try simp only [Act.put, List.setIfInBounds_toArray, List.set_cons_zero, List.set_cons_succ]
      refine wpAnyH_take (i := 10) (oi := ⟨some 102, _, _, _, _, _⟩) (v := ?_) rfl (by kernel_rfl) (by kernel_rfl) (by kernel_rfl) (fun _ _ _ h => h) (Or.inl ⟨by first | rfl | (simp [Region.wanted, yielded]; done), ?_⟩) hS ?_
      rotate_left
      · intro wz hSw; obtain ⟨-, k0, k1, k2, k3⟩ := hSw.2.1; obtain ⟨-, q0, q1, q2, q3⟩ := hSw.2.2.1
        clear hSw
        go_simp
        first | done | with_reducible rfl
      try simp only [Act.put, List.setIfInBounds_toArray, List.set_cons_zero, List.set_cons_succ]
      refine wpAnyH_take (i := 11) (oi := ⟨some 103, _, _, _, _, _⟩) (v := ?_) rfl (by kernel_rfl) (by kernel_rfl) (by kernel_rfl) (fun _ _ _ h => h) (Or.inl ⟨by first | rfl | (simp [Region.wanted, yielded]; done), ?_⟩) hS ?_
      rotate_left
      · intro wz hSw
        clear hSw
        go_simp
        first | done | with_reducible rfl
      try simp only [Act.put, List.setIfInBounds_toArray, List.set_cons_zero, List.set_cons_succ]
      refine wpAnyH_take (i := 12) (oi := ⟨some 104, _, _, _, _, _⟩) (v := ?_) rfl (by kernel_rfl) (by kernel_rfl) (by kernel_rfl) (fun _ _ _ h => h) (Or.inl ⟨by simp only [Region.wanted], ?_⟩) hS ?_
      rotate_left
      · intro wz hSw
        clear hSw
        go_simp
        first | done | with_reducible rfl
      try simp only [Act.put, List.setIfInBounds_toArray, List.set_cons_zero, List.set_cons_succ]
      refine wpAnyH_ready (rs := [13]) (by kernel_rfl) (by simp) ?_
      refine AllReadyH.cons (o := ⟨some 105, _, _, _, _, _⟩) rfl (fun K hK => ?_) AllReadyH.nil
      go_simp
      refine (boolean_ex _ _ _).mono ?_
      rintro e w3 ⟨k, s, l, y, o, rfl, hx, ho, hb3⟩
      have HX := Lib.hid (And.intro hx ho)
      have HT3 := Lib.hid (hS.below hb3)
      clear hx ho hb3
      go_wp2_with fail
      refine hK.out _ _ (HT3.out) (fun hS => ?_)
      clear hK K
      try simp only [Act.put, List.setIfInBounds_toArray, List.set_cons_zero, List.set_cons_succ]
      refine wpAnyH_take (i := 14) (oi := ⟨some 106, _, _, _, _, _⟩) (v := ?_) rfl (by kernel_rfl) (by kernel_rfl) (by kernel_rfl) (fun _ _ _ h => h) (Or.inl ⟨by simp only [Region.wanted], ?_⟩) hS ?_
      rotate_left
      · intro wz hSw
        clear hSw
        go_simp
        first | done | with_reducible rfl
      try simp only [Act.put, List.setIfInBounds_toArray, List.set_cons_zero, List.set_cons_succ]
      refine wpAnyH_take (i := 15) (oi := ⟨some 107, _, _, _, _, _⟩) (v := ?_) rfl (by kernel_rfl) (by kernel_rfl) (by kernel_rfl) (fun _ _ _ h => h) (Or.inl ⟨by simp only [Region.wanted], ?_⟩) hS ?_
      rotate_left
      · intro wz hSw
        clear hSw
        go_simp
        first | done | with_reducible rfl
      try simp only [Act.put, List.setIfInBounds_toArray, List.set_cons_zero, List.set_cons_succ]
      refine wpAnyH_ready (rs := [16]) (by kernel_rfl) (by simp) ?_
      refine AllReadyH.cons (o := ⟨none, _, _, _, _, _⟩) rfl (fun K hK => ?_) AllReadyH.nil
      go_simp
      obtain ⟨⟨xz, -, kz0, kz1, kz2, kz3⟩, fz⟩ := hS.2.2.2.1
      have fz0 := fz 0
      have fz1 := fz 1
      have fz2 := fz 2
      have fz3 := fz 3
      clear fz
      go_simp
      refine hK.out _ _ (hS.put ⟨k, s, l, y⟩) (fun hS => ?_)
      clear hK K
      try simp only [Act.put, List.setIfInBounds_toArray, List.set_cons_zero, List.set_cons_succ]
      refine wpAnyH_take (i := 17) (oi := ⟨some 7, _, _, _, _, _⟩) (v := ?_) rfl (by kernel_rfl) (by kernel_rfl) (by kernel_rfl) (fun _ _ _ h => h) (Or.inl ⟨by simp only [Region.wanted], ?_⟩) hS ?_
      rotate_left
      · intro wz hSw
        clear hSw
        go_simp
        first | done | with_reducible rfl
      try simp only [Act.put, List.setIfInBounds_toArray, List.set_cons_zero, List.set_cons_succ]
      refine wpAnyH_done (by kernel_rfl) ?_ _
      go_wp2_with fail
      refine bodyPost_ret (v := .tuple #[.agg #[.int .i64 k, .string s, .string l, .string y], .bool o]) (by simp [results, Tryz.results71, go_sem, kz0, kz1, kz2, kz3]) rfl ⟨?_, hS.1⟩
      rw [HF.out]
      obtain ⟨hx, ho⟩ := HX.out
      subst ho
      first | exact hx ▸ Tells.some (x := ⟨k, s, l, y⟩) rfl | exact Tells.none (x := ⟨k, s, l, y⟩) rfl
    · have HF := Lib.hid (show V = none by rw [HF0.out, if_neg (fun h => h4 h.2)])
      have e3 : (a.k == 3) = true := beq_iff_eq.2 h3
      have e4 : (b.k == 3) = false := beq_eq_false_iff_ne.2 h4
      clear h3 h4 HF0
      go_enter Tryz.func71, Tryz.ntmps71
      go_upto_region 22 with fail
      generalize World.alloc (World.alloc (World.alloc w _) _) _ = wr at HN ⊢
      refine wp_region_any (by kernel_rfl) ?_
      change wpAny _ _ _ _ _ _ _ (World.drew _)
      refine wpAny_of_held (S := fun v => ThreeA w a b v) _ _ _ _ ?_
      have hS : (fun v => ThreeA w a b v) _ := HN.out.below (below_drew15 _)
      refine wpAnyH_take (i := 0) (oi := ⟨some 92, _, _, _, _, _⟩) (v := ?_) rfl (by kernel_rfl) (by kernel_rfl) (by kernel_rfl) (fun _ _ _ h => h) (Or.inl ⟨by simp only [Region.wanted], ?_⟩) hS ?_
      rotate_left
      · intro wz hSw
        clear hSw
        go_simp
        first | done | with_reducible rfl
      try simp only [Act.put, List.setIfInBounds_toArray, List.set_cons_zero, List.set_cons_succ]
      refine wpAnyH_take (i := 1) (oi := ⟨some 93, _, _, _, _, _⟩) (v := ?_) rfl (by kernel_rfl) (by kernel_rfl) (by kernel_rfl) (fun _ _ _ h => h) (Or.inl ⟨by simp only [Region.wanted], ?_⟩) hS ?_
      rotate_left
      · intro wz hSw; obtain ⟨-, k0, k1, k2, k3⟩ := hSw.2.1; obtain ⟨-, q0, q1, q2, q3⟩ := hSw.2.2.1
        clear hSw
        go_simp
        first | done | with_reducible rfl
      try simp only [Act.put, List.setIfInBounds_toArray, List.set_cons_zero, List.set_cons_succ]
      refine wpAnyH_take (i := 2) (oi := ⟨some 94, _, _, _, _, _⟩) (v := ?_) rfl (by kernel_rfl) (by kernel_rfl) (by kernel_rfl) (fun _ _ _ h => h) (Or.inl ⟨by simp only [Region.wanted], ?_⟩) hS ?_
      rotate_left
      · intro wz hSw
        clear hSw
        go_simp
        first | done | with_reducible rfl
      try simp only [Act.put, List.setIfInBounds_toArray, List.set_cons_zero, List.set_cons_succ]
      refine wpAnyH_take (i := 3) (oi := ⟨some 95, _, _, _, _, _⟩) (v := ?_) rfl (by kernel_rfl) (by kernel_rfl) (by kernel_rfl) (fun _ _ _ h => h) (Or.inl ⟨by simp only [Region.wanted], ?_⟩) hS ?_
      rotate_left
      · intro wz hSw; obtain ⟨-, k0, k1, k2, k3⟩ := hSw.2.1; obtain ⟨-, q0, q1, q2, q3⟩ := hSw.2.2.1
        clear hSw
        go_simp
        first | done | with_reducible rfl
      try simp only [Act.put, List.setIfInBounds_toArray, List.set_cons_zero, List.set_cons_succ]
      refine wpAnyH_take (i := 5) (oi := ⟨some 97, _, _, _, _, _⟩) (v := ?_) rfl (by kernel_rfl) (by kernel_rfl) (by kernel_rfl) (fun _ _ _ h => h) (Or.inl ⟨by simp only [Region.wanted], ?_⟩) hS ?_
      rotate_left
      · intro wz hSw
        clear hSw
        go_simp
        first | done | with_reducible rfl
      try simp only [Act.put, List.setIfInBounds_toArray, List.set_cons_zero, List.set_cons_succ]
      refine wpAnyH_take (i := 6) (oi := ⟨some 98, _, _, _, _, _⟩) (v := ?_) rfl (by kernel_rfl) (by kernel_rfl) (by kernel_rfl) (fun _ _ _ h => h) (Or.inl ⟨by simp only [Region.wanted], ?_⟩) hS ?_
      rotate_left
      · intro wz hSw; obtain ⟨-, k0, k1, k2, k3⟩ := hSw.2.1; obtain ⟨-, q0, q1, q2, q3⟩ := hSw.2.2.1
        clear hSw
        go_simp
        first | done | with_reducible rfl
      try simp only [Act.put, List.setIfInBounds_toArray, List.set_cons_zero, List.set_cons_succ]
      refine wpAnyH_take (i := 7) (oi := ⟨some 99, _, _, _, _, _⟩) (v := ?_) rfl (by kernel_rfl) (by kernel_rfl) (by kernel_rfl) (fun _ _ _ h => h) (Or.inl ⟨by simp only [Region.wanted], ?_⟩) hS ?_
      rotate_left
      · intro wz hSw
        clear hSw
        go_simp
        first | done | with_reducible rfl
      try simp only [Act.put, List.setIfInBounds_toArray, List.set_cons_zero, List.set_cons_succ]
      refine wpAnyH_ready (rs := [4]) (by kernel_rfl) (by simp) ?_
      refine AllReadyH.cons (o := ⟨some 96, _, _, _, _, _⟩) rfl (fun K hK => ?_) AllReadyH.nil
      go_simp
      refine (HC.out _ hS.1).mono ?_
      rintro e w2 ⟨rfl, rfl⟩
      go_wp2_with fail
      refine hK.out _ _ (hS) (fun hS => ?_)
      clear hK K
      try simp only [Act.put, List.setIfInBounds_toArray, List.set_cons_zero, List.set_cons_succ]
      refine wpAnyH_take (i := 8) (oi := ⟨some 100, _, _, _, _, _⟩) (v := ?_) rfl (by kernel_rfl) (by kernel_rfl) (by kernel_rfl) (fun _ _ _ h => h) (Or.inl ⟨by simp only [Region.wanted], ?_⟩) hS ?_
      rotate_left
      · intro wz hSw
        clear hSw
        go_simp
        first | done | with_reducible rfl
      try simp only [Act.put, List.setIfInBounds_toArray, List.set_cons_zero, List.set_cons_succ]
      refine wpAnyH_take (i := 9) (oi := ⟨some 101, _, _, _, _, _⟩) (v := ?_) rfl (by kernel_rfl) (by kernel_rfl) (by kernel_rfl) (fun _ _ _ h => h) (Or.inl ⟨by first | rfl | (simp [Region.wanted, yielded]; done), ?_⟩) hS ?_
      rotate_left
      · intro wz hSw
        clear hSw
        go_simp
        first | done | with_reducible rfl
      try simp only [Act.put, List.setIfInBounds_toArray, List.set_cons_zero, List.set_cons_succ]
      refine wpAnyH_take (i := 10) (oi := ⟨some 102, _, _, _, _, _⟩) (v := ?_) rfl (by kernel_rfl) (by kernel_rfl) (by kernel_rfl) (fun _ _ _ h => h) (Or.inl ⟨by first | rfl | (simp [Region.wanted, yielded]; done), ?_⟩) hS ?_
      rotate_left
      · intro wz hSw; obtain ⟨-, k0, k1, k2, k3⟩ := hSw.2.1; obtain ⟨-, q0, q1, q2, q3⟩ := hSw.2.2.1
        clear hSw
        go_simp
        first | done | with_reducible rfl
      try simp only [Act.put, List.setIfInBounds_toArray, List.set_cons_zero, List.set_cons_succ]
      refine wpAnyH_take (i := 11) (oi := ⟨some 103, _, _, _, _, _⟩) (v := ?_) rfl (by kernel_rfl) (by kernel_rfl) (by kernel_rfl) (fun _ _ _ h => h) (Or.inl ⟨by first | rfl | (simp [Region.wanted, yielded]; done), ?_⟩) hS ?_
      rotate_left
      · intro wz hSw
        clear hSw
        go_simp
        first | done | with_reducible rfl
      try simp only [Act.put, List.setIfInBounds_toArray, List.set_cons_zero, List.set_cons_succ]
      refine wpAnyH_take (i := 12) (oi := ⟨some 104, _, _, _, _, _⟩) (v := ?_) rfl (by kernel_rfl) (by kernel_rfl) (by kernel_rfl) (fun _ _ _ h => h) (Or.inl ⟨by simp only [Region.wanted], ?_⟩) hS ?_
      rotate_left
      · intro wz hSw
        clear hSw
        go_simp
        first | done | with_reducible rfl
      try simp only [Act.put, List.setIfInBounds_toArray, List.set_cons_zero, List.set_cons_succ]
      refine wpAnyH_ready (rs := [13]) (by kernel_rfl) (by simp) ?_
      refine AllReadyH.cons (o := ⟨some 105, _, _, _, _, _⟩) rfl (fun K hK => ?_) AllReadyH.nil
      go_simp
      refine (boolean_ex _ _ _).mono ?_
      rintro e w3 ⟨k, s, l, y, o, rfl, hx, ho, hb3⟩
      have HX := Lib.hid (And.intro hx ho)
      have HT3 := Lib.hid (hS.below hb3)
      clear hx ho hb3
      go_wp2_with fail
      refine hK.out _ _ (HT3.out) (fun hS => ?_)
      clear hK K
      try simp only [Act.put, List.setIfInBounds_toArray, List.set_cons_zero, List.set_cons_succ]
      refine wpAnyH_take (i := 14) (oi := ⟨some 106, _, _, _, _, _⟩) (v := ?_) rfl (by kernel_rfl) (by kernel_rfl) (by kernel_rfl) (fun _ _ _ h => h) (Or.inl ⟨by simp only [Region.wanted], ?_⟩) hS ?_
      rotate_left
      · intro wz hSw
        clear hSw
        go_simp
        first | done | with_reducible rfl
      try simp only [Act.put, List.setIfInBounds_toArray, List.set_cons_zero, List.set_cons_succ]
      refine wpAnyH_take (i := 15) (oi := ⟨some 107, _, _, _, _, _⟩) (v := ?_) rfl (by kernel_rfl) (by kernel_rfl) (by kernel_rfl) (fun _ _ _ h => h) (Or.inl ⟨by simp only [Region.wanted], ?_⟩) hS ?_
      rotate_left
      · intro wz hSw
        clear hSw
        go_simp
        first | done | with_reducible rfl
      try simp only [Act.put, List.setIfInBounds_toArray, List.set_cons_zero, List.set_cons_succ]
      refine wpAnyH_ready (rs := [16]) (by kernel_rfl) (by simp) ?_
      refine AllReadyH.cons (o := ⟨none, _, _, _, _, _⟩) rfl (fun K hK => ?_) AllReadyH.nil
      go_simp
      obtain ⟨⟨xz, -, kz0, kz1, kz2, kz3⟩, fz⟩ := hS.2.2.2.1
      have fz0 := fz 0
      have fz1 := fz 1
      have fz2 := fz 2
      have fz3 := fz 3
      clear fz
      go_simp
      refine hK.out _ _ (hS.put ⟨k, s, l, y⟩) (fun hS => ?_)
      clear hK K
      try simp only [Act.put, List.setIfInBounds_toArray, List.set_cons_zero, List.set_cons_succ]
      refine wpAnyH_take (i := 17) (oi := ⟨some 7, _, _, _, _, _⟩) (v := ?_) rfl (by kernel_rfl) (by kernel_rfl) (by kernel_rfl) (fun _ _ _ h => h) (Or.inl ⟨by simp only [Region.wanted], ?_⟩) hS ?_
      rotate_left
      · intro wz hSw
        clear hSw
        go_simp
        first | done | with_reducible rfl
      try simp only [Act.put, List.setIfInBounds_toArray, List.set_cons_zero, List.set_cons_succ]
      refine wpAnyH_done (by kernel_rfl) ?_ _
      go_wp2_with fail
      refine bodyPost_ret (v := .tuple #[.agg #[.int .i64 k, .string s, .string l, .string y], .bool o]) (by simp [results, Tryz.results71, go_sem, kz0, kz1, kz2, kz3]) rfl ⟨?_, hS.1⟩
      rw [HF.out]
      obtain ⟨hx, ho⟩ := HX.out
      subst ho
      first | exact hx ▸ Tells.some (x := ⟨k, s, l, y⟩) rfl | exact Tells.none (x := ⟨k, s, l, y⟩) rfl
  · have HF := Lib.hid (show V = none by rw [HF0.out, if_neg (fun h => h3 h.1)])
    have e3 : (a.k == 3) = false := beq_eq_false_iff_ne.2 h3
    clear h3 HF0
    go_enter Tryz.func71, Tryz.ntmps71
    go_upto_region 22 with fail
    generalize World.alloc (World.alloc (World.alloc w _) _) _ = wr at HN ⊢
    refine wp_region_any (by kernel_rfl) ?_
    change wpAny _ _ _ _ _ _ _ (World.drew _)
    refine wpAny_of_held (S := fun v => ThreeA w a b v) _ _ _ _ ?_
    have hS : (fun v => ThreeA w a b v) _ := HN.out.below (below_drew15 _)
    refine wpAnyH_take (i := 0) (oi := ⟨some 92, _, _, _, _, _⟩) (v := ?_) rfl (by kernel_rfl) (by kernel_rfl) (by kernel_rfl) (fun _ _ _ h => h) (Or.inl ⟨by simp only [Region.wanted], ?_⟩) hS ?_
    rotate_left
    · intro wz hSw
      clear hSw
      go_simp
      first | done | with_reducible rfl
    try simp only [Act.put, List.setIfInBounds_toArray, List.set_cons_zero, List.set_cons_succ]
    refine wpAnyH_take (i := 1) (oi := ⟨some 93, _, _, _, _, _⟩) (v := ?_) rfl (by kernel_rfl) (by kernel_rfl) (by kernel_rfl) (fun _ _ _ h => h) (Or.inl ⟨by simp only [Region.wanted], ?_⟩) hS ?_
    rotate_left
    · intro wz hSw; obtain ⟨-, k0, k1, k2, k3⟩ := hSw.2.1; obtain ⟨-, q0, q1, q2, q3⟩ := hSw.2.2.1
      clear hSw
      go_simp
      first | done | with_reducible rfl
    try simp only [Act.put, List.setIfInBounds_toArray, List.set_cons_zero, List.set_cons_succ]
    refine wpAnyH_take (i := 2) (oi := ⟨some 94, _, _, _, _, _⟩) (v := ?_) rfl (by kernel_rfl) (by kernel_rfl) (by kernel_rfl) (fun _ _ _ h => h) (Or.inl ⟨by simp only [Region.wanted], ?_⟩) hS ?_
    rotate_left
    · intro wz hSw
      clear hSw
      go_simp
      first | done | with_reducible rfl
    try simp only [Act.put, List.setIfInBounds_toArray, List.set_cons_zero, List.set_cons_succ]
    refine wpAnyH_take (i := 3) (oi := ⟨some 95, _, _, _, _, _⟩) (v := ?_) rfl (by kernel_rfl) (by kernel_rfl) (by kernel_rfl) (fun _ _ _ h => h) (Or.inl ⟨by simp only [Region.wanted], ?_⟩) hS ?_
    rotate_left
    · intro wz hSw; obtain ⟨-, k0, k1, k2, k3⟩ := hSw.2.1; obtain ⟨-, q0, q1, q2, q3⟩ := hSw.2.2.1
      clear hSw
      go_simp
      first | done | with_reducible rfl
    try simp only [Act.put, List.setIfInBounds_toArray, List.set_cons_zero, List.set_cons_succ]
    refine wpAnyH_take (i := 5) (oi := ⟨some 97, _, _, _, _, _⟩) (v := ?_) rfl (by kernel_rfl) (by kernel_rfl) (by kernel_rfl) (fun _ _ _ h => h) (Or.inl ⟨by simp only [Region.wanted], ?_⟩) hS ?_
    rotate_left
    · intro wz hSw
      clear hSw
      go_simp
      first | done | with_reducible rfl
    try simp only [Act.put, List.setIfInBounds_toArray, List.set_cons_zero, List.set_cons_succ]
    refine wpAnyH_take (i := 6) (oi := ⟨some 98, _, _, _, _, _⟩) (v := ?_) rfl (by kernel_rfl) (by kernel_rfl) (by kernel_rfl) (fun _ _ _ h => h) (Or.inl ⟨by simp only [Region.wanted], ?_⟩) hS ?_
    rotate_left
    · intro wz hSw; obtain ⟨-, k0, k1, k2, k3⟩ := hSw.2.1; obtain ⟨-, q0, q1, q2, q3⟩ := hSw.2.2.1
      clear hSw
      go_simp
      first | done | with_reducible rfl
    try simp only [Act.put, List.setIfInBounds_toArray, List.set_cons_zero, List.set_cons_succ]
    refine wpAnyH_take (i := 7) (oi := ⟨some 99, _, _, _, _, _⟩) (v := ?_) rfl (by kernel_rfl) (by kernel_rfl) (by kernel_rfl) (fun _ _ _ h => h) (Or.inl ⟨by simp only [Region.wanted], ?_⟩) hS ?_
    rotate_left
    · intro wz hSw
      clear hSw
      go_simp
      first | done | with_reducible rfl
    try simp only [Act.put, List.setIfInBounds_toArray, List.set_cons_zero, List.set_cons_succ]
    refine wpAnyH_ready (rs := [4]) (by kernel_rfl) (by simp) ?_
    refine AllReadyH.cons (o := ⟨some 96, _, _, _, _, _⟩) rfl (fun K hK => ?_) AllReadyH.nil
    go_simp
    refine (HC.out _ hS.1).mono ?_
    rintro e w2 ⟨rfl, rfl⟩
    go_wp2_with fail
    refine hK.out _ _ (hS) (fun hS => ?_)
    clear hK K
    try simp only [Act.put, List.setIfInBounds_toArray, List.set_cons_zero, List.set_cons_succ]
    refine wpAnyH_take (i := 8) (oi := ⟨some 100, _, _, _, _, _⟩) (v := ?_) rfl (by kernel_rfl) (by kernel_rfl) (by kernel_rfl) (fun _ _ _ h => h) (Or.inl ⟨by simp only [Region.wanted], ?_⟩) hS ?_
    rotate_left
    · intro wz hSw
      clear hSw
      go_simp
      first | done | with_reducible rfl
    try simp only [Act.put, List.setIfInBounds_toArray, List.set_cons_zero, List.set_cons_succ]
    refine wpAnyH_take (i := 9) (oi := ⟨some 101, _, _, _, _, _⟩) (v := undef) rfl (by kernel_rfl) (by kernel_rfl) (by kernel_rfl) (fun _ _ _ h => h) (Or.inr ⟨by first | rfl | (simp [Region.wanted, yielded]; done), rfl⟩) hS ?_
    try simp only [Act.put, List.setIfInBounds_toArray, List.set_cons_zero, List.set_cons_succ]
    refine wpAnyH_take (i := 10) (oi := ⟨some 102, _, _, _, _, _⟩) (v := undef) rfl (by kernel_rfl) (by kernel_rfl) (by kernel_rfl) (fun _ _ _ h => h) (Or.inr ⟨by first | rfl | (simp [Region.wanted, yielded]; done), rfl⟩) hS ?_
    try simp only [Act.put, List.setIfInBounds_toArray, List.set_cons_zero, List.set_cons_succ]
    refine wpAnyH_take (i := 11) (oi := ⟨some 103, _, _, _, _, _⟩) (v := undef) rfl (by kernel_rfl) (by kernel_rfl) (by kernel_rfl) (fun _ _ _ h => h) (Or.inr ⟨by first | rfl | (simp [Region.wanted, yielded]; done), rfl⟩) hS ?_
    try simp only [Act.put, List.setIfInBounds_toArray, List.set_cons_zero, List.set_cons_succ]
    refine wpAnyH_take (i := 12) (oi := ⟨some 104, _, _, _, _, _⟩) (v := ?_) rfl (by kernel_rfl) (by kernel_rfl) (by kernel_rfl) (fun _ _ _ h => h) (Or.inl ⟨by simp only [Region.wanted], ?_⟩) hS ?_
    rotate_left
    · intro wz hSw
      clear hSw
      go_simp
      first | done | with_reducible rfl
    try simp only [Act.put, List.setIfInBounds_toArray, List.set_cons_zero, List.set_cons_succ]
    refine wpAnyH_ready (rs := [13]) (by kernel_rfl) (by simp) ?_
    refine AllReadyH.cons (o := ⟨some 105, _, _, _, _, _⟩) rfl (fun K hK => ?_) AllReadyH.nil
    go_simp
    refine (boolean_ex _ _ _).mono ?_
    rintro e w3 ⟨k, s, l, y, o, rfl, hx, ho, hb3⟩
    have HX := Lib.hid (And.intro hx ho)
    have HT3 := Lib.hid (hS.below hb3)
    clear hx ho hb3
    go_wp2_with fail
    refine hK.out _ _ (HT3.out) (fun hS => ?_)
    clear hK K
    try simp only [Act.put, List.setIfInBounds_toArray, List.set_cons_zero, List.set_cons_succ]
    refine wpAnyH_take (i := 14) (oi := ⟨some 106, _, _, _, _, _⟩) (v := ?_) rfl (by kernel_rfl) (by kernel_rfl) (by kernel_rfl) (fun _ _ _ h => h) (Or.inl ⟨by simp only [Region.wanted], ?_⟩) hS ?_
    rotate_left
    · intro wz hSw
      clear hSw
      go_simp
      first | done | with_reducible rfl
    try simp only [Act.put, List.setIfInBounds_toArray, List.set_cons_zero, List.set_cons_succ]
    refine wpAnyH_take (i := 15) (oi := ⟨some 107, _, _, _, _, _⟩) (v := ?_) rfl (by kernel_rfl) (by kernel_rfl) (by kernel_rfl) (fun _ _ _ h => h) (Or.inl ⟨by simp only [Region.wanted], ?_⟩) hS ?_
    rotate_left
    · intro wz hSw
      clear hSw
      go_simp
      first | done | with_reducible rfl
    try simp only [Act.put, List.setIfInBounds_toArray, List.set_cons_zero, List.set_cons_succ]
    refine wpAnyH_ready (rs := [16]) (by kernel_rfl) (by simp) ?_
    refine AllReadyH.cons (o := ⟨none, _, _, _, _, _⟩) rfl (fun K hK => ?_) AllReadyH.nil
    go_simp
    obtain ⟨⟨xz, -, kz0, kz1, kz2, kz3⟩, fz⟩ := hS.2.2.2.1
    have fz0 := fz 0
    have fz1 := fz 1
    have fz2 := fz 2
    have fz3 := fz 3
    clear fz
    go_simp
    refine hK.out _ _ (hS.put ⟨k, s, l, y⟩) (fun hS => ?_)
    clear hK K
    try simp only [Act.put, List.setIfInBounds_toArray, List.set_cons_zero, List.set_cons_succ]
    refine wpAnyH_take (i := 17) (oi := ⟨some 7, _, _, _, _, _⟩) (v := ?_) rfl (by kernel_rfl) (by kernel_rfl) (by kernel_rfl) (fun _ _ _ h => h) (Or.inl ⟨by simp only [Region.wanted], ?_⟩) hS ?_
    rotate_left
    · intro wz hSw
      clear hSw
      go_simp
      first | done | with_reducible rfl
    try simp only [Act.put, List.setIfInBounds_toArray, List.set_cons_zero, List.set_cons_succ]
    refine wpAnyH_done (by kernel_rfl) ?_ _
    go_wp2_with fail
    refine bodyPost_ret (v := .tuple #[.agg #[.int .i64 k, .string s, .string l, .string y], .bool o]) (by simp [results, Tryz.results71, go_sem, kz0, kz1, kz2, kz3]) rfl ⟨?_, hS.1⟩
    rw [HF.out]
    obtain ⟨hx, ho⟩ := HX.out
    subst ho
    first | exact hx ▸ Tells.some (x := ⟨k, s, l, y⟩) rfl | exact Tells.none (x := ⟨k, s, l, y⟩) rfl
set_option maxHeartbeats 1000000 in
theorem two_24 (a b : Tm) (ha : a.Sm) (hb : b.Sm) (w : World) (hP : PowAt w) (hY : TabP w) (hM : MaxAt w) : Calls Tryz.prog 71 #[.int .i64 24, a.val, b.val] w fun e w' => Tells e (twoO 24 a b) ∧ Below w.heap.size w w' := by
  have HN := Lib.hid (ThreeA.new w a b 25)
  have HPW := Lib.hid hP
  have HY := Lib.hid hY
  have HMX := Lib.hid hM
  obtain ⟨V, hV⟩ : ∃ V, V = twoO 24 a b := ⟨_, rfl⟩
  rw [← hV]
  have HV := Lib.hid hV
  have HQ := Lib.hid (fun w => equal_bool a b w)
  clear hV ha hb hP hY hM
  unfold Tm.val
  have HF := Lib.hid (show V = some (boolT (tmEq a b)) from HV.out)
  have hq := HQ.out
  generalize tmEq a b = c at hq HF
  clear HV HQ
  go_enter Tryz.func71, Tryz.ntmps71
  go_wp2_with fail
  generalize World.alloc (World.alloc (World.alloc w _) _) _ = wr at HN ⊢
  refine (boolean_ex _ _ _).mono ?_
  rintro e w3 ⟨k, s, l, y, o, rfl, hx, ho, hb3⟩
  have HX := Lib.hid (And.intro hx ho)
  have HT3 := Lib.hid (HN.out.below hb3)
  clear hx ho hb3
  obtain ⟨-, ka0, ka1, ka2, ka3⟩ := HT3.out.2.1
  obtain ⟨-, kb0, kb1, kb2, kb3⟩ := HT3.out.2.2.1
  obtain ⟨⟨xz, -, kz0, kz1, kz2, kz3⟩, fz⟩ := HT3.out.2.2.2.1
  have fz0 := fz 0
  have fz1 := fz 1
  have fz2 := fz 2
  have fz3 := fz 3
  clear fz
  go_wp2_with fail
  refine bodyPost_ret (v := .tuple #[.agg #[.int .i64 k, .string s, .string l, .string y], .bool o]) (by simp [results, Tryz.results71, go_sem, kz0, kz1, kz2, kz3]) rfl ⟨?_, (HT3.out.put ⟨k, s, l, y⟩).1⟩
  rw [HF.out]
  obtain ⟨hx, ho⟩ := HX.out
  subst ho
  first | exact hx ▸ Tells.some (x := ⟨k, s, l, y⟩) rfl | exact Tells.none (x := ⟨k, s, l, y⟩) rfl
theorem two_any (op : Int) (hop : op = 2 ∨ op = 3 ∨ op = 5 ∨ op = 6 ∨ op = 7 ∨ op = 8 ∨ op = 9 ∨ op = 10 ∨ op = 11 ∨ op = 12 ∨ op = 13 ∨ op = 19 ∨ op = 24) (a b : Tm) (ha : a.Sm) (hb : b.Sm) (w : World) (hP : PowAt w) (hY : TabP w) (hM : MaxAt w) :
    Calls Tryz.prog 71 #[.int .i64 op, a.val, b.val] w fun e w' => Tells e (twoO op a b) ∧ Below w.heap.size w w' := by
  rcases hop with rfl | rfl | rfl | rfl | rfl | rfl | rfl | rfl | rfl | rfl | rfl | rfl | rfl
  · exact two_2 a b ha hb w hP hY hM
  · exact two_3 a b ha hb w hP hY hM
  · exact two_5 a b ha hb w hP hY hM
  · exact two_6 a b ha hb w hP hY hM
  · exact two_7 a b ha hb w hP hY hM
  · exact two_8 a b ha hb w hP hY hM
  · exact two_9 a b ha hb w hP hY hM
  · exact two_10 a b ha hb w hP hY hM
  · exact two_11 a b ha hb w hP hY hM
  · exact two_12 a b ha hb w hP hY hM
  · exact two_13 a b ha hb w hP hY hM
  · exact two_19 a b ha hb w hP hY hM
  · exact two_24 a b ha hb w hP hY hM
end Go.Proofs.YtecomfhbdonkbaaGreatDoor
