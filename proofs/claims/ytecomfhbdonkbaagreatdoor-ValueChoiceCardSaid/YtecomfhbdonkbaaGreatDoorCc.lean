/- Package value's laws: known, tell, expressions of terms. -/
import Derived.Test.YtecomfhbdonkbaaGreatDoorCb
import Derived.Test.YtecomfhbdonkbaaGreatDoorKc
namespace Go.Proofs.YtecomfhbdonkbaaGreatDoor
open Go.RowKit Go.Shelf Flo
set_option maxRecDepth 100000
set_option linter.unusedVariables false
set_option linter.unusedSimpArgs false

theorem known_eq : equalO (mkT 3 [49] [] xIntL) (mkT 3 [49, 46, 48] [] xDecL) = (true, true) := by decide +kernel
theorem known15_any (w : World) (hP : PowAt w) : Calls Tryz.prog 8 #[] w fun e w' => e = .returned (.bool true) ∧ Below w.heap.size w w' := by
  have HU := Lib.hid (fun s t w => num15_any s t w)
  have s1 : (mkT 3 [49] [] xIntL).Sm := tmSm_of (by decide +kernel)
  have s2 : (mkT 3 [49, 46, 48] [] xDecL).Sm := tmSm_of (by decide +kernel)
  have HE := Lib.hid (fun w1 (h : Below w.heap.size w w1) => equal_any (mkT 3 [49] [] xIntL) (mkT 3 [49, 46, 48] [] xDecL) s1 s2 w1 (hP.below h))
  rw [known_eq] at HE
  clear hP
  go_enter Tryz.func8, Tryz.ntmps8
  go_wp2_with fail
  refine (HU.out _ _ _).mono ?_
  rintro e w1 ⟨rfl, hb1⟩
  have HB1 := Lib.hid hb1
  clear hb1
  go_wp2_with fail
  refine (HU.out _ _ _).mono ?_
  rintro e w2 ⟨rfl, hb2⟩
  have HB2 := Lib.hid (HB1.out.trans (hb2.mono HB1.out.size))
  clear hb2
  go_wp2_with fail
  refine (HE.out _ HB2.out).mono ?_
  rintro e w3 ⟨rfl, hb3⟩
  have HB3 := Lib.hid (HB2.out.trans (hb3.mono HB2.out.size))
  clear hb3
  go_wp2_with fail
  go_ret
  exact ⟨rfl, HB3.out⟩
/-- An expression's truth, as a number. -/
def tellN (q : Option Tm) : Int := match q.bind truthO with
  | none => 2
  | some true => 1
  | some false => 0
theorem sol_nil (B : Nat) (w : World) : SolAt B w (.slice none 0 0) [] := ⟨by simp, none, 0, rfl, fun i h => absurd h (by simp)⟩
set_option maxHeartbeats 1000000 in
theorem tell15_any (n : Nat) (e : Exp) (kv : Value) (w : World) (hk : KidsP w.heap.size w n kv e.kids) (hop : opIn e.op) (htm : e.tm.Sm) (hn : n ≤ 80) (hT : Tabs w) :
    Calls Tryz.prog 15 #[.agg #[.int .i64 e.op, .int .i64 e.tm.k, .string e.tm.s, .string e.tm.l, .string e.tm.t, kv]] w fun e' w' => e' = .returned (.int .i64 (tellN (evalO (n + 1) e []))) ∧ Below w.heap.size w w' := by
  have b1 := (Below.refl w.heap.size w).alloc (Nat.le_refl _) (.cells #[.int .i64 e.op, .int .i64 e.tm.k, .string e.tm.s, .string e.tm.l, .string e.tm.t, kv] 28)
  have x1 := Blk.new w #[.int .i64 e.op, .int .i64 e.tm.k, .string e.tm.s, .string e.tm.l, .string e.tm.t, kv] 28
  obtain ⟨q, hq⟩ : ∃ q, q = evalO (n + 1) e [] := ⟨_, rfl⟩
  have HE := Lib.hid (fun w1 (hb : Below w.heap.size w w1) => eval_any n e kv (.slice none 0 0) [] w1 ((hk.keep hb).mono hb.size) hop htm (sol_nil _ _) hn (fun w2 hb2 => (hT.below hb).below hb2))
  rw [← hq] at HE ⊢
  obtain ⟨-, kp, kcap, rfl⟩ := hk.form
  clear hq hk hT hop htm
  go_enter Tryz.func15, Tryz.ntmps15
  go_upto_region 1 with fail
  generalize World.alloc w _ = w1 at b1 x1 ⊢
  have c0 := x1.cell 0
  have c1 := x1.cell 1
  have c2 := x1.cell 2
  have c3 := x1.cell 3
  have c4 := x1.cell 4
  have c5 := x1.cell 5
  simp only [List.getElem?_toArray, List.getElem?_cons_zero, List.getElem?_cons_succ] at c0 c1 c2 c3 c4 c5
  have HB1 := Lib.hid b1
  clear b1 x1
  cases q with
  | none =>
    unfold Tm.val at HE
    go_wp2_with fail
    refine (HE.out _ HB1.out).mono ?_
    rintro e' w2 ⟨rfl, hb2, hsm⟩
    have HSM := Lib.hid hsm
    clear hsm
    have HB2 := Lib.hid (HB1.out.trans (hb2.mono HB1.out.size))
    clear hb2 c0 c1 c2 c3 c4 c5
    go_wp2_with fail
    go_ret
    exact ⟨rfl, HB2.out.alloc HB2.out.size _⟩
  | some y =>
    unfold Tm.val at HE
    go_wp2_with fail
    refine (HE.out _ HB1.out).mono ?_
    rintro e' w2 ⟨rfl, hb2, hsm⟩
    have HSM := Lib.hid hsm
    clear hsm
    have HB2 := Lib.hid (HB1.out.trans (hb2.mono HB1.out.size))
    clear hb2 c0 c1 c2 c3 c4 c5
    have HTR := Lib.hid (fun wz => truth_any y HSM.out wz)
    unfold Tm.val at HTR
    go_upto_region 2 with fail
    have hb3 := (HB2.out.alloc HB2.out.size (.cells #[.int .i64 y.k, .string y.s, .string y.l, .string y.t] 25))
    have x3 := Blk.new w2 #[.int .i64 y.k, .string y.s, .string y.l, .string y.t] 25
    generalize World.alloc w2 _ = w3 at hb3 x3 ⊢
    have c0 := x3.cell 0
    have c1 := x3.cell 1
    have c2 := x3.cell 2
    have c3 := x3.cell 3
    simp only [List.getElem?_toArray, List.getElem?_cons_zero, List.getElem?_cons_succ] at c0 c1 c2 c3
    have HB3 := Lib.hid hb3
    clear hb3 x3
    go_wp2_with fail
    refine (HTR.out _).mono ?_
    rintro e' w4 ⟨rfl, hb4⟩
    have HB4 := Lib.hid (HB3.out.trans (hb4.mono HB3.out.size))
    clear hb4 c0 c1 c2 c3
    have ht : tellN (some y) = match truthO y with
      | none => 2
      | some true => 1
      | some false => 0 := rfl
    have HTN := Lib.hid ht
    clear ht
    generalize truthO y = t at HTN ⊢
    rcases t with _ | _ | _
    all_goals
      unfold twoB
      go_wp2_with fail
      go_ret
      exact ⟨by rw [HTN.out]; rfl, HB4.out⟩
/-- One term's expression. -/
def ofT (a : Tm) : Exp := .mk 1 a []
theorem opIn_one : opIn 1 := by unfold opIn; decide
theorem kids_nil (B : Nat) (w : World) (n : Nat) : KidsP B w n (.slice none 0 0) [] := by
  cases n with
  | zero => exact ⟨rfl, none, 0, rfl⟩
  | succ n => exact ⟨by simp, none, 0, rfl, fun i hi => absurd hi (by simp)⟩
theorem kids_one (v : World) (a : Tm) (ha : a.Sm) (ty : TypeId) : KidsP (v.alloc (.cells #[.int .i64 1, .int .i64 a.k, .string a.s, .string a.l, .string a.t, .slice none 0 0] ty)).heap.size (v.alloc (.cells #[.int .i64 1, .int .i64 a.k, .string a.s, .string a.l, .string a.t, .slice none 0 0] ty)) 1 (.slice (some ⟨v.heap.size, 0, none⟩) 1 1) [ofT a] := by
  have x := Blk.new v #[.int .i64 1, .int .i64 a.k, .string a.s, .string a.l, .string a.t, .slice none 0 0] ty
  have z : (v.alloc (.cells #[.int .i64 1, .int .i64 a.k, .string a.s, .string a.l, .string a.t, .slice none 0 0] ty)).heap.size = v.heap.size + 1 := by simp
  generalize v.alloc (.cells #[.int .i64 1, .int .i64 a.k, .string a.s, .string a.l, .string a.t, .slice none 0 0] ty) = v1 at *
  refine ⟨by simp, _, _, rfl, fun i hi => ?_⟩
  have h0 : i = 0 := by simpa using hi
  subst h0
  exact ⟨v.heap.size, 0, _, rfl, by omega, ⟨_, _, x⟩, ⟨x.cell 0, x.cell 1, x.cell 2, x.cell 3, x.cell 4, x.cell 5⟩, (show opIn 1 from opIn_one), ha, kids_nil _ _ _⟩
theorem kids_two (v : World) (a b : Tm) (ha : a.Sm) (hb : b.Sm) (ty : TypeId) : KidsP (v.alloc (.cells #[.int .i64 1, .int .i64 a.k, .string a.s, .string a.l, .string a.t, .slice none 0 0, .int .i64 1, .int .i64 b.k, .string b.s, .string b.l, .string b.t, .slice none 0 0] ty)).heap.size (v.alloc (.cells #[.int .i64 1, .int .i64 a.k, .string a.s, .string a.l, .string a.t, .slice none 0 0, .int .i64 1, .int .i64 b.k, .string b.s, .string b.l, .string b.t, .slice none 0 0] ty)) 1 (.slice (some ⟨v.heap.size, 0, none⟩) 2 2) [ofT a, ofT b] := by
  have x := Blk.new v #[.int .i64 1, .int .i64 a.k, .string a.s, .string a.l, .string a.t, .slice none 0 0, .int .i64 1, .int .i64 b.k, .string b.s, .string b.l, .string b.t, .slice none 0 0] ty
  have z : (v.alloc (.cells #[.int .i64 1, .int .i64 a.k, .string a.s, .string a.l, .string a.t, .slice none 0 0, .int .i64 1, .int .i64 b.k, .string b.s, .string b.l, .string b.t, .slice none 0 0] ty)).heap.size = v.heap.size + 1 := by simp
  generalize v.alloc (.cells #[.int .i64 1, .int .i64 a.k, .string a.s, .string a.l, .string a.t, .slice none 0 0, .int .i64 1, .int .i64 b.k, .string b.s, .string b.l, .string b.t, .slice none 0 0] ty) = v1 at *
  refine ⟨by simp, _, _, rfl, fun i hi => ?_⟩
  have h01 : i = 0 ∨ i = 1 := by
    have : i < 2 := hi
    omega
  rcases h01 with rfl | rfl
  · exact ⟨v.heap.size, 0, _, rfl, by omega, ⟨_, _, x⟩, ⟨x.cell 0, x.cell 1, x.cell 2, x.cell 3, x.cell 4, x.cell 5⟩, (show opIn 1 from opIn_one), ha, kids_nil _ _ _⟩
  · exact ⟨v.heap.size, 0, _, rfl, by omega, ⟨_, _, x⟩, ⟨x.cell 6, x.cell 7, x.cell 8, x.cell 9, x.cell 10, x.cell 11⟩, (show opIn 1 from opIn_one), hb, kids_nil _ _ _⟩
end Go.Proofs.YtecomfhbdonkbaaGreatDoor
