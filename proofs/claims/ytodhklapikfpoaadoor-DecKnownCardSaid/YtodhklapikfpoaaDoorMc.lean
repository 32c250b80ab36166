/- zero of the reference. -/
import Derived.Test.YtodhklapikfpoaaDoorMa
import Derived.Test.YtodhklapikfpoaaDoorRf
import Derived.Deep.MidRow
namespace Go.Proofs.YtodhklapikfpoaaDoor
open Go.RowKit Go.Shelf Flo
set_option maxRecDepth 100000
set_option linter.unusedVariables false
set_option linter.unusedSimpArgs false

/-- forty digits in their block. -/
def Dig (w : World) (b : Nat) (f : Nat → Nat) : Prop := b < w.heap.size ∧ ∀ j, j < 40 → w.cell? ⟨b, j, none⟩ = some (.int .i64 (f j : Int)) ∧ w.frozen? ⟨b, j, none⟩ = false
theorem Dig.below {w w' : World} {b : Nat} {f : Nat → Nat} (h : Dig w b f) (hb : Below w.heap.size w w') : Dig w' b f :=
  ⟨Nat.lt_of_lt_of_le h.1 hb.size, fun j hj => ⟨cellB hb h.1 (h.2 j hj).1, frozB hb h.1 (h.2 j hj).2⟩⟩
theorem Dig.box (w : World) (g : Nat → Nat) (t : TypeId) : Dig (w.alloc (.cells #[.int .i64 (g 0 : Int), .int .i64 (g 1 : Int), .int .i64 (g 2 : Int), .int .i64 (g 3 : Int), .int .i64 (g 4 : Int), .int .i64 (g 5 : Int), .int .i64 (g 6 : Int), .int .i64 (g 7 : Int), .int .i64 (g 8 : Int), .int .i64 (g 9 : Int), .int .i64 (g 10 : Int), .int .i64 (g 11 : Int), .int .i64 (g 12 : Int), .int .i64 (g 13 : Int), .int .i64 (g 14 : Int), .int .i64 (g 15 : Int), .int .i64 (g 16 : Int), .int .i64 (g 17 : Int), .int .i64 (g 18 : Int), .int .i64 (g 19 : Int), .int .i64 (g 20 : Int), .int .i64 (g 21 : Int), .int .i64 (g 22 : Int), .int .i64 (g 23 : Int), .int .i64 (g 24 : Int), .int .i64 (g 25 : Int), .int .i64 (g 26 : Int), .int .i64 (g 27 : Int), .int .i64 (g 28 : Int), .int .i64 (g 29 : Int), .int .i64 (g 30 : Int), .int .i64 (g 31 : Int), .int .i64 (g 32 : Int), .int .i64 (g 33 : Int), .int .i64 (g 34 : Int), .int .i64 (g 35 : Int), .int .i64 (g 36 : Int), .int .i64 (g 37 : Int), .int .i64 (g 38 : Int), .int .i64 (g 39 : Int)] t)) w.heap.size g := by
  have e : (#[.int .i64 (g 0 : Int), .int .i64 (g 1 : Int), .int .i64 (g 2 : Int), .int .i64 (g 3 : Int), .int .i64 (g 4 : Int), .int .i64 (g 5 : Int), .int .i64 (g 6 : Int), .int .i64 (g 7 : Int), .int .i64 (g 8 : Int), .int .i64 (g 9 : Int), .int .i64 (g 10 : Int), .int .i64 (g 11 : Int), .int .i64 (g 12 : Int), .int .i64 (g 13 : Int), .int .i64 (g 14 : Int), .int .i64 (g 15 : Int), .int .i64 (g 16 : Int), .int .i64 (g 17 : Int), .int .i64 (g 18 : Int), .int .i64 (g 19 : Int), .int .i64 (g 20 : Int), .int .i64 (g 21 : Int), .int .i64 (g 22 : Int), .int .i64 (g 23 : Int), .int .i64 (g 24 : Int), .int .i64 (g 25 : Int), .int .i64 (g 26 : Int), .int .i64 (g 27 : Int), .int .i64 (g 28 : Int), .int .i64 (g 29 : Int), .int .i64 (g 30 : Int), .int .i64 (g 31 : Int), .int .i64 (g 32 : Int), .int .i64 (g 33 : Int), .int .i64 (g 34 : Int), .int .i64 (g 35 : Int), .int .i64 (g 36 : Int), .int .i64 (g 37 : Int), .int .i64 (g 38 : Int), .int .i64 (g 39 : Int)] : Array Value) = ((List.range 40).map fun j => Value.int .i64 (g j : Int)).toArray := rfl
  rw [e]
  refine ⟨by simp, fun j hj => ⟨?_, by simp⟩⟩
  rw [World.cell?_alloc_new, List.getElem?_toArray, List.getElem?_map, List.getElem?_range hj]
  rfl
/-- the forty digits, loaded. -/
theorem load40 {w : World} {b : Nat} {g : Nat → Nat} (h : Dig w b g) : (loadCellsFrom ⟨b, 0, none⟩ 0 40 #[]).run Tryd.prog w = .ok #[.int .i64 (g 0 : Int), .int .i64 (g 1 : Int), .int .i64 (g 2 : Int), .int .i64 (g 3 : Int), .int .i64 (g 4 : Int), .int .i64 (g 5 : Int), .int .i64 (g 6 : Int), .int .i64 (g 7 : Int), .int .i64 (g 8 : Int), .int .i64 (g 9 : Int), .int .i64 (g 10 : Int), .int .i64 (g 11 : Int), .int .i64 (g 12 : Int), .int .i64 (g 13 : Int), .int .i64 (g 14 : Int), .int .i64 (g 15 : Int), .int .i64 (g 16 : Int), .int .i64 (g 17 : Int), .int .i64 (g 18 : Int), .int .i64 (g 19 : Int), .int .i64 (g 20 : Int), .int .i64 (g 21 : Int), .int .i64 (g 22 : Int), .int .i64 (g 23 : Int), .int .i64 (g 24 : Int), .int .i64 (g 25 : Int), .int .i64 (g 26 : Int), .int .i64 (g 27 : Int), .int .i64 (g 28 : Int), .int .i64 (g 29 : Int), .int .i64 (g 30 : Int), .int .i64 (g 31 : Int), .int .i64 (g 32 : Int), .int .i64 (g 33 : Int), .int .i64 (g 34 : Int), .int .i64 (g 35 : Int), .int .i64 (g 36 : Int), .int .i64 (g 37 : Int), .int .i64 (g 38 : Int), .int .i64 (g 39 : Int)] w :=
  run_loadCells_list (P := Tryd.prog) w ⟨b, 0, none⟩ ((List.range 40).map fun j => Value.int .i64 (g j : Int)) (fun j v hv => by
    have hadd : (⟨b, 0, none⟩ : Addr).add j = ⟨b, j, none⟩ := by unfold Addr.add; split <;> simp_all
    rw [hadd]
    rw [List.getElem?_map] at hv
    obtain ⟨x, hx, rfl⟩ := Option.map_eq_some_iff.1 hv
    obtain ⟨h1, h2⟩ := List.getElem?_eq_some_iff.1 hx
    rw [List.getElem_range] at h2
    subst h2
    exact (h.2 j (by simpa using h1)).1)
theorem Dig.range {w : World} {b : Nat} {g : Nat → Nat} (h : Dig w b g) : w.rangeAt b 0 [.int .i64 (g 0 : Int), .int .i64 (g 1 : Int), .int .i64 (g 2 : Int), .int .i64 (g 3 : Int), .int .i64 (g 4 : Int), .int .i64 (g 5 : Int), .int .i64 (g 6 : Int), .int .i64 (g 7 : Int), .int .i64 (g 8 : Int), .int .i64 (g 9 : Int), .int .i64 (g 10 : Int), .int .i64 (g 11 : Int), .int .i64 (g 12 : Int), .int .i64 (g 13 : Int), .int .i64 (g 14 : Int), .int .i64 (g 15 : Int), .int .i64 (g 16 : Int), .int .i64 (g 17 : Int), .int .i64 (g 18 : Int), .int .i64 (g 19 : Int), .int .i64 (g 20 : Int), .int .i64 (g 21 : Int), .int .i64 (g 22 : Int), .int .i64 (g 23 : Int), .int .i64 (g 24 : Int), .int .i64 (g 25 : Int), .int .i64 (g 26 : Int), .int .i64 (g 27 : Int), .int .i64 (g 28 : Int), .int .i64 (g 29 : Int), .int .i64 (g 30 : Int), .int .i64 (g 31 : Int), .int .i64 (g 32 : Int), .int .i64 (g 33 : Int), .int .i64 (g 34 : Int), .int .i64 (g 35 : Int), .int .i64 (g 36 : Int), .int .i64 (g 37 : Int), .int .i64 (g 38 : Int), .int .i64 (g 39 : Int)] := fun j v hv => by
  have e : ([.int .i64 (g 0 : Int), .int .i64 (g 1 : Int), .int .i64 (g 2 : Int), .int .i64 (g 3 : Int), .int .i64 (g 4 : Int), .int .i64 (g 5 : Int), .int .i64 (g 6 : Int), .int .i64 (g 7 : Int), .int .i64 (g 8 : Int), .int .i64 (g 9 : Int), .int .i64 (g 10 : Int), .int .i64 (g 11 : Int), .int .i64 (g 12 : Int), .int .i64 (g 13 : Int), .int .i64 (g 14 : Int), .int .i64 (g 15 : Int), .int .i64 (g 16 : Int), .int .i64 (g 17 : Int), .int .i64 (g 18 : Int), .int .i64 (g 19 : Int), .int .i64 (g 20 : Int), .int .i64 (g 21 : Int), .int .i64 (g 22 : Int), .int .i64 (g 23 : Int), .int .i64 (g 24 : Int), .int .i64 (g 25 : Int), .int .i64 (g 26 : Int), .int .i64 (g 27 : Int), .int .i64 (g 28 : Int), .int .i64 (g 29 : Int), .int .i64 (g 30 : Int), .int .i64 (g 31 : Int), .int .i64 (g 32 : Int), .int .i64 (g 33 : Int), .int .i64 (g 34 : Int), .int .i64 (g 35 : Int), .int .i64 (g 36 : Int), .int .i64 (g 37 : Int), .int .i64 (g 38 : Int), .int .i64 (g 39 : Int)] : List Value) = (List.range 40).map fun j => Value.int .i64 (g j : Int) := rfl
  rw [e, List.getElem?_map] at hv
  obtain ⟨x, hx, rfl⟩ := Option.map_eq_some_iff.1 hv
  obtain ⟨h1, h2⟩ := List.getElem?_eq_some_iff.1 hx
  rw [List.getElem_range] at h2
  subst h2
  rw [Nat.zero_add]
  exact (h.2 j (by simpa using h1)).1
/-- all noughts from there on. -/
def allZ (g : Nat → Nat) (a : Nat) : Bool := (List.range 40).all fun j => decide (j < a) || g j == 0
theorem allZ_iff (g : Nat → Nat) (a : Nat) : allZ g a = true ↔ ∀ j, j < 40 → a ≤ j → g j = 0 := by
  unfold allZ
  rw [List.all_eq_true]
  constructor
  · intro h j hj ha
    have := h j (List.mem_range.2 hj)
    simp at this
    omega
  · intro h j hj
    have := h j (List.mem_range.1 hj)
    simp
    omega
theorem allZ_top {g : Nat → Nat} {P : Nat} (hP : P < 10 ^ 40) (hg : ∀ j, j < 40 → g j = P / 10 ^ j % 10) (a : Nat) (ha : a ≤ 40) : allZ g a = decide (qt P a = 0) := by
  rw [Bool.eq_iff_iff, allZ_iff, decide_eq_true_iff, ← tops_zero hP (40 - a) a (by omega)]
  exact ⟨fun h j h1 h2 => by rw [← hg j h1]; exact h j h1 h2, fun h j h1 h2 => by rw [hg j h1]; exact h j h1 h2⟩
theorem zero_any (g : Nat → Nat) (a : Nat) (ha : a ≤ 40) (w : World) : Calls Tryd.prog 23 #[.agg #[.int .i64 (g 0 : Int), .int .i64 (g 1 : Int), .int .i64 (g 2 : Int), .int .i64 (g 3 : Int), .int .i64 (g 4 : Int), .int .i64 (g 5 : Int), .int .i64 (g 6 : Int), .int .i64 (g 7 : Int), .int .i64 (g 8 : Int), .int .i64 (g 9 : Int), .int .i64 (g 10 : Int), .int .i64 (g 11 : Int), .int .i64 (g 12 : Int), .int .i64 (g 13 : Int), .int .i64 (g 14 : Int), .int .i64 (g 15 : Int), .int .i64 (g 16 : Int), .int .i64 (g 17 : Int), .int .i64 (g 18 : Int), .int .i64 (g 19 : Int), .int .i64 (g 20 : Int), .int .i64 (g 21 : Int), .int .i64 (g 22 : Int), .int .i64 (g 23 : Int), .int .i64 (g 24 : Int), .int .i64 (g 25 : Int), .int .i64 (g 26 : Int), .int .i64 (g 27 : Int), .int .i64 (g 28 : Int), .int .i64 (g 29 : Int), .int .i64 (g 30 : Int), .int .i64 (g 31 : Int), .int .i64 (g 32 : Int), .int .i64 (g 33 : Int), .int .i64 (g 34 : Int), .int .i64 (g 35 : Int), .int .i64 (g 36 : Int), .int .i64 (g 37 : Int), .int .i64 (g 38 : Int), .int .i64 (g 39 : Int)], .int .i64 (a : Int)] w fun e w' => e = .returned (.bool (allZ g a)) ∧ Below w.heap.size w w' := by
  have HD := Lib.hid (Dig.box w g 50)
  have HB := Lib.hid ((Below.refl w.heap.size w).alloc (Nat.le_refl _) (.cells #[.int .i64 (g 0 : Int), .int .i64 (g 1 : Int), .int .i64 (g 2 : Int), .int .i64 (g 3 : Int), .int .i64 (g 4 : Int), .int .i64 (g 5 : Int), .int .i64 (g 6 : Int), .int .i64 (g 7 : Int), .int .i64 (g 8 : Int), .int .i64 (g 9 : Int), .int .i64 (g 10 : Int), .int .i64 (g 11 : Int), .int .i64 (g 12 : Int), .int .i64 (g 13 : Int), .int .i64 (g 14 : Int), .int .i64 (g 15 : Int), .int .i64 (g 16 : Int), .int .i64 (g 17 : Int), .int .i64 (g 18 : Int), .int .i64 (g 19 : Int), .int .i64 (g 20 : Int), .int .i64 (g 21 : Int), .int .i64 (g 22 : Int), .int .i64 (g 23 : Int), .int .i64 (g 24 : Int), .int .i64 (g 25 : Int), .int .i64 (g 26 : Int), .int .i64 (g 27 : Int), .int .i64 (g 28 : Int), .int .i64 (g 29 : Int), .int .i64 (g 30 : Int), .int .i64 (g 31 : Int), .int .i64 (g 32 : Int), .int .i64 (g 33 : Int), .int .i64 (g 34 : Int), .int .i64 (g 35 : Int), .int .i64 (g 36 : Int), .int .i64 (g 37 : Int), .int .i64 (g 38 : Int), .int .i64 (g 39 : Int)] 50))
  go_enter Tryd.func23, Tryd.ntmps23
  go_wp2_with fail
  generalize World.alloc w _ = w1 at HD HB ⊢
  go_loop [5] (fun i => ∃ j : Nat, i = .int .i64 (j : Int) ∧ a ≤ j ∧ j ≤ 40 ∧ ∀ x, x < j → a ≤ x → g x = 0) (fun i => 40 - (intOf i).toNat)
  case atStart => exact ⟨a, rfl, Nat.le_refl _, ha, fun x h1 h2 => by omega⟩
  case round =>
    obtain ⟨j, rfl, haj, hj, hz⟩ := hrel
    have HZ := Lib.hid hz
    clear hz
    by_cases hlt : j < 40
    · obtain ⟨f0, -⟩ := HD.out.2 j hlt
      have hlti : (j : Int) < 40 := by omega
      obtain ⟨d, hd⟩ : ∃ d, d = g j := ⟨_, rfl⟩
      rw [← hd] at f0
      have HDD := Lib.hid hd
      clear hd
      by_cases h0 : d = 0
      · subst h0
        have HN := Lib.hid (show ∀ x, x < j + 1 → a ≤ x → g x = 0 by
          intro x h1 h2
          by_cases e : x = j
          · rw [e]; exact HDD.out.symm
          · exact HZ.out x (by omega) h2)
        go_wp2_with fail
        go_round
        case rel => exact ⟨j + 1, by go_num, by omega, by omega, HN.out⟩
        case measure => simp [intOf]; omega
      · have hdi : ¬ (d : Int) = 0 := by omega
        have HF := Lib.hid (show allZ g a = false by
          rw [← Bool.not_eq_true, allZ_iff]
          intro hh
          exact h0 (HDD.out.trans (hh j hlt haj)))
        go_wp2_with fail
        go_ret
        exact ⟨by rw [HF.out]; rfl, HB.out⟩
    · have HF := Lib.hid (show allZ g a = true by
        rw [allZ_iff]
        intro x h1 h2
        exact HZ.out x (by omega) h2)
      have hni : ¬ (j : Int) < 40 := by omega
      go_wp2_with fail
      go_ret
      exact ⟨by rw [HF.out]; rfl, HB.out⟩
end Go.Proofs.YtodhklapikfpoaaDoor
