/- Triples as text: known, within; TurtleKnown. -/
import Derived.Test.YtefkppeicmipbaaGreatDoorUw
import Derived.Deep.RegionLaw
namespace Go.Proofs.YtefkppeicmipbaaGreatDoor
open Go.RowKit Go.Shelf
set_option maxRecDepth 100000
set_option linter.unusedVariables false
set_option linter.unusedSimpArgs false
theorem within12_eq (a n : Int) (hn : 0 < n) (hn2 : n ≤ 4611686018427387904) (w : World) :
    Calls Tryz.prog 6 #[.int .i64 a, .int .i64 n] w fun e w' => e = .returned (.int .i64 (a % n)) ∧ w' = w := by
  have h1 := Int.tmod_lt_of_pos a hn
  have h2 : -n < a.tmod n := Int.lt_tmod_of_pos a hn
  have hz : (n == 0) = false := by simpa using (by omega : n ≠ 0)
  have he : a % n = if a.tmod n < 0 then a.tmod n + n else a.tmod n := by
    rw [Int.tmod_eq_emod]
    have h3 := Int.emod_nonneg a (show n ≠ 0 by omega)
    have h4 := Int.emod_lt_of_pos a hn
    have h5 : ((Int.natAbs n : Nat) : Int) = n := by omega
    by_cases h0 : 0 ≤ a ∨ n ∣ a
    · rw [if_pos h0]; split <;> omega
    · rw [if_neg h0, h5]; split <;> omega
  have HE := Lib.hid he
  clear he
  by_cases h0 : a.tmod n < 0
  · go_enter Tryz.func6, Tryz.ntmps6
    go_wp2
    go_ret
    exact ⟨by rw [HE.out, if_pos h0]; rfl, rfl⟩
  · go_enter Tryz.func6, Tryz.ntmps6
    go_wp2
    go_ret
    exact ⟨by rw [HE.out, if_neg (by omega)]; rfl, rfl⟩
/-- A row of triples that is not empty: where it lies. -/
theorem OwR.at12 {w : World} {base : Nat} {ao : Option Addr} {n cap : Nat} {l : List Tri3} (h : OwR w base (.slice ao n cap) l) (hl : 0 < l.length) :
    ∃ g, ao = some ⟨g, 0, none⟩ ∧ base ≤ g ∧ g < w.heap.size ∧ ∀ j t, l[j]? = some t → ∀ i v, (rcells1 t)[i]? = some v → w.cell? ⟨g, 12 * j + i, none⟩ = some v := by
  rcases h.2 with ⟨h1, h2⟩ | ⟨g, cap', cur, h1, h2, h3, k⟩
  · omega
  · cases h1
    have hc := h.cells (g := g) rfl
    refine ⟨g, rfl, (h.lt g rfl).1, (h.lt g rfl).2, fun j t hj i v hv => ?_⟩
    have key : ∀ (l : List Tri3) (j : Nat) (t : Tri3), l[j]? = some t → ∀ i v, (rcells1 t)[i]? = some v → (rcells l)[12 * j + i]? = some v := by
      intro l
      induction l with
      | nil => intro j t h; cases h
      | cons x xs ih =>
        intro j t h i v hv
        have e : rcells (x :: xs) = rcells1 x ++ rcells xs := rfl
        have l12 : (rcells1 x).length = 12 := rfl
        cases j with
        | zero =>
          cases h
          rw [e, Nat.mul_zero, Nat.zero_add, List.getElem?_append_left (List.getElem?_eq_some_iff.1 hv).1]
          exact hv
        | succ j =>
          have := ih j t h i v hv
          rw [e, List.getElem?_append_right (by rw [l12]; omega), l12, show 12 * (j + 1) + i - 12 = 12 * j + i by omega]
          exact this
    have d1 := hc _ _ (key l j t hj i v hv)
    rw [Addr.add_mid, Nat.zero_add] at d1
    exact d1
def gB : ByteArray := ⟨#[103]⟩
theorem kn_doc : ∃ x y, turtleL ⟨#[]⟩ gB (⟨#[60, 97, 62, 32, 60, 98, 62, 32, 53, 32, 46]⟩ : ByteArray).data.toList = ([(x, y, typed ⟨#[53]⟩ xIntB)], 0) := ⟨named ⟨#[97]⟩, named ⟨#[98]⟩, by kernel_rfl⟩
set_option maxHeartbeats 4000000 in
theorem known12_any (w : World) (hL : LexAt w) : Calls Tryz.prog 5 #[] w fun e w' => e = .returned (.bool true) ∧ Below w.heap.size w w' := by
  obtain ⟨x, y, hxy⟩ := kn_doc
  have HP := Lib.hid (parse12 ⟨#[60, 97, 62, 32, 60, 98, 62, 32, 53, 32, 46]⟩ ⟨#[]⟩ gB (by decide) (by decide) (by decide) w hL)
  rw [hxy] at HP
  unfold gB at HP
  clear hxy
  go_enter Tryz.func5, Tryz.ntmps5
  go_wp2_with fail
  refine HP.out.mono ?_
  intro e w1 h
  unfold TurTo at h
  obtain ⟨ao, cap, rfl, hb, ho⟩ := h
  obtain ⟨g, rfl, hg0, hg, hc⟩ := ho.at12 (by simp)
  have c8 := hc 0 _ rfl 8 _ rfl
  have c9 := hc 0 _ rfl 9 _ rfl
  have c10 := hc 0 _ rfl 10 _ rfl
  have c11 := hc 0 _ rfl 11 _ rfl
  unfold typed nobT xIntB bl at c8 c9 c10 c11
  dsimp only at c8 c9 c10 c11
  simp only [Nat.mul_zero, Nat.zero_add] at c8 c9 c10 c11
  have HB := Lib.hid hb
  clear hc ho hb
  go_wp2_with fail
  go_ret
  exact ⟨rfl, HB.out⟩
def knL : Array Value := #[.string ⟨#[]⟩, .string ⟨#[35, 32, 99]⟩, .string ⟨#[60, 115, 58, 115, 62, 32, 97, 32, 60, 111, 58, 111, 62, 32, 46]⟩, .string ⟨#[91, 32, 60, 112, 58, 112, 62, 32, 49, 32, 93, 32, 46]⟩, .string ⟨#[91, 93, 32, 60, 112, 58, 112, 62, 32, 49, 32, 46]⟩, .string ⟨#[60, 115, 58, 115, 62, 32, 60, 112, 58, 112, 62, 32, 91, 32, 60, 113, 58, 113, 62, 32, 49, 32, 59, 32, 60, 114, 58, 114, 62, 32, 50, 32, 93, 32, 46]⟩, .string ⟨#[40, 41, 32, 60, 112, 58, 112, 62, 32, 49, 32, 46]⟩, .string ⟨#[60, 115, 58, 115, 62, 32, 60, 112, 58, 112, 62, 32, 49]⟩, .string ⟨#[60, 115, 58, 115, 62, 32, 60, 112, 58, 112, 62, 32, 46]⟩, .string ⟨#[60, 115, 58, 115, 62, 32, 49, 32, 50, 32, 46]⟩, .string ⟨#[49, 32, 60, 112, 58, 112, 62, 32, 50, 32, 46]⟩, .string ⟨#[60, 115, 58, 115, 62, 32, 95, 58, 112, 32, 50, 32, 46]⟩, .string ⟨#[60, 115, 58, 115, 62, 32, 60, 112, 58, 112, 62, 32, 49, 32, 46, 32, 46]⟩, .string ⟨#[120, 58, 97, 32, 60, 112, 58, 112, 62, 32, 49, 32, 46]⟩, .string ⟨#[60, 115, 58, 115, 62, 32, 60, 112, 58, 112, 62, 32, 34, 97, 34, 64, 101, 110, 32, 44, 32, 39, 98, 39, 32, 59, 32, 97, 32, 60, 99, 58, 99, 62, 32, 59, 32, 46]⟩, .string ⟨#[64, 112, 114, 101, 102, 105, 120, 32, 120, 32, 60, 97, 62, 32, 46]⟩, .string ⟨#[64, 98, 97, 115, 101, 32, 60, 97, 62, 32, 60, 98, 62, 32, 46]⟩, .string ⟨#[60, 115, 58, 115, 62, 32, 60, 112, 58, 112, 62, 32, 43, 32, 49, 32, 46]⟩, .string ⟨#[60, 115, 58, 115, 62, 32, 60, 112, 58, 112, 62, 32, 45, 49, 46, 53, 48, 32, 46]⟩, .string ⟨#[60, 115, 58, 115, 62, 32, 60, 112, 58, 112, 62, 32, 34, 97, 34, 94, 94, 49, 32, 46]⟩, .string ⟨#[60, 62, 32, 60, 112, 58, 112, 62, 32, 49, 32, 46]⟩]
def knN : Array Value := #[.int .i64 0, .int .i64 0, .int .i64 1, .int .i64 1, .int .i64 1, .int .i64 3, .int .i64 1, .int .i64 0, .int .i64 0, .int .i64 0, .int .i64 0, .int .i64 0, .int .i64 0, .int .i64 0, .int .i64 3, .int .i64 0, .int .i64 0, .int .i64 1, .int .i64 1, .int .i64 0, .int .i64 0]
def knW : Array Value := #[.int .i64 0, .int .i64 0, .int .i64 0, .int .i64 0, .int .i64 0, .int .i64 0, .int .i64 0, .int .i64 6, .int .i64 6, .int .i64 6, .int .i64 6, .int .i64 6, .int .i64 6, .int .i64 11, .int .i64 0, .int .i64 6, .int .i64 6, .int .i64 0, .int .i64 0, .int .i64 6, .int .i64 1]
def KRow (k : Nat) : Prop := ∃ (a : ByteArray) (n : Nat) (e : Int), knL[k]? = some (.string a) ∧ knN[k]? = some (.int .i64 (n : Int)) ∧ knW[k]? = some (.int .i64 e) ∧ a.size ≤ 1000 ∧ (turtleL ⟨#[]⟩ gB a.data.toList).1.length = n ∧ (turtleL ⟨#[]⟩ gB a.data.toList).2 = e
theorem kRow0 : KRow 0 := ⟨⟨#[]⟩, 0, 0, rfl, rfl, rfl, by decide, by decide +kernel, by decide +kernel⟩
theorem kRow1 : KRow 1 := ⟨⟨#[35, 32, 99]⟩, 0, 0, rfl, rfl, rfl, by decide, by decide +kernel, by decide +kernel⟩
theorem kRow2 : KRow 2 := ⟨⟨#[60, 115, 58, 115, 62, 32, 97, 32, 60, 111, 58, 111, 62, 32, 46]⟩, 1, 0, rfl, rfl, rfl, by decide, by decide +kernel, by decide +kernel⟩
theorem kRow3 : KRow 3 := ⟨⟨#[91, 32, 60, 112, 58, 112, 62, 32, 49, 32, 93, 32, 46]⟩, 1, 0, rfl, rfl, rfl, by decide, by decide +kernel, by decide +kernel⟩
theorem kRow4 : KRow 4 := ⟨⟨#[91, 93, 32, 60, 112, 58, 112, 62, 32, 49, 32, 46]⟩, 1, 0, rfl, rfl, rfl, by decide, by decide +kernel, by decide +kernel⟩
theorem kRow5 : KRow 5 := ⟨⟨#[60, 115, 58, 115, 62, 32, 60, 112, 58, 112, 62, 32, 91, 32, 60, 113, 58, 113, 62, 32, 49, 32, 59, 32, 60, 114, 58, 114, 62, 32, 50, 32, 93, 32, 46]⟩, 3, 0, rfl, rfl, rfl, by decide, by decide +kernel, by decide +kernel⟩
theorem kRow6 : KRow 6 := ⟨⟨#[40, 41, 32, 60, 112, 58, 112, 62, 32, 49, 32, 46]⟩, 1, 0, rfl, rfl, rfl, by decide, by decide +kernel, by decide +kernel⟩
theorem kRow7 : KRow 7 := ⟨⟨#[60, 115, 58, 115, 62, 32, 60, 112, 58, 112, 62, 32, 49]⟩, 0, 6, rfl, rfl, rfl, by decide, by decide +kernel, by decide +kernel⟩
theorem kRow8 : KRow 8 := ⟨⟨#[60, 115, 58, 115, 62, 32, 60, 112, 58, 112, 62, 32, 46]⟩, 0, 6, rfl, rfl, rfl, by decide, by decide +kernel, by decide +kernel⟩
theorem kRow9 : KRow 9 := ⟨⟨#[60, 115, 58, 115, 62, 32, 49, 32, 50, 32, 46]⟩, 0, 6, rfl, rfl, rfl, by decide, by decide +kernel, by decide +kernel⟩
theorem kRow10 : KRow 10 := ⟨⟨#[49, 32, 60, 112, 58, 112, 62, 32, 50, 32, 46]⟩, 0, 6, rfl, rfl, rfl, by decide, by decide +kernel, by decide +kernel⟩
theorem kRow11 : KRow 11 := ⟨⟨#[60, 115, 58, 115, 62, 32, 95, 58, 112, 32, 50, 32, 46]⟩, 0, 6, rfl, rfl, rfl, by decide, by decide +kernel, by decide +kernel⟩
theorem kRow12 : KRow 12 := ⟨⟨#[60, 115, 58, 115, 62, 32, 60, 112, 58, 112, 62, 32, 49, 32, 46, 32, 46]⟩, 0, 6, rfl, rfl, rfl, by decide, by decide +kernel, by decide +kernel⟩
theorem kRow13 : KRow 13 := ⟨⟨#[120, 58, 97, 32, 60, 112, 58, 112, 62, 32, 49, 32, 46]⟩, 0, 11, rfl, rfl, rfl, by decide, by decide +kernel, by decide +kernel⟩
theorem kRow14 : KRow 14 := ⟨⟨#[60, 115, 58, 115, 62, 32, 60, 112, 58, 112, 62, 32, 34, 97, 34, 64, 101, 110, 32, 44, 32, 39, 98, 39, 32, 59, 32, 97, 32, 60, 99, 58, 99, 62, 32, 59, 32, 46]⟩, 3, 0, rfl, rfl, rfl, by decide, by decide +kernel, by decide +kernel⟩
theorem kRow15 : KRow 15 := ⟨⟨#[64, 112, 114, 101, 102, 105, 120, 32, 120, 32, 60, 97, 62, 32, 46]⟩, 0, 6, rfl, rfl, rfl, by decide, by decide +kernel, by decide +kernel⟩
theorem kRow16 : KRow 16 := ⟨⟨#[64, 98, 97, 115, 101, 32, 60, 97, 62, 32, 60, 98, 62, 32, 46]⟩, 0, 6, rfl, rfl, rfl, by decide, by decide +kernel, by decide +kernel⟩
theorem kRow17 : KRow 17 := ⟨⟨#[60, 115, 58, 115, 62, 32, 60, 112, 58, 112, 62, 32, 43, 32, 49, 32, 46]⟩, 1, 0, rfl, rfl, rfl, by decide, by decide +kernel, by decide +kernel⟩
theorem kRow18 : KRow 18 := ⟨⟨#[60, 115, 58, 115, 62, 32, 60, 112, 58, 112, 62, 32, 45, 49, 46, 53, 48, 32, 46]⟩, 1, 0, rfl, rfl, rfl, by decide, by decide +kernel, by decide +kernel⟩
theorem kRow19 : KRow 19 := ⟨⟨#[60, 115, 58, 115, 62, 32, 60, 112, 58, 112, 62, 32, 34, 97, 34, 94, 94, 49, 32, 46]⟩, 0, 6, rfl, rfl, rfl, by decide, by decide +kernel, by decide +kernel⟩
theorem kRow20 : KRow 20 := ⟨⟨#[60, 62, 32, 60, 112, 58, 112, 62, 32, 49, 32, 46]⟩, 0, 1, rfl, rfl, rfl, by decide, by decide +kernel, by decide +kernel⟩
theorem kRow_row (k : Nat) (hk : k < 21) : KRow k := by
  obtain rfl | hk0 : k = 0 ∨ k ≠ 0 := by omega
  · exact kRow0
  obtain rfl | hk1 : k = 1 ∨ k ≠ 1 := by omega
  · exact kRow1
  obtain rfl | hk2 : k = 2 ∨ k ≠ 2 := by omega
  · exact kRow2
  obtain rfl | hk3 : k = 3 ∨ k ≠ 3 := by omega
  · exact kRow3
  obtain rfl | hk4 : k = 4 ∨ k ≠ 4 := by omega
  · exact kRow4
  obtain rfl | hk5 : k = 5 ∨ k ≠ 5 := by omega
  · exact kRow5
  obtain rfl | hk6 : k = 6 ∨ k ≠ 6 := by omega
  · exact kRow6
  obtain rfl | hk7 : k = 7 ∨ k ≠ 7 := by omega
  · exact kRow7
  obtain rfl | hk8 : k = 8 ∨ k ≠ 8 := by omega
  · exact kRow8
  obtain rfl | hk9 : k = 9 ∨ k ≠ 9 := by omega
  · exact kRow9
  obtain rfl | hk10 : k = 10 ∨ k ≠ 10 := by omega
  · exact kRow10
  obtain rfl | hk11 : k = 11 ∨ k ≠ 11 := by omega
  · exact kRow11
  obtain rfl | hk12 : k = 12 ∨ k ≠ 12 := by omega
  · exact kRow12
  obtain rfl | hk13 : k = 13 ∨ k ≠ 13 := by omega
  · exact kRow13
  obtain rfl | hk14 : k = 14 ∨ k ≠ 14 := by omega
  · exact kRow14
  obtain rfl | hk15 : k = 15 ∨ k ≠ 15 := by omega
  · exact kRow15
  obtain rfl | hk16 : k = 16 ∨ k ≠ 16 := by omega
  · exact kRow16
  obtain rfl | hk17 : k = 17 ∨ k ≠ 17 := by omega
  · exact kRow17
  obtain rfl | hk18 : k = 18 ∨ k ≠ 18 := by omega
  · exact kRow18
  obtain rfl | hk19 : k = 19 ∨ k ≠ 19 := by omega
  · exact kRow19
  obtain rfl : k = 20 := by omega
  exact kRow20
end Go.Proofs.YtefkppeicmipbaaGreatDoor
