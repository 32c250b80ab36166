/- Signs: LexOne, LexBad. -/
import Derived.Test.YtmeoleacfkbilaaDoorLk
import Derived.Deep.RegionLaw
namespace Go.Proofs.YtmeoleacfkbilaaDoor
open Go.RowKit Go.Shelf
set_option maxRecDepth 100000
set_option linter.unusedVariables false
set_option linter.unusedSimpArgs false
theorem within11_eq (a n : Int) (hn : 0 < n) (hn2 : n ≤ 4611686018427387904) (w : World) :
    Calls Tryd.prog 12 #[.int .i64 a, .int .i64 n] w fun e w' => e = .returned (.int .i64 (a % n)) ∧ w' = w := by
  have h1 := Int.tmod_lt_of_pos a hn
  have h2 : -n < a.tmod n := Int.lt_tmod_of_pos a hn
  have hz : (n == 0) = false := by simpa using (by omega : n ≠ 0)
  have he : a % n = if a.tmod n < 0 then a.tmod n + n else a.tmod n := by
    rw [Int.tmod_eq_emod]
    have h3 := Int.emod_nonneg a (show n ≠ 0 by omega)
    have h4 := Int.emod_lt_of_pos a hn
    have h5 : ((Int.natAbs n : Nat) : Int) = n := by omega
    by_cases h0 : 0 ≤ a ∨ n ∣ a
    · rw [if_pos h0]; split <;> omega
    · rw [if_neg h0, h5]; split <;> omega
  have HE := Lib.hid he
  clear he
  by_cases h0 : a.tmod n < 0
  · go_enter Tryd.func12, Tryd.ntmps12
    go_wp2
    go_ret
    exact ⟨by rw [HE.out, if_pos h0]; rfl, rfl⟩
  · go_enter Tryd.func12, Tryd.ntmps12
    go_wp2
    go_ret
    exact ⟨by rw [HE.out, if_neg (by omega)]; rfl, rfl⟩
/-- A row of tokens that is not empty: where it lies. -/
theorem OwK.at {w : World} {base : Nat} {ao : Option Addr} {n cap : Nat} {l : List Tok} (h : OwK w base (.slice ao n cap) l) (hl : 0 < l.length) :
    ∃ g, ao = some ⟨g, 0, none⟩ ∧ g < w.heap.size ∧ ∀ j t, l[j]? = some t → w.cell? ⟨g, 2 * j, none⟩ = some (.int .i64 t.1) ∧ w.cell? ⟨g, 2 * j + 1, none⟩ = some (.string ⟨t.2.toArray⟩) := by
  rcases h.2 with ⟨h1, h2⟩ | ⟨g, cap', cur, h1, h2, h3, k⟩
  · omega
  · cases h1
    have hc := h.cells (g := g) rfl
    refine ⟨g, rfl, (h.lt g rfl).2, fun j t hj => ?_⟩
    have key : ∀ (l : List Tok) (j : Nat) (t : Tok), l[j]? = some t → (kcells l)[2 * j]? = some (.int .i64 t.1) ∧ (kcells l)[2 * j + 1]? = some (.string ⟨t.2.toArray⟩) := by
      intro l
      induction l with
      | nil => intro j t h; cases h
      | cons x xs ih =>
        intro j t h
        have e : kcells (x :: xs) = .int .i64 x.1 :: .string ⟨x.2.toArray⟩ :: kcells xs := rfl
        cases j with
        | zero => cases h; rw [e]; exact ⟨rfl, rfl⟩
        | succ j =>
          have := ih j t h
          rw [e, show 2 * (j + 1) = (2 * j) + 1 + 1 by omega, show (2 * j) + 1 + 1 + 1 = (2 * j + 1) + 1 + 1 by omega]
          simpa using this
    obtain ⟨k1, k2⟩ := key l j t hj
    have d1 := hc _ _ k1
    have d2 := hc _ _ k2
    rw [Addr.add_mid, Nat.zero_add] at d1 d2
    exact ⟨d1, d2⟩
/-- The laid condition, as the walks want it. -/
def LexAt (w : World) : Prop := Tabs w ∧ SigAt w
theorem LexAt.below {w w' : World} (h : LexAt w) (hb : Below w.heap.size w w') : LexAt w' := ⟨tabs_below h.1 hb, h.2.below hb⟩
theorem known11_any (w : World) (hL : LexAt w) : Calls Tryd.prog 7 #[] w fun e w' => e = .returned (.bool true) ∧ Below w.heap.size w w' := by
  have hk : tokensL (⟨#[63, 97, 32, 60, 32, 53]⟩ : ByteArray).data.toList = ([(4, [97]), (9, [60]), (7, [53])], 0) := by decide +kernel
  have HT := Lib.hid (tokens11 ⟨#[63, 97, 32, 60, 32, 53]⟩ (by decide) w hL.1 hL.2)
  rw [hk] at HT
  clear hk
  go_enter Tryd.func7, Tryd.ntmps7
  go_wp2_with fail
  refine HT.out.mono ?_
  intro e w1 h
  unfold TksTo at h
  obtain ⟨ao, cap, rfl, hb, ho, -⟩ := h
  obtain ⟨g, rfl, hg, hc⟩ := ho.at (by decide)
  have c0 := (hc 0 _ rfl).1
  have c1 := (hc 1 _ rfl).2
  have c2 := (hc 2 _ rfl).1
  simp only [Nat.mul_zero, Nat.mul_one, Nat.reduceMul, Nat.reduceAdd] at c0 c1 c2
  have HB := Lib.hid hb
  clear hc ho hb
  go_wp2_with fail
  go_ret
  exact ⟨rfl, HB.out⟩
def oneL : Array Value := #[.string ⟨#[60, 62]⟩, .string ⟨#[60, 97, 58, 98, 47, 99, 63, 100, 35, 101, 62]⟩, .string ⟨#[95, 58, 98, 95, 49]⟩, .string ⟨#[63, 97, 98, 99]⟩, .string ⟨#[36, 120, 57]⟩, .string ⟨#[34, 97, 39, 98, 34]⟩, .string ⟨#[39, 97, 34, 98, 39]⟩, .string ⟨#[34, 92, 116, 92, 110, 92, 114, 92, 34, 92, 39, 92, 92, 34]⟩, .string ⟨#[64, 101, 110, 45, 103, 98]⟩, .string ⟨#[48]⟩, .string ⟨#[49, 50, 46, 53, 48]⟩, .string ⟨#[97, 98, 58]⟩, .string ⟨#[58]⟩, .string ⟨#[97, 45, 98, 58, 99, 46, 100, 45, 101]⟩, .string ⟨#[115, 101, 108, 101, 99, 116]⟩, .string ⟨#[97]⟩, .string ⟨#[38, 38]⟩, .string ⟨#[94, 94]⟩, .string ⟨#[63]⟩, .string ⟨#[60]⟩, .string ⟨#[97, 49, 95, 98]⟩]
def oneK : Array Value := #[.int .i64 1, .int .i64 1, .int .i64 3, .int .i64 4, .int .i64 4, .int .i64 5, .int .i64 5, .int .i64 5, .int .i64 6, .int .i64 7, .int .i64 7, .int .i64 2, .int .i64 2, .int .i64 2, .int .i64 8, .int .i64 8, .int .i64 9, .int .i64 9, .int .i64 9, .int .i64 9, .int .i64 8]
def oneW : Array Value := #[.string ⟨#[]⟩, .string ⟨#[97, 58, 98, 47, 99, 63, 100, 35, 101]⟩, .string ⟨#[98, 95, 49]⟩, .string ⟨#[97, 98, 99]⟩, .string ⟨#[120, 57]⟩, .string ⟨#[97, 39, 98]⟩, .string ⟨#[97, 34, 98]⟩, .string ⟨#[9, 10, 13, 34, 39, 92]⟩, .string ⟨#[101, 110, 45, 103, 98]⟩, .string ⟨#[48]⟩, .string ⟨#[49, 50, 46, 53, 48]⟩, .string ⟨#[97, 98, 58]⟩, .string ⟨#[58]⟩, .string ⟨#[97, 45, 98, 58, 99, 46, 100, 45, 101]⟩, .string ⟨#[115, 101, 108, 101, 99, 116]⟩, .string ⟨#[97]⟩, .string ⟨#[38, 38]⟩, .string ⟨#[94, 94]⟩, .string ⟨#[63]⟩, .string ⟨#[60]⟩, .string ⟨#[97, 49, 95, 98]⟩]
def ORow (k : Nat) : Prop := ∃ (a z : ByteArray) (n : Int), oneL[k]? = some (.string a) ∧ oneK[k]? = some (.int .i64 n) ∧ oneW[k]? = some (.string z) ∧ a.size ≤ 1000000 ∧ tokensL a.data.toList = ([(n, z.data.toList)], 0)
theorem oRow0 : ORow 0 := ⟨⟨#[60, 62]⟩, ⟨#[]⟩, 1, rfl, rfl, rfl, by decide, by decide +kernel⟩
theorem oRow1 : ORow 1 := ⟨⟨#[60, 97, 58, 98, 47, 99, 63, 100, 35, 101, 62]⟩, ⟨#[97, 58, 98, 47, 99, 63, 100, 35, 101]⟩, 1, rfl, rfl, rfl, by decide, by decide +kernel⟩
theorem oRow2 : ORow 2 := ⟨⟨#[95, 58, 98, 95, 49]⟩, ⟨#[98, 95, 49]⟩, 3, rfl, rfl, rfl, by decide, by decide +kernel⟩
theorem oRow3 : ORow 3 := ⟨⟨#[63, 97, 98, 99]⟩, ⟨#[97, 98, 99]⟩, 4, rfl, rfl, rfl, by decide, by decide +kernel⟩
theorem oRow4 : ORow 4 := ⟨⟨#[36, 120, 57]⟩, ⟨#[120, 57]⟩, 4, rfl, rfl, rfl, by decide, by decide +kernel⟩
theorem oRow5 : ORow 5 := ⟨⟨#[34, 97, 39, 98, 34]⟩, ⟨#[97, 39, 98]⟩, 5, rfl, rfl, rfl, by decide, by decide +kernel⟩
theorem oRow6 : ORow 6 := ⟨⟨#[39, 97, 34, 98, 39]⟩, ⟨#[97, 34, 98]⟩, 5, rfl, rfl, rfl, by decide, by decide +kernel⟩
theorem oRow7 : ORow 7 := ⟨⟨#[34, 92, 116, 92, 110, 92, 114, 92, 34, 92, 39, 92, 92, 34]⟩, ⟨#[9, 10, 13, 34, 39, 92]⟩, 5, rfl, rfl, rfl, by decide, by decide +kernel⟩
theorem oRow8 : ORow 8 := ⟨⟨#[64, 101, 110, 45, 103, 98]⟩, ⟨#[101, 110, 45, 103, 98]⟩, 6, rfl, rfl, rfl, by decide, by decide +kernel⟩
theorem oRow9 : ORow 9 := ⟨⟨#[48]⟩, ⟨#[48]⟩, 7, rfl, rfl, rfl, by decide, by decide +kernel⟩
theorem oRow10 : ORow 10 := ⟨⟨#[49, 50, 46, 53, 48]⟩, ⟨#[49, 50, 46, 53, 48]⟩, 7, rfl, rfl, rfl, by decide, by decide +kernel⟩
theorem oRow11 : ORow 11 := ⟨⟨#[97, 98, 58]⟩, ⟨#[97, 98, 58]⟩, 2, rfl, rfl, rfl, by decide, by decide +kernel⟩
theorem oRow12 : ORow 12 := ⟨⟨#[58]⟩, ⟨#[58]⟩, 2, rfl, rfl, rfl, by decide, by decide +kernel⟩
theorem oRow13 : ORow 13 := ⟨⟨#[97, 45, 98, 58, 99, 46, 100, 45, 101]⟩, ⟨#[97, 45, 98, 58, 99, 46, 100, 45, 101]⟩, 2, rfl, rfl, rfl, by decide, by decide +kernel⟩
theorem oRow14 : ORow 14 := ⟨⟨#[115, 101, 108, 101, 99, 116]⟩, ⟨#[115, 101, 108, 101, 99, 116]⟩, 8, rfl, rfl, rfl, by decide, by decide +kernel⟩
theorem oRow15 : ORow 15 := ⟨⟨#[97]⟩, ⟨#[97]⟩, 8, rfl, rfl, rfl, by decide, by decide +kernel⟩
theorem oRow16 : ORow 16 := ⟨⟨#[38, 38]⟩, ⟨#[38, 38]⟩, 9, rfl, rfl, rfl, by decide, by decide +kernel⟩
theorem oRow17 : ORow 17 := ⟨⟨#[94, 94]⟩, ⟨#[94, 94]⟩, 9, rfl, rfl, rfl, by decide, by decide +kernel⟩
theorem oRow18 : ORow 18 := ⟨⟨#[63]⟩, ⟨#[63]⟩, 9, rfl, rfl, rfl, by decide, by decide +kernel⟩
theorem oRow19 : ORow 19 := ⟨⟨#[60]⟩, ⟨#[60]⟩, 9, rfl, rfl, rfl, by decide, by decide +kernel⟩
theorem oRow20 : ORow 20 := ⟨⟨#[97, 49, 95, 98]⟩, ⟨#[97, 49, 95, 98]⟩, 8, rfl, rfl, rfl, by decide, by decide +kernel⟩
theorem oRow_row (k : Nat) (hk : k < 21) : ORow k := by
  obtain rfl | hk0 : k = 0 ∨ k ≠ 0 := by omega
  · exact oRow0
  obtain rfl | hk1 : k = 1 ∨ k ≠ 1 := by omega
  · exact oRow1
  obtain rfl | hk2 : k = 2 ∨ k ≠ 2 := by omega
  · exact oRow2
  obtain rfl | hk3 : k = 3 ∨ k ≠ 3 := by omega
  · exact oRow3
  obtain rfl | hk4 : k = 4 ∨ k ≠ 4 := by omega
  · exact oRow4
  obtain rfl | hk5 : k = 5 ∨ k ≠ 5 := by omega
  · exact oRow5
  obtain rfl | hk6 : k = 6 ∨ k ≠ 6 := by omega
  · exact oRow6
  obtain rfl | hk7 : k = 7 ∨ k ≠ 7 := by omega
  · exact oRow7
  obtain rfl | hk8 : k = 8 ∨ k ≠ 8 := by omega
  · exact oRow8
  obtain rfl | hk9 : k = 9 ∨ k ≠ 9 := by omega
  · exact oRow9
  obtain rfl | hk10 : k = 10 ∨ k ≠ 10 := by omega
  · exact oRow10
  obtain rfl | hk11 : k = 11 ∨ k ≠ 11 := by omega
  · exact oRow11
  obtain rfl | hk12 : k = 12 ∨ k ≠ 12 := by omega
  · exact oRow12
  obtain rfl | hk13 : k = 13 ∨ k ≠ 13 := by omega
  · exact oRow13
  obtain rfl | hk14 : k = 14 ∨ k ≠ 14 := by omega
  · exact oRow14
  obtain rfl | hk15 : k = 15 ∨ k ≠ 15 := by omega
  · exact oRow15
  obtain rfl | hk16 : k = 16 ∨ k ≠ 16 := by omega
  · exact oRow16
  obtain rfl | hk17 : k = 17 ∨ k ≠ 17 := by omega
  · exact oRow17
  obtain rfl | hk18 : k = 18 ∨ k ≠ 18 := by omega
  · exact oRow18
  obtain rfl | hk19 : k = 19 ∨ k ≠ 19 := by omega
  · exact oRow19
  obtain rfl : k = 20 := by omega
  exact oRow20
def badL : Array Value := #[.string ⟨#[34, 97]⟩, .string ⟨#[39, 97, 10, 39]⟩, .string ⟨#[34, 92, 113, 34]⟩, .string ⟨#[95, 58]⟩, .string ⟨#[64]⟩, .string ⟨#[36]⟩, .string ⟨#[92]⟩, .string ⟨#[38]⟩, .string ⟨#[37]⟩, .string ⟨#[34, 97, 92]⟩, .string ⟨#[95]⟩, .string ⟨#[195, 169]⟩]
def BRow (k : Nat) : Prop := ∃ a : ByteArray, badL[k]? = some (.string a) ∧ a.size ≤ 100 ∧ tokensL (97 :: 32 :: a.data.toList) = ([], 6)
theorem bRow0 : BRow 0 := ⟨⟨#[34, 97]⟩, rfl, by decide, by decide +kernel⟩
theorem bRow1 : BRow 1 := ⟨⟨#[39, 97, 10, 39]⟩, rfl, by decide, by decide +kernel⟩
theorem bRow2 : BRow 2 := ⟨⟨#[34, 92, 113, 34]⟩, rfl, by decide, by decide +kernel⟩
theorem bRow3 : BRow 3 := ⟨⟨#[95, 58]⟩, rfl, by decide, by decide +kernel⟩
theorem bRow4 : BRow 4 := ⟨⟨#[64]⟩, rfl, by decide, by decide +kernel⟩
theorem bRow5 : BRow 5 := ⟨⟨#[36]⟩, rfl, by decide, by decide +kernel⟩
theorem bRow6 : BRow 6 := ⟨⟨#[92]⟩, rfl, by decide, by decide +kernel⟩
theorem bRow7 : BRow 7 := ⟨⟨#[38]⟩, rfl, by decide, by decide +kernel⟩
theorem bRow8 : BRow 8 := ⟨⟨#[37]⟩, rfl, by decide, by decide +kernel⟩
theorem bRow9 : BRow 9 := ⟨⟨#[34, 97, 92]⟩, rfl, by decide, by decide +kernel⟩
theorem bRow10 : BRow 10 := ⟨⟨#[95]⟩, rfl, by decide, by decide +kernel⟩
theorem bRow11 : BRow 11 := ⟨⟨#[195, 169]⟩, rfl, by decide, by decide +kernel⟩
theorem bRow_row (k : Nat) (hk : k < 12) : BRow k := by
  obtain rfl | hk0 : k = 0 ∨ k ≠ 0 := by omega
  · exact bRow0
  obtain rfl | hk1 : k = 1 ∨ k ≠ 1 := by omega
  · exact bRow1
  obtain rfl | hk2 : k = 2 ∨ k ≠ 2 := by omega
  · exact bRow2
  obtain rfl | hk3 : k = 3 ∨ k ≠ 3 := by omega
  · exact bRow3
  obtain rfl | hk4 : k = 4 ∨ k ≠ 4 := by omega
  · exact bRow4
  obtain rfl | hk5 : k = 5 ∨ k ≠ 5 := by omega
  · exact bRow5
  obtain rfl | hk6 : k = 6 ∨ k ≠ 6 := by omega
  · exact bRow6
  obtain rfl | hk7 : k = 7 ∨ k ≠ 7 := by omega
  · exact bRow7
  obtain rfl | hk8 : k = 8 ∨ k ≠ 8 := by omega
  · exact bRow8
  obtain rfl | hk9 : k = 9 ∨ k ≠ 9 := by omega
  · exact bRow9
  obtain rfl | hk10 : k = 10 ∨ k ≠ 10 := by omega
  · exact bRow10
  obtain rfl : k = 11 := by omega
  exact bRow11
theorem equal_tok (k k2 : Int) (s s2 : ByteArray) (w : World) : (Op.equalIn 9999 36 (.agg #[.int .i64 k, .string s]) (.agg #[.int .i64 k2, .string s2])).run Tryd.prog w = .ok (k == k2 && s.toList == s2.toList) w := by
  cases h1 : k == k2 <;> cases h2 : s.toList == s2.toList
  all_goals go_simp
set_option maxHeartbeats 4000000 in
theorem one11_walk (x : Int) (w : World) (hL : LexAt w) : Calls Tryd.prog 4 #[.int .i64 x] w fun e w' => e = .returned (.bool true) ∧ Below w.heap.size w w' := by
  have HK := Lib.hid (known11_any w hL)
  have HW := Lib.hid (fun w => within11_eq x 21 (by omega) (by omega) w)
  obtain ⟨k, hk⟩ : ∃ k : Nat, x % 21 = (k : Int) := ⟨(x % 21).toNat, by omega⟩
  have hk21 : k < 21 := by omega
  rw [hk] at HW
  obtain ⟨a, z, n, ha, hn, hz, hs, htk⟩ := oRow_row k hk21
  have HLA := Lib.hid (fun w' (hb : Below w.heap.size w w') => hL.below hb)
  have HTK := Lib.hid (fun w (h : LexAt w) => tokens11 a hs w h.1 h.2)
  rw [htk] at HTK
  have hki : (k : Int) < 21 := by omega
  clear hk htk hs hL
  go_enter Tryd.func4, Tryd.ntmps4
  go_wp2_with fail
  refine HK.out.mono ?_
  rintro e w1 ⟨rfl, hb1⟩
  go_wp2_with fail
  have hB1 : Blk (((w1.alloc (.cells oneL 9)).alloc (.cells oneK 3)).alloc (.cells oneW 9)) w1.heap.size oneL 9 := ((Blk.new w1 oneL _).alloc _).alloc _
  have hB2 : Blk (((w1.alloc (.cells oneL 9)).alloc (.cells oneK 3)).alloc (.cells oneW 9)) (w1.heap.size + 1) oneK 3 := by
    have := (Blk.new (w1.alloc (.cells oneL 9)) oneK 3).alloc (.cells oneW 9)
    rw [show (w1.alloc (.cells oneL 9)).heap.size = w1.heap.size + 1 by simp] at this
    exact this
  have hB3 : Blk (((w1.alloc (.cells oneL 9)).alloc (.cells oneK 3)).alloc (.cells oneW 9)) (w1.heap.size + 2) oneW 9 := by
    have := Blk.new ((w1.alloc (.cells oneL 9)).alloc (.cells oneK 3)) oneW 9
    rw [show ((w1.alloc (.cells oneL 9)).alloc (.cells oneK 3)).heap.size = w1.heap.size + 2 by simp] at this
    exact this
  have hbel : Below w.heap.size w (((w1.alloc (.cells oneL 9)).alloc (.cells oneK 3)).alloc (.cells oneW 9)) := ((hb1.alloc hb1.size _).alloc (by have := hb1.size; simp; omega) _).alloc (by have := hb1.size; simp; omega) _
  have hca := hB1.cell k
  have hck := hB2.cell k
  have hcz := hB3.cell k
  rw [ha] at hca
  rw [hn] at hck
  rw [hz] at hcz
  have hG1 := hB1.lt
  have hG2 := hB2.lt
  have hG3 := hB3.lt
  generalize hG : w1.heap.size = G at hca hck hcz hB1 hB2 hB3 hG1 hG2 hG3 ⊢
  generalize hWW : World.alloc (World.alloc (World.alloc w1 _) _) _ = w2
  have hWW2 : ((w1.alloc (.cells oneL 9)).alloc (.cells oneK 3)).alloc (.cells oneW 9) = w2 := hWW
  rw [hWW2] at hca hck hcz hB1 hB2 hB3 hbel hG1 hG2 hG3
  refine (HW.out _).mono ?_
  rintro e w3 ⟨rfl, hw⟩
  obtain rfl := hw.symm
  clear hw hWW hWW2 hB1 hB2 hB3
  have HBL := Lib.hid hbel
  have HC := Lib.hid (And.intro hck hcz)
  have HG := Lib.hid (And.intro hG2 hG3)
  clear hbel hck hcz hG1 hG2 hG3
  go_wp2_with fail
  refine (HTK.out _ (HLA.out _ HBL.out)).mono ?_
  intro e w5 h
  unfold TksTo at h
  obtain ⟨ao, cap, rfl, hb, ho, -⟩ := h
  obtain ⟨g, rfl, hg, hc⟩ := ho.at (by simp)
  have c0 := (hc 0 _ rfl).1
  have c1 := (hc 0 _ rfl).2
  rw [show (⟨z.data.toList.toArray⟩ : ByteArray) = z from (ba_eta z).symm] at c1
  simp only [Nat.mul_zero, Nat.zero_add] at c0 c1
  have hck := (hb.cell (p := ⟨G + 1, k, none⟩) HG.out.1).trans HC.out.1
  have hcz := (hb.cell (p := ⟨G + 2, k, none⟩) HG.out.2).trans HC.out.2
  have hbe := HBL.out.trans (hb.mono HBL.out.size)
  have HBE := Lib.hid hbe
  have heq := fun w => equal_tok n n z z w
  rw [show (n == n && z.toList == z.toList) = true by simp] at heq
  clear hc ho hb hbe ha hn hz
  go_wp2_with fail
  go_quiet (fail)
  go_wp2_with fail
  go_ret
  exact ⟨rfl, HBE.out.trans (draws_t _ _ |>.mono HBE.out.size)⟩
theorem bs_zeros (w : World) (m : Nat) (hm : m ≤ 1000000) : Bs (w.alloc (.cells (vbs (List.replicate m 0)).toArray 5)) (.slice (some ⟨w.heap.size, 0, none⟩) m m) (List.replicate m 0) := by
  refine ⟨some ⟨w.heap.size, 0, none⟩, m, by rw [List.length_replicate], by rw [List.length_replicate]; exact Nat.le_refl _, Nat.le_trans hm (by decide), (fun h => by cases h), fun ad had j u hu => ?_⟩
  cases had
  rw [Addr.add_mid, Nat.zero_add, World.cell?_alloc_new]
  simpa using hu
theorem made_u8 (n : Nat) : madeCells #[.int .u8 0] (n * 1) = (vbs (List.replicate n 0)).toArray := by
  apply Array.ext'
  rw [Nat.mul_one, toList_madeCells_one]
  simp [vbs, vb]
theorem run_make_u8 (n : Nat) (hn : n ≤ 5000) (w : World) :
    (Instr.makeSlice 40 (.int .i64 (n : Int)) (.int .i64 (n : Int))).run Tryd.prog w = .ok (.slice (some ⟨w.heap.size, 0, none⟩) n n) (w.alloc (.cells (vbs (List.replicate n 0)).toArray 5)) := by
  obtain ⟨i0, hi, hz0, hz1, hz2⟩ := info_parts Tryd.infoU8
  have h := run_make (P := Tryd.prog) w 40 5 i0 (.int .u8 0) Tryd.underlying40 hi hz0 .i64 .i64 n n (by omega) (Int.le_refl _) (by rw [hz2]; omega) (by omega)
  simp only [Int.toNat_natCast, hz1] at h
  rw [h, ← made_u8]
  rfl
set_option maxHeartbeats 4000000 in
theorem bad11_walk (x y : Int) (w : World) (hL : LexAt w) : Calls Tryd.prog 6 #[.int .i64 x, .int .i64 y] w fun e w' => e = .returned (.bool true) ∧ Below w.heap.size w w' := by
  have HK := Lib.hid (known11_any w hL)
  have HW := Lib.hid (fun w => within11_eq x 12 (by omega) (by omega) w)
  obtain ⟨k, hk⟩ : ∃ k : Nat, x % 12 = (k : Int) := ⟨(x % 12).toNat, by omega⟩
  have hk12 : k < 12 := by omega
  rw [hk] at HW
  have HW2 := Lib.hid (fun w => within11_eq y 9 (by omega) (by omega) w)
  obtain ⟨m, hm⟩ : ∃ m : Nat, y % 9 = (m : Int) := ⟨(y % 9).toNat, by omega⟩
  have hm9 : m < 9 := by omega
  rw [hm] at HW2
  obtain ⟨a, ha, hs, htk⟩ := bRow_row k hk12
  obtain ⟨aa, haa⟩ : ∃ q : ByteArray, (⟨#[97, 32]⟩ : ByteArray) ++ a = q := ⟨_, rfl⟩
  have haal : aa.data.toList = 97 :: 32 :: a.data.toList := by rw [← haa]; simp
  have HLA := Lib.hid (fun w' (hb : Below w.heap.size w w') => hL.below hb)
  have HTK := Lib.hid (fun w (h : LexAt w) => tokens11 aa (by rw [Lib.size_eq, haal]; simp only [List.length_cons, ← Lib.size_eq]; omega) w h.1 h.2)
  rw [haal, htk] at HTK
  obtain ⟨n, hn⟩ : ∃ n, n = 4001 + m := ⟨_, rfl⟩
  have hn0 : n ≤ 4010 := by omega
  have hn4 : 4000 < n := by omega
  have hni : (4001 : Int) + (m : Int) = (n : Int) := by omega
  have hnw : IntKind.i64.wrap (n : Int) = (n : Int) := Go.wrap_small _ (by omega) (by omega)
  obtain ⟨uu, huu⟩ : ∃ q : ByteArray, q = ⟨(List.replicate n 0).toArray⟩ := ⟨_, rfl⟩
  have huul : uu.data.toList = List.replicate n 0 := by rw [huu]
  have HTU := Lib.hid (fun w (h : LexAt w) => tokens11 uu (by rw [Lib.size_eq, huul, List.length_replicate]; omega) w h.1 h.2)
  rw [show tokensL uu.data.toList = ([], 5) from by unfold tokensL; rw [huul, List.length_replicate, if_pos hn4]] at HTU
  have HBS := Lib.hid (fun w => bs_zeros w n (by omega))
  have hki : (k : Int) < 12 := by omega
  have t2 : ¬ 9223372036854775807 < (⟨#[97, 32]⟩ : ByteArray).size + a.size := by rw [show (⟨#[97, 32]⟩ : ByteArray).size = 2 from rfl]; omega
  have t3 : ¬ 9223372036854775807 < 2 + a.size := by omega
  have HUU := Lib.hid huu
  have HN0 := Lib.hid hn0
  clear hk htk hs hL hm haal huul hn hm9 huu hn0 hn4
  go_enter Tryd.func6, Tryd.ntmps6
  go_wp2_with fail
  refine HK.out.mono ?_
  rintro e w1 ⟨rfl, hb1⟩
  go_wp2_with fail
  have hB1 : Blk (w1.alloc (.cells badL 9)) w1.heap.size badL 9 := Blk.new w1 badL _
  have hbel : Below w.heap.size w (w1.alloc (.cells badL 9)) := hb1.alloc hb1.size _
  have hca := hB1.cell k
  rw [ha] at hca
  generalize hG : w1.heap.size = G at hca hB1 ⊢
  generalize hWW : World.alloc w1 _ = w2
  have hWW2 : w1.alloc (.cells badL 9) = w2 := hWW
  rw [hWW2] at hca hB1 hbel
  refine (HW.out _).mono ?_
  rintro e w3 ⟨rfl, hw⟩
  obtain rfl := hw.symm
  clear hw hWW hWW2 hB1
  have HBL := Lib.hid hbel
  clear hbel ha
  go_wp2_with fail
  refine (HTK.out _ (HLA.out _ HBL.out)).mono ?_
  intro e w5 h
  unfold TksTo at h
  obtain ⟨ao, cap, rfl, hb, ho, -⟩ := h
  have HB5 := Lib.hid (HBL.out.trans (hb.mono HBL.out.size))
  clear ho hb hca
  go_wp2_with fail
  refine (HW2.out _).mono ?_
  rintro e w6 ⟨rfl, hw⟩
  obtain rfl := hw.symm
  clear hw
  have hmk := run_make_u8 n (Nat.le_trans HN0.out (by decide)) w5
  have hcv := run_conv_bytes (HBS.out w5)
  rw [← HUU.out] at hcv
  have HB6 := Lib.hid (HB5.out.alloc HB5.out.size (.cells (vbs (List.replicate n 0)).toArray 5))
  go_wp2_with fail
  refine (HTU.out _ (HLA.out _ HB6.out)).mono ?_
  intro e w7 h
  unfold TksTo at h
  obtain ⟨ao2, cap2, rfl, hb, ho, -⟩ := h
  have HB7 := Lib.hid (HB6.out.trans (hb.mono HB6.out.size))
  clear ho hb hcv hmk
  go_wp2_with fail
  go_ret
  exact ⟨rfl, HB7.out⟩
end Go.Proofs.YtmeoleacfkbilaaDoor
