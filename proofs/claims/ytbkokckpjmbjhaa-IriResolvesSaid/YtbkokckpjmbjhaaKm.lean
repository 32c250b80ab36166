/- References: known, within, and the walk of IriKnown. -/
import Derived.Test.YtbkokckpjmbjhaaKk
import Derived.Deep.RegionLaw
namespace Go.Proofs.Ytbkokckpjmbjhaa
open Go.RowKit Go.Shelf
set_option maxRecDepth 100000
set_option linter.unusedVariables false
theorem within10_eq (a n : Int) (hn : 0 < n) (hn2 : n ≤ 4611686018427387904) (w : World) :
    Calls Try.prog 13 #[.int .i64 a, .int .i64 n] w fun e w' => e = .returned (.int .i64 (a % n)) ∧ w' = w := by
  have h1 := Int.tmod_lt_of_pos a hn
  have h2 : -n < a.tmod n := Int.lt_tmod_of_pos a hn
  have hz : (n == 0) = false := by simpa using (by omega : n ≠ 0)
  have he : a % n = if a.tmod n < 0 then a.tmod n + n else a.tmod n := by
    rw [Int.tmod_eq_emod]
    have h3 := Int.emod_nonneg a (show n ≠ 0 by omega)
    have h4 := Int.emod_lt_of_pos a hn
    have h5 : ((Int.natAbs n : Nat) : Int) = n := by omega
    by_cases h0 : 0 ≤ a ∨ n ∣ a
    · rw [if_pos h0]; split <;> omega
    · rw [if_neg h0, h5]; split <;> omega
  have HE := Lib.hid he
  clear he
  by_cases h0 : a.tmod n < 0
  · go_enter Try.func13, Try.ntmps13
    go_wp2
    go_ret
    exact ⟨by rw [HE.out, if_pos h0]; rfl, rfl⟩
  · go_enter Try.func13, Try.ntmps13
    go_wp2
    go_ret
    exact ⟨by rw [HE.out, if_neg (by omega)]; rfl, rfl⟩
theorem known10_eq : ([104, 116, 116, 112, 58, 47, 47, 97, 47, 98, 47, 103] : List UInt8) = resolveL (splitL [104, 116, 116, 112, 58, 47, 47, 97, 47, 98, 47, 99, 47, 100]) (splitL [46, 46, 47, 103]) := by decide +kernel
theorem known10_any (w : World) : Calls Try.prog 7 #[] w fun e w' => e = .returned (.bool true) ∧ Below w.heap.size w w' := by
  have HR := Lib.hid (fun w => iresolve_any ⟨#[104, 116, 116, 112, 58, 47, 47, 97, 47, 98, 47, 99, 47, 100]⟩ ⟨#[46, 46, 47, 103]⟩ (by decide) (by decide) (marksAt_ascii (by decide)) (marksAt_ascii (by decide)) ⟨#[104, 116, 116, 112, 58, 47, 47, 97, 47, 98, 47, 103]⟩ known10_eq w)
  go_enter Try.func7, Try.ntmps7
  go_wp2_with fail
  refine (HR.out _).mono ?_
  rintro e w1 ⟨rfl, hb⟩
  go_wp2_with fail
  go_ret
  exact ⟨rfl, hb⟩
def knownL : Array Value := #[.string ⟨#[103, 58, 104]⟩, .string ⟨#[103]⟩, .string ⟨#[46, 47, 103]⟩, .string ⟨#[103, 47]⟩, .string ⟨#[47, 103]⟩, .string ⟨#[47, 47, 103]⟩, .string ⟨#[63, 121]⟩, .string ⟨#[103, 63, 121]⟩, .string ⟨#[35, 115]⟩, .string ⟨#[103, 35, 115]⟩, .string ⟨#[103, 63, 121, 35, 115]⟩, .string ⟨#[59, 120]⟩, .string ⟨#[103, 59, 120]⟩, .string ⟨#[]⟩, .string ⟨#[46]⟩, .string ⟨#[46, 47]⟩, .string ⟨#[46, 46]⟩, .string ⟨#[46, 46, 47]⟩, .string ⟨#[46, 46, 47, 103]⟩, .string ⟨#[46, 46, 47, 46, 46]⟩, .string ⟨#[46, 46, 47, 46, 46, 47]⟩, .string ⟨#[46, 46, 47, 46, 46, 47, 103]⟩, .string ⟨#[46, 46, 47, 46, 46, 47, 46, 46, 47, 103]⟩, .string ⟨#[47, 46, 47, 103]⟩, .string ⟨#[47, 46, 46, 47, 103]⟩, .string ⟨#[103, 46]⟩, .string ⟨#[46, 103]⟩, .string ⟨#[103, 46, 46]⟩, .string ⟨#[46, 46, 103]⟩, .string ⟨#[46, 47, 46, 46, 47, 103]⟩, .string ⟨#[46, 47, 103, 47, 46]⟩, .string ⟨#[103, 47, 46, 47, 104]⟩, .string ⟨#[103, 47, 46, 46, 47, 104]⟩, .string ⟨#[103, 59, 120, 61, 49, 47, 46, 46, 47, 121]⟩, .string ⟨#[103, 63, 121, 47, 46, 46, 47, 120]⟩, .string ⟨#[103, 35, 115, 47, 46, 46, 47, 120]⟩]
def knownW : Array Value := #[.string ⟨#[103, 58, 104]⟩, .string ⟨#[104, 116, 116, 112, 58, 47, 47, 97, 47, 98, 47, 99, 47, 103]⟩, .string ⟨#[104, 116, 116, 112, 58, 47, 47, 97, 47, 98, 47, 99, 47, 103]⟩, .string ⟨#[104, 116, 116, 112, 58, 47, 47, 97, 47, 98, 47, 99, 47, 103, 47]⟩, .string ⟨#[104, 116, 116, 112, 58, 47, 47, 97, 47, 103]⟩, .string ⟨#[104, 116, 116, 112, 58, 47, 47, 103]⟩, .string ⟨#[104, 116, 116, 112, 58, 47, 47, 97, 47, 98, 47, 99, 47, 100, 59, 112, 63, 121]⟩, .string ⟨#[104, 116, 116, 112, 58, 47, 47, 97, 47, 98, 47, 99, 47, 103, 63, 121]⟩, .string ⟨#[104, 116, 116, 112, 58, 47, 47, 97, 47, 98, 47, 99, 47, 100, 59, 112, 63, 113, 35, 115]⟩, .string ⟨#[104, 116, 116, 112, 58, 47, 47, 97, 47, 98, 47, 99, 47, 103, 35, 115]⟩, .string ⟨#[104, 116, 116, 112, 58, 47, 47, 97, 47, 98, 47, 99, 47, 103, 63, 121, 35, 115]⟩, .string ⟨#[104, 116, 116, 112, 58, 47, 47, 97, 47, 98, 47, 99, 47, 59, 120]⟩, .string ⟨#[104, 116, 116, 112, 58, 47, 47, 97, 47, 98, 47, 99, 47, 103, 59, 120]⟩, .string ⟨#[104, 116, 116, 112, 58, 47, 47, 97, 47, 98, 47, 99, 47, 100, 59, 112, 63, 113]⟩, .string ⟨#[104, 116, 116, 112, 58, 47, 47, 97, 47, 98, 47, 99, 47]⟩, .string ⟨#[104, 116, 116, 112, 58, 47, 47, 97, 47, 98, 47, 99, 47]⟩, .string ⟨#[104, 116, 116, 112, 58, 47, 47, 97, 47, 98, 47]⟩, .string ⟨#[104, 116, 116, 112, 58, 47, 47, 97, 47, 98, 47]⟩, .string ⟨#[104, 116, 116, 112, 58, 47, 47, 97, 47, 98, 47, 103]⟩, .string ⟨#[104, 116, 116, 112, 58, 47, 47, 97, 47]⟩, .string ⟨#[104, 116, 116, 112, 58, 47, 47, 97, 47]⟩, .string ⟨#[104, 116, 116, 112, 58, 47, 47, 97, 47, 103]⟩, .string ⟨#[104, 116, 116, 112, 58, 47, 47, 97, 47, 103]⟩, .string ⟨#[104, 116, 116, 112, 58, 47, 47, 97, 47, 103]⟩, .string ⟨#[104, 116, 116, 112, 58, 47, 47, 97, 47, 103]⟩, .string ⟨#[104, 116, 116, 112, 58, 47, 47, 97, 47, 98, 47, 99, 47, 103, 46]⟩, .string ⟨#[104, 116, 116, 112, 58, 47, 47, 97, 47, 98, 47, 99, 47, 46, 103]⟩, .string ⟨#[104, 116, 116, 112, 58, 47, 47, 97, 47, 98, 47, 99, 47, 103, 46, 46]⟩, .string ⟨#[104, 116, 116, 112, 58, 47, 47, 97, 47, 98, 47, 99, 47, 46, 46, 103]⟩, .string ⟨#[104, 116, 116, 112, 58, 47, 47, 97, 47, 98, 47, 103]⟩, .string ⟨#[104, 116, 116, 112, 58, 47, 47, 97, 47, 98, 47, 99, 47, 103, 47]⟩, .string ⟨#[104, 116, 116, 112, 58, 47, 47, 97, 47, 98, 47, 99, 47, 103, 47, 104]⟩, .string ⟨#[104, 116, 116, 112, 58, 47, 47, 97, 47, 98, 47, 99, 47, 104]⟩, .string ⟨#[104, 116, 116, 112, 58, 47, 47, 97, 47, 98, 47, 99, 47, 121]⟩, .string ⟨#[104, 116, 116, 112, 58, 47, 47, 97, 47, 98, 47, 99, 47, 103, 63, 121, 47, 46, 46, 47, 120]⟩, .string ⟨#[104, 116, 116, 112, 58, 47, 47, 97, 47, 98, 47, 99, 47, 103, 35, 115, 47, 46, 46, 47, 120]⟩]
def baseB : ByteArray := ⟨#[104, 116, 116, 112, 58, 47, 47, 97, 47, 98, 47, 99, 47, 100, 59, 112, 63, 113]⟩
def KRow (k : Nat) : Prop := ∃ a z : ByteArray, knownL[k]? = some (.string a) ∧ knownW[k]? = some (.string z) ∧ a.size ≤ 100 ∧ (∀ c ∈ a.data.toList, c.toNat < 128) ∧ z.data.toList = resolveL (splitL baseB.data.toList) (splitL a.data.toList)
theorem krow_of (k : Nat) (a z : ByteArray) (h1 : knownL[k]? = some (.string a)) (h2 : knownW[k]? = some (.string z)) (h3 : a.size ≤ 100) (h4 : (a.data.toList.all fun c => decide (c.toNat < 128)) = true) (h5 : z.data.toList = resolveL (splitL baseB.data.toList) (splitL a.data.toList)) : KRow k :=
  ⟨a, z, h1, h2, h3, fun c hc => of_decide_eq_true (List.all_eq_true.1 h4 c hc), h5⟩
theorem krow0 : KRow 0 := krow_of 0 ⟨#[103, 58, 104]⟩ ⟨#[103, 58, 104]⟩ rfl rfl (by decide) (by decide) (by decide +kernel)
theorem krow1 : KRow 1 := krow_of 1 ⟨#[103]⟩ ⟨#[104, 116, 116, 112, 58, 47, 47, 97, 47, 98, 47, 99, 47, 103]⟩ rfl rfl (by decide) (by decide) (by decide +kernel)
theorem krow2 : KRow 2 := krow_of 2 ⟨#[46, 47, 103]⟩ ⟨#[104, 116, 116, 112, 58, 47, 47, 97, 47, 98, 47, 99, 47, 103]⟩ rfl rfl (by decide) (by decide) (by decide +kernel)
theorem krow3 : KRow 3 := krow_of 3 ⟨#[103, 47]⟩ ⟨#[104, 116, 116, 112, 58, 47, 47, 97, 47, 98, 47, 99, 47, 103, 47]⟩ rfl rfl (by decide) (by decide) (by decide +kernel)
theorem krow4 : KRow 4 := krow_of 4 ⟨#[47, 103]⟩ ⟨#[104, 116, 116, 112, 58, 47, 47, 97, 47, 103]⟩ rfl rfl (by decide) (by decide) (by decide +kernel)
theorem krow5 : KRow 5 := krow_of 5 ⟨#[47, 47, 103]⟩ ⟨#[104, 116, 116, 112, 58, 47, 47, 103]⟩ rfl rfl (by decide) (by decide) (by decide +kernel)
theorem krow6 : KRow 6 := krow_of 6 ⟨#[63, 121]⟩ ⟨#[104, 116, 116, 112, 58, 47, 47, 97, 47, 98, 47, 99, 47, 100, 59, 112, 63, 121]⟩ rfl rfl (by decide) (by decide) (by decide +kernel)
theorem krow7 : KRow 7 := krow_of 7 ⟨#[103, 63, 121]⟩ ⟨#[104, 116, 116, 112, 58, 47, 47, 97, 47, 98, 47, 99, 47, 103, 63, 121]⟩ rfl rfl (by decide) (by decide) (by decide +kernel)
theorem krow8 : KRow 8 := krow_of 8 ⟨#[35, 115]⟩ ⟨#[104, 116, 116, 112, 58, 47, 47, 97, 47, 98, 47, 99, 47, 100, 59, 112, 63, 113, 35, 115]⟩ rfl rfl (by decide) (by decide) (by decide +kernel)
theorem krow9 : KRow 9 := krow_of 9 ⟨#[103, 35, 115]⟩ ⟨#[104, 116, 116, 112, 58, 47, 47, 97, 47, 98, 47, 99, 47, 103, 35, 115]⟩ rfl rfl (by decide) (by decide) (by decide +kernel)
theorem krow10 : KRow 10 := krow_of 10 ⟨#[103, 63, 121, 35, 115]⟩ ⟨#[104, 116, 116, 112, 58, 47, 47, 97, 47, 98, 47, 99, 47, 103, 63, 121, 35, 115]⟩ rfl rfl (by decide) (by decide) (by decide +kernel)
theorem krow11 : KRow 11 := krow_of 11 ⟨#[59, 120]⟩ ⟨#[104, 116, 116, 112, 58, 47, 47, 97, 47, 98, 47, 99, 47, 59, 120]⟩ rfl rfl (by decide) (by decide) (by decide +kernel)
theorem krow12 : KRow 12 := krow_of 12 ⟨#[103, 59, 120]⟩ ⟨#[104, 116, 116, 112, 58, 47, 47, 97, 47, 98, 47, 99, 47, 103, 59, 120]⟩ rfl rfl (by decide) (by decide) (by decide +kernel)
theorem krow13 : KRow 13 := krow_of 13 ⟨#[]⟩ ⟨#[104, 116, 116, 112, 58, 47, 47, 97, 47, 98, 47, 99, 47, 100, 59, 112, 63, 113]⟩ rfl rfl (by decide) (by decide) (by decide +kernel)
theorem krow14 : KRow 14 := krow_of 14 ⟨#[46]⟩ ⟨#[104, 116, 116, 112, 58, 47, 47, 97, 47, 98, 47, 99, 47]⟩ rfl rfl (by decide) (by decide) (by decide +kernel)
theorem krow15 : KRow 15 := krow_of 15 ⟨#[46, 47]⟩ ⟨#[104, 116, 116, 112, 58, 47, 47, 97, 47, 98, 47, 99, 47]⟩ rfl rfl (by decide) (by decide) (by decide +kernel)
theorem krow16 : KRow 16 := krow_of 16 ⟨#[46, 46]⟩ ⟨#[104, 116, 116, 112, 58, 47, 47, 97, 47, 98, 47]⟩ rfl rfl (by decide) (by decide) (by decide +kernel)
theorem krow17 : KRow 17 := krow_of 17 ⟨#[46, 46, 47]⟩ ⟨#[104, 116, 116, 112, 58, 47, 47, 97, 47, 98, 47]⟩ rfl rfl (by decide) (by decide) (by decide +kernel)
theorem krow18 : KRow 18 := krow_of 18 ⟨#[46, 46, 47, 103]⟩ ⟨#[104, 116, 116, 112, 58, 47, 47, 97, 47, 98, 47, 103]⟩ rfl rfl (by decide) (by decide) (by decide +kernel)
theorem krow19 : KRow 19 := krow_of 19 ⟨#[46, 46, 47, 46, 46]⟩ ⟨#[104, 116, 116, 112, 58, 47, 47, 97, 47]⟩ rfl rfl (by decide) (by decide) (by decide +kernel)
theorem krow20 : KRow 20 := krow_of 20 ⟨#[46, 46, 47, 46, 46, 47]⟩ ⟨#[104, 116, 116, 112, 58, 47, 47, 97, 47]⟩ rfl rfl (by decide) (by decide) (by decide +kernel)
theorem krow21 : KRow 21 := krow_of 21 ⟨#[46, 46, 47, 46, 46, 47, 103]⟩ ⟨#[104, 116, 116, 112, 58, 47, 47, 97, 47, 103]⟩ rfl rfl (by decide) (by decide) (by decide +kernel)
theorem krow22 : KRow 22 := krow_of 22 ⟨#[46, 46, 47, 46, 46, 47, 46, 46, 47, 103]⟩ ⟨#[104, 116, 116, 112, 58, 47, 47, 97, 47, 103]⟩ rfl rfl (by decide) (by decide) (by decide +kernel)
theorem krow23 : KRow 23 := krow_of 23 ⟨#[47, 46, 47, 103]⟩ ⟨#[104, 116, 116, 112, 58, 47, 47, 97, 47, 103]⟩ rfl rfl (by decide) (by decide) (by decide +kernel)
theorem krow24 : KRow 24 := krow_of 24 ⟨#[47, 46, 46, 47, 103]⟩ ⟨#[104, 116, 116, 112, 58, 47, 47, 97, 47, 103]⟩ rfl rfl (by decide) (by decide) (by decide +kernel)
theorem krow25 : KRow 25 := krow_of 25 ⟨#[103, 46]⟩ ⟨#[104, 116, 116, 112, 58, 47, 47, 97, 47, 98, 47, 99, 47, 103, 46]⟩ rfl rfl (by decide) (by decide) (by decide +kernel)
theorem krow26 : KRow 26 := krow_of 26 ⟨#[46, 103]⟩ ⟨#[104, 116, 116, 112, 58, 47, 47, 97, 47, 98, 47, 99, 47, 46, 103]⟩ rfl rfl (by decide) (by decide) (by decide +kernel)
theorem krow27 : KRow 27 := krow_of 27 ⟨#[103, 46, 46]⟩ ⟨#[104, 116, 116, 112, 58, 47, 47, 97, 47, 98, 47, 99, 47, 103, 46, 46]⟩ rfl rfl (by decide) (by decide) (by decide +kernel)
theorem krow28 : KRow 28 := krow_of 28 ⟨#[46, 46, 103]⟩ ⟨#[104, 116, 116, 112, 58, 47, 47, 97, 47, 98, 47, 99, 47, 46, 46, 103]⟩ rfl rfl (by decide) (by decide) (by decide +kernel)
theorem krow29 : KRow 29 := krow_of 29 ⟨#[46, 47, 46, 46, 47, 103]⟩ ⟨#[104, 116, 116, 112, 58, 47, 47, 97, 47, 98, 47, 103]⟩ rfl rfl (by decide) (by decide) (by decide +kernel)
theorem krow30 : KRow 30 := krow_of 30 ⟨#[46, 47, 103, 47, 46]⟩ ⟨#[104, 116, 116, 112, 58, 47, 47, 97, 47, 98, 47, 99, 47, 103, 47]⟩ rfl rfl (by decide) (by decide) (by decide +kernel)
theorem krow31 : KRow 31 := krow_of 31 ⟨#[103, 47, 46, 47, 104]⟩ ⟨#[104, 116, 116, 112, 58, 47, 47, 97, 47, 98, 47, 99, 47, 103, 47, 104]⟩ rfl rfl (by decide) (by decide) (by decide +kernel)
theorem krow32 : KRow 32 := krow_of 32 ⟨#[103, 47, 46, 46, 47, 104]⟩ ⟨#[104, 116, 116, 112, 58, 47, 47, 97, 47, 98, 47, 99, 47, 104]⟩ rfl rfl (by decide) (by decide) (by decide +kernel)
theorem krow33 : KRow 33 := krow_of 33 ⟨#[103, 59, 120, 61, 49, 47, 46, 46, 47, 121]⟩ ⟨#[104, 116, 116, 112, 58, 47, 47, 97, 47, 98, 47, 99, 47, 121]⟩ rfl rfl (by decide) (by decide) (by decide +kernel)
theorem krow34 : KRow 34 := krow_of 34 ⟨#[103, 63, 121, 47, 46, 46, 47, 120]⟩ ⟨#[104, 116, 116, 112, 58, 47, 47, 97, 47, 98, 47, 99, 47, 103, 63, 121, 47, 46, 46, 47, 120]⟩ rfl rfl (by decide) (by decide) (by decide +kernel)
theorem krow35 : KRow 35 := krow_of 35 ⟨#[103, 35, 115, 47, 46, 46, 47, 120]⟩ ⟨#[104, 116, 116, 112, 58, 47, 47, 97, 47, 98, 47, 99, 47, 103, 35, 115, 47, 46, 46, 47, 120]⟩ rfl rfl (by decide) (by decide) (by decide +kernel)
theorem known_row (k : Nat) (hk : k < 36) : KRow k := by
  obtain rfl | hk0 : k = 0 ∨ k ≠ 0 := by omega
  · exact krow0
  obtain rfl | hk1 : k = 1 ∨ k ≠ 1 := by omega
  · exact krow1
  obtain rfl | hk2 : k = 2 ∨ k ≠ 2 := by omega
  · exact krow2
  obtain rfl | hk3 : k = 3 ∨ k ≠ 3 := by omega
  · exact krow3
  obtain rfl | hk4 : k = 4 ∨ k ≠ 4 := by omega
  · exact krow4
  obtain rfl | hk5 : k = 5 ∨ k ≠ 5 := by omega
  · exact krow5
  obtain rfl | hk6 : k = 6 ∨ k ≠ 6 := by omega
  · exact krow6
  obtain rfl | hk7 : k = 7 ∨ k ≠ 7 := by omega
  · exact krow7
  obtain rfl | hk8 : k = 8 ∨ k ≠ 8 := by omega
  · exact krow8
  obtain rfl | hk9 : k = 9 ∨ k ≠ 9 := by omega
  · exact krow9
  obtain rfl | hk10 : k = 10 ∨ k ≠ 10 := by omega
  · exact krow10
  obtain rfl | hk11 : k = 11 ∨ k ≠ 11 := by omega
  · exact krow11
  obtain rfl | hk12 : k = 12 ∨ k ≠ 12 := by omega
  · exact krow12
  obtain rfl | hk13 : k = 13 ∨ k ≠ 13 := by omega
  · exact krow13
  obtain rfl | hk14 : k = 14 ∨ k ≠ 14 := by omega
  · exact krow14
  obtain rfl | hk15 : k = 15 ∨ k ≠ 15 := by omega
  · exact krow15
  obtain rfl | hk16 : k = 16 ∨ k ≠ 16 := by omega
  · exact krow16
  obtain rfl | hk17 : k = 17 ∨ k ≠ 17 := by omega
  · exact krow17
  obtain rfl | hk18 : k = 18 ∨ k ≠ 18 := by omega
  · exact krow18
  obtain rfl | hk19 : k = 19 ∨ k ≠ 19 := by omega
  · exact krow19
  obtain rfl | hk20 : k = 20 ∨ k ≠ 20 := by omega
  · exact krow20
  obtain rfl | hk21 : k = 21 ∨ k ≠ 21 := by omega
  · exact krow21
  obtain rfl | hk22 : k = 22 ∨ k ≠ 22 := by omega
  · exact krow22
  obtain rfl | hk23 : k = 23 ∨ k ≠ 23 := by omega
  · exact krow23
  obtain rfl | hk24 : k = 24 ∨ k ≠ 24 := by omega
  · exact krow24
  obtain rfl | hk25 : k = 25 ∨ k ≠ 25 := by omega
  · exact krow25
  obtain rfl | hk26 : k = 26 ∨ k ≠ 26 := by omega
  · exact krow26
  obtain rfl | hk27 : k = 27 ∨ k ≠ 27 := by omega
  · exact krow27
  obtain rfl | hk28 : k = 28 ∨ k ≠ 28 := by omega
  · exact krow28
  obtain rfl | hk29 : k = 29 ∨ k ≠ 29 := by omega
  · exact krow29
  obtain rfl | hk30 : k = 30 ∨ k ≠ 30 := by omega
  · exact krow30
  obtain rfl | hk31 : k = 31 ∨ k ≠ 31 := by omega
  · exact krow31
  obtain rfl | hk32 : k = 32 ∨ k ≠ 32 := by omega
  · exact krow32
  obtain rfl | hk33 : k = 33 ∨ k ≠ 33 := by omega
  · exact krow33
  obtain rfl | hk34 : k = 34 ∨ k ≠ 34 := by omega
  · exact krow34
  obtain rfl | hk35 : k = 35 ∨ k ≠ 35 := by omega
  · exact krow35
  omega
end Go.Proofs.Ytbkokckpjmbjhaa
