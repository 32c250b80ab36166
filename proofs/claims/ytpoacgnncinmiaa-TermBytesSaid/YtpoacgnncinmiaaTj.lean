/- Terms: what the laws make: within, Few, letters. -/
import Derived.Test.YtpoacgnncinmiaaTg
namespace Go.Proofs.Ytpoacgnncinmiaa
open Go.RowKit
set_option maxRecDepth 100000

set_option maxHeartbeats 1000000 in
theorem within_any (x n : Int) (hn : 0 < n) (hn' : n ≤ 1000000) (hx : (Lit.int .i64 x).wf = true) (w : World) :
    Calls Try.prog 15 #[.int .i64 x, .int .i64 n] w fun e w' => e = .returned (.int .i64 (x % n)) ∧ w = w' := by
  have hr : -9223372036854775808 ≤ x ∧ x ≤ 9223372036854775807 := by
    simpa [Lit.wf, IntKind.min, IntKind.max, IntKind.signed, IntKind.bits] using hx
  have hne : (n == 0) = false := beq_eq_false_iff_ne.2 (by omega)
  have h2 := Int.emod_nonneg x (show n ≠ 0 by omega)
  have h3 := Int.emod_lt_of_pos x hn
  have hT : x.tmod n = x % n ∨ x.tmod n = x % n - n := by
    rw [Int.tmod_eq_emod]
    split <;> omega
  have HT := Lib.hid hT
  clear hT
  by_cases h0 : 0 ≤ x
  · go_enter Try.func15, Try.ntmps15
    go_wp2
    go_ret
    exact ⟨rfl, rfl⟩
  · go_enter Try.func15, Try.ntmps15
    go_wp2
    all_goals
      go_ret
      have hT := HT.out
      exact ⟨ret_int (by first | omega | (simp only [wrap64]; omega)), rfl⟩
def fewB (x : Tm) : Bool := decide (x.s.size ≤ 100) && decide (x.l.size ≤ 20) && decide (x.t.size ≤ 100)
set_option maxHeartbeats 1000000 in
theorem few_any (x : Tm) (w : World) :
    Calls Try.prog 11 #[x.val] w fun e w' => e = .returned (.bool (fewB x)) ∧ Below w.heap.size w w' := by
  obtain ⟨k, s, l, t⟩ := x
  unfold Tm.val fewB
  dsimp only
  by_cases h1 : s.size ≤ 100 <;> by_cases h2 : l.size ≤ 20 <;> by_cases h3 : t.size ≤ 100
  all_goals
    go_enter Try.func11, Try.ntmps11
    go_wp2
    go_ret
    refine ⟨ret_bool ?_, (Below.refl _ _).alloc (Nat.le_refl _) _⟩
    rw [Bool.eq_iff_iff]
    try simp
    try omega

/-- A byte as a letter; a text's first n bytes as letters. -/
def letB (c : UInt8) : UInt8 := UInt8.ofNat (97 + c.toNat % 5)
def letL (s : ByteArray) (n : Nat) : List UInt8 := (s.data.toList.take n).map letB
theorem letB_nat (c : UInt8) : (letB c).toNat = 97 + c.toNat % 5 := by
  unfold letB
  rw [UInt8.toNat_ofNat_of_lt']
  simp [UInt8.size]
  omega
set_option maxHeartbeats 2000000 in
theorem letters_any (s : ByteArray) (n : Nat) (hn : n ≤ 100) (_ : s.size ≤ maxLen) (w : World) :
    Calls Try.prog 26 #[.string s, .int .i64 n] w fun e w' => e = .returned (.string (bl (letL s n))) ∧ Below w.heap.size w w' := by
  go_enter Try.func26, Try.ntmps26
  go_wp2
  go_loopw [5, 6, 7, 8, 9, 10, 11, 12, 13, 14, 15, 16, 17, 18, 19, 20, 21, 22, 23, 24, 25, 26] (fun b i _ _ _ _ _ _ _ _ _ _ _ _ _ _ _ _ _ _ _ _ wr => ∃ k : Nat, k ≤ s.size ∧ k ≤ n ∧ i = .int .i64 k ∧ b = .string (bl ((s.data.toList.take k).map letB)) ∧ Below w.heap.size w wr) (fun _ i _ _ _ _ _ _ _ _ _ _ _ _ _ _ _ _ _ _ _ _ _ => s.size - (intOf i).toNat)
  case atStart => exact ⟨0, Nat.zero_le _, Nat.zero_le _, rfl, rfl, Below.refl _ _⟩
  case round =>
    obtain ⟨k, hk, hkn, rfl, rfl, hbel⟩ := hrel
    have hsz := hbel.size
    have hbz := bl_size ((s.data.toList.take k).map letB)
    have hOz : (bl ((s.data.toList.take k).map letB)).size ≤ 100 := by
      rw [hbz, List.length_map, List.length_take]; omega
    clear hbz
    generalize hO : bl ((s.data.toList.take k).map letB) = O at *
    have HO := Lib.hid hO
    have HBEL := Lib.hid hbel
    clear hO hbel
    by_cases hlt : k < s.size ∧ k < n
    · obtain ⟨hlt, hlt2⟩ := hlt
      obtain ⟨c, hc⟩ : ∃ c : UInt8, c = s[k] := ⟨_, rfl⟩
      have hix : s.data.toList[k]? = some c := by rw [hc]; simp [hlt]; rfl
      have hsn : (s.data.toList.take (k + 1)).map letB = (s.data.toList.take k).map letB ++ [letB c] := by
        obtain ⟨hk', he⟩ := List.getElem?_eq_some_iff.1 hix
        rw [List.take_succ_eq_append_getElem hk', List.map_append, he]; simp
      have HSN := Lib.hid hsn
      obtain ⟨m, hm, hm2⟩ := byte_cases c
      have hcn : s[k].toNat = m := by rw [hm, hc]
      have hv : Value.int .u8 (97 + (m : Int) % 5) = vb (letB c) := by unfold vb; rw [letB_nat, ← hm]; simp
      have HV := Lib.hid hv
      have hadd : ∀ w : World, (Op.stringOp .add O ⟨#[letB c]⟩).run Try.prog w = .ok (.string (O ++ ⟨#[letB c]⟩)) w := fun w => run_string_add_sum w _ _ (by show O.size + 1 ≤ _; omega)
      clear hm hc hix hsn hv
      go_wp2_with (refine wpList_conv rfl (.tmp 24) rfl _ _ rfl (Bs.one _ (letB c) _ HV.out) ?_)
      go_roundw
      case rel => exact ⟨k + 1, by omega, by omega, by go_num, congrArg Value.string (ba_ext (by rw [bl_toList, HSN.out, ba_app, ← HO.out]; rfl)), HBEL.out.alloc hsz _⟩
      case measure => simp [intOf]; omega
    · have hkk : letL s n = (s.data.toList.take k).map letB := by
        unfold letL
        congr 1
        by_cases h : k = n
        · rw [h]
        · have h2 : k = s.size := by omega
          have hl : s.data.toList.length = s.size := by simp
          rw [List.take_of_length_le (by omega), List.take_of_length_le (by omega)]
      have HKK := Lib.hid hkk
      clear hkk
      by_cases h1 : k < s.size
      · have h2 : ¬ k < n := by omega
        go_wp2_with fail
        go_ret
        exact ⟨ret_str (by rw [HKK.out, HO.out]), HBEL.out⟩
      · go_wp2_with fail
        go_ret
        exact ⟨ret_str (by rw [HKK.out, HO.out]), HBEL.out⟩
end Go.Proofs.Ytpoacgnncinmiaa
