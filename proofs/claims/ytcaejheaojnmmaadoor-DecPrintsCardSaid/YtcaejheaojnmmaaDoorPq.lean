/- text and Print of the reference. -/
import Derived.Test.YtcaejheaojnmmaaDoorPp
import Derived.Test.YtcaejheaojnmmaaDoorRd
import Derived.Deep.RegionLaw
namespace Go.Proofs.YtcaejheaojnmmaaDoor
open Go.RowKit Go.Shelf
set_option maxRecDepth 100000
set_option linter.unusedVariables false
set_option linter.unusedSimpArgs false

theorem fixL_front : ∀ (j n : Nat), fixL (j + 1) n = chD (n / 10 ^ j) :: fixL j n
  | 0, n => by
    show [] ++ [chD n] = _
    simp [fixL]
  | j + 1, n => by
    show fixL (j + 1) (n / 10) ++ [chD n] = _
    rw [fixL_front j (n / 10), Nat.div_div_eq_div_mul, show 10 * 10 ^ j = 10 ^ (j + 1) by rw [Nat.pow_succ]; omega]
    rfl
theorem more_digits (n s j : Nat) : (0 < n / 10 ^ j ∨ j < s + 1) ↔ j < lenD n s := by
  unfold lenD
  have key : 0 < n / 10 ^ j → j < Lib.nDigits n := by
    intro h
    rcases Nat.lt_or_ge j (Lib.nDigits n) with h1 | h1
    · exact h1
    · exfalso
      have := Lib.lt_pow_nDigits n
      have h2 : 10 ^ Lib.nDigits n ≤ 10 ^ j := Nat.pow_le_pow_right (by decide) h1
      rw [Nat.div_eq_of_lt (by omega)] at h
      omega
  have key2 : ∀ (k u : Nat), k + 1 ≤ Lib.nDigits u → 10 ^ k ≤ u ∨ k = 0 := by
    intro k
    induction k with
    | zero => intro u _; exact .inr rfl
    | succ k ih =>
      intro u hu
      by_cases h10 : u < 10
      · rw [Lib.nDigits_small h10] at hu; omega
      · rw [Lib.nDigits_big h10] at hu
        rcases ih (u / 10) (by omega) with h | h
        · left; rw [Nat.pow_succ]; omega
        · left; subst h; simp; omega
  constructor
  · rintro (h | h)
    · have := key h; omega
    · omega
  · intro h
    by_cases hs : j < s + 1
    · exact .inr hs
    · left
      rcases key2 j n (by omega) with h1 | h1
      · exact Nat.div_pos h1 (Nat.pow_pos (by decide))
      · omega

theorem chr_str (d : Nat) (hd : d ≤ 9) (w : World) : (convert 97 9 (Value.slice (some ⟨w.heap.size, 0, none⟩) 1 1)).run Tryd.prog (w.alloc (.cells #[.int .u8 (48 + (d : Int))] 5)) = .ok (.string ⟨#[chD d]⟩) (w.alloc (.cells #[.int .u8 (48 + (d : Int))] 5)) := by
  obtain ⟨y, hy⟩ : ∃ y, y = chD d := ⟨_, rfl⟩
  have hyn : (y.toNat : Int) = 48 + (d : Int) := by
    rw [hy]
    unfold chD
    rw [UInt8.toNat_ofNat']
    omega
  have hcb := run_convert_bytes_back (P := Tryd.prog) (w.alloc (.cells #[.int .u8 (48 + (d : Int))] 5)) 97 9 5 ⟨w.heap.size, 0, none⟩ 1 [y] Tryd.underlying97 Tryd.underlying5 Tryd.underlying9 (by
    intro q hq
    have : q = 0 := by simp at hq; omega
    subst this
    simp [Addr.add]
    omega)
  simp only [List.length_cons, List.length_nil, Nat.zero_add] at hcb
  rw [← hy]
  exact hcb
theorem chD_mod (n : Nat) : chD (n % 10) = chD n := by unfold chD; rw [Nat.mod_mod]

theorem rtext_any (n s : Nat) (w : World) (hn : n ≤ 999999999999999) (hs : s ≤ 6) : Calls Tryd.prog 39 #[.int .i64 (n : Int), .int .i64 ((s : Int) + 1)] w fun e w' => e = .returned (.string ⟨(padL n s).toArray⟩) ∧ Below w.heap.size w w' := by
  have hL := lenD_le n s hn hs
  have HL := Lib.hid hL
  have HN := Lib.hid hn
  have HS := Lib.hid hs
  clear hL hn
  go_enter Tryd.func39, Tryd.ntmps39
  go_wp2_with fail
  go_loopw [0, 5] (fun a b wx => ∃ (q j : Nat) (z : ByteArray), a = .int .i64 (q : Int) ∧ b = .string z ∧ q = n / 10 ^ j ∧ j ≤ lenD n s ∧ z.data.toList = fixL j n ∧ Below w.heap.size w wx) (fun _ b _ => 20 - (match b with | .string z => z.size | _ => 0))
  case atStart => exact ⟨n, 0, ⟨#[]⟩, rfl, rfl, by simp, Nat.zero_le _, rfl, Below.refl _ _⟩
  case round =>
    obtain ⟨q, j, z, rfl, rfl, hq, hj, hz, hb⟩ := hrel
    have HB := Lib.hid hb
    have HQ := Lib.hid hq
    have HZ := Lib.hid hz
    have hzs : z.size = j := by rw [Lib.size_eq, hz, fixL_length]
    have hmd := more_digits n s j
    rw [← hq] at hmd
    have hqn : q ≤ 999999999999999 := by rw [hq]; exact Nat.le_trans (Nat.div_le_self _ _) HN.out
    have hj15 : j ≤ 15 := Nat.le_trans hj HL.out
    have HJ := Lib.hid hj
    clear hb hq hz hj
    have hmod : (q : Int).tmod 10 = ((q % 10 : Nat) : Int) := by rw [Int.tmod_eq_emod_of_nonneg (by omega)]; omega
    have hdiv : (q : Int).tdiv 10 = ((q / 10 : Nat) : Int) := by rw [Int.tdiv_eq_ediv_of_nonneg (by omega)]; omega
    by_cases hlt : j < lenD n s
    · have HD := Lib.hid (hmd.2 hlt)
      have HLT := Lib.hid hlt
      clear hmd hlt
      obtain ⟨d, hd⟩ : ∃ d, d = q % 10 := ⟨_, rfl⟩
      have hd9 : d ≤ 9 := by omega
      have HDD := Lib.hid hd
      rw [← hd] at hmod
      clear hd
      have hch := chr_str d hd9 wr
      obtain ⟨Y, hY⟩ : ∃ Y : ByteArray, Y = ⟨#[chD d]⟩ := ⟨_, rfl⟩
      rw [← hY] at hch
      have hys : Y.size = 1 := by rw [hY]; rfl
      have HG := Lib.hid (show (Y ++ z).data.toList = fixL (j + 1) n by
        rw [fixL_front, ← HZ.out, ← HQ.out, ← chD_mod q, ← HDD.out, hY]
        simp)
      have HSZ := Lib.hid (show (Y ++ z).size = j + 1 by simp [ByteArray.size_append]; omega)
      by_cases hq0 : (0 : Int) < q
      · clear hY
        go_wp2_with fail
        go_roundw
        case rel => exact ⟨q / 10, j + 1, Y ++ z, by go_num, rfl, by rw [HQ.out, Nat.div_div_eq_div_mul, Nat.pow_succ], HLT.out, HG.out, HB.out.trans (((Below.refl _ wr).alloc (Nat.le_refl _) _).mono HB.out.size)⟩
        case measure =>
          have := HSZ.out
          have := HL.out
          have := HLT.out
          simp only [ByteArray.size_append] at *
          omega
      · have hjs : (j : Int) < (s : Int) + 1 := by rcases HD.out with h | h <;> omega
        obtain rfl : q = 0 := by omega
        obtain rfl : d = 0 := by have := HDD.out; omega
        have hch' : (convert 97 9 (Value.slice (some ⟨wr.heap.size, 0, none⟩) 1 1)).run Tryd.prog (wr.alloc (.cells #[.int .u8 48] 5)) = .ok (.string Y) (wr.alloc (.cells #[.int .u8 48] 5)) := hch
        clear hY hch
        go_wp2_with fail
        go_roundw
        case rel => exact ⟨0, j + 1, Y ++ z, by go_num, rfl, by
          have := HQ.out
          rw [Nat.pow_succ, ← Nat.div_div_eq_div_mul, ← this], HLT.out, HG.out, HB.out.trans (((Below.refl _ wr).alloc (Nat.le_refl _) _).mono HB.out.size)⟩
        case measure =>
          have := HSZ.out
          have := HL.out
          have := HLT.out
          simp only [ByteArray.size_append] at *
          omega
    · have HE : ¬ (0 : Int) < q := by
        intro h
        exact hlt (hmd.1 (.inl (by omega)))
      have HE2 : ¬ ((j : Int) < (s : Int) + 1) := by
        intro h
        exact hlt (hmd.1 (.inr (by omega)))
      have HEQ := Lib.hid (show j = lenD n s by have := HJ.out; omega)
      have HF := Lib.hid (show z = ⟨(padL n s).toArray⟩ by
        apply ba_ext
        rw [HZ.out, HEQ.out]
        rfl)
      go_wp2_with fail
      go_ret
      exact ⟨by rw [HF.out]; rfl, HB.out⟩
end Go.Proofs.YtcaejheaojnmmaaDoor
