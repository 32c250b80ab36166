/- text and Print of the reference. -/
import Derived.Test.YtecomfhbdonkbaaGreatDoorPp
import Derived.Test.YtecomfhbdonkbaaGreatDoorKr
import Derived.Deep.RegionLaw
import Derived.Lib.ItoaMem
import Derived.Lib.LaidTab
import Derived.Lib.AppendIntMem
import Derived.Shelf.Strconv.Itoa3
import Derived.Shelf.Strings.Repeat
namespace Go.Proofs.YtecomfhbdonkbaaGreatDoor
open Go.RowKit Go.Shelf
set_option maxRecDepth 100000
set_option linter.unusedVariables false
set_option linter.unusedSimpArgs false

theorem fixL_front : ∀ (j n : Nat), fixL (j + 1) n = chD (n / 10 ^ j) :: fixL j n
  | 0, n => by
    show [] ++ [chD n] = _
    simp [fixL]
  | j + 1, n => by
    show fixL (j + 1) (n / 10) ++ [chD n] = _
    rw [fixL_front j (n / 10), Nat.div_div_eq_div_mul, show 10 * 10 ^ j = 10 ^ (j + 1) by rw [Nat.pow_succ]; omega]
    rfl
theorem more_digits (n s j : Nat) : (0 < n / 10 ^ j ∨ j < s + 1) ↔ j < lenD n s := by
  unfold lenD
  have key : 0 < n / 10 ^ j → j < Lib.nDigits n := by
    intro h
    rcases Nat.lt_or_ge j (Lib.nDigits n) with h1 | h1
    · exact h1
    · exfalso
      have := Lib.lt_pow_nDigits n
      have h2 : 10 ^ Lib.nDigits n ≤ 10 ^ j := Nat.pow_le_pow_right (by decide) h1
      rw [Nat.div_eq_of_lt (by omega)] at h
      omega
  have key2 : ∀ (k u : Nat), k + 1 ≤ Lib.nDigits u → 10 ^ k ≤ u ∨ k = 0 := by
    intro k
    induction k with
    | zero => intro u _; exact .inr rfl
    | succ k ih =>
      intro u hu
      by_cases h10 : u < 10
      · rw [Lib.nDigits_small h10] at hu; omega
      · rw [Lib.nDigits_big h10] at hu
        rcases ih (u / 10) (by omega) with h | h
        · left; rw [Nat.pow_succ]; omega
        · left; subst h; simp; omega
  constructor
  · rintro (h | h)
    · have := key h; omega
    · omega
  · intro h
    by_cases hs : j < s + 1
    · exact .inr hs
    · left
      rcases key2 j n (by omega) with h1 | h1
      · exact Nat.div_pos h1 (Nat.pow_pos (by decide))
      · omega

theorem chr_str (d : Nat) (hd : d ≤ 9) (w : World) : (convert 111 9 (Value.slice (some ⟨w.heap.size, 0, none⟩) 1 1)).run Tryz.prog (w.alloc (.cells #[.int .u8 (48 + (d : Int))] 5)) = .ok (.string ⟨#[chD d]⟩) (w.alloc (.cells #[.int .u8 (48 + (d : Int))] 5)) := by
  obtain ⟨y, hy⟩ : ∃ y, y = chD d := ⟨_, rfl⟩
  have hyn : (y.toNat : Int) = 48 + (d : Int) := by
    rw [hy]
    unfold chD
    rw [UInt8.toNat_ofNat']
    omega
  have hcb := run_convert_bytes_back (P := Tryz.prog) (w.alloc (.cells #[.int .u8 (48 + (d : Int))] 5)) 111 9 5 ⟨w.heap.size, 0, none⟩ 1 [y] Tryz.underlying111 Tryz.underlying5 Tryz.underlying9 (by
    intro q hq
    have : q = 0 := by simp at hq; omega
    subst this
    simp [Addr.add]
    omega)
  simp only [List.length_cons, List.length_nil, Nat.zero_add] at hcb
  rw [← hy]
  exact hcb
theorem chD_mod (n : Nat) : chD (n % 10) = chD n := by unfold chD; rw [Nat.mod_mod]

theorem rtext_any (n s : Nat) (w : World) (hn : n ≤ 999999999999999) (hs : s ≤ 6) : Calls Tryz.prog 37 #[.int .i64 (n : Int), .int .i64 ((s : Int) + 1)] w fun e w' => e = .returned (.string ⟨(padL n s).toArray⟩) ∧ Below w.heap.size w w' := by
  have hL := lenD_le n s hn hs
  have HL := Lib.hid hL
  have HN := Lib.hid hn
  have HS := Lib.hid hs
  clear hL hn
  go_enter Tryz.func37, Tryz.ntmps37
  go_wp2_with fail
  go_loopw [0, 5] (fun a b wx => ∃ (q j : Nat) (z : ByteArray), a = .int .i64 (q : Int) ∧ b = .string z ∧ q = n / 10 ^ j ∧ j ≤ lenD n s ∧ z.data.toList = fixL j n ∧ Below w.heap.size w wx) (fun _ b _ => 20 - (match b with | .string z => z.size | _ => 0))
  case atStart => exact ⟨n, 0, ⟨#[]⟩, rfl, rfl, by simp, Nat.zero_le _, rfl, Below.refl _ _⟩
  case round =>
    obtain ⟨q, j, z, rfl, rfl, hq, hj, hz, hb⟩ := hrel
    have HB := Lib.hid hb
    have HQ := Lib.hid hq
    have HZ := Lib.hid hz
    have hzs : z.size = j := by rw [Lib.size_eq, hz, fixL_length]
    have hmd := more_digits n s j
    rw [← hq] at hmd
    have hqn : q ≤ 999999999999999 := by rw [hq]; exact Nat.le_trans (Nat.div_le_self _ _) HN.out
    have hj15 : j ≤ 15 := Nat.le_trans hj HL.out
    have HJ := Lib.hid hj
    clear hb hq hz hj
    have hmod : (q : Int).tmod 10 = ((q % 10 : Nat) : Int) := by rw [Int.tmod_eq_emod_of_nonneg (by omega)]; omega
    have hdiv : (q : Int).tdiv 10 = ((q / 10 : Nat) : Int) := by rw [Int.tdiv_eq_ediv_of_nonneg (by omega)]; omega
    by_cases hlt : j < lenD n s
    · have HD := Lib.hid (hmd.2 hlt)
      have HLT := Lib.hid hlt
      clear hmd hlt
      obtain ⟨d, hd⟩ : ∃ d, d = q % 10 := ⟨_, rfl⟩
      have hd9 : d ≤ 9 := by omega
      have HDD := Lib.hid hd
      rw [← hd] at hmod
      clear hd
      have hch := chr_str d hd9 wr
      obtain ⟨Y, hY⟩ : ∃ Y : ByteArray, Y = ⟨#[chD d]⟩ := ⟨_, rfl⟩
      rw [← hY] at hch
      have hys : Y.size = 1 := by rw [hY]; rfl
      have HG := Lib.hid (show (Y ++ z).data.toList = fixL (j + 1) n by
        rw [fixL_front, ← HZ.out, ← HQ.out, ← chD_mod q, ← HDD.out, hY]
        simp)
      have HSZ := Lib.hid (show (Y ++ z).size = j + 1 by simp [ByteArray.size_append]; omega)
      by_cases hq0 : (0 : Int) < q
      · clear hY
        go_wp2_with fail
        go_roundw
        case rel => exact ⟨q / 10, j + 1, Y ++ z, by go_num, rfl, by rw [HQ.out, Nat.div_div_eq_div_mul, Nat.pow_succ], HLT.out, HG.out, HB.out.trans (((Below.refl _ wr).alloc (Nat.le_refl _) _).mono HB.out.size)⟩
        case measure =>
          have := HSZ.out
          have := HL.out
          have := HLT.out
          simp only [ByteArray.size_append] at *
          omega
      · have hjs : (j : Int) < (s : Int) + 1 := by rcases HD.out with h | h <;> omega
        obtain rfl : q = 0 := by omega
        obtain rfl : d = 0 := by have := HDD.out; omega
        have hch' : (convert 111 9 (Value.slice (some ⟨wr.heap.size, 0, none⟩) 1 1)).run Tryz.prog (wr.alloc (.cells #[.int .u8 48] 5)) = .ok (.string Y) (wr.alloc (.cells #[.int .u8 48] 5)) := hch
        clear hY hch
        go_wp2_with fail
        go_roundw
        case rel => exact ⟨0, j + 1, Y ++ z, by go_num, rfl, by
          have := HQ.out
          rw [Nat.pow_succ, ← Nat.div_div_eq_div_mul, ← this], HLT.out, HG.out, HB.out.trans (((Below.refl _ wr).alloc (Nat.le_refl _) _).mono HB.out.size)⟩
        case measure =>
          have := HSZ.out
          have := HL.out
          have := HLT.out
          simp only [ByteArray.size_append] at *
          omega
    · have HE : ¬ (0 : Int) < q := by
        intro h
        exact hlt (hmd.1 (.inl (by omega)))
      have HE2 : ¬ ((j : Int) < (s : Int) + 1) := by
        intro h
        exact hlt (hmd.1 (.inr (by omega)))
      have HEQ := Lib.hid (show j = lenD n s by have := HJ.out; omega)
      have HF := Lib.hid (show z = ⟨(padL n s).toArray⟩ by
        apply ba_ext
        rw [HZ.out, HEQ.out]
        rfl)
      go_wp2_with fail
      go_ret
      exact ⟨by rw [HF.out]; rfl, HB.out⟩
end Go.Proofs.YtecomfhbdonkbaaGreatDoor
/- Print of the reference. -/
namespace Go.Proofs.YtecomfhbdonkbaaGreatDoor
open Go.RowKit Go.Shelf
set_option maxRecDepth 100000
set_option linter.unusedVariables false
set_option linter.unusedSimpArgs false

/-- the text of the digits, by its parts. -/
theorem pad_parts (n k : Nat) (hn : n ≤ 999999999999999) (hk : k ≤ 6) : ∃ (T : ByteArray) (a : Nat), T = ⟨(padL n k).toArray⟩ ∧ T.size = a + k ∧ 1 ≤ a ∧ a + k ≤ 15 ∧
    (k = 0 → ∀ m : Int, m.natAbs = n → T = (if m < 0 then T else ⟨(printL m k).toArray⟩) ∧ (if m < 0 then (⟨#[45]⟩ : ByteArray) ++ T = ⟨(printL m k).toArray⟩ else T = ⟨(printL m k).toArray⟩)) ∧
    (k ≠ 0 → ∀ m : Int, m.natAbs = n → (if m < 0 then (⟨#[45]⟩ : ByteArray) ++ T.extract 0 a ++ ⟨#[46]⟩ ++ T.extract a (a + k) = ⟨(printL m k).toArray⟩ ∧ (⟨#[45]⟩ : ByteArray) ++ (T.extract 0 a ++ ⟨#[46]⟩ ++ T.extract a (a + k)) = ⟨(printL m k).toArray⟩ else T.extract 0 a ++ ⟨#[46]⟩ ++ T.extract a (a + k) = ⟨(printL m k).toArray⟩)) := by
  have hL := lenD_le n k hn hk
  have hl := padL_length n k
  have hlen : k + 1 ≤ lenD n k := Nat.le_max_left _ _
  have hts : (⟨(padL n k).toArray⟩ : ByteArray).size = lenD n k := by show (padL n k).toArray.size = _; simp [hl]
  refine ⟨⟨(padL n k).toArray⟩, lenD n k - k, rfl, by rw [hts]; omega, by omega, by omega, ?_, ?_⟩
  · intro h0 m hm
    subst h0
    have ha : absP n 0 = padL n 0 := by
      unfold absP
      rw [if_pos rfl, List.append_nil, List.take_of_length_le (by rw [hl]; omega)]
    unfold printL
    rw [hm, ha]
    by_cases h : m < 0
    · rw [if_pos h, if_pos h, if_pos h]
      refine ⟨rfl, ?_⟩
      apply ba_ext
      simp
    · rw [if_neg h, if_neg h, if_neg h]
      exact ⟨rfl, rfl⟩
  · intro h0 m hm
    have ha : absP n k = (padL n k).take (lenD n k - k) ++ 46 :: (padL n k).drop (lenD n k - k) := by
      unfold absP
      rw [if_neg h0]
    have e2 : ((padL n k).toArray.extract (lenD n k - k) (lenD n k - k + k)).toList = (padL n k).drop (lenD n k - k) := by
      simp
      rw [List.take_of_length_le (by simp; omega)]
    unfold printL
    rw [hm, ha]
    by_cases h : m < 0
    · rw [if_pos h, if_pos h]
      refine ⟨?_, ?_⟩
      · apply ba_ext
        simp [ByteArray.data_extract]
        rw [List.take_of_length_le (by simp; omega)]
      · apply ba_ext
        simp [ByteArray.data_extract]
        rw [List.take_of_length_le (by simp; omega)]
    · rw [if_neg h, if_neg h]
      apply ba_ext
      simp [ByteArray.data_extract]
      rw [List.take_of_length_le (by simp; omega)]

theorem ext_self (T : ByteArray) (a : Nat) (h : T.size ≤ a) : T.extract 0 a = T := by
  have e : (T.extract 0 a).data.toList = T.data.toList := by
    simp [ByteArray.data_extract]
    rw [List.take_of_length_le (by simpa using h)]
  have := ba_ext e
  rw [this]
theorem nil_app (T : ByteArray) : (⟨#[]⟩ : ByteArray) ++ T = T := by
  have e : ((⟨#[]⟩ : ByteArray) ++ T).data.toList = T.data.toList := by simp
  have := ba_ext e
  rw [this]
theorem rprint_any (m s : Int) (w : World) (h : GoodD m s) : Calls Tryz.prog 21 #[.agg #[.int .i64 m, .int .i64 s]] w fun e w' => e = .returned (.string ⟨(printL m s.toNat).toArray⟩) ∧ Below w.heap.size w w' := by
  obtain ⟨k, rfl⟩ : ∃ k : Nat, s = k := ⟨s.toNat, by have := h.2.2.1; omega⟩
  have hk : k ≤ 6 := by have := h.2.2.2.1; omega
  have hn : m.natAbs ≤ 999999999999999 := by have := h.1; have := h.2.1; omega
  obtain ⟨T, a, hT, hsz, h1, h15, hp0, hp1⟩ := pad_parts m.natAbs k hn hk
  have HT := Lib.hid (fun w => rtext_any m.natAbs k w hn hk)
  rw [← hT] at HT
  simp only [Int.toNat_natCast]
  obtain ⟨V, hV⟩ : ∃ V : ByteArray, V = ⟨(printL m k).toArray⟩ := ⟨_, rfl⟩
  rw [← hV]
  have hk1 : (T.size : Int) - (k : Int) = (a : Int) := by omega
  have HB := Lib.hid ((Below.refl w.heap.size w).alloc (Nat.le_refl _) (.cells #[.int .i64 m, .int .i64 (k : Int)] 44))
  have HD := Lib.hid (DecB.new w m (k : Int) 44)
  by_cases hm : m < 0
  · have hp : (k = 0 → (⟨#[45]⟩ : ByteArray) ++ T = V) ∧ (k ≠ 0 → (⟨#[45]⟩ : ByteArray) ++ T.extract 0 a ++ ⟨#[46]⟩ ++ T.extract a (a + k) = V) := by
      refine ⟨fun h0 => ?_, fun h0 => ?_⟩
      · have := (hp0 h0 m rfl).2; rw [if_pos hm] at this; rw [hV]; exact this
      · have := hp1 h0 m rfl; rw [if_pos hm] at this; rw [hV]; exact this.1
    clear hp0 hp1 hV hT
    have HP := Lib.hid hp
    clear hp
    have hmn : -m = (m.natAbs : Int) := by omega
    generalize m.natAbs = n at *
    by_cases hk0 : (0 : Int) < k
    · have HK0 := Lib.hid (show k ≠ 0 by omega)
      go_enter Tryz.func21, Tryz.ntmps21
      go_wp2_with fail
      (with_reducible refine (HT.out _).mono ?_)
      rintro e w1 ⟨rfl, hb1⟩
      have HB1 := Lib.hid (HB.out.trans (hb1.mono HB.out.size))
      obtain ⟨d0, d1, d2, -, -⟩ := HD.out.below hb1
      clear hb1
      go_wp2_with fail
      go_ret
      exact ⟨by rw [← HP.out.2 HK0.out]; rfl, HB1.out⟩
    · have HE := Lib.hid (HP.out.1 (by omega))
      have HXT := Lib.hid (ext_self T a (by omega))
      obtain rfl : k = 0 := by omega
      have HT := Lib.hid (fun w => (show Calls Tryz.prog 37 #[.int .i64 (n : Int), .int .i64 1] w _ from HT.out w))
      have HD := Lib.hid (show DecB (w.alloc (.cells #[.int .i64 m, .int .i64 0] 44)) w.heap.size m 0 from HD.out)
      go_enter Tryz.func21, Tryz.ntmps21
      go_wp2_with fail
      (with_reducible refine (HT.out _).mono ?_)
      rintro e w1 ⟨rfl, hb1⟩
      have HB1 := Lib.hid (HB.out.trans (hb1.mono HB.out.size))
      obtain ⟨d0, d1, d2, -, -⟩ := HD.out.below hb1
      clear hb1
      go_wp2_with fail
      go_ret
      exact ⟨by show Ending.returned (.string (⟨#[45]⟩ ++ T.extract 0 a)) = _; rw [HXT.out, HE.out], HB1.out⟩
  · have hp : (k = 0 → T = V) ∧ (k ≠ 0 → T.extract 0 a ++ ⟨#[46]⟩ ++ T.extract a (a + k) = V) := by
      refine ⟨fun h0 => ?_, fun h0 => ?_⟩
      · have := (hp0 h0 m rfl).2; rw [if_neg hm] at this; rw [hV]; exact this
      · have := hp1 h0 m rfl; rw [if_neg hm] at this; rw [hV]; exact this
    clear hp0 hp1 hV hT
    have HP := Lib.hid hp
    clear hp
    have hmn : m = (m.natAbs : Int) := by omega
    generalize m.natAbs = n at *
    subst hmn
    by_cases hk0 : (0 : Int) < k
    · have HK0 := Lib.hid (show k ≠ 0 by omega)
      go_enter Tryz.func21, Tryz.ntmps21
      go_wp2_with fail
      (with_reducible refine (HT.out _).mono ?_)
      rintro e w1 ⟨rfl, hb1⟩
      have HB1 := Lib.hid (HB.out.trans (hb1.mono HB.out.size))
      obtain ⟨d0, d1, d2, -, -⟩ := HD.out.below hb1
      clear hb1
      go_wp2_with fail
      go_ret
      exact ⟨by rw [← HP.out.2 HK0.out]; rfl, HB1.out⟩
    · have HE := Lib.hid (HP.out.1 (by omega))
      have HXT := Lib.hid (ext_self T a (by omega))
      obtain rfl : k = 0 := by omega
      have HT := Lib.hid (fun w => (show Calls Tryz.prog 37 #[.int .i64 (n : Int), .int .i64 1] w _ from HT.out w))
      have HD := Lib.hid (show DecB (w.alloc (.cells #[.int .i64 (n : Int), .int .i64 0] 44)) w.heap.size (n : Int) 0 from HD.out)
      go_enter Tryz.func21, Tryz.ntmps21
      go_wp2_with fail
      (with_reducible refine (HT.out _).mono ?_)
      rintro e w1 ⟨rfl, hb1⟩
      have HB1 := Lib.hid (HB.out.trans (hb1.mono HB.out.size))
      obtain ⟨d0, d1, d2, -, -⟩ := HD.out.below hb1
      clear hb1
      go_wp2_with fail
      go_ret
      exact ⟨by show Ending.returned (.string (⟨#[]⟩ ++ T.extract 0 a)) = _; rw [HXT.out, nil_app, HE.out], HB1.out⟩
end Go.Proofs.YtecomfhbdonkbaaGreatDoor
/- dec.Print. -/
namespace Go.Proofs.YtecomfhbdonkbaaGreatDoor
open Go.RowKit Go.Shelf
set_option maxRecDepth 100000
set_option linter.unusedVariables false
set_option linter.unusedSimpArgs false

theorem byteExtra : Builder.Extra Tryz.prog Tryz.lays105_ren where
  sizeBuilder := by kernel_rfl
  liesBuilder := by kernel_rfl
  t5 := Tryz.underlying5
  a5 := Tryz.isAgg5
  z5 := Tryz.sizeOf5
  v5 := Tryz.zeroValue5
  infoByte := by kernel_rfl
  cellsByte := by kernel_rfl
  sizeByte := by kernel_rfl
  neB5 := by decide
/-- The table that strconv.Itoa reads. -/
def TabP (w : World) : Prop := Lib.TabIs Tryz.prog w "internal/strconv.uint64pow10" .u64 Lib.pow10Tab
theorem gTabP : Tryz.prog.globalNamed "internal/strconv.uint64pow10" = some 5 := by kernel_rfl
theorem TabP.lt {w : World} (h : TabP w) : 5 < w.heap.size := by
  unfold TabP Lib.TabIs World.var? at h
  rw [gTabP] at h
  simp only [Option.bind_some] at h
  rcases Nat.lt_or_ge 5 w.heap.size with h' | h'
  · exact h'
  · rw [Array.getElem?_eq_none h'] at h; cases h
theorem TabP.below {w w' : World} (h : TabP w) (hb : Below w.heap.size w w') : TabP w' := by
  have hl := h.lt
  have hb := hb.block _ hl
  unfold TabP Lib.TabIs World.var? at h ⊢
  rw [gTabP] at h ⊢
  simp only [Option.bind_some] at h ⊢
  rw [hb]
  exact h
theorem itoa_nat (n : Nat) (hn : n ≤ 999999999999999) (w : World) (ht : TabP w) : Calls Tryz.prog 96 #[.int .i64 (n : Int)] w fun e w' => e = .returned (.string ⟨(Lib.decDigits n).toArray⟩) ∧ Below w.heap.size w w' := by
  refine (Any.strconv_Itoa Tryz.laysM171 (n : Int) (by omega) (by omega) w ht).mono ?_
  rintro e w' ⟨rfl, k, os, rfl⟩
  exact ⟨by rw [Lib.itoa_nonneg], Lib.below_grow _ w (Nat.le_refl _) k os⟩
theorem repeatL_rep (c : UInt8) : ∀ k, Lib.repeatL [c] k = List.replicate k c
  | 0 => rfl
  | k + 1 => by unfold Lib.repeatL; rw [repeatL_rep c k]; rfl
theorem repeat_any (c : Nat) (hc : c ≤ 20) (w : World) : Calls Tryz.prog 136 #[.string ⟨#[48]⟩, .int .i64 (c : Int)] w fun e w' => e = .returned (.string ⟨(List.replicate c 48).toArray⟩) ∧ Below w.heap.size w w' := by
  rw [← repeatL_rep]
  exact Any.strings_Repeat Tryz.lays105 byteExtra ⟨#[48]⟩ c w (by omega) (by show 1 * c ≤ _; omega)

theorem pad_two (n k : Nat) : (⟨(List.replicate (k + 1 - Lib.nDigits n) 48).toArray⟩ : ByteArray) ++ ⟨(Lib.decDigits n).toArray⟩ = ⟨(padL n k).toArray⟩ := by
  apply ba_ext
  rw [show padL n k = fixL (lenD n k) n from rfl, ← fixL_dec (lenD n k) n (Nat.le_max_right _ _), show lenD n k - Lib.nDigits n = k + 1 - Lib.nDigits n by unfold lenD; omega]
  simp
theorem print_any (m s : Int) (w : World) (h : GoodD m s) (ht : TabP w) : Calls Tryz.prog 117 #[.agg #[.int .i64 m, .int .i64 s]] w fun e w' => e = .returned (.string ⟨(printL m s.toNat).toArray⟩) ∧ Below w.heap.size w w' := by
  have HI := Lib.hid (fun w => is_any w m s h)
  obtain ⟨k, rfl⟩ : ∃ k : Nat, s = k := ⟨s.toNat, by have := h.2.2.1; omega⟩
  have hk : k ≤ 6 := by have := h.2.2.2.1; omega
  have hn : m.natAbs ≤ 999999999999999 := by have := h.1; have := h.2.1; omega
  obtain ⟨T, a, hT, hsz, h1, h15, hp0, hp1⟩ := pad_parts m.natAbs k hn hk
  have hL := lenD_le m.natAbs k hn hk
  have hdl : Lib.nDigits m.natAbs ≤ 15 := Nat.le_trans (Nat.le_max_right _ _) hL
  have HT := Lib.hid ht
  have HN := Lib.hid (fun w ht => itoa_nat m.natAbs hn w ht)
  have HR := Lib.hid (fun w => repeat_any (k + 1 - Lib.nDigits m.natAbs) (by omega) w)
  have hzd := pad_two m.natAbs k
  rw [← hT] at hzd
  have hds : (⟨(Lib.decDigits m.natAbs).toArray⟩ : ByteArray).size = Lib.nDigits m.natAbs := by show (Lib.decDigits m.natAbs).toArray.size = _; simp [Lib.decDigits_length]
  have hzs : (⟨(List.replicate (k + 1 - Lib.nDigits m.natAbs) 48).toArray⟩ : ByteArray).size = k + 1 - Lib.nDigits m.natAbs := by show (List.replicate _ _).toArray.size = _; simp
  generalize (⟨(Lib.decDigits m.natAbs).toArray⟩ : ByteArray) = D at *
  generalize (List.replicate (k + 1 - Lib.nDigits m.natAbs) (48 : UInt8)).toArray = z at *
  obtain ⟨Z, hZ⟩ : ∃ Z : ByteArray, Z = ⟨z⟩ := ⟨_, rfl⟩
  rw [← hZ] at hzd HR hzs
  clear hZ
  generalize Lib.nDigits m.natAbs = dl at *
  obtain ⟨c, hc⟩ : ∃ c : Nat, c = k + 1 - dl := ⟨_, rfl⟩
  rw [← hc] at HR hzs
  have hmax : max ((k : Int) + 1 - (dl : Int)) 0 = (c : Int) := by omega
  clear hc
  simp only [Int.toNat_natCast]
  obtain ⟨V, hV⟩ : ∃ V : ByteArray, V = ⟨(printL m k).toArray⟩ := ⟨_, rfl⟩
  rw [← hV]
  have hk1 : (T.size : Int) - (k : Int) = (a : Int) := by omega
  have HB := Lib.hid ((Below.refl w.heap.size w).alloc (Nat.le_refl _) (.cells #[.int .i64 m, .int .i64 (k : Int)] 44))
  have HD := Lib.hid (DecB.new w m (k : Int) 44)
  have hmm : max m (-m) = (m.natAbs : Int) := by omega
  go_enter Tryz.func117, Tryz.ntmps117
  go_wp2_with fail
  (with_reducible refine (HI.out _).mono ?_)
  rintro e w1 ⟨rfl, hb1⟩
  have HB1 := Lib.hid (HB.out.trans (hb1.mono HB.out.size))
  have HD1 := Lib.hid (HD.out.below hb1)
  clear hb1
  obtain ⟨d0, d1, d2, -, -⟩ := HD1.out
  go_wp2_with fail
  (with_reducible refine (HN.out _ (HT.out.below HB1.out)).mono ?_)
  rintro e w2 ⟨rfl, hb⟩
  have HB2 := Lib.hid (HB1.out.trans (hb.mono HB1.out.size))
  have HD2 := Lib.hid (HD1.out.below hb)
  clear hb d0 d1 d2
  obtain ⟨d0, d1, d2, -, -⟩ := HD2.out
  go_wp2_with fail
  (with_reducible refine (HR.out _).mono ?_)
  rintro e w3 ⟨rfl, hb⟩
  have HB3 := Lib.hid (HB2.out.trans (hb.mono HB2.out.size))
  have HD3 := Lib.hid (HD2.out.below hb)
  clear hb d0 d1 d2
  obtain ⟨d0, d1, d2, -, -⟩ := HD3.out
  have HP0 := Lib.hid hp0
  have HP1 := Lib.hid hp1
  have HV := Lib.hid hV
  have HG := Lib.hid (And.intro h HI)
  clear hp0 hp1 hV h HI hT
  have hzds : Z.size + D.size = a + k := by rw [← hsz, ← hzd, ByteArray.size_append]
  by_cases hk0 : (0 : Int) < k
  · have HK0 := Lib.hid (show k ≠ 0 by omega)
    go_wp2_with fail
    have HF := Lib.hid (HP1.out HK0.out m rfl)
    have HVV := Lib.hid HV.out.symm
    go_quiet (fail)
    have HB4 := Lib.hid (HB3.out.trans ((drewN_below w3 nq).mono HB3.out.size))
    have hxs : (T.extract 0 a ++ ⟨#[46]⟩ ++ T.extract a (a + k)).size ≤ 40 := by
      rw [ByteArray.size_append, ByteArray.size_append, ByteArray.size_extract, ByteArray.size_extract, show (⟨#[46]⟩ : ByteArray).size = 1 from rfl]; omega
    generalize T.extract 0 a ++ ⟨#[46]⟩ ++ T.extract a (a + k) = X at HF hxs ⊢
    by_cases hm : m < 0
    · have HM := Lib.hid hm
      have HE := Lib.hid (show (⟨#[45]⟩ : ByteArray) ++ X = V by have := HF.out; rw [if_pos hm] at this; rw [this.2]; exact HVV.out)
      go_wp2_with fail
      go_ret
      exact ⟨by rw [← HE.out]; rfl, HB4.out⟩
    · have HE := Lib.hid (show X = V by have := HF.out; rw [if_neg hm] at this; rw [this]; exact HVV.out)
      go_wp2_with fail
      go_ret
      exact ⟨by rw [← HE.out]; rfl, HB4.out⟩
  · have HK0 := Lib.hid (show k = 0 by omega)
    have HF := Lib.hid (HP0.out HK0.out m rfl)
    by_cases hm : m < 0
    · have HM := Lib.hid hm
      go_wp2_with fail
      go_ret
      exact ⟨by rw [HV.out]; have := HF.out.2; rw [if_pos HM.out] at this; rw [← this]; rfl, HB3.out⟩
    · have HM := Lib.hid hm
      go_wp2_with fail
      go_ret
      exact ⟨by rw [HV.out]; have := HF.out.2; rw [if_neg (by have := HM.out; omega)] at this; rw [← this]; rfl, HB3.out⟩
end Go.Proofs.YtecomfhbdonkbaaGreatDoor
