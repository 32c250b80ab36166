/- Print of the reference. -/
import Derived.Test.YtcaejheaojnmmaaDoorPq
namespace Go.Proofs.YtcaejheaojnmmaaDoor
open Go.RowKit Go.Shelf
set_option maxRecDepth 100000
set_option linter.unusedVariables false
set_option linter.unusedSimpArgs false

/-- the text of the digits, by its parts. -/
theorem pad_parts (n k : Nat) (hn : n ≤ 999999999999999) (hk : k ≤ 6) : ∃ (T : ByteArray) (a : Nat), T = ⟨(padL n k).toArray⟩ ∧ T.size = a + k ∧ 1 ≤ a ∧ a + k ≤ 15 ∧
    (k = 0 → ∀ m : Int, m.natAbs = n → T = (if m < 0 then T else ⟨(printL m k).toArray⟩) ∧ (if m < 0 then (⟨#[45]⟩ : ByteArray) ++ T = ⟨(printL m k).toArray⟩ else T = ⟨(printL m k).toArray⟩)) ∧
    (k ≠ 0 → ∀ m : Int, m.natAbs = n → (if m < 0 then (⟨#[45]⟩ : ByteArray) ++ T.extract 0 a ++ ⟨#[46]⟩ ++ T.extract a (a + k) = ⟨(printL m k).toArray⟩ ∧ (⟨#[45]⟩ : ByteArray) ++ (T.extract 0 a ++ ⟨#[46]⟩ ++ T.extract a (a + k)) = ⟨(printL m k).toArray⟩ else T.extract 0 a ++ ⟨#[46]⟩ ++ T.extract a (a + k) = ⟨(printL m k).toArray⟩)) := by
  have hL := lenD_le n k hn hk
  have hl := padL_length n k
  have hlen : k + 1 ≤ lenD n k := Nat.le_max_left _ _
  have hts : (⟨(padL n k).toArray⟩ : ByteArray).size = lenD n k := by show (padL n k).toArray.size = _; simp [hl]
  refine ⟨⟨(padL n k).toArray⟩, lenD n k - k, rfl, by rw [hts]; omega, by omega, by omega, ?_, ?_⟩
  · intro h0 m hm
    subst h0
    have ha : absP n 0 = padL n 0 := by
      unfold absP
      rw [if_pos rfl, List.append_nil, List.take_of_length_le (by rw [hl]; omega)]
    unfold printL
    rw [hm, ha]
    by_cases h : m < 0
    · rw [if_pos h, if_pos h, if_pos h]
      refine ⟨rfl, ?_⟩
      apply ba_ext
      simp
    · rw [if_neg h, if_neg h, if_neg h]
      exact ⟨rfl, rfl⟩
  · intro h0 m hm
    have ha : absP n k = (padL n k).take (lenD n k - k) ++ 46 :: (padL n k).drop (lenD n k - k) := by
      unfold absP
      rw [if_neg h0]
    have e2 : ((padL n k).toArray.extract (lenD n k - k) (lenD n k - k + k)).toList = (padL n k).drop (lenD n k - k) := by
      simp
      rw [List.take_of_length_le (by simp; omega)]
    unfold printL
    rw [hm, ha]
    by_cases h : m < 0
    · rw [if_pos h, if_pos h]
      refine ⟨?_, ?_⟩
      · apply ba_ext
        simp [ByteArray.data_extract]
        rw [List.take_of_length_le (by simp; omega)]
      · apply ba_ext
        simp [ByteArray.data_extract]
        rw [List.take_of_length_le (by simp; omega)]
    · rw [if_neg h, if_neg h]
      apply ba_ext
      simp [ByteArray.data_extract]
      rw [List.take_of_length_le (by simp; omega)]

theorem ext_self (T : ByteArray) (a : Nat) (h : T.size ≤ a) : T.extract 0 a = T := by
  have e : (T.extract 0 a).data.toList = T.data.toList := by
    simp [ByteArray.data_extract]
    rw [List.take_of_length_le (by simpa using h)]
  have := ba_ext e
  rw [this]
theorem nil_app (T : ByteArray) : (⟨#[]⟩ : ByteArray) ++ T = T := by
  have e : ((⟨#[]⟩ : ByteArray) ++ T).data.toList = T.data.toList := by simp
  have := ba_ext e
  rw [this]
theorem rprint_any (m s : Int) (w : World) (h : GoodD m s) : Calls Tryd.prog 15 #[.agg #[.int .i64 m, .int .i64 s]] w fun e w' => e = .returned (.string ⟨(printL m s.toNat).toArray⟩) ∧ Below w.heap.size w w' := by
  obtain ⟨k, rfl⟩ : ∃ k : Nat, s = k := ⟨s.toNat, by have := h.2.2.1; omega⟩
  have hk : k ≤ 6 := by have := h.2.2.2.1; omega
  have hn : m.natAbs ≤ 999999999999999 := by have := h.1; have := h.2.1; omega
  obtain ⟨T, a, hT, hsz, h1, h15, hp0, hp1⟩ := pad_parts m.natAbs k hn hk
  have HT := Lib.hid (fun w => rtext_any m.natAbs k w hn hk)
  rw [← hT] at HT
  simp only [Int.toNat_natCast]
  obtain ⟨V, hV⟩ : ∃ V : ByteArray, V = ⟨(printL m k).toArray⟩ := ⟨_, rfl⟩
  rw [← hV]
  have hk1 : (T.size : Int) - (k : Int) = (a : Int) := by omega
  have HB := Lib.hid ((Below.refl w.heap.size w).alloc (Nat.le_refl _) (.cells #[.int .i64 m, .int .i64 (k : Int)] 27))
  have HD := Lib.hid (DecB.new w m (k : Int) 27)
  by_cases hm : m < 0
  · have hp : (k = 0 → (⟨#[45]⟩ : ByteArray) ++ T = V) ∧ (k ≠ 0 → (⟨#[45]⟩ : ByteArray) ++ T.extract 0 a ++ ⟨#[46]⟩ ++ T.extract a (a + k) = V) := by
      refine ⟨fun h0 => ?_, fun h0 => ?_⟩
      · have := (hp0 h0 m rfl).2; rw [if_pos hm] at this; rw [hV]; exact this
      · have := hp1 h0 m rfl; rw [if_pos hm] at this; rw [hV]; exact this.1
    clear hp0 hp1 hV hT
    have HP := Lib.hid hp
    clear hp
    have hmn : -m = (m.natAbs : Int) := by omega
    generalize m.natAbs = n at *
    by_cases hk0 : (0 : Int) < k
    · have HK0 := Lib.hid (show k ≠ 0 by omega)
      go_enter Tryd.func15, Tryd.ntmps15
      go_wp2_with fail
      (with_reducible refine (HT.out _).mono ?_)
      rintro e w1 ⟨rfl, hb1⟩
      have HB1 := Lib.hid (HB.out.trans (hb1.mono HB.out.size))
      obtain ⟨d0, d1, d2, -, -⟩ := HD.out.below hb1
      clear hb1
      go_wp2_with fail
      go_ret
      exact ⟨by rw [← HP.out.2 HK0.out]; rfl, HB1.out⟩
    · have HE := Lib.hid (HP.out.1 (by omega))
      have HXT := Lib.hid (ext_self T a (by omega))
      obtain rfl : k = 0 := by omega
      have HT := Lib.hid (fun w => (show Calls Tryd.prog 39 #[.int .i64 (n : Int), .int .i64 1] w _ from HT.out w))
      have HD := Lib.hid (show DecB (w.alloc (.cells #[.int .i64 m, .int .i64 0] 27)) w.heap.size m 0 from HD.out)
      go_enter Tryd.func15, Tryd.ntmps15
      go_wp2_with fail
      (with_reducible refine (HT.out _).mono ?_)
      rintro e w1 ⟨rfl, hb1⟩
      have HB1 := Lib.hid (HB.out.trans (hb1.mono HB.out.size))
      obtain ⟨d0, d1, d2, -, -⟩ := HD.out.below hb1
      clear hb1
      go_wp2_with fail
      go_ret
      exact ⟨by show Ending.returned (.string (⟨#[45]⟩ ++ T.extract 0 a)) = _; rw [HXT.out, HE.out], HB1.out⟩
  · have hp : (k = 0 → T = V) ∧ (k ≠ 0 → T.extract 0 a ++ ⟨#[46]⟩ ++ T.extract a (a + k) = V) := by
      refine ⟨fun h0 => ?_, fun h0 => ?_⟩
      · have := (hp0 h0 m rfl).2; rw [if_neg hm] at this; rw [hV]; exact this
      · have := hp1 h0 m rfl; rw [if_neg hm] at this; rw [hV]; exact this
    clear hp0 hp1 hV hT
    have HP := Lib.hid hp
    clear hp
    have hmn : m = (m.natAbs : Int) := by omega
    generalize m.natAbs = n at *
    subst hmn
    by_cases hk0 : (0 : Int) < k
    · have HK0 := Lib.hid (show k ≠ 0 by omega)
      go_enter Tryd.func15, Tryd.ntmps15
      go_wp2_with fail
      (with_reducible refine (HT.out _).mono ?_)
      rintro e w1 ⟨rfl, hb1⟩
      have HB1 := Lib.hid (HB.out.trans (hb1.mono HB.out.size))
      obtain ⟨d0, d1, d2, -, -⟩ := HD.out.below hb1
      clear hb1
      go_wp2_with fail
      go_ret
      exact ⟨by rw [← HP.out.2 HK0.out]; rfl, HB1.out⟩
    · have HE := Lib.hid (HP.out.1 (by omega))
      have HXT := Lib.hid (ext_self T a (by omega))
      obtain rfl : k = 0 := by omega
      have HT := Lib.hid (fun w => (show Calls Tryd.prog 39 #[.int .i64 (n : Int), .int .i64 1] w _ from HT.out w))
      have HD := Lib.hid (show DecB (w.alloc (.cells #[.int .i64 (n : Int), .int .i64 0] 27)) w.heap.size (n : Int) 0 from HD.out)
      go_enter Tryd.func15, Tryd.ntmps15
      go_wp2_with fail
      (with_reducible refine (HT.out _).mono ?_)
      rintro e w1 ⟨rfl, hb1⟩
      have HB1 := Lib.hid (HB.out.trans (hb1.mono HB.out.size))
      obtain ⟨d0, d1, d2, -, -⟩ := HD.out.below hb1
      clear hb1
      go_wp2_with fail
      go_ret
      exact ⟨by show Ending.returned (.string (⟨#[]⟩ ++ T.extract 0 a)) = _; rw [HXT.out, nil_app, HE.out], HB1.out⟩
end Go.Proofs.YtcaejheaojnmmaaDoor
