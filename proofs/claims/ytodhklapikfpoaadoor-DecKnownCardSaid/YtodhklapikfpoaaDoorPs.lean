/- dec.Print. -/
import Derived.Test.YtodhklapikfpoaaDoorPr
import Derived.Lib.ItoaMem
import Derived.Lib.LaidTab
import Derived.Lib.AppendIntMem
import Derived.Shelf.Strconv.Itoa3
import Derived.Shelf.Strings.Repeat
namespace Go.Proofs.YtodhklapikfpoaaDoor
open Go.RowKit Go.Shelf
set_option maxRecDepth 100000
set_option linter.unusedVariables false
set_option linter.unusedSimpArgs false

theorem byteExtra : Builder.Extra Tryd.prog Tryd.lays105_ren where
  sizeBuilder := by kernel_rfl
  liesBuilder := by kernel_rfl
  t5 := Tryd.underlying5
  a5 := Tryd.isAgg5
  z5 := Tryd.sizeOf5
  v5 := Tryd.zeroValue5
  infoByte := by kernel_rfl
  cellsByte := by kernel_rfl
  sizeByte := by kernel_rfl
  neB5 := by decide
/-- The table that strconv.Itoa reads. -/
def TabP (w : World) : Prop := Lib.TabIs Tryd.prog w "internal/strconv.uint64pow10" .u64 Lib.pow10Tab
theorem gTabP : Tryd.prog.globalNamed "internal/strconv.uint64pow10" = some 6 := by kernel_rfl
theorem TabP.lt {w : World} (h : TabP w) : 6 < w.heap.size := by
  unfold TabP Lib.TabIs World.var? at h
  rw [gTabP] at h
  simp only [Option.bind_some] at h
  rcases Nat.lt_or_ge 6 w.heap.size with h' | h'
  · exact h'
  · rw [Array.getElem?_eq_none h'] at h; cases h
theorem TabP.below {w w' : World} (h : TabP w) (hb : Below w.heap.size w w') : TabP w' := by
  have hl := h.lt
  have hb := hb.block _ hl
  unfold TabP Lib.TabIs World.var? at h ⊢
  rw [gTabP] at h ⊢
  simp only [Option.bind_some] at h ⊢
  rw [hb]
  exact h
theorem itoa_nat (n : Nat) (hn : n ≤ 999999999999999) (w : World) (ht : TabP w) : Calls Tryd.prog 35 #[.int .i64 (n : Int)] w fun e w' => e = .returned (.string ⟨(Lib.decDigits n).toArray⟩) ∧ Below w.heap.size w w' := by
  refine (Any.strconv_Itoa Tryd.laysM171 (n : Int) (by omega) (by omega) w ht).mono ?_
  rintro e w' ⟨rfl, k, os, rfl⟩
  exact ⟨by rw [Lib.itoa_nonneg], Lib.below_grow _ w (Nat.le_refl _) k os⟩
theorem repeatL_rep (c : UInt8) : ∀ k, Lib.repeatL [c] k = List.replicate k c
  | 0 => rfl
  | k + 1 => by unfold Lib.repeatL; rw [repeatL_rep c k]; rfl
theorem repeat_any (c : Nat) (hc : c ≤ 20) (w : World) : Calls Tryd.prog 36 #[.string ⟨#[48]⟩, .int .i64 (c : Int)] w fun e w' => e = .returned (.string ⟨(List.replicate c 48).toArray⟩) ∧ Below w.heap.size w w' := by
  rw [← repeatL_rep]
  exact Any.strings_Repeat Tryd.lays105 byteExtra ⟨#[48]⟩ c w (by omega) (by show 1 * c ≤ _; omega)

theorem pad_two (n k : Nat) : (⟨(List.replicate (k + 1 - Lib.nDigits n) 48).toArray⟩ : ByteArray) ++ ⟨(Lib.decDigits n).toArray⟩ = ⟨(padL n k).toArray⟩ := by
  apply ba_ext
  rw [show padL n k = fixL (lenD n k) n from rfl, ← fixL_dec (lenD n k) n (Nat.le_max_right _ _), show lenD n k - Lib.nDigits n = k + 1 - Lib.nDigits n by unfold lenD; omega]
  simp
theorem print_any (m s : Int) (w : World) (h : GoodD m s) (ht : TabP w) : Calls Tryd.prog 17 #[.agg #[.int .i64 m, .int .i64 s]] w fun e w' => e = .returned (.string ⟨(printL m s.toNat).toArray⟩) ∧ Below w.heap.size w w' := by
  have HI := Lib.hid (fun w => is_any w m s h)
  obtain ⟨k, rfl⟩ : ∃ k : Nat, s = k := ⟨s.toNat, by have := h.2.2.1; omega⟩
  have hk : k ≤ 6 := by have := h.2.2.2.1; omega
  have hn : m.natAbs ≤ 999999999999999 := by have := h.1; have := h.2.1; omega
  obtain ⟨T, a, hT, hsz, h1, h15, hp0, hp1⟩ := pad_parts m.natAbs k hn hk
  have hL := lenD_le m.natAbs k hn hk
  have hdl : Lib.nDigits m.natAbs ≤ 15 := Nat.le_trans (Nat.le_max_right _ _) hL
  have HT := Lib.hid ht
  have HN := Lib.hid (fun w ht => itoa_nat m.natAbs hn w ht)
  have HR := Lib.hid (fun w => repeat_any (k + 1 - Lib.nDigits m.natAbs) (by omega) w)
  have hzd := pad_two m.natAbs k
  rw [← hT] at hzd
  have hds : (⟨(Lib.decDigits m.natAbs).toArray⟩ : ByteArray).size = Lib.nDigits m.natAbs := by show (Lib.decDigits m.natAbs).toArray.size = _; simp [Lib.decDigits_length]
  have hzs : (⟨(List.replicate (k + 1 - Lib.nDigits m.natAbs) 48).toArray⟩ : ByteArray).size = k + 1 - Lib.nDigits m.natAbs := by show (List.replicate _ _).toArray.size = _; simp
  generalize (⟨(Lib.decDigits m.natAbs).toArray⟩ : ByteArray) = D at *
  generalize (List.replicate (k + 1 - Lib.nDigits m.natAbs) (48 : UInt8)).toArray = z at *
  obtain ⟨Z, hZ⟩ : ∃ Z : ByteArray, Z = ⟨z⟩ := ⟨_, rfl⟩
  rw [← hZ] at hzd HR hzs
  clear hZ
  generalize Lib.nDigits m.natAbs = dl at *
  obtain ⟨c, hc⟩ : ∃ c : Nat, c = k + 1 - dl := ⟨_, rfl⟩
  rw [← hc] at HR hzs
  have hmax : max ((k : Int) + 1 - (dl : Int)) 0 = (c : Int) := by omega
  clear hc
  simp only [Int.toNat_natCast]
  obtain ⟨V, hV⟩ : ∃ V : ByteArray, V = ⟨(printL m k).toArray⟩ := ⟨_, rfl⟩
  rw [← hV]
  have hk1 : (T.size : Int) - (k : Int) = (a : Int) := by omega
  have HB := Lib.hid ((Below.refl w.heap.size w).alloc (Nat.le_refl _) (.cells #[.int .i64 m, .int .i64 (k : Int)] 24))
  have HD := Lib.hid (DecB.new w m (k : Int) 24)
  have hmm : max m (-m) = (m.natAbs : Int) := by omega
  go_enter Tryd.func17, Tryd.ntmps17
  go_wp2_with fail
  (with_reducible refine (HI.out _).mono ?_)
  rintro e w1 ⟨rfl, hb1⟩
  have HB1 := Lib.hid (HB.out.trans (hb1.mono HB.out.size))
  have HD1 := Lib.hid (HD.out.below hb1)
  clear hb1
  obtain ⟨d0, d1, d2, -, -⟩ := HD1.out
  go_wp2_with fail
  (with_reducible refine (HN.out _ (HT.out.below HB1.out)).mono ?_)
  rintro e w2 ⟨rfl, hb⟩
  have HB2 := Lib.hid (HB1.out.trans (hb.mono HB1.out.size))
  have HD2 := Lib.hid (HD1.out.below hb)
  clear hb d0 d1 d2
  obtain ⟨d0, d1, d2, -, -⟩ := HD2.out
  go_wp2_with fail
  (with_reducible refine (HR.out _).mono ?_)
  rintro e w3 ⟨rfl, hb⟩
  have HB3 := Lib.hid (HB2.out.trans (hb.mono HB2.out.size))
  have HD3 := Lib.hid (HD2.out.below hb)
  clear hb d0 d1 d2
  obtain ⟨d0, d1, d2, -, -⟩ := HD3.out
  have HP0 := Lib.hid hp0
  have HP1 := Lib.hid hp1
  have HV := Lib.hid hV
  have HG := Lib.hid (And.intro h HI)
  clear hp0 hp1 hV h HI hT
  have hzds : Z.size + D.size = a + k := by rw [← hsz, ← hzd, ByteArray.size_append]
  by_cases hk0 : (0 : Int) < k
  · have HK0 := Lib.hid (show k ≠ 0 by omega)
    go_wp2_with fail
    have HF := Lib.hid (HP1.out HK0.out m rfl)
    have HVV := Lib.hid HV.out.symm
    go_quiet (fail)
    have HB4 := Lib.hid (HB3.out.trans ((drewN_below w3 nq).mono HB3.out.size))
    have hxs : (T.extract 0 a ++ ⟨#[46]⟩ ++ T.extract a (a + k)).size ≤ 40 := by
      rw [ByteArray.size_append, ByteArray.size_append, ByteArray.size_extract, ByteArray.size_extract, show (⟨#[46]⟩ : ByteArray).size = 1 from rfl]; omega
    generalize T.extract 0 a ++ ⟨#[46]⟩ ++ T.extract a (a + k) = X at HF hxs ⊢
    by_cases hm : m < 0
    · have HM := Lib.hid hm
      have HE := Lib.hid (show (⟨#[45]⟩ : ByteArray) ++ X = V by have := HF.out; rw [if_pos hm] at this; rw [this.2]; exact HVV.out)
      go_wp2_with fail
      go_ret
      exact ⟨by rw [← HE.out]; rfl, HB4.out⟩
    · have HE := Lib.hid (show X = V by have := HF.out; rw [if_neg hm] at this; rw [this]; exact HVV.out)
      go_wp2_with fail
      go_ret
      exact ⟨by rw [← HE.out]; rfl, HB4.out⟩
  · have HK0 := Lib.hid (show k = 0 by omega)
    have HF := Lib.hid (HP0.out HK0.out m rfl)
    by_cases hm : m < 0
    · have HM := Lib.hid hm
      go_wp2_with fail
      go_ret
      exact ⟨by rw [HV.out]; have := HF.out.2; rw [if_pos HM.out] at this; rw [← this]; rfl, HB3.out⟩
    · have HM := Lib.hid hm
      go_wp2_with fail
      go_ret
      exact ⟨by rw [HV.out]; have := HF.out.2; rw [if_neg (by have := HM.out; omega)] at this; rw [← this]; rfl, HB3.out⟩
end Go.Proofs.YtodhklapikfpoaaDoor
