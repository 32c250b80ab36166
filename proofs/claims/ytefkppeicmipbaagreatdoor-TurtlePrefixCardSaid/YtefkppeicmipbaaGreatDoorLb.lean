/- Signs: the library's functions. -/
import Derived.Test.YtefkppeicmipbaaGreatDoorGa
import Derived.Test.YtefkppeicmipbaaGreatDoorLa
import Derived.Test.YtefkppeicmipbaaGreatDoorShelf
import Derived.Lib.SlTrimSet
import Derived.Lib.IndexMore
import Derived.Shelf.GgClosure.StringsTrimFunc
import Derived.Shelf.Unicode.DecodeAny
import Derived.Shelf.Strings.FuncGrows
import Derived.Shelf.Strings.Runes
import Derived.Shelf.Small.Wraps
import Derived.Laws.Runes
import Derived.Laws.RangeAny
import Derived.Laws.RangeString
import Derived.Lib.OthersKept
import Derived.Deep.LoopGhost
import Derived.Deep.QuietTactic
import Derived.BigQuiet
import Derived.WalkMore
namespace Go.Proofs.YtefkppeicmipbaaGreatDoor
open Go.RowKit Go.Shelf
set_option maxRecDepth 100000
set_option linter.unusedVariables false
set_option linter.unusedSimpArgs false
theorem ba_extL {a b : ByteArray} (h : a.data.toList = b.data.toList) : a = b := by
  cases a; cases b
  congr 1
  exact Array.toList_inj.1 h
theorem draws_t (w : World) (n : Nat) : Below w.heap.size w (w.drewN n) := ⟨rfl, rfl, rfl, Nat.le_refl _, fun _ _ => rfl⟩
theorem below_drew {b : Nat} {w w' : World} (h : Below b w w') : Below b w w'.drew := ⟨h.os, h.tape, h.output, h.size, h.block⟩
theorem ext_from (s : ByteArray) (k : Nat) : (s.extract k s.size).data.toList = s.data.toList.drop k := by
  rw [← Lib.toList_data, Lib.extract_toList, List.take_of_length_le (by rw [List.length_drop, ← Lib.size_eq]; omega)]
theorem ext_to (s : ByteArray) (i k : Nat) : (s.extract i k).data.toList = (s.data.toList.drop i).take (k - i) := by
  rw [← Lib.toList_data, Lib.extract_toList]
theorem u8_ne {x : UInt8} {n : Nat} (y : UInt8) (hy : y.toNat = n) (h : x ≠ y) : (((x.toNat : Nat) : Int) == (n : Int)) = false := by
  rw [beq_eq_false_iff_ne]
  intro e
  exact h (UInt8.toNat_inj.1 (by omega))
theorem ascii_all {l : List UInt8} (h : l.all (fun c => decide (c.toNat < 128)) = true) : ∀ (j : Nat) b, l[j]? = some b → b.toNat < 128 := fun j b hj =>
  of_decide_eq_true (List.all_eq_true.1 h b (List.mem_of_getElem? hj))
theorem spre_any (s p : ByteArray) (w : World) : Calls Tryz.prog 29 #[.string s, .string p] w fun e w' => e = .returned (.bool (Lib.hasPrefix s.data.toList p.data.toList)) ∧ w' = w := Any.strings_HasPrefix Tryz.lays99 s p w
theorem strimp_any (s p : ByteArray) (w : World) : Calls Tryz.prog 64 #[.string s, .string p] w fun e w' => e = .returned (.string ⟨(Lib.trimPrefix s.data.toList p.data.toList).toArray⟩) ∧ w' = w := Any.strings_TrimPrefix Tryz.lays101 s p w
theorem scutp_any (s p : ByteArray) (w : World) : Calls Tryz.prog 66 #[.string s, .string p] w fun e w' => e = .returned (.tuple #[.string ⟨(Lib.trimPrefix s.data.toList p.data.toList).toArray⟩, .bool (Lib.hasPrefix s.data.toList p.data.toList)]) ∧ w' = w := Any.strings_CutPrefix Tryz.lays103 s p w
theorem strimr_any (s : ByteArray) (w : World) (hs : s.size ≤ 9223372036854775807) : Calls Tryz.prog 68 #[.string s, .string ⟨#[46]⟩] w fun e w' => e = .returned (.string ⟨(undot s.data.toList).toArray⟩) ∧ w' = w := Any.strings_TrimRight_one Tryz.lays162 s 46 (by decide) w hs
theorem sskip_any (s : ByteArray) (w : World) : Calls Tryz.prog 28 #[.string s, .string ⟨#[32, 9, 10, 13]⟩] w fun e w' => e = .returned (.string ⟨(s.data.toList.dropWhile blankC).toArray⟩) ∧ Below w.heap.size w w' := by
  have h := Any.strings_TrimLeft_laid Tryz.lays161 (by kernel_rfl) s ⟨#[32, 9, 10, 13]⟩ w (by decide) (ascii_all (by decide))
  exact h
theorem sclone_any (s : ByteArray) (w : World) (hs : s.size ≤ 1000000) : Calls Tryz.prog 13 #[.string s] w fun e w' => e = .returned (.string s) ∧ Below w.heap.size w w' := by
  have HC := Lib.hid (fun w => Any.stringslite_Clone Tryz.laysM316 s w (by omega))
  go_enter Tryz.func13, Tryz.ntmps13
  go_wp2_with fail
  refine (HC.out _).mono ?_
  rintro e w' ⟨rfl, hb⟩
  go_wp2_with fail
  go_ret
  exact ⟨rfl, hb⟩
theorem sindex_any (s : ByteArray) (c : UInt8) (w : World) : Calls Tryz.prog 81 #[.string s, .string ⟨#[c]⟩] w fun e w' => e = .returned (.int .i64 (Lib.indexByte s.data.toList c)) ∧ w' = w := Any.stringslite_Index_one Tryz.lays219 s c w
theorem get_bang (s : ByteArray) (i : Nat) (h : i < s.size) : s.get! i = s[i]'h := by
  have := get_at s i h
  rw [Nat.add_zero] at this
  exact this
/-- A rune that begins with a high byte is of high bytes alone. -/
theorem decode_skip (s : ByteArray) (pos : Nat) (h : pos < s.size) (ha : 128 ≤ (s[pos]'h).toNat) : ∀ (j : Nat) (hj : j < s.size), pos ≤ j → j < pos + (Utf8.decode s pos).2 → 128 ≤ (s[j]'hj).toNat := by
  intro j hj h1 h2
  have hn : ¬ (s.get! (pos + 0)).toNat < 0x80 := by rw [get_at s pos h]; omega
  have key : ∀ k, k < (Utf8.decode s pos).2 → k = 0 ∨ (pos + k < s.size ∧ (s.get! (pos + k)).toNat / 64 = 2) := by
    unfold Utf8.decode
    simp only [hn, if_false]
    repeat' split
    all_goals intro k hk
    all_goals simp only [Bool.and_eq_true, decide_eq_true_eq, beq_iff_eq] at *
    all_goals (rcases k with _ | _ | _ | _ | k <;> first | (left; rfl) | (right; simp_all; done) | omega)
  obtain ⟨k, rfl⟩ : ∃ k, j = pos + k := ⟨j - pos, by omega⟩
  rcases key k (by omega) with rfl | ⟨hk, hq⟩
  · exact ha
  · rw [get_bang s (pos + k) hk] at hq
    omega
theorem decode_valid (s : ByteArray) (pos : Nat) (h : pos < s.size) (ha : 128 ≤ (s[pos]'h).toNat) : Utf8.valid ((Utf8.decode s pos).1 : Int) = true := by
  have hn : ¬ (s.get! (pos + 0)).toNat < 0x80 := by rw [get_at s pos h]; omega
  unfold Utf8.decode
  simp only [hn, if_false]
  repeat' split
  all_goals first | (simp [Utf8.valid, Utf8.runeError]; done) | (simp only [Bool.and_eq_true, decide_eq_true_eq] at *; simp_all; done) | (simp [Utf8.valid]; omega)
theorem decode_in (s : ByteArray) (pos : Nat) (h : pos < s.size) (ha : 128 ≤ (s[pos]'h).toNat) : pos + (Utf8.decode s pos).2 ≤ s.size := by
  have hn : ¬ (s.get! (pos + 0)).toNat < 0x80 := by rw [get_at s pos h]; omega
  unfold Utf8.decode
  simp only [hn, if_false]
  repeat' split
  all_goals simp only [Bool.and_eq_true, decide_eq_true_eq, beq_iff_eq] at *
  all_goals omega
theorem indexByte_none : ∀ (l : List UInt8) (c : UInt8), (∀ b ∈ l, b ≠ c) → Lib.indexByte l c = -1
  | [], _, _ => rfl
  | b :: l, c, h => by
    have ih := indexByte_none l c (fun x hx => h x (List.mem_cons_of_mem _ hx))
    unfold Lib.indexByte
    rw [beq_eq_false_iff_ne.2 (h b (List.mem_cons_self ..)), ih]
    rfl
theorem sbyte_any (s : ByteArray) (c : UInt8) (w : World) : Calls Tryz.prog 83 #[.string s, .int .u8 ((c.toNat : Nat) : Int)] w fun e w' => e = .returned (.int .i64 (Lib.indexByte s.data.toList c)) ∧ w' = w := by
  have h := Any.strings_IndexByte (P := Tryz.prog) (ρ := Tryz.lays151_ren) { Tryz.lays151 with } s ((c.toNat : Nat) : Int) w
  rw [show (((c.toNat : Nat) : Int)).toNat.toUInt8 = c by simp] at h
  exact h
theorem vrune_any (r : Int) (hv : Utf8.valid r = true) (w : World) : Calls Tryz.prog 84 #[.int .i32 r] w fun e w' => e = .returned (.bool true) ∧ w' = w := by
  rw [validRune_eq] at hv
  unfold validRune at hv
  have h := of_decide_eq_true hv
  clear hv
  by_cases h1 : r < 55296
  · have h0 : 0 ≤ r := by omega
    go_enter Tryz.func84, Tryz.ntmps84
    go_wp2_with fail
    go_ret
    exact ⟨rfl, rfl⟩
  · have h2 : 57343 < r := by omega
    have h3 : r ≤ 1114111 := by omega
    have h0 : 0 ≤ r := by omega
    clear h
    go_enter Tryz.func84, Tryz.ntmps84
    go_wp2_with fail
    go_ret
    exact ⟨rfl, rfl⟩
theorem noGoto_ret10 {Q : Exit → Act → World → Prop} {a : Act} {w : World} : Exit.noGoto Q .ret a w = Q .ret a w := rfl
set_option maxHeartbeats 8000000 in
theorem irune_err (m : ByteArray) (hm : m.size ≤ 10) (hasc : ∀ c ∈ m.data.toList, c.toNat < 128) (w : World) :
    Calls Tryz.prog 62 #[.string m, .int .i32 65533] w fun e w' => e = .returned (.int .i64 (-1)) ∧ Below w.heap.size w w' := by
  have HA := Lib.hid hasc
  have hmi : (m.size : Int) ≤ 10 := by omega
  clear hasc
  go_enter Tryz.func62, Tryz.ntmps62
  go_wp2_with fail
  go_loopg [5, 6] m.size (fun g _ _ wx => ∃ i : Nat, i + g = m.size ∧ wx = w.iter m i)
  case atStart => exact ⟨0, by omega, rfl⟩
  case round =>
    obtain ⟨i, hig, rfl⟩ := hrel
    cases gk with
    | zero =>
      obtain rfl : i = m.size := by omega
      have hnx := run_next_end (P := Tryz.prog) w m m.size
      have hb : Below w.heap.size w (w.iter m m.size) := (Below.refl _ _).alloc (Nat.le_refl _) _
      go_wp2_with fail
      go_ret
      exact ⟨rfl, hb⟩
    | succ g =>
      have hi : i < m.size := by omega
      obtain ⟨x, hx⟩ : ∃ x : UInt8, m[i]'hi = x := ⟨_, rfl⟩
      have hx128 : x.toNat < 128 := by
        rw [← hx]
        exact HA.out _ (by rw [show m[i]'hi = m.data.toList[i]'(by rw [← Lib.size_eq]; exact hi) from rfl]; exact List.getElem_mem _)
      have hnx := fun ty => run_next_ascii (P := Tryz.prog) w m i ty hi (by rw [hx]; exact hx128)
      rw [hx] at hnx
      have hne : (((x.toNat : Nat) : Int) == 65533) = false := beq_eq_false_iff_ne.2 (by omega)
      clear hx hx128
      go_wp2_with fail
      go_roundg g
      case measure => omega
      case rel => exact ⟨i + 1, by omega, rfl⟩
set_option maxHeartbeats 8000000 in
theorem irune_high (m : ByteArray) (hm : m.size ≤ 10) (hasc : ∀ c ∈ m.data.toList, c.toNat < 128) (r : Int) (hv : Utf8.valid r = true) (h128 : 128 ≤ r) (w : World) :
    Calls Tryz.prog 62 #[.string m, .int .i32 r] w fun e w' => e = .returned (.int .i64 (-1)) ∧ Below w.heap.size w w' := by
  by_cases he : r = 65533
  · subst he
    exact irune_err m hm hasc w
  have hef := encode_facts r hv h128
  have HVR := Lib.hid (fun w => vrune_any r hv w)
  have hne : (r == 65533) = false := beq_eq_false_iff_ne.2 he
  have hcv : ∀ w, (convert 21 9 (.int .i32 r)).run Tryz.prog w = .ok (.string (Utf8.encode r)) w := fun w => run_convert_int_string w _ _ _ _ (by kernel_rfl) Tryz.underlying9
  obtain ⟨e, hee⟩ : ∃ e, e = Utf8.encode r := ⟨_, rfl⟩
  rw [← hee] at hef hcv
  obtain ⟨h2, h4, hl⟩ := hef
  obtain ⟨K, hK⟩ : ∃ K : Nat, e.size = K + 1 := ⟨e.size - 1, by omega⟩
  have hKe : K < e.size := by omega
  obtain ⟨c, hc⟩ : ∃ c : UInt8, e[K]'hKe = c := ⟨_, rfl⟩
  have hc128 : 128 ≤ c.toNat := by
    rw [← hc]
    have hz : e.size - 1 = K := by omega
    have := hl (by omega)
    simp only [hz] at this
    exact this
  have hes : (e.size : Int) = (K : Int) + 1 := by omega
  have hKi : (K : Int) < (K : Int) + 1 := by omega
  have h0r : 0 ≤ r := by omega
  have hnr : ¬ r < 128 := by omega
  have hmi : (m.size : Int) ≤ 10 := by omega
  have HA := Lib.hid hasc
  have HC := Lib.hid hc128
  have hk4 : (K : Int) ≤ 4 := by omega
  clear hee hl h2 h4 hK he hasc hc128 hv
  go_enter Tryz.func62, Tryz.ntmps62
  go_wp2_with fail
  refine (HVR.out _).mono ?_
  rintro en w1 ⟨rfl, hw⟩
  obtain rfl := hw.symm
  clear hw
  go_wp2_with fail
  apply wp_scope_straight
  go_wp2_with fail
  go_loopg [9] 0 (fun g s9 wx => s9 = .int .i64 (K : Int) ∧ wx = w)
  case atStart => exact ⟨by go_num, rfl⟩
  case round =>
    obtain ⟨rfl, rfl⟩ := hrel
    by_cases hlt : (K : Int) < m.size
    · have hkm : K < m.size := by omega
      obtain ⟨d, hd⟩ : ∃ d : UInt8, m[K]'hkm = d := ⟨_, rfl⟩
      have hd128 : d.toNat < 128 := by
        rw [← hd]
        exact HA.out _ (by rw [show m[K]'hkm = m.data.toList[K]'(by rw [← Lib.size_eq]; exact hkm) from rfl]; exact List.getElem_mem _)
      have hdc : (((d.toNat : Nat) : Int) == ((c.toNat : Nat) : Int)) = false := beq_eq_false_iff_ne.2 (by have := HC.out; omega)
      have hdc2 : (((d.toNat : Nat) : Int) != ((c.toNat : Nat) : Int)) = true := by rw [bne, hdc]; rfl
      obtain ⟨K1, hK1⟩ : ∃ K1, K1 = K + 1 := ⟨_, rfl⟩
      obtain ⟨q, hq⟩ : ∃ q : ByteArray, m.extract K1 m.size = q := ⟨_, rfl⟩
      have HSB := Lib.hid (fun w => sbyte_any q c w)
      rw [indexByte_none q.data.toList c (fun b hb e => by
        rw [← hq, ext_from] at hb
        have := HA.out b (List.mem_of_mem_drop hb)
        have := HC.out
        rw [e] at *
        omega)] at HSB
      clear hd128
      go_wp2_with fail
      apply wp_scope_straight
      go_wp2_with fail
      go_quiet (fail)
      go_wp2_with fail
      have hk1 : (K1 : Int) ≤ m.size := by omega
      have hp1 : (K : Int) + 1 = (K1 : Int) := by omega
      have hwr : IntKind.i64.wrap (K1 : Int) = (K1 : Int) := Go.wrap_small _ (by omega) (by omega)
      have hKi2 : (K : Int) < (K1 : Int) := by omega
      clear hK1 hKi hlt hk4
      have hbq : Below wr.heap.size wr (wr.drewN nq) := draws_t wr nq
      generalize wr.drewN nq = wq at hbq ⊢
      go_quiet ((go_at_call 83; exact Calls.quiet_of_same (HSB.out _)))
      go_wp2_with fail
      simp only [Exit.noGoto, Exit.inBlock, Exit.then]
      go_ret
      exact ⟨rfl, hbq.trans ((draws_t _ _).mono hbq.size)⟩
    · go_wp2_with fail
      repeat rw [noGoto_ret10]
      go_ret
      exact ⟨rfl, Below.refl _ _⟩
theorem irune_low (s : ByteArray) (r : Int) (w : World) (h0 : 0 ≤ r) (h1 : r < 128) : Calls Tryz.prog 62 #[.string s, .int .i32 r] w fun e w' => e = .returned (.int .i64 (Lib.indexByte s.data.toList r.toNat.toUInt8)) ∧ w' = w :=
  Any.strings_IndexRune_ascii (P := Tryz.prog) (ρ := Tryz.lays151_ren) { Tryz.lays151 with } s r w h0 h1

theorem vrune_bad (r : Int) (h1 : 55296 ≤ r) (h2 : r ≤ 57343) (w : World) : Calls Tryz.prog 84 #[.int .i32 r] w fun e w' => e = .returned (.bool false) ∧ w' = w := by
  have h0 : ¬ r < 55296 := by omega
  have h3 : ¬ 57343 < r := by omega
  have h4 : 0 ≤ r := by omega
  go_enter Tryz.func84, Tryz.ntmps84
  go_wp2_with fail
  go_ret
  exact ⟨rfl, rfl⟩
theorem irune_sur (m : ByteArray) (r : Int) (h1 : 55296 ≤ r) (h2 : r ≤ 57343) (w : World) :
    Calls Tryz.prog 62 #[.string m, .int .i32 r] w fun e w' => e = .returned (.int .i64 (-1)) ∧ Below w.heap.size w w' := by
  have HVR := Lib.hid (fun w => vrune_bad r h1 h2 w)
  have hne : (r == 65533) = false := beq_eq_false_iff_ne.2 (by omega)
  have h0r : 0 ≤ r := by omega
  have hnr : ¬ r < 128 := by omega
  go_enter Tryz.func62, Tryz.ntmps62
  go_wp2_with fail
  refine (HVR.out _).mono ?_
  rintro en w1 ⟨rfl, hw⟩
  obtain rfl := hw.symm
  clear hw
  go_wp2_with fail
  go_ret
  exact ⟨rfl, Below.refl _ _⟩
/-- IndexRune over ASCII letters, at whatever rune a range over a text gives. -/
def runeAt (m : List UInt8) (r : Nat) : Int := if r < 128 then Lib.indexByte m r.toUInt8 else -1
theorem irune_any (m : ByteArray) (hm : m.size ≤ 10) (hasc : ∀ c ∈ m.data.toList, c.toNat < 128) (r : Nat) (hv : r ≤ 1114111) (w : World) :
    Calls Tryz.prog 62 #[.string m, .int .i32 r] w fun e w' => e = .returned (.int .i64 (runeAt m.data.toList r)) ∧ Below w.heap.size w w' := by
  unfold runeAt
  split
  · rename_i h
    refine (irune_low m (r : Int) w (by omega) (by omega)).mono ?_
    rintro e w' ⟨rfl, rfl⟩
    exact ⟨by rw [Int.toNat_natCast], Below.refl _ _⟩
  · rename_i h
    by_cases hs : 55296 ≤ (r : Int) ∧ (r : Int) ≤ 57343
    · exact irune_sur m (r : Int) hs.1 hs.2 w
    · exact irune_high m hm hasc (r : Int) (by rw [validRune_eq]; unfold validRune; exact decide_eq_true (by omega)) (by omega) w
theorem crune_any (m : ByteArray) (hm : m.size ≤ 10) (hasc : ∀ c ∈ m.data.toList, c.toNat < 128) (r : Nat) (hv : r ≤ 1114111) (w : World) :
    Calls Tryz.prog 61 #[.string m, .int .i32 r] w fun e w' => e = .returned (.bool (decide (0 ≤ runeAt m.data.toList r))) ∧ Below w.heap.size w w' := by
  have HI := Lib.hid (fun w => irune_any m hm hasc r hv w)
  generalize runeAt m.data.toList r = q at HI ⊢
  clear hm hasc hv
  go_enter Tryz.func61, Tryz.ntmps61
  go_wp2_with fail
  refine (HI.out _).mono ?_
  rintro e w' ⟨rfl, hb⟩
  go_wp2_with fail
  go_ret
  exact ⟨rfl, hb⟩
end Go.Proofs.YtefkppeicmipbaaGreatDoor
