/- Signs: what may be. -/
import Derived.Test.YtefkppeicmipbaaGreatDoorLc
namespace Go.Proofs.YtefkppeicmipbaaGreatDoor
open Go.RowKit Go.Shelf
set_option maxRecDepth 100000
set_option linter.unusedVariables false
set_option linter.unusedSimpArgs false

theorem small11 (x : Nat) (w : World) : Calls Tryz.prog 38 #[.int .i32 x] w fun e w' => e = .returned (.bool (smallN x)) ∧ w' = w := by
  obtain ⟨b, hb⟩ : ∃ b, b = smallN x := ⟨_, rfl⟩
  rw [← hb]
  unfold smallN at hb
  by_cases h1 : (97 : Int) ≤ x
  · by_cases h2 : (x : Int) ≤ 122
    · have HB := Lib.hid (show b = true by rw [hb]; exact decide_eq_true (by omega))
      clear hb
      go_enter Tryz.func38, Tryz.ntmps38
      go_wp2
      go_ret
      exact ⟨by rw [HB.out]; rfl, rfl⟩
    · have HB := Lib.hid (show b = false by rw [hb]; exact decide_eq_false (by omega))
      clear hb
      go_enter Tryz.func38, Tryz.ntmps38
      go_wp2
      go_ret
      exact ⟨by rw [HB.out]; rfl, rfl⟩
  · have HB := Lib.hid (show b = false by rw [hb]; exact decide_eq_false (by omega))
    clear hb
    go_enter Tryz.func38, Tryz.ntmps38
    go_wp2
    go_ret
    exact ⟨by rw [HB.out]; rfl, rfl⟩

theorem digit11 (x : Nat) (w : World) : Calls Tryz.prog 40 #[.int .i32 x] w fun e w' => e = .returned (.bool (digitN x)) ∧ w' = w := by
  obtain ⟨b, hb⟩ : ∃ b, b = digitN x := ⟨_, rfl⟩
  rw [← hb]
  unfold digitN at hb
  by_cases h1 : (48 : Int) ≤ x
  · by_cases h2 : (x : Int) ≤ 57
    · have HB := Lib.hid (show b = true by rw [hb]; exact decide_eq_true (by omega))
      clear hb
      go_enter Tryz.func40, Tryz.ntmps40
      go_wp2
      go_ret
      exact ⟨by rw [HB.out]; rfl, rfl⟩
    · have HB := Lib.hid (show b = false by rw [hb]; exact decide_eq_false (by omega))
      clear hb
      go_enter Tryz.func40, Tryz.ntmps40
      go_wp2
      go_ret
      exact ⟨by rw [HB.out]; rfl, rfl⟩
  · have HB := Lib.hid (show b = false by rw [hb]; exact decide_eq_false (by omega))
    clear hb
    go_enter Tryz.func40, Tryz.ntmps40
    go_wp2
    go_ret
    exact ⟨by rw [HB.out]; rfl, rfl⟩

theorem letter11 (x : Nat) (w : World) : Calls Tryz.prog 37 #[.int .i32 x] w fun e w' => e = .returned (.bool (letterN x)) ∧ w' = w := by
  have HS := Lib.hid (fun w => small11 x w)
  obtain ⟨b, hb⟩ : ∃ b, b = letterN x := ⟨_, rfl⟩
  rw [← hb]
  unfold letterN at hb
  generalize smallN x = q at HS hb
  cases q with
  | true =>
    have HB := Lib.hid hb
    clear hb
    go_enter Tryz.func37, Tryz.ntmps37
    go_wp2_with fail
    refine (HS.out _).mono ?_
    rintro e w1 ⟨rfl, hw⟩
    obtain rfl := hw.symm
    go_wp2_with fail
    go_ret
    exact ⟨by rw [HB.out]; rfl, rfl⟩
  | false =>
    by_cases h1 : (65 : Int) ≤ x
    · by_cases h2 : (x : Int) ≤ 90
      · have HB := Lib.hid (show b = true by rw [hb]; exact decide_eq_true (by omega))
        clear hb
        go_enter Tryz.func37, Tryz.ntmps37
        go_wp2_with fail
        refine (HS.out _).mono ?_
        rintro e w1 ⟨rfl, hw⟩
        obtain rfl := hw.symm
        go_wp2_with fail
        go_ret
        exact ⟨by rw [HB.out]; first | rfl | (show Ending.returned (Value.bool _) = Ending.returned (Value.bool _); congr 2; simp; omega), rfl⟩
      · have HB := Lib.hid (show b = false by rw [hb]; exact decide_eq_false (by omega))
        clear hb
        go_enter Tryz.func37, Tryz.ntmps37
        go_wp2_with fail
        refine (HS.out _).mono ?_
        rintro e w1 ⟨rfl, hw⟩
        obtain rfl := hw.symm
        go_wp2_with fail
        go_ret
        exact ⟨by rw [HB.out]; first | rfl | (show Ending.returned (Value.bool _) = Ending.returned (Value.bool _); congr 2; simp; omega), rfl⟩
    · have HB := Lib.hid (show b = false by rw [hb]; exact decide_eq_false (by omega))
      clear hb
      go_enter Tryz.func37, Tryz.ntmps37
      go_wp2_with fail
      refine (HS.out _).mono ?_
      rintro e w1 ⟨rfl, hw⟩
      obtain rfl := hw.symm
      go_wp2_with fail
      go_ret
      exact ⟨by rw [HB.out]; rfl, rfl⟩

theorem named11 (x : Nat) (w : World) : Calls Tryz.prog 35 #[.int .i32 x] w fun e w' => e = .returned (.bool (nameN x)) ∧ w' = w := by
  have HS := Lib.hid (fun w => letter11 x w)
  have HD := Lib.hid (fun w => digit11 x w)
  obtain ⟨b, hb⟩ : ∃ b, b = nameN x := ⟨_, rfl⟩
  rw [← hb]
  unfold nameN at hb
  generalize letterN x = q at HS hb
  generalize digitN x = r at HD hb
  have HB := Lib.hid hb
  clear hb
  go_enter Tryz.func35, Tryz.ntmps35
  go_wp2_with fail
  refine (HS.out _).mono ?_
  rintro e w1 ⟨rfl, hw⟩
  obtain rfl := hw.symm
  clear hw
  cases q with
  | true =>
    go_wp2_with fail
    go_ret
    exact ⟨by rw [HB.out]; rfl, rfl⟩
  | false =>
    go_wp2_with fail
    refine (HD.out _).mono ?_
    rintro e w1 ⟨rfl, hw⟩
    obtain rfl := hw.symm
    clear hw
    cases r with
    | true =>
      go_wp2_with fail
      go_ret
      exact ⟨by rw [HB.out]; rfl, rfl⟩
    | false =>
      by_cases h1 : (x : Int) = 95
      · have h1b : (((x : Nat) : Int) == 95) = true := by simpa using h1
        have HX := Lib.hid h1
        clear h1
        go_wp2_with fail
        go_ret
        exact ⟨by rw [HB.out]; simp; exact_mod_cast HX.out, rfl⟩
      · have h1b : (((x : Nat) : Int) == 95) = false := by simpa using h1
        have HX := Lib.hid h1
        clear h1
        go_wp2_with fail
        go_ret
        exact ⟨by rw [HB.out]; simp; intro e; exact HX.out (by rw [e]; rfl), rfl⟩

theorem dashed11 (x : Nat) (w : World) : Calls Tryz.prog 65 #[.int .i32 x] w fun e w' => e = .returned (.bool (dashN x)) ∧ w' = w := by
  have HS := Lib.hid (fun w => named11 x w)
  obtain ⟨b, hb⟩ : ∃ b, b = dashN x := ⟨_, rfl⟩
  rw [← hb]
  unfold dashN at hb
  generalize nameN x = q at HS hb
  have HB := Lib.hid hb
  clear hb
  cases q with
  | true =>
    go_enter Tryz.func65, Tryz.ntmps65
    go_wp2_with fail
    refine (HS.out _).mono ?_
    rintro e w1 ⟨rfl, hw⟩
    obtain rfl := hw.symm
    go_wp2_with fail
    go_ret
    exact ⟨by rw [HB.out]; rfl, rfl⟩
  | false =>
    go_enter Tryz.func65, Tryz.ntmps65
    go_wp2_with fail
    refine (HS.out _).mono ?_
    rintro e w1 ⟨rfl, hw⟩
    obtain rfl := hw.symm
    by_cases h1 : (x : Int) = 45
    · have h1b : (((x : Nat) : Int) == 45) = true := by simpa using h1
      have HX := Lib.hid h1
      clear h1
      go_wp2_with fail
      go_ret
      exact ⟨by rw [HB.out]; simp; exact_mod_cast HX.out, rfl⟩
    · have h1b : (((x : Nat) : Int) == 45) = false := by simpa using h1
      have HX := Lib.hid h1
      clear h1
      go_wp2_with fail
      go_ret
      exact ⟨by rw [HB.out]; simp; intro e; exact HX.out (by rw [e]; rfl), rfl⟩

theorem dotted11 (x : Nat) (w : World) : Calls Tryz.prog 67 #[.int .i32 x] w fun e w' => e = .returned (.bool (dotN x)) ∧ w' = w := by
  have HS := Lib.hid (fun w => dashed11 x w)
  obtain ⟨b, hb⟩ : ∃ b, b = dotN x := ⟨_, rfl⟩
  rw [← hb]
  unfold dotN at hb
  generalize dashN x = q at HS hb
  have HB := Lib.hid hb
  clear hb
  cases q with
  | true =>
    go_enter Tryz.func67, Tryz.ntmps67
    go_wp2_with fail
    refine (HS.out _).mono ?_
    rintro e w1 ⟨rfl, hw⟩
    obtain rfl := hw.symm
    go_wp2_with fail
    go_ret
    exact ⟨by rw [HB.out]; rfl, rfl⟩
  | false =>
    go_enter Tryz.func67, Tryz.ntmps67
    go_wp2_with fail
    refine (HS.out _).mono ?_
    rintro e w1 ⟨rfl, hw⟩
    obtain rfl := hw.symm
    by_cases h1 : (x : Int) = 46
    · have h1b : (((x : Nat) : Int) == 46) = true := by simpa using h1
      have HX := Lib.hid h1
      clear h1
      go_wp2_with fail
      go_ret
      exact ⟨by rw [HB.out]; simp; exact_mod_cast HX.out, rfl⟩
    · have h1b : (((x : Nat) : Int) == 46) = false := by simpa using h1
      have HX := Lib.hid h1
      clear h1
      go_wp2_with fail
      go_ret
      exact ⟨by rw [HB.out]; simp; intro e; exact HX.out (by rw [e]; rfl), rfl⟩

theorem spoken11 (x : Nat) (w : World) : Calls Tryz.prog 39 #[.int .i32 x] w fun e w' => e = .returned (.bool (spokN x)) ∧ w' = w := by
  have HS := Lib.hid (fun w => small11 x w)
  obtain ⟨b, hb⟩ : ∃ b, b = spokN x := ⟨_, rfl⟩
  rw [← hb]
  unfold spokN at hb
  generalize smallN x = q at HS hb
  have HB := Lib.hid hb
  clear hb
  cases q with
  | true =>
    go_enter Tryz.func39, Tryz.ntmps39
    go_wp2_with fail
    refine (HS.out _).mono ?_
    rintro e w1 ⟨rfl, hw⟩
    obtain rfl := hw.symm
    go_wp2_with fail
    go_ret
    exact ⟨by rw [HB.out]; rfl, rfl⟩
  | false =>
    go_enter Tryz.func39, Tryz.ntmps39
    go_wp2_with fail
    refine (HS.out _).mono ?_
    rintro e w1 ⟨rfl, hw⟩
    obtain rfl := hw.symm
    by_cases h1 : (x : Int) = 45
    · have h1b : (((x : Nat) : Int) == 45) = true := by simpa using h1
      have HX := Lib.hid h1
      clear h1
      go_wp2_with fail
      go_ret
      exact ⟨by rw [HB.out]; simp; exact_mod_cast HX.out, rfl⟩
    · have h1b : (((x : Nat) : Int) == 45) = false := by simpa using h1
      have HX := Lib.hid h1
      clear h1
      go_wp2_with fail
      go_ret
      exact ⟨by rw [HB.out]; simp; intro e; exact HX.out (by rw [e]; rfl), rfl⟩

theorem ref_low : ∀ n, n < 128 → decide (0 ≤ runeAt [60, 62, 34, 123, 125, 124, 94, 92, 96] n) = ([60, 62, 34, 123, 125, 124, 94, 92, 96] : List Nat).contains n := by decide
theorem ref_high (n : Nat) (h : 128 ≤ n) : refN n = true := by
  unfold refN
  simp
  omega
theorem ref_rune (n : Nat) : decide (0 ≤ runeAt [60, 62, 34, 123, 125, 124, 94, 92, 96] n) = ([60, 62, 34, 123, 125, 124, 94, 92, 96] : List Nat).contains n := by
  by_cases h : n < 128
  · exact ref_low n h
  · unfold runeAt
    rw [if_neg h]
    simp
    omega
theorem referred11 (x : Nat) (hv : x ≤ 1114111) (w : World) : Calls Tryz.prog 33 #[.int .i32 x] w fun e w' => e = .returned (.bool (refN x)) ∧ Below w.heap.size w w' := by
  have HS := Lib.hid (fun w => crune_any ⟨#[60, 62, 34, 123, 125, 124, 94, 92, 96]⟩ (by decide) (by decide) x hv w)
  rw [show (⟨#[60, 62, 34, 123, 125, 124, 94, 92, 96]⟩ : ByteArray).data.toList = [60, 62, 34, 123, 125, 124, 94, 92, 96] from rfl, ref_rune] at HS
  obtain ⟨b, hb⟩ : ∃ b, b = refN x := ⟨_, rfl⟩
  rw [← hb]
  unfold refN at hb
  generalize List.contains _ x = q at HS hb
  clear hv
  by_cases h1 : (32 : Int) < x
  · have HB := Lib.hid (show b = !q by rw [hb, decide_eq_true (by omega)]; rfl)
    clear hb
    go_enter Tryz.func33, Tryz.ntmps33
    go_wp2_with fail
    refine (HS.out _).mono ?_
    rintro e w1 ⟨rfl, hw⟩
    go_wp2_with fail
    go_ret
    exact ⟨by rw [HB.out]; rfl, hw⟩
  · have HB := Lib.hid (show b = false by rw [hb, decide_eq_false (by omega)]; rfl)
    clear hb
    go_enter Tryz.func33, Tryz.ntmps33
    go_wp2_with fail
    go_ret
    exact ⟨by rw [HB.out]; rfl, Below.refl _ _⟩
theorem row11 (hi : Bool) (g : Nat) (eg : ∀ args w, (callFunc g args).run Tryz.prog w = .ok (.enter g args) w) (p : Nat → Bool) (pb : UInt8 → Bool) (hg : ∀ (x : Nat) w, x ≤ 1114111 → Calls Tryz.prog g #[.int .i32 x] w fun e w' => e = .returned (.bool (p x)) ∧ Below w.heap.size w w') (hp : ∀ c : UInt8, c.toNat < 128 → p c.toNat = pb c) (hb : ∀ c : UInt8, 128 ≤ c.toNat → pb c = hi) (hn : ∀ n, 128 ≤ n → p n = hi) (s : ByteArray) (hs : s.size ≤ 9223372036854775807) (w : World) :
    Calls Tryz.prog 32 #[.string s, .func (.func g) #[] #[]] w fun e w' => e = .returned (.tuple #[.string ⟨(s.data.toList.takeWhile pb).toArray⟩, .string ⟨(s.data.toList.dropWhile pb).toArray⟩]) ∧ Below w.heap.size w w' := by
  have htr := Any.strings_TrimLeftFunc_grows Tryz.lays272 g #[] eg p s w (fun W x hx _ => hg x W hx)
  rw [trim_func hi pb p hp hb hn s] at htr
  obtain ⟨d, hd⟩ : ∃ d : ByteArray, d = ⟨(s.data.toList.dropWhile pb).toArray⟩ := ⟨_, rfl⟩
  obtain ⟨t, ht⟩ : ∃ d : ByteArray, d = ⟨(s.data.toList.takeWhile pb).toArray⟩ := ⟨_, rfl⟩
  have hl : d.size ≤ s.size := by
    rw [hd, Lib.size_eq, Lib.size_eq]
    exact (List.dropWhile_sublist pb).length_le
  have he : s.extract 0 (s.size - d.size) = t := by
    rw [hd, ht]
    apply ba_extL
    rw [← Lib.toList_data, Lib.extract_toList, List.drop_zero, Nat.sub_zero]
    have h1 := congrArg List.length (List.takeWhile_append_dropWhile (p := pb) (l := s.data.toList))
    rw [List.length_append, ← Lib.size_eq] at h1
    have h2 : s.size - (⟨(s.data.toList.dropWhile pb).toArray⟩ : ByteArray).size = (s.data.toList.takeWhile pb).length := by
      rw [Lib.size_eq ⟨(s.data.toList.dropWhile pb).toArray⟩]
      show s.size - (s.data.toList.dropWhile pb).toArray.toList.length = _
      simp only
      omega
    rw [h2]
    conv => lhs; arg 2; rw [← List.takeWhile_append_dropWhile (p := pb) (l := s.data.toList)]
    rw [List.take_left]
  rw [← hd] at htr
  rw [← hd, ← ht]
  have HTR := Lib.hid htr
  have HE := Lib.hid he
  have hl2 : (d.size : Int) ≤ s.size := by omega
  have hsz : (s.size : Int) ≤ 9223372036854775807 := by omega
  clear htr hd ht he eg hg
  go_enter Tryz.func32, Tryz.ntmps32
  go_wp2_with fail
  refine HTR.out.mono ?_
  rintro e w1 ⟨rfl, hb1⟩
  go_wp2_with fail
  go_ret2
  refine ⟨?_, hb1⟩
  rw [← HE.out]
  rfl
theorem high_named : ∀ n, 128 ≤ n → nameN n = false := fun n h => by
  simp [nameN, dashN, nameN, letterN, digitN, smallN]
  omega
theorem row_named (s : ByteArray) (hs : s.size ≤ 9223372036854775807) (w : World) :
    Calls Tryz.prog 32 #[.string s, .func (.func 35) #[] #[]] w fun e w' => e = .returned (.tuple #[.string ⟨(s.data.toList.takeWhile nameC).toArray⟩, .string ⟨(s.data.toList.dropWhile nameC).toArray⟩]) ∧ Below w.heap.size w w' :=
  row11 false _ (enters_of Tryz.func35 (by kernel_rfl) rfl) nameN nameC (fun x w _ => (named11 x w).mono fun e w' ⟨h1, h2⟩ => ⟨h1, h2 ▸ Below.refl _ _⟩) (fun c _ => rfl) (fun c hc => high_named _ hc) high_named s hs w
theorem high_spoken : ∀ n, 128 ≤ n → spokN n = false := fun n h => by
  simp [spokN, dashN, nameN, letterN, digitN, smallN]
  omega
theorem row_spoken (s : ByteArray) (hs : s.size ≤ 9223372036854775807) (w : World) :
    Calls Tryz.prog 32 #[.string s, .func (.func 39) #[] #[]] w fun e w' => e = .returned (.tuple #[.string ⟨(s.data.toList.takeWhile spokC).toArray⟩, .string ⟨(s.data.toList.dropWhile spokC).toArray⟩]) ∧ Below w.heap.size w w' :=
  row11 false _ (enters_of Tryz.func39 (by kernel_rfl) rfl) spokN spokC (fun x w _ => (spoken11 x w).mono fun e w' ⟨h1, h2⟩ => ⟨h1, h2 ▸ Below.refl _ _⟩) (fun c _ => rfl) (fun c hc => high_spoken _ hc) high_spoken s hs w
theorem high_digit : ∀ n, 128 ≤ n → digitN n = false := fun n h => by
  simp [digitN, dashN, nameN, letterN, digitN, smallN]
  omega
theorem row_digit (s : ByteArray) (hs : s.size ≤ 9223372036854775807) (w : World) :
    Calls Tryz.prog 32 #[.string s, .func (.func 40) #[] #[]] w fun e w' => e = .returned (.tuple #[.string ⟨(s.data.toList.takeWhile digitC).toArray⟩, .string ⟨(s.data.toList.dropWhile digitC).toArray⟩]) ∧ Below w.heap.size w w' :=
  row11 false _ (enters_of Tryz.func40 (by kernel_rfl) rfl) digitN digitC (fun x w _ => (digit11 x w).mono fun e w' ⟨h1, h2⟩ => ⟨h1, h2 ▸ Below.refl _ _⟩) (fun c _ => rfl) (fun c hc => high_digit _ hc) high_digit s hs w
theorem high_dashed : ∀ n, 128 ≤ n → dashN n = false := fun n h => by
  simp [dashN, dashN, nameN, letterN, digitN, smallN]
  omega
theorem row_dashed (s : ByteArray) (hs : s.size ≤ 9223372036854775807) (w : World) :
    Calls Tryz.prog 32 #[.string s, .func (.func 65) #[] #[]] w fun e w' => e = .returned (.tuple #[.string ⟨(s.data.toList.takeWhile dashC).toArray⟩, .string ⟨(s.data.toList.dropWhile dashC).toArray⟩]) ∧ Below w.heap.size w w' :=
  row11 false _ (enters_of Tryz.func65 (by kernel_rfl) rfl) dashN dashC (fun x w _ => (dashed11 x w).mono fun e w' ⟨h1, h2⟩ => ⟨h1, h2 ▸ Below.refl _ _⟩) (fun c _ => rfl) (fun c hc => high_dashed _ hc) high_dashed s hs w
theorem high_dotted : ∀ n, 128 ≤ n → dotN n = false := fun n h => by
  simp [dotN, dashN, nameN, letterN, digitN, smallN]
  omega
theorem row_dotted (s : ByteArray) (hs : s.size ≤ 9223372036854775807) (w : World) :
    Calls Tryz.prog 32 #[.string s, .func (.func 67) #[] #[]] w fun e w' => e = .returned (.tuple #[.string ⟨(s.data.toList.takeWhile dotC).toArray⟩, .string ⟨(s.data.toList.dropWhile dotC).toArray⟩]) ∧ Below w.heap.size w w' :=
  row11 false _ (enters_of Tryz.func67 (by kernel_rfl) rfl) dotN dotC (fun x w _ => (dotted11 x w).mono fun e w' ⟨h1, h2⟩ => ⟨h1, h2 ▸ Below.refl _ _⟩) (fun c _ => rfl) (fun c hc => high_dotted _ hc) high_dotted s hs w
theorem row_ref (s : ByteArray) (hs : s.size ≤ 9223372036854775807) (w : World) :
    Calls Tryz.prog 32 #[.string s, .func (.func 33) #[] #[]] w fun e w' => e = .returned (.tuple #[.string ⟨(s.data.toList.takeWhile refC).toArray⟩, .string ⟨(s.data.toList.dropWhile refC).toArray⟩]) ∧ Below w.heap.size w w' :=
  row11 true _ (enters_of Tryz.func33 (by kernel_rfl) rfl) refN refC (fun x w hx => referred11 x hx w) (fun c _ => rfl) (fun c hc => ref_high _ hc) (fun n hn => ref_high n hn) s hs w
end Go.Proofs.YtefkppeicmipbaaGreatDoor
