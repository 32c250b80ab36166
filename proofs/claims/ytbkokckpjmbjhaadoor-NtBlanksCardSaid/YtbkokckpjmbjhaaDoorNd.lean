/- nt's rows of what may be. -/
import Derived.Test.YtbkokckpjmbjhaaDoorNc
namespace Go.Proofs.YtbkokckpjmbjhaaDoor
open Go.RowKit Go.Shelf
set_option maxRecDepth 100000
set_option linter.unusedVariables false
def smallN (n : Nat) : Bool := decide (97 ≤ n ∧ n ≤ 122)
def nameN (n : Nat) : Bool := smallN n || decide (65 ≤ n ∧ n ≤ 90) || decide (48 ≤ n ∧ n ≤ 57) || decide (n = 95)
def spokN (n : Nat) : Bool := smallN n || decide (n = 45)
theorem small9 (x : Nat) (w : World) : Calls Tryd.prog 60 #[.int .i32 x] w fun e w' => e = .returned (.bool (smallN x)) ∧ w' = w := by
  obtain ⟨b, hb⟩ : ∃ b, b = smallN x := ⟨_, rfl⟩
  rw [← hb]
  by_cases h1 : (97 : Int) ≤ x
  · by_cases h2 : (x : Int) ≤ 122
    · have HB := Lib.hid (show b = true by rw [hb]; unfold smallN; exact decide_eq_true (by omega))
      clear hb
      go_enter Tryd.func60, Tryd.ntmps60
      go_wp2
      go_ret
      exact ⟨by rw [HB.out]; rfl, rfl⟩
    · have HB := Lib.hid (show b = false by rw [hb]; unfold smallN; exact decide_eq_false (by omega))
      clear hb
      go_enter Tryd.func60, Tryd.ntmps60
      go_wp2
      go_ret
      exact ⟨by rw [HB.out]; rfl, rfl⟩
  · have HB := Lib.hid (show b = false by rw [hb]; unfold smallN; exact decide_eq_false (by omega))
    clear hb
    go_enter Tryd.func60, Tryd.ntmps60
    go_wp2
    go_ret
    exact ⟨by rw [HB.out]; rfl, rfl⟩
theorem spoken9 (x : Nat) (w : World) : Calls Tryd.prog 62 #[.int .i32 x] w fun e w' => e = .returned (.bool (spokN x)) ∧ w' = w := by
  have HS := Lib.hid (fun w => small9 x w)
  obtain ⟨b, hb⟩ : ∃ b, b = spokN x := ⟨_, rfl⟩
  rw [← hb]
  unfold spokN at hb
  generalize smallN x = q at HS hb
  have HB := Lib.hid hb
  clear hb
  cases q with
  | true =>
    go_enter Tryd.func62, Tryd.ntmps62
    go_wp2_with fail
    refine (HS.out _).mono ?_
    rintro e w1 ⟨rfl, hw⟩
    obtain rfl := hw.symm
    go_wp2_with fail
    go_ret
    exact ⟨by rw [HB.out]; rfl, rfl⟩
  | false =>
    go_enter Tryd.func62, Tryd.ntmps62
    go_wp2_with fail
    refine (HS.out _).mono ?_
    rintro e w1 ⟨rfl, hw⟩
    obtain rfl := hw.symm
    by_cases h1 : (x : Int) = 45
    · have h1b : (((x : Nat) : Int) == 45) = true := by simpa using h1
      have HX := Lib.hid h1
      clear h1
      go_wp2_with fail
      go_ret
      exact ⟨by rw [HB.out]; simp; exact_mod_cast HX.out, rfl⟩
    · have h1b : (((x : Nat) : Int) == 45) = false := by simpa using h1
      have HX := Lib.hid h1
      clear h1
      go_wp2_with fail
      go_ret
      exact ⟨by rw [HB.out]; simp; intro e; exact HX.out (by rw [e]; rfl), rfl⟩
theorem named9 (x : Nat) (w : World) : Calls Tryd.prog 46 #[.int .i32 x] w fun e w' => e = .returned (.bool (nameN x)) ∧ w' = w := by
  have HS := Lib.hid (fun w => small9 x w)
  obtain ⟨b, hb⟩ : ∃ b, b = nameN x := ⟨_, rfl⟩
  rw [← hb]
  unfold nameN at hb
  generalize hq : smallN x = q at HS hb
  have HB := Lib.hid hb
  clear hb hq
  cases q with
  | true =>
    go_enter Tryd.func46, Tryd.ntmps46
    go_wp2_with fail
    refine (HS.out _).mono ?_
    rintro e w1 ⟨rfl, hw⟩
    obtain rfl := hw.symm
    go_wp2_with fail
    go_ret
    exact ⟨by rw [HB.out]; rfl, rfl⟩
  | false =>
    go_enter Tryd.func46, Tryd.ntmps46
    go_wp2_with fail
    refine (HS.out _).mono ?_
    rintro e w1 ⟨rfl, hw⟩
    obtain rfl := hw.symm
    clear hw
    have fin : ∀ c : Bool, (c = true ↔ (65 ≤ x ∧ x ≤ 90) ∨ (48 ≤ x ∧ x ≤ 57) ∨ x = 95) → b = c := fun c hc => by
      rw [HB.out]
      cases c with
      | true =>
        have := hc.1 rfl
        simp only [Bool.false_or, Bool.or_eq_true, decide_eq_true_eq, or_assoc]
        exact this
      | false =>
        have : ¬ ((65 ≤ x ∧ x ≤ 90) ∨ (48 ≤ x ∧ x ≤ 57) ∨ x = 95) := fun e => by have := hc.2 e; cases this
        cases hh : (false || decide (65 ≤ x ∧ x ≤ 90) || decide (48 ≤ x ∧ x ≤ 57) || decide (x = 95)) with
        | false => rfl
        | true =>
          simp only [Bool.false_or, Bool.or_eq_true, decide_eq_true_eq, or_assoc] at hh
          exact absurd hh this
    have HFIN := Lib.hid fin
    clear fin
    by_cases h1 : (65 : Int) ≤ x
    · by_cases h2 : (x : Int) ≤ 90
      · go_wp2_with fail
        go_ret
        exact ⟨by rw [HFIN.out true (by simp; omega)]; first | rfl | (show Ending.returned (Value.bool _) = Ending.returned (Value.bool _); congr 2; simp; omega), rfl⟩
      · have h4 : ¬ (x : Int) ≤ 57 := by omega
        have h3 : (48 : Int) ≤ x := by omega
        by_cases h5 : (x : Int) = 95
        · have h5b : (((x : Nat) : Int) == 95) = true := by simpa using h5
          have H5 := Lib.hid h5
          clear h5
          go_wp2_with fail
          go_ret
          exact ⟨by rw [HFIN.out true (by have := H5.out; simp; omega)]; first | rfl | (show Ending.returned (Value.bool _) = Ending.returned (Value.bool _); congr 2; simp; omega), rfl⟩
        · have h5b : (((x : Nat) : Int) == 95) = false := by simpa using h5
          have H5 := Lib.hid h5
          clear h5
          go_wp2_with fail
          go_ret
          exact ⟨by rw [HFIN.out false (by have := H5.out; simp; omega)]; first | rfl | (show Ending.returned (Value.bool _) = Ending.returned (Value.bool _); congr 2; simp; omega), rfl⟩
    · by_cases h3 : (48 : Int) ≤ x
      · by_cases h4 : (x : Int) ≤ 57
        · go_wp2_with fail
          go_ret
          exact ⟨by rw [HFIN.out true (by simp; omega)]; first | rfl | (show Ending.returned (Value.bool _) = Ending.returned (Value.bool _); congr 2; simp; omega), rfl⟩
        · have h5b : (((x : Nat) : Int) == 95) = false := by
            have : ¬ (x : Int) = 95 := by omega
            simpa using this
          go_wp2_with fail
          go_ret
          exact ⟨by rw [HFIN.out false (by simp; omega)]; first | rfl | (show Ending.returned (Value.bool _) = Ending.returned (Value.bool _); congr 2; simp; omega), rfl⟩
      · have h5b : (((x : Nat) : Int) == 95) = false := by
          have : ¬ (x : Int) = 95 := by omega
          simpa using this
        go_wp2_with fail
        go_ret
        exact ⟨by rw [HFIN.out false (by simp; omega)]; first | rfl | (show Ending.returned (Value.bool _) = Ending.returned (Value.bool _); congr 2; simp; omega), rfl⟩
theorem row9 (g : Nat) (eg : ∀ args w, (callFunc g args).run Tryd.prog w = .ok (.enter g args) w) (p : Nat → Bool) (pb : UInt8 → Bool) (hg : ∀ (x : Nat) w, Calls Tryd.prog g #[.int .i32 x] w fun e w' => e = .returned (.bool (p x)) ∧ w' = w) (hp : ∀ c : UInt8, c.toNat < 128 → p c.toNat = pb c) (hb : ∀ c : UInt8, 128 ≤ c.toNat → pb c = false) (hn : ∀ n, 128 ≤ n → p n = false) (s : ByteArray) (hs : s.size ≤ 9223372036854775807) (w : World) :
    Calls Tryd.prog 45 #[.string s, .func (.func g) #[] #[]] w fun e w' => e = .returned (.tuple #[.string ⟨(s.data.toList.takeWhile pb).toArray⟩, .string ⟨(s.data.toList.dropWhile pb).toArray⟩]) ∧ Below w.heap.size w w' := by
  have htr := Any.strings_TrimLeftFunc_runes Tryd.lays272 g #[] eg p s w (fun W x _ _ => by
    unfold FnGives
    refine (hg x W).mono ?_
    rintro e w' ⟨rfl, rfl⟩
    exact ⟨rfl, 0, rfl⟩)
  rw [trim_func pb p hp hb hn s] at htr
  obtain ⟨d, hd⟩ : ∃ d : ByteArray, d = ⟨(s.data.toList.dropWhile pb).toArray⟩ := ⟨_, rfl⟩
  obtain ⟨t, ht⟩ : ∃ d : ByteArray, d = ⟨(s.data.toList.takeWhile pb).toArray⟩ := ⟨_, rfl⟩
  have hl : d.size ≤ s.size := by
    rw [hd, Lib.size_eq, Lib.size_eq]
    exact (List.dropWhile_sublist pb).length_le
  have he : s.extract 0 (s.size - d.size) = t := by
    rw [hd, ht]
    apply ba_ext
    rw [← Lib.toList_data, Lib.extract_toList, List.drop_zero, Nat.sub_zero]
    have h1 := congrArg List.length (List.takeWhile_append_dropWhile (p := pb) (l := s.data.toList))
    rw [List.length_append, ← Lib.size_eq] at h1
    have h2 : s.size - (⟨(s.data.toList.dropWhile pb).toArray⟩ : ByteArray).size = (s.data.toList.takeWhile pb).length := by
      rw [Lib.size_eq ⟨(s.data.toList.dropWhile pb).toArray⟩]
      show s.size - (s.data.toList.dropWhile pb).toArray.toList.length = _
      simp only
      omega
    rw [h2]
    conv => lhs; arg 2; rw [← List.takeWhile_append_dropWhile (p := pb) (l := s.data.toList)]
    rw [List.take_left]
  rw [← hd] at htr
  rw [← hd, ← ht]
  have HTR := Lib.hid htr
  have HE := Lib.hid he
  have hl2 : (d.size : Int) ≤ s.size := by omega
  have hsz : (s.size : Int) ≤ 9223372036854775807 := by omega
  clear htr hd ht he eg hg
  go_enter Tryd.func45, Tryd.ntmps45
  go_wp2_with fail
  refine HTR.out.mono ?_
  rintro e w1 ⟨rfl, hb1⟩
  go_wp2_with fail
  go_ret2
  refine ⟨?_, hb1⟩
  rw [← HE.out]
  trace_state
  rfl
theorem row_named (s : ByteArray) (hs : s.size ≤ 9223372036854775807) (w : World) :
    Calls Tryd.prog 45 #[.string s, .func (.func 46) #[] #[]] w fun e w' => e = .returned (.tuple #[.string ⟨(s.data.toList.takeWhile nameB).toArray⟩, .string ⟨(s.data.toList.dropWhile nameB).toArray⟩]) ∧ Below w.heap.size w w' :=
  row9 _ (enters_of Tryd.func46 (by kernel_rfl) rfl) nameN nameB (fun x w => named9 x w) (fun c _ => rfl) (fun c hc => by unfold nameB; simp; omega) (fun n hn => by unfold nameN smallN; simp; omega) s hs w
theorem row_spoken (s : ByteArray) (hs : s.size ≤ 9223372036854775807) (w : World) :
    Calls Tryd.prog 45 #[.string s, .func (.func 62) #[] #[]] w fun e w' => e = .returned (.tuple #[.string ⟨(s.data.toList.takeWhile spokB).toArray⟩, .string ⟨(s.data.toList.dropWhile spokB).toArray⟩]) ∧ Below w.heap.size w w' :=
  row9 _ (enters_of Tryd.func62 (by kernel_rfl) rfl) spokN spokB (fun x w => spoken9 x w) (fun c _ => rfl) (fun c hc => by unfold spokB; simp; omega) (fun n hn => by unfold spokN smallN; simp; omega) s hs w
end Go.Proofs.YtbkokckpjmbjhaaDoor
