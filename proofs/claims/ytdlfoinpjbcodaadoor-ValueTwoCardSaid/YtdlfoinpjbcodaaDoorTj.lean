/- Tj; Tk -/
import Derived.Test.YtdlfoinpjbcodaaDoorTa
namespace Go.Proofs.YtdlfoinpjbcodaaDoor
open Go.RowKit
set_option maxRecDepth 100000
theorem ret_int {k : IntKind} {a b : Int} (h : a = b) : Ending.returned (.int k a) = .returned (.int k b) := by rw [h]
set_option maxHeartbeats 1000000 in
theorem within6_any (x n : Int) (hn : 0 < n) (hn' : n ≤ 1000000) (hx : (Lit.int .i64 x).wf = true) (w : World) :
    Calls Tryd.prog 15 #[.int .i64 x, .int .i64 n] w fun e w' => e = .returned (.int .i64 (x % n)) ∧ w = w' := by
  have hr : -9223372036854775808 ≤ x ∧ x ≤ 9223372036854775807 := by
    simpa [Lit.wf, IntKind.min, IntKind.max, IntKind.signed, IntKind.bits] using hx
  have hne : (n == 0) = false := beq_eq_false_iff_ne.2 (by omega)
  have h2 := Int.emod_nonneg x (show n ≠ 0 by omega)
  have h3 := Int.emod_lt_of_pos x hn
  have hT : x.tmod n = x % n ∨ x.tmod n = x % n - n := by
    rw [Int.tmod_eq_emod]
    split <;> omega
  have HT := Lib.hid hT
  clear hT
  by_cases h0 : 0 ≤ x
  · go_enter Tryd.func15, Tryd.ntmps15
    go_wp2
    go_ret
    exact ⟨rfl, rfl⟩
  · go_enter Tryd.func15, Tryd.ntmps15
    go_wp2
    all_goals
      go_ret
      have hT := HT.out
      exact ⟨ret_int (by first | omega | (simp only [wrap64]; omega)), rfl⟩
def fewB (x : Tm) : Bool := decide (x.s.size ≤ 100) && decide (x.l.size ≤ 20) && decide (x.t.size ≤ 100)
set_option maxHeartbeats 1000000 in
theorem few_any (x : Tm) (w : World) :
    Calls Tryd.prog 5 #[x.val] w fun e w' => e = .returned (.bool (fewB x)) ∧ Below w.heap.size w w' := by
  obtain ⟨k, s, l, t⟩ := x
  unfold Tm.val fewB
  dsimp only
  by_cases h1 : s.size ≤ 100 <;> by_cases h2 : l.size ≤ 20 <;> by_cases h3 : t.size ≤ 100
  all_goals
    go_enter Tryd.func5, Tryd.ntmps5
    go_wp2
    go_ret
    refine ⟨ret_bool ?_, (Below.refl _ _).alloc (Nat.le_refl _) _⟩
    rw [Bool.eq_iff_iff]
    try simp
    try omega
/-- A byte as a letter; a text's first n bytes as letters. -/
def letB (c : UInt8) : UInt8 := UInt8.ofNat (97 + c.toNat % 5)
def letL (s : ByteArray) (n : Nat) : List UInt8 := (s.data.toList.take n).map letB
theorem letB_nat (c : UInt8) : (letB c).toNat = 97 + c.toNat % 5 := by
  unfold letB
  rw [UInt8.toNat_ofNat_of_lt']
  simp [UInt8.size]
  omega
set_option maxHeartbeats 2000000 in
theorem letters_any (s : ByteArray) (n : Nat) (hn : n ≤ 100) (_ : s.size ≤ maxLen) (w : World) :
    Calls Tryd.prog 16 #[.string s, .int .i64 n] w fun e w' => e = .returned (.string (bl (letL s n))) ∧ Below w.heap.size w w' := by
  go_enter Tryd.func16, Tryd.ntmps16
  go_wp2
  go_loopw [5, 6, 7, 8, 9, 10, 11, 12, 13, 14, 15, 16, 17, 18, 19, 20, 21, 22, 23, 24, 25, 26] (fun b i _ _ _ _ _ _ _ _ _ _ _ _ _ _ _ _ _ _ _ _ wr => ∃ k : Nat, k ≤ s.size ∧ k ≤ n ∧ i = .int .i64 k ∧ b = .string (bl ((s.data.toList.take k).map letB)) ∧ Below w.heap.size w wr) (fun _ i _ _ _ _ _ _ _ _ _ _ _ _ _ _ _ _ _ _ _ _ _ => s.size - (intOf i).toNat)
  case atStart => exact ⟨0, Nat.zero_le _, Nat.zero_le _, rfl, rfl, Below.refl _ _⟩
  case round =>
    obtain ⟨k, hk, hkn, rfl, rfl, hbel⟩ := hrel
    have hsz := hbel.size
    have hbz := bl_size ((s.data.toList.take k).map letB)
    have hOz : (bl ((s.data.toList.take k).map letB)).size ≤ 100 := by
      rw [hbz, List.length_map, List.length_take]; omega
    clear hbz
    generalize hO : bl ((s.data.toList.take k).map letB) = O at *
    have HO := Lib.hid hO
    have HBEL := Lib.hid hbel
    clear hO hbel
    by_cases hlt : k < s.size ∧ k < n
    · obtain ⟨hlt, hlt2⟩ := hlt
      obtain ⟨c, hc⟩ : ∃ c : UInt8, c = s[k] := ⟨_, rfl⟩
      have hix : s.data.toList[k]? = some c := by rw [hc]; simp [hlt]; rfl
      have hsn : (s.data.toList.take (k + 1)).map letB = (s.data.toList.take k).map letB ++ [letB c] := by
        obtain ⟨hk', he⟩ := List.getElem?_eq_some_iff.1 hix
        rw [List.take_succ_eq_append_getElem hk', List.map_append, he]; simp
      have HSN := Lib.hid hsn
      obtain ⟨m, hm, hm2⟩ := byte_cases c
      have hcn : s[k].toNat = m := by rw [hm, hc]
      have hv : Value.int .u8 (97 + (m : Int) % 5) = vb (letB c) := by unfold vb; rw [letB_nat, ← hm]; simp
      have HV := Lib.hid hv
      have hadd : ∀ w : World, (Op.stringOp .add O ⟨#[letB c]⟩).run Tryd.prog w = .ok (.string (O ++ ⟨#[letB c]⟩)) w := fun w => run_string_add_sum w _ _ (by show O.size + 1 ≤ _; omega)
      clear hm hc hix hsn hv
      go_wp2_with (refine wpList_conv rfl (.tmp 24) rfl _ _ rfl (Bs.one _ (letB c) _ HV.out) ?_)
      go_roundw
      case rel => exact ⟨k + 1, by omega, by omega, by go_num, congrArg Value.string (gba_ext (by rw [bl_toList, HSN.out, ba_app, ← HO.out]; rfl)), HBEL.out.alloc hsz _⟩
      case measure => simp [intOf]; omega
    · have hkk : letL s n = (s.data.toList.take k).map letB := by
        unfold letL
        congr 1
        by_cases h : k = n
        · rw [h]
        · have h2 : k = s.size := by omega
          have hl : s.data.toList.length = s.size := by simp
          rw [List.take_of_length_le (by omega), List.take_of_length_le (by omega)]
      have HKK := Lib.hid hkk
      clear hkk
      by_cases h1 : k < s.size
      · have h2 : ¬ k < n := by omega
        go_wp2_with fail
        go_ret
        exact ⟨ret_str (by rw [HKK.out, HO.out]), HBEL.out⟩
      · go_wp2_with fail
        go_ret
        exact ⟨ret_str (by rw [HKK.out, HO.out]), HBEL.out⟩
end Go.Proofs.YtdlfoinpjbcodaaDoor
namespace Go.Proofs.YtdlfoinpjbcodaaDoor
open Go.RowKit
set_option maxRecDepth 100000
/-- A text of the two rows of numbers. -/
def num1 (n : Int) : ByteArray := if n = 0 then ⟨#[48]⟩ else if n = 1 then ⟨#[49]⟩ else if n = 2 then ⟨#[45, 55]⟩ else if n = 3 then ⟨#[48, 49, 50]⟩ else if n = 4 then ⟨#[50, 46, 53, 48]⟩ else ⟨#[120]⟩
def num2 (n : Int) : ByteArray := if n = 0 then ⟨#[48]⟩ else if n = 1 then ⟨#[53]⟩ else if n = 2 then ⟨#[45, 55]⟩ else if n = 3 then ⟨#[48, 49, 50]⟩ else if n = 4 then ⟨#[57, 57]⟩ else ⟨#[49, 46, 53]⟩
def xdec : ByteArray := ⟨#[104, 116, 116, 112, 58, 47, 47, 119, 119, 119, 46, 119, 51, 46, 111, 114, 103, 47, 50, 48, 48, 49, 47, 88, 77, 76, 83, 99, 104, 101, 109, 97, 35, 100, 101, 99, 105, 109, 97, 108]⟩
def xint : ByteArray := ⟨#[104, 116, 116, 112, 58, 47, 47, 119, 119, 119, 46, 119, 51, 46, 111, 114, 103, 47, 50, 48, 48, 49, 47, 88, 77, 76, 83, 99, 104, 101, 109, 97, 35, 105, 110, 116, 101, 103, 101, 114]⟩
def nob : ByteArray := ⟨#[]⟩
/-- The term that a raw one makes. -/
def goodT (x : Tm) : Tm :=
  if x.k % 5 < 2 then ⟨1, ⟨#[104, 116, 116, 112, 58, 47, 47, 120, 47]⟩ ++ bl (letL x.s 8), nob, nob⟩
  else if x.k % 5 = 2 then ⟨2, ⟨#[98]⟩ ++ bl (letL x.s 5), nob, nob⟩
  else if ((x.l.size : Int) + x.t.size) % 5 = 1 then ⟨3, x.s.extract 0 (min x.s.size 60), ⟨#[108]⟩ ++ bl (letL x.l 4), nob⟩
  else if ((x.l.size : Int) + x.t.size) % 5 = 2 then ⟨3, x.s.extract 0 (min x.s.size 60), nob, ⟨#[116, 58]⟩ ++ bl (letL x.t 6)⟩
  else if ((x.l.size : Int) + x.t.size) % 5 = 3 then ⟨3, num1 ((x.s.size : Int) % 6), nob, xdec⟩
  else if ((x.l.size : Int) + x.t.size) % 5 = 4 then ⟨3, num2 ((x.s.size : Int) % 6), nob, xint⟩
  else ⟨3, x.s.extract 0 (min x.s.size 60), nob, nob⟩
theorem letL_size (s : ByteArray) (n : Nat) : (bl (letL s n)).size ≤ n := by
  rw [bl_size]; unfold letL; rw [List.length_map, List.length_take]; omega
set_option maxHeartbeats 4000000 in
theorem good_iri (x : Tm) (hx : x.Ok) (h : x.k % 5 < 2) (w : World) :
    Calls Tryd.prog 6 #[x.val] w fun e w' => e = .returned (⟨1, ⟨#[104, 116, 116, 112, 58, 47, 47, 120, 47]⟩ ++ bl (letL x.s 8), nob, nob⟩ : Tm).val ∧ Below w.heap.size w w' := by
  obtain ⟨k, s, l, t⟩ := x
  obtain ⟨hk, hs, -, -⟩ := hx
  unfold Tm.val nob
  dsimp only at hk hs h ⊢
  obtain ⟨r, hr⟩ : ∃ r, r = k % 5 := ⟨_, rfl⟩
  rw [← hr] at h
  have HR := Lib.hid hr
  have hr0 : 0 ≤ r := by omega
  have hcase : r = 0 ∨ r = 1 := by omega
  clear hr hr0 h
  have hz := letL_size s 8
  generalize hq : bl (letL s 8) = q at *
  have HQ := Lib.hid hq
  have HZ := Lib.hid hz
  clear hq hz
  rcases hcase with rfl | rfl
  all_goals
    go_enter Tryd.func6, Tryd.ntmps6
    go_wp2_with fail
    refine (within6_any k 5 (by decide) (by decide) hk _).mono ?_
    rintro e w' ⟨rfl, rfl⟩
    rw [← HR.out]
    go_wp2_with fail
    refine (letters_any s 8 (by decide) hs _).mono ?_
    rintro e w1 ⟨rfl, hb1⟩
    rw [HQ.out]
    obtain ⟨hc, hf⟩ := bcell hb1
    have HB1 := Lib.hid hb1
    have hz1 := HZ.out
    have hsz := hb1.size
    have hsz1 : w.heap.size + 1 < w1.heap.size := by simp at hsz; omega
    clear hb1 hsz
    go_wp2_with fail
    exact bodyPost_ret (v := .agg #[.int .i64 1, .string (⟨#[104, 116, 116, 112, 58, 47, 47, 120, 47]⟩ ++ q), .string ⟨#[]⟩, .string ⟨#[]⟩]) (by simp [results, Tryd.results6, go_sem, hc]) rfl ⟨rfl, ((((((((Below.refl _ _).alloc (Nat.le_refl _) _).alloc (by simp) _).trans (HB1.out.mono (by simp; omega))).setCell (by simp) _).setCell (by simp) _).setCell (by simp) _).setCell (by simp) _)⟩
set_option maxHeartbeats 4000000 in
theorem good_blank (x : Tm) (hx : x.Ok) (h : x.k % 5 = 2) (w : World) :
    Calls Tryd.prog 6 #[x.val] w fun e w' => e = .returned (⟨2, ⟨#[98]⟩ ++ bl (letL x.s 5), nob, nob⟩ : Tm).val ∧ Below w.heap.size w w' := by
  obtain ⟨k, s, l, t⟩ := x
  obtain ⟨hk, hs, -, -⟩ := hx
  unfold Tm.val nob
  dsimp only at hk hs h ⊢
  obtain ⟨r, hr⟩ : ∃ r, r = k % 5 := ⟨_, rfl⟩
  rw [← hr] at h
  have HR := Lib.hid hr
  have hr0 : 0 ≤ r := by omega
  have hcase : r = 2 := by omega
  clear hr hr0 h
  have hz := letL_size s 5
  generalize hq : bl (letL s 5) = q at *
  have HQ := Lib.hid hq
  have HZ := Lib.hid hz
  clear hq hz
  rcases hcase with rfl
  all_goals
    go_enter Tryd.func6, Tryd.ntmps6
    go_wp2_with fail
    refine (within6_any k 5 (by decide) (by decide) hk _).mono ?_
    rintro e w' ⟨rfl, rfl⟩
    rw [← HR.out]
    go_wp2_with fail
    refine (letters_any s 5 (by decide) hs _).mono ?_
    rintro e w1 ⟨rfl, hb1⟩
    rw [HQ.out]
    obtain ⟨hc, hf⟩ := bcell hb1
    have HB1 := Lib.hid hb1
    have hz1 := HZ.out
    have hsz := hb1.size
    have hsz1 : w.heap.size + 1 < w1.heap.size := by simp at hsz; omega
    clear hb1 hsz
    go_wp2_with fail
    exact bodyPost_ret (v := .agg #[.int .i64 2, .string (⟨#[98]⟩ ++ q), .string ⟨#[]⟩, .string ⟨#[]⟩]) (by simp [results, Tryd.results6, go_sem, hc]) rfl ⟨rfl, ((((((((Below.refl _ _).alloc (Nat.le_refl _) _).alloc (by simp) _).trans (HB1.out.mono (by simp; omega))).setCell (by simp) _).setCell (by simp) _).setCell (by simp) _).setCell (by simp) _)⟩
/-- What Few lets by. -/
structure Tm.Few (x : Tm) : Prop where
  k : (Lit.int .i64 x.k).wf = true
  s : x.s.size ≤ 100
  l : x.l.size ≤ 20
  t : x.t.size ≤ 100
theorem Tm.Few.ok {x : Tm} (h : x.Few) : x.Ok := ⟨h.k, by have := h.s; unfold maxLen; omega, by have := h.l; unfold maxLen; omega, by have := h.t; unfold maxLen; omega⟩
set_option maxHeartbeats 8000000 in
theorem good_lit0 (x : Tm) (hx : x.Few) (h : 2 < x.k % 5) (h2 : ((x.l.size : Int) + x.t.size) % 5 = 0) (w : World) :
    Calls Tryd.prog 6 #[x.val] w fun e w' => e = .returned (⟨3, x.s.extract 0 (min x.s.size 60), nob, nob⟩ : Tm).val ∧ Below w.heap.size w w' := by
  obtain ⟨k, s, l, t⟩ := x
  obtain ⟨hk, hs, hl, ht⟩ := hx
  unfold Tm.val nob
  dsimp only at hk hs hl ht h h2 ⊢
  obtain ⟨r, hr⟩ : ∃ r, r = k % 5 := ⟨_, rfl⟩
  rw [← hr] at h
  have HR := Lib.hid hr
  have HQ5 := Lib.hid h2
  have hcase : r = 3 ∨ r = 4 := by omega
  clear hr h h2
  have hwf : (Lit.int .i64 ((l.size : Int) + t.size)).wf = true := WalkArith.wf_i64 (by omega)
  have HWF := Lib.hid hwf
  clear hwf
  have hfull : s.extract 0 s.size = s := by simp
  have HFULL := Lib.hid hfull
  clear hfull
  have hmin : min s.size 60 = s.size ∧ s.size ≤ 60 ∨ min s.size 60 = 60 ∧ 60 < s.size := by omega
  rcases hmin with ⟨hm, hm2⟩ | ⟨hm, hm2⟩
  · rcases hcase with rfl | rfl
    all_goals
      rw [hm, HFULL.out]
      clear hm HFULL
      go_enter Tryd.func6, Tryd.ntmps6
      go_wp2_with fail
      refine (within6_any k 5 (by decide) (by decide) hk _).mono ?_
      rintro e w' ⟨rfl, rfl⟩
      rw [← HR.out]
      go_wp2_with fail
      refine (within6_any _ 5 (by decide) (by decide) HWF.out _).mono ?_
      rintro e w' ⟨rfl, rfl⟩
      rw [HQ5.out]
      go_wp2_with fail
      exact bodyPost_ret (v := .agg #[.int .i64 3, .string s, .string ⟨#[]⟩, .string ⟨#[]⟩]) (by simp [results, Tryd.results6, go_sem]) rfl ⟨rfl, ((((Below.refl _ _).alloc (Nat.le_refl _) _).alloc (by simp) _).alloc (by simp; omega) _)⟩
  · rcases hcase with rfl | rfl
    all_goals
      rw [hm]
      clear hm HFULL
      go_enter Tryd.func6, Tryd.ntmps6
      go_wp2_with fail
      refine (within6_any k 5 (by decide) (by decide) hk _).mono ?_
      rintro e w' ⟨rfl, rfl⟩
      rw [← HR.out]
      go_wp2_with fail
      refine (within6_any _ 5 (by decide) (by decide) HWF.out _).mono ?_
      rintro e w' ⟨rfl, rfl⟩
      rw [HQ5.out]
      go_wp2_with fail
      exact bodyPost_ret (v := .agg #[.int .i64 3, .string (s.extract 0 60), .string ⟨#[]⟩, .string ⟨#[]⟩]) (by simp [results, Tryd.results6, go_sem]) rfl ⟨rfl, ((((Below.refl _ _).alloc (Nat.le_refl _) _).alloc (by simp) _).alloc (by simp; omega) _)⟩
set_option maxHeartbeats 8000000 in
theorem good_lit1 (x : Tm) (hx : x.Few) (h : 2 < x.k % 5) (h2 : ((x.l.size : Int) + x.t.size) % 5 = 1) (w : World) :
    Calls Tryd.prog 6 #[x.val] w fun e w' => e = .returned (⟨3, x.s.extract 0 (min x.s.size 60), ⟨#[108]⟩ ++ bl (letL x.l 4), nob⟩ : Tm).val ∧ Below w.heap.size w w' := by
  obtain ⟨k, s, l, t⟩ := x
  obtain ⟨hk, hs, hl, ht⟩ := hx
  unfold Tm.val nob
  dsimp only at hk hs hl ht h h2 ⊢
  obtain ⟨r, hr⟩ : ∃ r, r = k % 5 := ⟨_, rfl⟩
  rw [← hr] at h
  have HR := Lib.hid hr
  have HQ5 := Lib.hid h2
  have hcase : r = 3 ∨ r = 4 := by omega
  clear hr h h2
  have hwf : (Lit.int .i64 ((l.size : Int) + t.size)).wf = true := WalkArith.wf_i64 (by omega)
  have HWF := Lib.hid hwf
  clear hwf
  have hz := letL_size l 4
  generalize hq : bl (letL l 4) = q at *
  have HQ := Lib.hid hq
  have HZ := Lib.hid hz
  clear hq hz
  have hfull : s.extract 0 s.size = s := by simp
  have HFULL := Lib.hid hfull
  clear hfull
  have hmin : min s.size 60 = s.size ∧ s.size ≤ 60 ∨ min s.size 60 = 60 ∧ 60 < s.size := by omega
  rcases hmin with ⟨hm, hm2⟩ | ⟨hm, hm2⟩
  · rcases hcase with rfl | rfl
    all_goals
      rw [hm, HFULL.out]
      clear hm HFULL
      go_enter Tryd.func6, Tryd.ntmps6
      go_wp2_with fail
      refine (within6_any k 5 (by decide) (by decide) hk _).mono ?_
      rintro e w' ⟨rfl, rfl⟩
      rw [← HR.out]
      go_wp2_with fail
      refine (within6_any _ 5 (by decide) (by decide) HWF.out _).mono ?_
      rintro e w' ⟨rfl, rfl⟩
      rw [HQ5.out]
      go_wp2_with fail
      refine (letters_any l 4 (by decide) (by unfold maxLen; omega) _).mono ?_
      rintro e w1 ⟨rfl, hb1⟩
      rw [HQ.out]
      obtain ⟨hc, hf⟩ := bcell hb1
      have HB1 := Lib.hid hb1
      have hz1 := HZ.out
      have hsz := hb1.size
      have hsz1 : w.heap.size + 2 < w1.heap.size := by simp at hsz; omega
      have hsz2 : w.heap.size + 1 < w1.heap.size := by omega
      have hsz3 : w.heap.size + 1 + 1 < w1.heap.size := by omega
      clear hb1 hsz
      go_wp2_with fail
      exact bodyPost_ret (v := .agg #[.int .i64 3, .string s, .string (⟨#[108]⟩ ++ q), .string ⟨#[]⟩]) (by simp [results, Tryd.results6, go_sem, hc]) rfl ⟨rfl, ((((((((((Below.refl _ _).alloc (Nat.le_refl _) _).alloc (by simp) _).alloc (by simp; omega) _).trans (HB1.out.mono (by simp; omega))).setCell (by simp; try omega) _).setCell (by simp; try omega) _).setCell (by simp; try omega) _).setCell (by simp; try omega) _).setCell (by simp; try omega) _)⟩
  · rcases hcase with rfl | rfl
    all_goals
      rw [hm]
      clear hm HFULL
      go_enter Tryd.func6, Tryd.ntmps6
      go_wp2_with fail
      refine (within6_any k 5 (by decide) (by decide) hk _).mono ?_
      rintro e w' ⟨rfl, rfl⟩
      rw [← HR.out]
      go_wp2_with fail
      refine (within6_any _ 5 (by decide) (by decide) HWF.out _).mono ?_
      rintro e w' ⟨rfl, rfl⟩
      rw [HQ5.out]
      go_wp2_with fail
      refine (letters_any l 4 (by decide) (by unfold maxLen; omega) _).mono ?_
      rintro e w1 ⟨rfl, hb1⟩
      rw [HQ.out]
      obtain ⟨hc, hf⟩ := bcell hb1
      have HB1 := Lib.hid hb1
      have hz1 := HZ.out
      have hsz := hb1.size
      have hsz1 : w.heap.size + 2 < w1.heap.size := by simp at hsz; omega
      have hsz2 : w.heap.size + 1 < w1.heap.size := by omega
      have hsz3 : w.heap.size + 1 + 1 < w1.heap.size := by omega
      clear hb1 hsz
      go_wp2_with fail
      exact bodyPost_ret (v := .agg #[.int .i64 3, .string (s.extract 0 60), .string (⟨#[108]⟩ ++ q), .string ⟨#[]⟩]) (by simp [results, Tryd.results6, go_sem, hc]) rfl ⟨rfl, ((((((((((Below.refl _ _).alloc (Nat.le_refl _) _).alloc (by simp) _).alloc (by simp; omega) _).trans (HB1.out.mono (by simp; omega))).setCell (by simp; try omega) _).setCell (by simp; try omega) _).setCell (by simp; try omega) _).setCell (by simp; try omega) _).setCell (by simp; try omega) _)⟩
set_option maxHeartbeats 8000000 in
theorem good_lit2 (x : Tm) (hx : x.Few) (h : 2 < x.k % 5) (h2 : ((x.l.size : Int) + x.t.size) % 5 = 2) (w : World) :
    Calls Tryd.prog 6 #[x.val] w fun e w' => e = .returned (⟨3, x.s.extract 0 (min x.s.size 60), nob, ⟨#[116, 58]⟩ ++ bl (letL x.t 6)⟩ : Tm).val ∧ Below w.heap.size w w' := by
  obtain ⟨k, s, l, t⟩ := x
  obtain ⟨hk, hs, hl, ht⟩ := hx
  unfold Tm.val nob
  dsimp only at hk hs hl ht h h2 ⊢
  obtain ⟨r, hr⟩ : ∃ r, r = k % 5 := ⟨_, rfl⟩
  rw [← hr] at h
  have HR := Lib.hid hr
  have HQ5 := Lib.hid h2
  have hcase : r = 3 ∨ r = 4 := by omega
  clear hr h h2
  have hwf : (Lit.int .i64 ((l.size : Int) + t.size)).wf = true := WalkArith.wf_i64 (by omega)
  have HWF := Lib.hid hwf
  clear hwf
  have hz := letL_size t 6
  generalize hq : bl (letL t 6) = q at *
  have HQ := Lib.hid hq
  have HZ := Lib.hid hz
  clear hq hz
  have hfull : s.extract 0 s.size = s := by simp
  have HFULL := Lib.hid hfull
  clear hfull
  have hmin : min s.size 60 = s.size ∧ s.size ≤ 60 ∨ min s.size 60 = 60 ∧ 60 < s.size := by omega
  rcases hmin with ⟨hm, hm2⟩ | ⟨hm, hm2⟩
  · rcases hcase with rfl | rfl
    all_goals
      rw [hm, HFULL.out]
      clear hm HFULL
      go_enter Tryd.func6, Tryd.ntmps6
      go_wp2_with fail
      refine (within6_any k 5 (by decide) (by decide) hk _).mono ?_
      rintro e w' ⟨rfl, rfl⟩
      rw [← HR.out]
      go_wp2_with fail
      refine (within6_any _ 5 (by decide) (by decide) HWF.out _).mono ?_
      rintro e w' ⟨rfl, rfl⟩
      rw [HQ5.out]
      go_wp2_with fail
      refine (letters_any t 6 (by decide) (by unfold maxLen; omega) _).mono ?_
      rintro e w1 ⟨rfl, hb1⟩
      rw [HQ.out]
      obtain ⟨hc, hf⟩ := bcell hb1
      have HB1 := Lib.hid hb1
      have hz1 := HZ.out
      have hsz := hb1.size
      have hsz1 : w.heap.size + 2 < w1.heap.size := by simp at hsz; omega
      have hsz2 : w.heap.size + 1 < w1.heap.size := by omega
      have hsz3 : w.heap.size + 1 + 1 < w1.heap.size := by omega
      clear hb1 hsz
      go_wp2_with fail
      exact bodyPost_ret (v := .agg #[.int .i64 3, .string s, .string ⟨#[]⟩, .string (⟨#[116, 58]⟩ ++ q)]) (by simp [results, Tryd.results6, go_sem, hc]) rfl ⟨rfl, ((((((((((Below.refl _ _).alloc (Nat.le_refl _) _).alloc (by simp) _).alloc (by simp; omega) _).trans (HB1.out.mono (by simp; omega))).setCell (by simp; try omega) _).setCell (by simp; try omega) _).setCell (by simp; try omega) _).setCell (by simp; try omega) _).setCell (by simp; try omega) _)⟩
  · rcases hcase with rfl | rfl
    all_goals
      rw [hm]
      clear hm HFULL
      go_enter Tryd.func6, Tryd.ntmps6
      go_wp2_with fail
      refine (within6_any k 5 (by decide) (by decide) hk _).mono ?_
      rintro e w' ⟨rfl, rfl⟩
      rw [← HR.out]
      go_wp2_with fail
      refine (within6_any _ 5 (by decide) (by decide) HWF.out _).mono ?_
      rintro e w' ⟨rfl, rfl⟩
      rw [HQ5.out]
      go_wp2_with fail
      refine (letters_any t 6 (by decide) (by unfold maxLen; omega) _).mono ?_
      rintro e w1 ⟨rfl, hb1⟩
      rw [HQ.out]
      obtain ⟨hc, hf⟩ := bcell hb1
      have HB1 := Lib.hid hb1
      have hz1 := HZ.out
      have hsz := hb1.size
      have hsz1 : w.heap.size + 2 < w1.heap.size := by simp at hsz; omega
      have hsz2 : w.heap.size + 1 < w1.heap.size := by omega
      have hsz3 : w.heap.size + 1 + 1 < w1.heap.size := by omega
      clear hb1 hsz
      go_wp2_with fail
      exact bodyPost_ret (v := .agg #[.int .i64 3, .string (s.extract 0 60), .string ⟨#[]⟩, .string (⟨#[116, 58]⟩ ++ q)]) (by simp [results, Tryd.results6, go_sem, hc]) rfl ⟨rfl, ((((((((((Below.refl _ _).alloc (Nat.le_refl _) _).alloc (by simp) _).alloc (by simp; omega) _).trans (HB1.out.mono (by simp; omega))).setCell (by simp; try omega) _).setCell (by simp; try omega) _).setCell (by simp; try omega) _).setCell (by simp; try omega) _).setCell (by simp; try omega) _)⟩
end Go.Proofs.YtdlfoinpjbcodaaDoor
