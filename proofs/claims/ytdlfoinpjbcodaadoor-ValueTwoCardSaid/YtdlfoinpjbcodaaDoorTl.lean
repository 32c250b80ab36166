/- Tl -/
import Derived.Test.YtdlfoinpjbcodaaDoorTj
namespace Go.Proofs.YtdlfoinpjbcodaaDoor
open Go.RowKit
set_option maxRecDepth 100000
set_option maxHeartbeats 16000000 in
theorem good_lit3 (x : Tm) (hx : x.Few) (h : 2 < x.k % 5) (h2 : ((x.l.size : Int) + x.t.size) % 5 = 3) (w : World) :
    Calls Tryd.prog 6 #[x.val] w fun e w' => e = .returned ((⟨3, num1 ((x.s.size : Int) % 6), nob, xdec⟩ : Tm).val) ∧ Below w.heap.size w w' := by
  obtain ⟨k, s, l, t⟩ := x
  obtain ⟨hk, hs, hl, ht⟩ := hx
  unfold Tm.val nob xdec
  dsimp only at hk hs hl ht h h2 ⊢
  obtain ⟨r, hr⟩ : ∃ r, r = k % 5 := ⟨_, rfl⟩
  rw [← hr] at h
  obtain ⟨j, hj⟩ : ∃ j, j = (s.size : Int) % 6 := ⟨_, rfl⟩
  rw [← hj]
  have HJ := Lib.hid hj
  have HR := Lib.hid hr
  have HQ5 := Lib.hid h2
  have hcase : r = 3 ∨ r = 4 := by omega
  have hjc : j = 0 ∨ j = 1 ∨ j = 2 ∨ j = 3 ∨ j = 4 ∨ j = 5 := by omega
  have hm : s.size ≤ 60 ∨ 60 < s.size := by omega
  clear hr h h2 hj
  have hwf : (Lit.int .i64 ((l.size : Int) + t.size)).wf = true := WalkArith.wf_i64 (by omega)
  have HWF := Lib.hid hwf
  have hwf2 : (Lit.int .i64 (s.size : Int)).wf = true := WalkArith.wf_i64 (by omega)
  have HWF2 := Lib.hid hwf2
  clear hwf hwf2
  rcases hjc with rfl | rfl | rfl | rfl | rfl | rfl
  · rcases hcase with rfl | rfl <;> rcases hm with hm | hm
    all_goals
      go_enter Tryd.func6, Tryd.ntmps6
      go_wp2_with fail
      refine (within6_any k 5 (by decide) (by decide) hk _).mono ?_
      rintro e w' ⟨rfl, rfl⟩
      rw [← HR.out]
      go_wp2_with fail
      refine (within6_any _ 5 (by decide) (by decide) HWF.out _).mono ?_
      rintro e w' ⟨rfl, rfl⟩
      rw [HQ5.out]
      go_wp2_with fail
      refine (within6_any _ 6 (by decide) (by decide) HWF2.out _).mono ?_
      rintro e w' ⟨rfl, rfl⟩
      rw [← HJ.out]
      go_wp2_with fail
      exact bodyPost_ret (v := .agg #[.int .i64 3, .string ⟨#[48]⟩, .string ⟨#[]⟩, .string ⟨#[104, 116, 116, 112, 58, 47, 47, 119, 119, 119, 46, 119, 51, 46, 111, 114, 103, 47, 50, 48, 48, 49, 47, 88, 77, 76, 83, 99, 104, 101, 109, 97, 35, 100, 101, 99, 105, 109, 97, 108]⟩]) (by simp [results, Tryd.results6, go_sem]) rfl ⟨rfl, (((((Below.refl _ _).alloc (Nat.le_refl _) _).alloc (by simp) _).alloc (by simp; omega) _).alloc (by simp; omega) _)⟩
  · rcases hcase with rfl | rfl <;> rcases hm with hm | hm
    all_goals
      go_enter Tryd.func6, Tryd.ntmps6
      go_wp2_with fail
      refine (within6_any k 5 (by decide) (by decide) hk _).mono ?_
      rintro e w' ⟨rfl, rfl⟩
      rw [← HR.out]
      go_wp2_with fail
      refine (within6_any _ 5 (by decide) (by decide) HWF.out _).mono ?_
      rintro e w' ⟨rfl, rfl⟩
      rw [HQ5.out]
      go_wp2_with fail
      refine (within6_any _ 6 (by decide) (by decide) HWF2.out _).mono ?_
      rintro e w' ⟨rfl, rfl⟩
      rw [← HJ.out]
      go_wp2_with fail
      exact bodyPost_ret (v := .agg #[.int .i64 3, .string ⟨#[49]⟩, .string ⟨#[]⟩, .string ⟨#[104, 116, 116, 112, 58, 47, 47, 119, 119, 119, 46, 119, 51, 46, 111, 114, 103, 47, 50, 48, 48, 49, 47, 88, 77, 76, 83, 99, 104, 101, 109, 97, 35, 100, 101, 99, 105, 109, 97, 108]⟩]) (by simp [results, Tryd.results6, go_sem]) rfl ⟨rfl, (((((Below.refl _ _).alloc (Nat.le_refl _) _).alloc (by simp) _).alloc (by simp; omega) _).alloc (by simp; omega) _)⟩
  · rcases hcase with rfl | rfl <;> rcases hm with hm | hm
    all_goals
      go_enter Tryd.func6, Tryd.ntmps6
      go_wp2_with fail
      refine (within6_any k 5 (by decide) (by decide) hk _).mono ?_
      rintro e w' ⟨rfl, rfl⟩
      rw [← HR.out]
      go_wp2_with fail
      refine (within6_any _ 5 (by decide) (by decide) HWF.out _).mono ?_
      rintro e w' ⟨rfl, rfl⟩
      rw [HQ5.out]
      go_wp2_with fail
      refine (within6_any _ 6 (by decide) (by decide) HWF2.out _).mono ?_
      rintro e w' ⟨rfl, rfl⟩
      rw [← HJ.out]
      go_wp2_with fail
      exact bodyPost_ret (v := .agg #[.int .i64 3, .string ⟨#[45, 55]⟩, .string ⟨#[]⟩, .string ⟨#[104, 116, 116, 112, 58, 47, 47, 119, 119, 119, 46, 119, 51, 46, 111, 114, 103, 47, 50, 48, 48, 49, 47, 88, 77, 76, 83, 99, 104, 101, 109, 97, 35, 100, 101, 99, 105, 109, 97, 108]⟩]) (by simp [results, Tryd.results6, go_sem]) rfl ⟨rfl, (((((Below.refl _ _).alloc (Nat.le_refl _) _).alloc (by simp) _).alloc (by simp; omega) _).alloc (by simp; omega) _)⟩
  · rcases hcase with rfl | rfl <;> rcases hm with hm | hm
    all_goals
      go_enter Tryd.func6, Tryd.ntmps6
      go_wp2_with fail
      refine (within6_any k 5 (by decide) (by decide) hk _).mono ?_
      rintro e w' ⟨rfl, rfl⟩
      rw [← HR.out]
      go_wp2_with fail
      refine (within6_any _ 5 (by decide) (by decide) HWF.out _).mono ?_
      rintro e w' ⟨rfl, rfl⟩
      rw [HQ5.out]
      go_wp2_with fail
      refine (within6_any _ 6 (by decide) (by decide) HWF2.out _).mono ?_
      rintro e w' ⟨rfl, rfl⟩
      rw [← HJ.out]
      go_wp2_with fail
      exact bodyPost_ret (v := .agg #[.int .i64 3, .string ⟨#[48, 49, 50]⟩, .string ⟨#[]⟩, .string ⟨#[104, 116, 116, 112, 58, 47, 47, 119, 119, 119, 46, 119, 51, 46, 111, 114, 103, 47, 50, 48, 48, 49, 47, 88, 77, 76, 83, 99, 104, 101, 109, 97, 35, 100, 101, 99, 105, 109, 97, 108]⟩]) (by simp [results, Tryd.results6, go_sem]) rfl ⟨rfl, (((((Below.refl _ _).alloc (Nat.le_refl _) _).alloc (by simp) _).alloc (by simp; omega) _).alloc (by simp; omega) _)⟩
  · rcases hcase with rfl | rfl <;> rcases hm with hm | hm
    all_goals
      go_enter Tryd.func6, Tryd.ntmps6
      go_wp2_with fail
      refine (within6_any k 5 (by decide) (by decide) hk _).mono ?_
      rintro e w' ⟨rfl, rfl⟩
      rw [← HR.out]
      go_wp2_with fail
      refine (within6_any _ 5 (by decide) (by decide) HWF.out _).mono ?_
      rintro e w' ⟨rfl, rfl⟩
      rw [HQ5.out]
      go_wp2_with fail
      refine (within6_any _ 6 (by decide) (by decide) HWF2.out _).mono ?_
      rintro e w' ⟨rfl, rfl⟩
      rw [← HJ.out]
      go_wp2_with fail
      exact bodyPost_ret (v := .agg #[.int .i64 3, .string ⟨#[50, 46, 53, 48]⟩, .string ⟨#[]⟩, .string ⟨#[104, 116, 116, 112, 58, 47, 47, 119, 119, 119, 46, 119, 51, 46, 111, 114, 103, 47, 50, 48, 48, 49, 47, 88, 77, 76, 83, 99, 104, 101, 109, 97, 35, 100, 101, 99, 105, 109, 97, 108]⟩]) (by simp [results, Tryd.results6, go_sem]) rfl ⟨rfl, (((((Below.refl _ _).alloc (Nat.le_refl _) _).alloc (by simp) _).alloc (by simp; omega) _).alloc (by simp; omega) _)⟩
  · rcases hcase with rfl | rfl <;> rcases hm with hm | hm
    all_goals
      go_enter Tryd.func6, Tryd.ntmps6
      go_wp2_with fail
      refine (within6_any k 5 (by decide) (by decide) hk _).mono ?_
      rintro e w' ⟨rfl, rfl⟩
      rw [← HR.out]
      go_wp2_with fail
      refine (within6_any _ 5 (by decide) (by decide) HWF.out _).mono ?_
      rintro e w' ⟨rfl, rfl⟩
      rw [HQ5.out]
      go_wp2_with fail
      refine (within6_any _ 6 (by decide) (by decide) HWF2.out _).mono ?_
      rintro e w' ⟨rfl, rfl⟩
      rw [← HJ.out]
      go_wp2_with fail
      exact bodyPost_ret (v := .agg #[.int .i64 3, .string ⟨#[120]⟩, .string ⟨#[]⟩, .string ⟨#[104, 116, 116, 112, 58, 47, 47, 119, 119, 119, 46, 119, 51, 46, 111, 114, 103, 47, 50, 48, 48, 49, 47, 88, 77, 76, 83, 99, 104, 101, 109, 97, 35, 100, 101, 99, 105, 109, 97, 108]⟩]) (by simp [results, Tryd.results6, go_sem]) rfl ⟨rfl, (((((Below.refl _ _).alloc (Nat.le_refl _) _).alloc (by simp) _).alloc (by simp; omega) _).alloc (by simp; omega) _)⟩
set_option maxHeartbeats 16000000 in
theorem good_lit4 (x : Tm) (hx : x.Few) (h : 2 < x.k % 5) (h2 : ((x.l.size : Int) + x.t.size) % 5 = 4) (w : World) :
    Calls Tryd.prog 6 #[x.val] w fun e w' => e = .returned ((⟨3, num2 ((x.s.size : Int) % 6), nob, xint⟩ : Tm).val) ∧ Below w.heap.size w w' := by
  obtain ⟨k, s, l, t⟩ := x
  obtain ⟨hk, hs, hl, ht⟩ := hx
  unfold Tm.val nob xint
  dsimp only at hk hs hl ht h h2 ⊢
  obtain ⟨r, hr⟩ : ∃ r, r = k % 5 := ⟨_, rfl⟩
  rw [← hr] at h
  obtain ⟨j, hj⟩ : ∃ j, j = (s.size : Int) % 6 := ⟨_, rfl⟩
  rw [← hj]
  have HJ := Lib.hid hj
  have HR := Lib.hid hr
  have HQ5 := Lib.hid h2
  have hcase : r = 3 ∨ r = 4 := by omega
  have hjc : j = 0 ∨ j = 1 ∨ j = 2 ∨ j = 3 ∨ j = 4 ∨ j = 5 := by omega
  have hm : s.size ≤ 60 ∨ 60 < s.size := by omega
  clear hr h h2 hj
  have hwf : (Lit.int .i64 ((l.size : Int) + t.size)).wf = true := WalkArith.wf_i64 (by omega)
  have HWF := Lib.hid hwf
  have hwf2 : (Lit.int .i64 (s.size : Int)).wf = true := WalkArith.wf_i64 (by omega)
  have HWF2 := Lib.hid hwf2
  clear hwf hwf2
  rcases hjc with rfl | rfl | rfl | rfl | rfl | rfl
  · rcases hcase with rfl | rfl <;> rcases hm with hm | hm
    all_goals
      go_enter Tryd.func6, Tryd.ntmps6
      go_wp2_with fail
      refine (within6_any k 5 (by decide) (by decide) hk _).mono ?_
      rintro e w' ⟨rfl, rfl⟩
      rw [← HR.out]
      go_wp2_with fail
      refine (within6_any _ 5 (by decide) (by decide) HWF.out _).mono ?_
      rintro e w' ⟨rfl, rfl⟩
      rw [HQ5.out]
      go_wp2_with fail
      refine (within6_any _ 6 (by decide) (by decide) HWF2.out _).mono ?_
      rintro e w' ⟨rfl, rfl⟩
      rw [← HJ.out]
      go_wp2_with fail
      exact bodyPost_ret (v := .agg #[.int .i64 3, .string ⟨#[48]⟩, .string ⟨#[]⟩, .string ⟨#[104, 116, 116, 112, 58, 47, 47, 119, 119, 119, 46, 119, 51, 46, 111, 114, 103, 47, 50, 48, 48, 49, 47, 88, 77, 76, 83, 99, 104, 101, 109, 97, 35, 105, 110, 116, 101, 103, 101, 114]⟩]) (by simp [results, Tryd.results6, go_sem]) rfl ⟨rfl, (((((Below.refl _ _).alloc (Nat.le_refl _) _).alloc (by simp) _).alloc (by simp; omega) _).alloc (by simp; omega) _)⟩
  · rcases hcase with rfl | rfl <;> rcases hm with hm | hm
    all_goals
      go_enter Tryd.func6, Tryd.ntmps6
      go_wp2_with fail
      refine (within6_any k 5 (by decide) (by decide) hk _).mono ?_
      rintro e w' ⟨rfl, rfl⟩
      rw [← HR.out]
      go_wp2_with fail
      refine (within6_any _ 5 (by decide) (by decide) HWF.out _).mono ?_
      rintro e w' ⟨rfl, rfl⟩
      rw [HQ5.out]
      go_wp2_with fail
      refine (within6_any _ 6 (by decide) (by decide) HWF2.out _).mono ?_
      rintro e w' ⟨rfl, rfl⟩
      rw [← HJ.out]
      go_wp2_with fail
      exact bodyPost_ret (v := .agg #[.int .i64 3, .string ⟨#[53]⟩, .string ⟨#[]⟩, .string ⟨#[104, 116, 116, 112, 58, 47, 47, 119, 119, 119, 46, 119, 51, 46, 111, 114, 103, 47, 50, 48, 48, 49, 47, 88, 77, 76, 83, 99, 104, 101, 109, 97, 35, 105, 110, 116, 101, 103, 101, 114]⟩]) (by simp [results, Tryd.results6, go_sem]) rfl ⟨rfl, (((((Below.refl _ _).alloc (Nat.le_refl _) _).alloc (by simp) _).alloc (by simp; omega) _).alloc (by simp; omega) _)⟩
  · rcases hcase with rfl | rfl <;> rcases hm with hm | hm
    all_goals
      go_enter Tryd.func6, Tryd.ntmps6
      go_wp2_with fail
      refine (within6_any k 5 (by decide) (by decide) hk _).mono ?_
      rintro e w' ⟨rfl, rfl⟩
      rw [← HR.out]
      go_wp2_with fail
      refine (within6_any _ 5 (by decide) (by decide) HWF.out _).mono ?_
      rintro e w' ⟨rfl, rfl⟩
      rw [HQ5.out]
      go_wp2_with fail
      refine (within6_any _ 6 (by decide) (by decide) HWF2.out _).mono ?_
      rintro e w' ⟨rfl, rfl⟩
      rw [← HJ.out]
      go_wp2_with fail
      exact bodyPost_ret (v := .agg #[.int .i64 3, .string ⟨#[45, 55]⟩, .string ⟨#[]⟩, .string ⟨#[104, 116, 116, 112, 58, 47, 47, 119, 119, 119, 46, 119, 51, 46, 111, 114, 103, 47, 50, 48, 48, 49, 47, 88, 77, 76, 83, 99, 104, 101, 109, 97, 35, 105, 110, 116, 101, 103, 101, 114]⟩]) (by simp [results, Tryd.results6, go_sem]) rfl ⟨rfl, (((((Below.refl _ _).alloc (Nat.le_refl _) _).alloc (by simp) _).alloc (by simp; omega) _).alloc (by simp; omega) _)⟩
  · rcases hcase with rfl | rfl <;> rcases hm with hm | hm
    all_goals
      go_enter Tryd.func6, Tryd.ntmps6
      go_wp2_with fail
      refine (within6_any k 5 (by decide) (by decide) hk _).mono ?_
      rintro e w' ⟨rfl, rfl⟩
      rw [← HR.out]
      go_wp2_with fail
      refine (within6_any _ 5 (by decide) (by decide) HWF.out _).mono ?_
      rintro e w' ⟨rfl, rfl⟩
      rw [HQ5.out]
      go_wp2_with fail
      refine (within6_any _ 6 (by decide) (by decide) HWF2.out _).mono ?_
      rintro e w' ⟨rfl, rfl⟩
      rw [← HJ.out]
      go_wp2_with fail
      exact bodyPost_ret (v := .agg #[.int .i64 3, .string ⟨#[48, 49, 50]⟩, .string ⟨#[]⟩, .string ⟨#[104, 116, 116, 112, 58, 47, 47, 119, 119, 119, 46, 119, 51, 46, 111, 114, 103, 47, 50, 48, 48, 49, 47, 88, 77, 76, 83, 99, 104, 101, 109, 97, 35, 105, 110, 116, 101, 103, 101, 114]⟩]) (by simp [results, Tryd.results6, go_sem]) rfl ⟨rfl, (((((Below.refl _ _).alloc (Nat.le_refl _) _).alloc (by simp) _).alloc (by simp; omega) _).alloc (by simp; omega) _)⟩
  · rcases hcase with rfl | rfl <;> rcases hm with hm | hm
    all_goals
      go_enter Tryd.func6, Tryd.ntmps6
      go_wp2_with fail
      refine (within6_any k 5 (by decide) (by decide) hk _).mono ?_
      rintro e w' ⟨rfl, rfl⟩
      rw [← HR.out]
      go_wp2_with fail
      refine (within6_any _ 5 (by decide) (by decide) HWF.out _).mono ?_
      rintro e w' ⟨rfl, rfl⟩
      rw [HQ5.out]
      go_wp2_with fail
      refine (within6_any _ 6 (by decide) (by decide) HWF2.out _).mono ?_
      rintro e w' ⟨rfl, rfl⟩
      rw [← HJ.out]
      go_wp2_with fail
      exact bodyPost_ret (v := .agg #[.int .i64 3, .string ⟨#[57, 57]⟩, .string ⟨#[]⟩, .string ⟨#[104, 116, 116, 112, 58, 47, 47, 119, 119, 119, 46, 119, 51, 46, 111, 114, 103, 47, 50, 48, 48, 49, 47, 88, 77, 76, 83, 99, 104, 101, 109, 97, 35, 105, 110, 116, 101, 103, 101, 114]⟩]) (by simp [results, Tryd.results6, go_sem]) rfl ⟨rfl, (((((Below.refl _ _).alloc (Nat.le_refl _) _).alloc (by simp) _).alloc (by simp; omega) _).alloc (by simp; omega) _)⟩
  · rcases hcase with rfl | rfl <;> rcases hm with hm | hm
    all_goals
      go_enter Tryd.func6, Tryd.ntmps6
      go_wp2_with fail
      refine (within6_any k 5 (by decide) (by decide) hk _).mono ?_
      rintro e w' ⟨rfl, rfl⟩
      rw [← HR.out]
      go_wp2_with fail
      refine (within6_any _ 5 (by decide) (by decide) HWF.out _).mono ?_
      rintro e w' ⟨rfl, rfl⟩
      rw [HQ5.out]
      go_wp2_with fail
      refine (within6_any _ 6 (by decide) (by decide) HWF2.out _).mono ?_
      rintro e w' ⟨rfl, rfl⟩
      rw [← HJ.out]
      go_wp2_with fail
      exact bodyPost_ret (v := .agg #[.int .i64 3, .string ⟨#[49, 46, 53]⟩, .string ⟨#[]⟩, .string ⟨#[104, 116, 116, 112, 58, 47, 47, 119, 119, 119, 46, 119, 51, 46, 111, 114, 103, 47, 50, 48, 48, 49, 47, 88, 77, 76, 83, 99, 104, 101, 109, 97, 35, 105, 110, 116, 101, 103, 101, 114]⟩]) (by simp [results, Tryd.results6, go_sem]) rfl ⟨rfl, (((((Below.refl _ _).alloc (Nat.le_refl _) _).alloc (by simp) _).alloc (by simp; omega) _).alloc (by simp; omega) _)⟩
theorem tgood_any (x : Tm) (hx : x.Few) (w : World) :
    Calls Tryd.prog 6 #[x.val] w fun e w' => e = .returned (goodT x).val ∧ Below w.heap.size w w' := by
  unfold goodT
  by_cases h : x.k % 5 < 2
  · rw [if_pos h]; exact good_iri x hx.ok h w
  rw [if_neg h]
  by_cases h2 : x.k % 5 = 2
  · rw [if_pos h2]; exact good_blank x hx.ok h2 w
  rw [if_neg h2]
  have h3 : 2 < x.k % 5 := by omega
  by_cases q1 : ((x.l.size : Int) + x.t.size) % 5 = 1
  · rw [if_pos q1]; exact good_lit1 x hx h3 q1 w
  rw [if_neg q1]
  by_cases q2 : ((x.l.size : Int) + x.t.size) % 5 = 2
  · rw [if_pos q2]; exact good_lit2 x hx h3 q2 w
  rw [if_neg q2]
  by_cases q3 : ((x.l.size : Int) + x.t.size) % 5 = 3
  · rw [if_pos q3]; exact good_lit3 x hx h3 q3 w
  rw [if_neg q3]
  by_cases q4 : ((x.l.size : Int) + x.t.size) % 5 = 4
  · rw [if_pos q4]; exact good_lit4 x hx h3 q4 w
  rw [if_neg q4]
  exact good_lit0 x hx h3 (by omega) w
end Go.Proofs.YtdlfoinpjbcodaaDoor
