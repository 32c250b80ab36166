/- Terms, plain: what a good one is; texts and bytes tell terms apart. -/
import Derived.Test.YtpoacgnncinmiaaTk
import Derived.Test.YtpoacgnncinmiaaTf
namespace Go.Proofs.Ytpoacgnncinmiaa
open Go.RowKit
set_option maxRecDepth 100000

theorem emp_iff (s : ByteArray) : s.toList.isEmpty = true ↔ s = nob := by
  rw [Lib.toList_data, List.isEmpty_iff]
  constructor
  · intro h; exact ba_ext h
  · rintro rfl; rfl
theorem nob_emp : nob.toList.isEmpty = true := (emp_iff nob).2 rfl
theorem emp_false {s : ByteArray} (h : 0 < s.size) : s.toList.isEmpty = false := by
  cases he : s.toList.isEmpty with
  | false => rfl
  | true => rw [(emp_iff s).1 he] at h; exact absurd h (by decide)
theorem let_all (p : UInt8 → Bool) (hp : ∀ n : Fin 5, p (UInt8.ofNat (97 + n.val)) = true) (s : ByteArray) (n : Nat) : (letL s n).all p = true := by
  unfold letL
  rw [List.all_map, List.all_eq_true]
  intro c _
  exact hp ⟨c.toNat % 5, by omega⟩
/-- A term that may be. -/
structure Tm.Good (g : Tm) : Prop where
  k : (g.k = 1 ∧ g.l = nob ∧ g.t = nob) ∨ (g.k = 2 ∧ g.l = nob ∧ g.t = nob) ∨ (g.k = 3 ∧ (g.l = nob ∨ g.t = nob))
  s : g.s.size ≤ 60
  l : g.l.size ≤ 8
  t : g.t.size ≤ 60
  c : checkOf g = 0
theorem app_size (a b : ByteArray) : (a ++ b).size = a.size + b.size := by rw [Lib.size_eq, ba_app, List.length_append, ← Lib.size_eq, ← Lib.size_eq]
theorem bar_nob (k : Int) (s : ByteArray) : barB ⟨k, s, nob, nob⟩ = true := by unfold barB; rw [nob_emp]; rfl
theorem tag_nob (k : Int) (s : ByteArray) : tagB ⟨k, s, nob, nob⟩ = true := by unfold tagB; dsimp only; rw [nob_emp]; rfl
theorem check_lit3 {s l t : ByteArray} (hs : s.size ≤ 60) (hl : l.size ≤ 8) (ht : t.size ≤ 60) (h : tagB ⟨3, s, l, t⟩ = true) : checkOf ⟨3, s, l, t⟩ = 0 := by
  unfold checkOf
  rw [if_neg (by dsimp only; omega), if_neg (by dsimp only; omega), if_neg (by dsimp only; omega), if_neg (by dsimp only; omega), h]
  rfl
theorem num1_size (n : Int) : (num1 n).size ≤ 60 := by unfold num1; repeat' split
                                                       all_goals decide
theorem num2_size (n : Int) : (num2 n).size ≤ 60 := by unfold num2; repeat' split
                                                       all_goals decide
theorem sub_size (s : ByteArray) : (s.extract 0 (min s.size 60)).size ≤ 60 := by
  rw [Lib.size_eq, Lib.extract_data, List.length_take]; omega
theorem ref_xdec : refB xdec = true := by
  unfold refB; rw [emp_false (by decide)]; decide
theorem ref_xint : refB xint = true := by
  unfold refB; rw [emp_false (by decide)]; decide
theorem good_good (x : Tm) : (goodT x).Good := by
  unfold goodT
  have z8 := letL_size x.s 8
  have z5 := letL_size x.s 5
  have z4 := letL_size x.l 4
  have z6 := letL_size x.t 6
  have n0 : nob.size = 0 := rfl
  split
  · have hsz : (⟨#[104, 116, 116, 112, 58, 47, 47, 120, 47]⟩ ++ bl (letL x.s 8) : ByteArray).size = 9 + (bl (letL x.s 8)).size := app_size _ _
    refine ⟨.inl ⟨rfl, rfl, rfl⟩, by dsimp only; omega, by dsimp only; omega, by dsimp only; omega, ?_⟩
    unfold checkOf
    rw [if_neg (by dsimp only; omega), if_neg (by dsimp only; omega), if_pos rfl, bar_nob]
    have : refB (⟨#[104, 116, 116, 112, 58, 47, 47, 120, 47]⟩ ++ bl (letL x.s 8)) = true := by
      unfold refB
      rw [emp_false (by omega), ba_app, List.all_append, bl_toList, let_all sgn (by decide)]
      decide
    dsimp only
    rw [this]
    rfl
  split
  · have hsz : (⟨#[98]⟩ ++ bl (letL x.s 5) : ByteArray).size = 1 + (bl (letL x.s 5)).size := app_size _ _
    refine ⟨.inr (.inl ⟨rfl, rfl, rfl⟩), by dsimp only; omega, by dsimp only; omega, by dsimp only; omega, ?_⟩
    unfold checkOf
    rw [if_neg (by dsimp only; omega), if_neg (by dsimp only; omega), if_neg (by dsimp only; omega), if_pos rfl, bar_nob]
    have : labB (⟨#[98]⟩ ++ bl (letL x.s 5)) = true := by
      unfold labB
      rw [emp_false (by omega), ba_app, List.all_append, bl_toList, let_all wrd (by decide), decide_eq_true (by omega)]
      decide
    dsimp only
    rw [this]
    rfl
  split
  · have hsz : (⟨#[108]⟩ ++ bl (letL x.l 4) : ByteArray).size = 1 + (bl (letL x.l 4)).size := app_size _ _
    refine ⟨.inr (.inr ⟨rfl, .inr rfl⟩), sub_size _, by dsimp only; omega, by dsimp only; omega, check_lit3 (sub_size _) (by omega) (by omega) ?_⟩
    unfold tagB
    dsimp only
    rw [emp_false (by omega), nob_emp]
    have : lanB (⟨#[108]⟩ ++ bl (letL x.l 4)) = true := by
      unfold lanB
      rw [ba_app, List.all_append, bl_toList, let_all lng (by decide)]
      simp [Lib.hasPrefix, List.isPrefixOf, lng, sml]
    rw [this]
    rfl
  split
  · have hsz : (⟨#[116, 58]⟩ ++ bl (letL x.t 6) : ByteArray).size = 2 + (bl (letL x.t 6)).size := app_size _ _
    refine ⟨.inr (.inr ⟨rfl, .inl rfl⟩), sub_size _, by dsimp only; omega, by dsimp only; omega, check_lit3 (sub_size _) (by omega) (by omega) ?_⟩
    unfold tagB
    dsimp only
    rw [emp_false (s := ⟨#[116, 58]⟩ ++ bl (letL x.t 6)) (by omega), nob_emp]
    have : refB (⟨#[116, 58]⟩ ++ bl (letL x.t 6)) = true := by
      unfold refB
      rw [emp_false (by omega), ba_app, List.all_append, bl_toList, let_all sgn (by decide)]
      decide
    rw [this]
    rfl
  split
  · refine ⟨.inr (.inr ⟨rfl, .inl rfl⟩), num1_size _, by dsimp only; decide, by dsimp only; decide, check_lit3 (num1_size _) (by decide) (by decide) ?_⟩
    unfold tagB
    dsimp only
    rw [nob_emp, ref_xdec]
    simp
  split
  · refine ⟨.inr (.inr ⟨rfl, .inl rfl⟩), num2_size _, by dsimp only; decide, by dsimp only; decide, check_lit3 (num2_size _) (by decide) (by decide) ?_⟩
    unfold tagB
    dsimp only
    rw [nob_emp, ref_xint]
    simp
  · exact ⟨.inr (.inr ⟨rfl, .inl rfl⟩), sub_size _, by dsimp only; decide, by dsimp only; decide, check_lit3 (sub_size _) (by decide) (by decide) (tag_nob _ _)⟩
end Go.Proofs.Ytpoacgnncinmiaa
