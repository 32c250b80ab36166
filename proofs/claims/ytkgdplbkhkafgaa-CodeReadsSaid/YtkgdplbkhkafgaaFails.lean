/- The walk of the law CodeFails. -/
import Derived.Test.YtkgdplbkhkafgaaKnown
import Derived.Test.YtkgdplbkhkafgaaReads
namespace Go.Proofs.Ytkgdplbkhkafgaa
open Go.RowKit

theorem took_err {l : List UInt8} {e : Int} (n : Nat) (h : e ≠ 0) : tookOf l e n = [] := by simp [tookOf, h]
theorem left_err {l : List UInt8} {e : Int} (n : Nat) (h : e ≠ 0) : leftOf l e n = l := by simp [leftOf, h]
theorem err_err {l : List UInt8} {e : Int} (n : Nat) (h : e ≠ 0) : errOf l e n = e := by simp [errOf, h]
theorem text_err {l : List UInt8} {e : Int} (h : e ≠ 0) : textOf l e = [] ∧ textLeft l e = l ∧ textErr l e = e := by
  unfold textOf textLeft textErr
  rw [left_err 2 h, err_err 2 h]
  exact ⟨took_err _ h, left_err _ h, err_err _ h⟩
theorem fail_err {e : Int} (x : Int) (h : e ≠ 0) : failOf e x = e := by simp [failOf, h]
theorem fail_ok (x : Int) : failOf 0 x = x := rfl
theorem end_err {l : List UInt8} {e : Int} (h : e ≠ 0) : endOf l e = e := by simp [endOf, h]

theorem Below.rd {B r : Nat} {w0 w w' : World} (hb : Below B w0 w) (hg : w.grownBy w' (some r)) (hB : B ≤ w.heap.size) (hr : B ≤ r) : Below B w0 w' :=
  hb.grown hg hB (fun q hq => by cases hq; exact hr)

theorem fails_walk (v : Value) (l : List UInt8) (e f : Int) (w : World) (hbs : Bs w v l) (he : (Lit.int .i64 e).wf = true) (hf : (Lit.int .i64 f).wf = true) :
    Calls Try.prog 6 #[v, .int .i64 e, .int .i64 f] w fun en w' => en = .returned (.bool true) ∧ Below w.heap.size w w' := by
  have hv := hbs
  obtain ⟨ao, cap, rfl, h1, h2, h3, h4⟩ := hv
  clear h3 h4
  unfold maxLen at h2
  by_cases hl : (100 : Int) < l.length
  · go_enter Try.func6, Try.ntmps6
    go_wp2_with (go_at_call 11; refine (known_any _).mono ?_; rintro e w1 ⟨rfl, hb1⟩)
    go_ret
    exact ⟨rfl, hb1⟩
  have e1 := Int.emod_nonneg e (show (22 : Int) ≠ 0 by decide)
  have e2 := Int.emod_lt_of_pos e (show (0 : Int) < 22 by decide)
  have f1 := Int.emod_nonneg f (show (22 : Int) ≠ 0 by decide)
  have f2 := Int.emod_lt_of_pos f (show (0 : Int) < 22 by decide)
  go_enter Try.func6, Try.ntmps6
  go_wp2_with fail
  refine (known_any _).mono ?_
  rintro en w1 ⟨rfl, hb1⟩
  have hs1 := hb1.size
  have hbs1 := hbs.below hb1
  go_wp2_with fail
  refine (within_any e 22 (by decide) (by decide) he _).mono ?_
  rintro en w2 ⟨rfl, rfl⟩
  go_wp2_with fail
  refine (within_any f 22 (by decide) (by decide) hf _).mono ?_
  rintro en w2 ⟨rfl, rfl⟩
  generalize e % 22 = E at *
  generalize f % 22 = F at *
  go_wp2_with fail
  refine (new_any _ l (by omega) _ hbs1).mono ?_
  rintro en w2 ⟨r, rfl, hr2, hs2, hb2⟩
  have hB2 := hb1.trans (hb2.mono hs1)
  have hz2 := hB2.size
  clear hb1 hb2 hbs1
  go_wp2_with fail
  refine (fail_any r l 0 0 _ hr2).mono ?_
  rintro en w3 ⟨rfl, hr3, hg3⟩
  replace hr3 : Rd w3 r l 0 := hr3
  have hB3 := Below.rd hB2 hg3 hz2 (by omega)
  have hz3 := hB3.size
  clear hr2 hg3 hB2 hz2
  go_wp2_with fail
  refine (end_any r l 0 _ hr3).mono ?_
  rintro en w4 ⟨rfl, rfl⟩
  go_wp2_with fail
  refine (fail_any r l 0 (1 + E) _ hr3).mono ?_
  rintro en w4 ⟨rfl, hr4, hg4⟩
  replace hr4 : Rd w4 r l (1 + E) := hr4
  have hB4 := Below.rd hB3 hg4 hz3 (by omega)
  have hz4 := hB4.size
  have hE : 1 + E ≠ 0 := by omega
  clear hr3 hg4 hB3 hz3
  go_wp2_with fail
  refine (fail_any r l (1 + E) (1 + F) _ hr4).mono ?_
  rintro en w5 ⟨rfl, hr5, hg5⟩
  rw [fail_err _ hE] at hr5
  have hB5 := Below.rd hB4 hg5 hz4 (by omega)
  have hz5 := hB5.size
  clear hr4 hg5 hB4 hz4
  go_wp2_with fail
  refine (rint_any r l (1 + E) _ hr5).mono ?_
  rintro en w6 ⟨rfl, hr6, hg6⟩
  rw [took_err _ hE, num_nil]
  rw [left_err _ hE, err_err _ hE] at hr6
  have hB6 := Below.rd hB5 hg6 hz5 (by omega)
  have hz6 := hB6.size
  clear hr5 hg6 hB5 hz5
  go_wp2_with fail
  refine (rtext_any r l (1 + E) _ hr6).mono ?_
  rintro en w7 ⟨rfl, hr7, hg7⟩
  rw [(text_err hE).1]
  rw [(text_err hE).2.1, (text_err hE).2.2] at hr7
  have hB7 := Below.rd hB6 hg7 hz6 (by omega)
  have hz7 := hB7.size
  clear hr6 hg7 hB6 hz6
  go_wp2_with fail
  refine (rbyte_any r l (1 + E) _ hr7).mono ?_
  rintro en w8 ⟨rfl, hr8, hg8⟩
  rw [took_err _ hE, num_nil]
  rw [left_err _ hE, err_err _ hE] at hr8
  have hB8 := Below.rd hB7 hg8 hz7 (by omega)
  have hz8 := hB8.size
  clear hr7 hg8 hB7 hz7
  go_wp2_with fail
  refine (new_any _ [] (by simp) _ (Bs.nil _)).mono ?_
  rintro en w9 ⟨r', rfl, hr9', hs9, hb9⟩
  have hz9 := hb9.size
  go_wp2_with fail
  refine (rint_any r' [] 0 _ hr9').mono ?_
  rintro en w10 ⟨rfl, hr10, hg10⟩
  replace hr10 : Rd w10 r' [] 7 := hr10
  have hb10 := Below.rd hb9 hg10 hz9 hs9
  have hz10 := hb10.size
  clear hr9' hg10 hb9
  go_wp2_with fail
  refine (fail_any r' [] 7 (1 + F) _ hr10).mono ?_
  rintro en w11 ⟨rfl, hr11, hg11⟩
  replace hr11 : Rd w11 r' [] 7 := hr11
  have hb11 := Below.rd hb10 hg11 hz10 hs9
  have hr11' := hr8.below hb11
  have hB11 := hB8.trans (hb11.mono hz8)
  clear hr8 hr10 hg11 hb10 hb11 hB8
  have hEE : ((1 + E : Int) == 1 + E) = true := beq_iff_eq.2 rfl
  by_cases hl0 : l = []
  · subst hl0
    go_wp2_with fail
    refine (end_any r _ _ _ hr11').mono ?_
    rintro en w12 ⟨rfl, rfl⟩
    rw [end_err hE]
    go_wp2_with fail
    refine (end_any r' _ _ _ hr11).mono ?_
    rintro en w12 ⟨rfl, rfl⟩
    go_wp2
    go_ret
    exact ⟨rfl, hB11⟩
  · have hp : ((l.length : Int) == 0) = false := by have := List.length_pos_iff.2 hl0; exact beq_eq_false_iff_ne.2 (by omega)
    have he8 : endOf l 0 = 8 := by simp [endOf, hl0]
    go_wp2_with fail
    refine (end_any r _ _ _ hr11').mono ?_
    rintro en w12 ⟨rfl, rfl⟩
    rw [end_err hE]
    go_wp2_with fail
    refine (end_any r' _ _ _ hr11).mono ?_
    rintro en w12 ⟨rfl, rfl⟩
    go_wp2
    go_ret
    exact ⟨rfl, hB11⟩
end Go.Proofs.Ytkgdplbkhkafgaa
