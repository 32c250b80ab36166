/- The walk of the law CodeLess. -/
import Derived.Test.YtkgdplbkhkafgaaKnown
import Derived.Test.YtkgdplbkhkafgaaFails
namespace Go.Proofs.Ytkgdplbkhkafgaa
open Go.RowKit

theorem took_ok {l : List UInt8} {n : Nat} (h : n ≤ l.length) : tookOf l 0 n = l.take n := by simp [tookOf, h]
theorem left_ok {l : List UInt8} {n : Nat} (h : n ≤ l.length) : leftOf l 0 n = l.drop n := by simp [leftOf, h]
theorem err_ok {l : List UInt8} {n : Nat} (h : n ≤ l.length) : errOf l 0 n = 0 := by simp [errOf]; omega
theorem took_cut {l : List UInt8} {n : Nat} (h : l.length < n) : tookOf l 0 n = [] := by simp [tookOf]; omega
theorem left_cut {l : List UInt8} {n : Nat} (h : l.length < n) : leftOf l 0 n = l := by simp [leftOf]; omega
theorem err_cut {l : List UInt8} {n : Nat} (h : l.length < n) : errOf l 0 n = 7 := by simp [errOf, h]

theorem byteOf_toNat (x : Int) : ((byteOf x).toNat : Int) = x % 256 := by
  have h := vb_byteOf x
  unfold vb at h
  simpa using h

theorem text_less {l : List UInt8} {n : Nat} (h : l.length < n) (hn : n < 65536) :
    textOf (byteOf n :: byteOf (n / 256) :: l) 0 = [] ∧ textErr (byteOf n :: byteOf (n / 256) :: l) 0 = 7 := by
  have e2 : num [byteOf n, byteOf (n / 256)] = n := by
    have h1 := byteOf_toNat n
    have h2 := byteOf_toNat ((n : Int) / 256)
    simp only [num]
    omega
  unfold textOf textErr
  rw [took_ok (by simp), left_ok (by simp), err_ok (by simp)]
  simp only [List.take_succ_cons, List.take_zero, List.drop_succ_cons, List.drop_zero]
  rw [e2]
  exact ⟨took_cut h, err_cut h⟩

theorem less_walk (v : Value) (l : List UInt8) (n : Int) (w : World) (hbs : Bs w v l) (hn : (Lit.int .i64 n).wf = true) :
    Calls Try.prog 9 #[.int .i64 n, v] w fun en w' => en = .returned (.bool true) ∧ Below w.heap.size w w' := by
  have hv := hbs
  obtain ⟨ao, cap, rfl, h1, h2, h3, h4⟩ := hv
  clear h3 h4
  unfold maxLen at h2
  by_cases hl : (200 : Int) < l.length
  · go_enter Try.func9, Try.ntmps9
    go_wp2_with (go_at_call 11; refine (known_any _).mono ?_; rintro e w1 ⟨rfl, hb1⟩)
    go_ret
    exact ⟨rfl, hb1⟩
  have e1 := Int.emod_nonneg n (show (300 : Int) ≠ 0 by decide)
  have e2 := Int.emod_lt_of_pos n (show (0 : Int) < 300 by decide)
  go_enter Try.func9, Try.ntmps9
  go_wp2_with fail
  refine (known_any _).mono ?_
  rintro en w1 ⟨rfl, hb1⟩
  have hs1 := hb1.size
  have hbs1 := hbs.below hb1
  go_wp2_with fail
  refine (within_any n 300 (by decide) (by decide) hn _).mono ?_
  rintro en w2 ⟨rfl, rfl⟩
  obtain ⟨N, hN⟩ := Int.eq_ofNat_of_zero_le (show 0 ≤ (l.length : Int) + 1 + n % 300 by omega)
  have hN1 : l.length < N := by omega
  have hN2 : N < 65536 := by omega
  generalize n % 300 = E at *
  have HN := Lib.hid hN
  clear hN
  have hb2 := hb1.alloc hs1 (.cells #[.int .u8 (((l.length : Int) + 1 + E) % 256), .int .u8 (((l.length : Int) + 1 + E) / 256)] 5)
  go_wp2_with (at_builtin; refine wpList_append_bytes rfl _ _ rfl w.heap.size _ _ rfl (Own.two _ _ ?a0 (byteOf N) (byteOf ((N : Int) / 256)) _ _ ?a1 ?a2) _ _ rfl (hbs.below ?a3) ?a4 ?a5 ?_)
  case a0 => omega
  case a1 => rw [vb_byteOf, ← HN.out]
  case a2 =>
    rw [vb_byteOf, ← HN.out]
    have := HN.out
    congr 1
    omega
  case a3 => exact hb2
  case a4 => simp; omega
  case a5 => simp; omega
  intro v2 w2 ho2 hg2
  have hb3 : Below w.heap.size w w2 := by
    refine hb2.grown hg2 (by simp; omega) (fun q hq => ?_)
    simp [Value.ownBlock] at hq
    omega
  have hs3 := hb3.size
  have hbs3 := hbs.below hb3
  clear hg2 hb2 hbs1 hb1
  go_wp2_with fail
  refine (new_any _ _ (by simp; omega) _ ho2.bs).mono ?_
  rintro en w4 ⟨r, rfl, hr4, hq4, hb4⟩
  have hB4 := hb3.trans (hb4.mono hs3)
  have hs4 := hB4.size
  have hbs4 := hbs.below hB4
  clear ho2 hb3 hb4 hbs3
  go_wp2_with fail
  refine (rtext_any r _ 0 _ hr4).mono ?_
  rintro en w5 ⟨rfl, hr5, hg5⟩
  have hT := text_less hN1 hN2
  rw [hT.1]
  rw [hT.2] at hr5
  have hB5 := Below.rd hB4 hg5 hs4 (by omega)
  have hs5 := hB5.size
  have hbs5 := hbs.below hB5
  generalize textLeft (byteOf (N : Int) :: byteOf ((N : Int) / 256) :: l) 0 = L at hr5
  clear hr4 hg5 hB4 hT hbs4
  go_wp2_with fail
  · obtain ⟨m, hm, hbm⟩ : ∃ m : List UInt8, m.length ≤ 7 ∧ Bs w5 (.slice ao 7 cap) m := ⟨l.take 7, by simp; omega, hbs5.takes 7 (by omega)⟩
    refine (new_any _ m (by omega) _ hbm).mono ?_
    rintro en w6 ⟨r', rfl, hr6, hq6, hb6⟩
    have hs6 := hb6.size
    go_wp2_with fail
    refine (rint_any r' m 0 _ hr6).mono ?_
    rintro en w7 ⟨rfl, hr7, hg7⟩
    rw [took_cut (by omega), num_nil]
    rw [err_cut (by omega)] at hr7
    have hb7 := Below.rd hb6 hg7 hs6 hq6
    have hr7' := hr5.below hb7
    have hB7 := hB5.trans (hb7.mono hs5)
    clear hr6 hg7 hb6 hb7 hr5 hB5
    go_wp2_with fail
    refine (end_any r _ _ _ hr7').mono ?_
    rintro en w8 ⟨rfl, rfl⟩
    rw [end_err (by decide)]
    go_wp2_with fail
    refine (end_any r' _ _ _ hr7).mono ?_
    rintro en w8 ⟨rfl, rfl⟩
    rw [end_err (by decide)]
    go_wp2
    go_ret
    exact ⟨rfl, hB7⟩
  · obtain ⟨m, hm, hbm⟩ : ∃ m : List UInt8, m.length ≤ 7 ∧ Bs w5 (.slice ao l.length cap) m := ⟨l, by omega, hbs5⟩
    refine (new_any _ m (by omega) _ hbm).mono ?_
    rintro en w6 ⟨r', rfl, hr6, hq6, hb6⟩
    have hs6 := hb6.size
    go_wp2_with fail
    refine (rint_any r' m 0 _ hr6).mono ?_
    rintro en w7 ⟨rfl, hr7, hg7⟩
    rw [took_cut (by omega), num_nil]
    rw [err_cut (by omega)] at hr7
    have hb7 := Below.rd hb6 hg7 hs6 hq6
    have hr7' := hr5.below hb7
    have hB7 := hB5.trans (hb7.mono hs5)
    clear hr6 hg7 hb6 hb7 hr5 hB5
    go_wp2_with fail
    refine (end_any r _ _ _ hr7').mono ?_
    rintro en w8 ⟨rfl, rfl⟩
    rw [end_err (by decide)]
    go_wp2_with fail
    refine (end_any r' _ _ _ hr7).mono ?_
    rintro en w8 ⟨rfl, rfl⟩
    rw [end_err (by decide)]
    go_wp2
    go_ret
    exact ⟨rfl, hB7⟩
end Go.Proofs.Ytkgdplbkhkafgaa
