/- triadlaw13: known, within, Good, Word. -/
import Derived.Test.YtodhklapikfpoaaDoorSn
import Derived.OpenShut
namespace Go.Proofs.YtodhklapikfpoaaDoor
open Go.RowKit Go.Shelf Flo
set_option maxRecDepth 100000
set_option linter.unusedVariables false
set_option linter.unusedSimpArgs false

theorem equal_dec (m s m2 s2 : Int) (w : World) : (Op.equalIn 10000 24 (.agg #[.int .i64 m, .int .i64 s]) (.agg #[.int .i64 m2, .int .i64 s2])).run Tryd.prog w = .ok (m == m2 && s == s2) w := by
  cases h1 : m == m2 <;> cases h2 : s == s2
  all_goals go_simp

theorem known13_any (w : World) : Calls Tryd.prog 6 #[] w fun e w' => e = .returned (.bool true) ∧ Below w.heap.size w w' := by
  have hk : ansD (signD (⟨#[45, 48, 46, 53, 48]⟩ : ByteArray).data.toList).1 (bodyD (signD (⟨#[45, 48, 46, 53, 48]⟩ : ByteArray).data.toList).2) = .tuple #[.agg #[.int .i64 (-5), .int .i64 1], .bool true] := by
    have h1 : (signD (⟨#[45, 48, 46, 53, 48]⟩ : ByteArray).data.toList).1 = true := by decide +kernel
    have h2 : bodyD (signD (⟨#[45, 48, 46, 53, 48]⟩ : ByteArray).data.toList).2 = some (5, 1) := by decide +kernel
    rw [h1, h2]
    show decV (-((5 : Nat) : Int)) 1 = _
    rfl
  have HP := Lib.hid (parse_any ⟨#[45, 48, 46, 53, 48]⟩ w (by decide))
  rw [hk] at HP
  clear hk
  go_enter Tryd.func6, Tryd.ntmps6
  go_wp2_with fail
  refine HP.out.mono ?_
  rintro e w1 ⟨rfl, hb⟩
  have HB := Lib.hid hb
  clear hb
  have HE := fun w => equal_dec (-5) 1 (-5) 1 w
  go_wp2_with fail
  go_ret
  exact ⟨rfl, HB.out.alloc HB.out.size _⟩

theorem within_any (x n : Int) (w : World) (hn : 0 < n) (hn2 : n ≤ 1000000) (hx : -9223372036854775808 ≤ x) (hx2 : x ≤ 9223372036854775807) :
    Calls Tryd.prog 10 #[.int .i64 x, .int .i64 n] w fun e w' => e = .returned (.int .i64 (x % n)) ∧ w = w' := by
  obtain ⟨r, hr⟩ : ∃ r, r = x % n := ⟨_, rfl⟩
  rw [← hr]
  have h0 : ¬ n = 0 := by omega
  have h1 : ¬ (n : Int) = -1 := by omega
  rcases Int.lt_or_le x 0 with hlt | hge
  · obtain ⟨t, ht⟩ : ∃ t, t = x.tmod n := ⟨_, rfl⟩
    have htb : -n < t ∧ t ≤ 0 := by
      rw [ht]
      have a := Int.lt_tmod_of_pos x hn
      have b : x.tmod n ≤ 0 := by
        have e : x = -(-x) := by omega
        rw [e, Int.neg_tmod]
        have := Int.tmod_nonneg n (show 0 ≤ -x by omega)
        omega
      omega
    have hrt : (t < 0 → t + n = r) ∧ (¬ t < 0 → t = r) := by
      have e := Int.tmod_add_mul_tdiv x n
      rw [← ht] at e
      constructor
      · intro h
        rw [hr, ← e, Int.add_mul_emod_self_left]
        have : t % n = (t + n) % n := by simp
        rw [this, Int.emod_eq_of_lt (by omega) (by omega)]
      · intro h
        have h0 : t = 0 := by omega
        rw [hr, ← e, Int.add_mul_emod_self_left, h0]; simp
    have HR := Lib.hid hrt
    have ht' := ht.symm
    clear hrt hr ht
    by_cases htn : t < 0
    · have HQ := Lib.hid (HR.out.1 htn)
      go_enter Tryd.func10, Tryd.ntmps10
      go_wp2
      go_ret
      exact ⟨by rw [← HQ.out]; rfl, rfl⟩
    · have HQ := Lib.hid (HR.out.2 htn)
      go_enter Tryd.func10, Tryd.ntmps10
      go_wp2
      go_ret
      exact ⟨by rw [← HQ.out]; rfl, rfl⟩
  · have hr' := hr.symm
    have hrb : 0 ≤ r := by rw [hr]; exact Int.emod_nonneg _ (by omega)
    clear hr
    go_enter Tryd.func10, Tryd.ntmps10
    go_wp2
    go_ret
    exact ⟨by show Ending.returned (.int .i64 (x % n)) = _; rw [hr'], rfl⟩

/-- a decimal of raw numbers. -/
def goodP (m s : Int) : Int × Nat := nrm (m.tmod 1000000000000000) (s % 7).toNat
theorem nrm_good : ∀ (k : Nat) (n : Int), n.natAbs ≤ 999999999999999 → k ≤ 6 → GoodD (nrm n k).1 ((nrm n k).2 : Int)
  | 0, n, h, hk => ⟨by show _ ≤ n; omega, by show n ≤ _; omega, by show (0 : Int) ≤ ((0 : Nat) : Int); decide, by show ((0 : Nat) : Int) ≤ 6; decide, .inl rfl⟩
  | k + 1, n, h, hk => by
    by_cases hd : n % 10 = 0
    · rw [nrm_go (k + 1) (by omega) hd]
      exact nrm_good k (n / 10) (by omega) (by omega)
    · rw [nrm_stay _ _ hd]
      exact ⟨by omega, by omega, by omega, by omega, .inr hd⟩
theorem good_good (m s : Int) : GoodD (goodP m s).1 ((goodP m s).2 : Int) := by
  refine nrm_good _ _ ?_ (by omega)
  have h1 := Int.natAbs_tmod m 1000000000000000
  have h2 := Nat.mod_lt m.natAbs (show 0 < (1000000000000000 : Int).natAbs by decide)
  omega

theorem good_any (m s : Int) (w : World) (hm : -9223372036854775808 ≤ m) (hm2 : m ≤ 9223372036854775807) (hx : -9223372036854775808 ≤ s) (hx2 : s ≤ 9223372036854775807) :
    Calls Tryd.prog 7 #[.int .i64 m, .int .i64 s] w fun e w' => e = .returned (.agg #[.int .i64 (goodP m s).1, .int .i64 ((goodP m s).2 : Int)]) ∧ Below w.heap.size w w' := by
  have HW := Lib.hid (fun w => within_any s 7 w (by decide) (by decide) hx hx2)
  obtain ⟨P, hP⟩ : ∃ P, P = goodP m s := ⟨_, rfl⟩
  rw [← hP]
  obtain ⟨k, hk⟩ : ∃ k : Nat, s % 7 = (k : Int) := ⟨(s % 7).toNat, by omega⟩
  obtain ⟨t, ht⟩ : ∃ t, t = m.tmod 1000000000000000 := ⟨_, rfl⟩
  have hk6 : k ≤ 6 := by omega
  rw [hk] at HW
  have hP2 : P = nrm t k := by rw [hP]; unfold goodP; rw [← ht, hk]; rfl
  have HP := Lib.hid hP2
  have htb : t.natAbs ≤ 999999999999999 := by
    have h1 := Int.natAbs_tmod m 1000000000000000
    have h2 := Nat.mod_lt m.natAbs (show 0 < (1000000000000000 : Int).natAbs by decide)
    rw [ht]
    omega
  have HT := Lib.hid htb
  have ht' := ht.symm
  have hm10 : (0 ≤ m → m % 1000000000000000 = t) := fun h => by rw [ht, Int.tmod_eq_emod_of_nonneg h]
  have key : (m < 0 ∧ m.tmod 1000000000000000 = t) ∨ (0 ≤ m ∧ m % 1000000000000000 = t) := by
    rcases Int.lt_or_le m 0 with h | h
    · exact .inl ⟨h, ht'⟩
    · exact .inr ⟨h, hm10 h⟩
  clear hP hP2 hk ht ht' htb hm10
  rcases key with ⟨hsg, het⟩ | ⟨hsg, het⟩
  all_goals
    go_enter Tryd.func7, Tryd.ntmps7
    go_wp2_with (go_at_call 10; (with_reducible refine (HW.out _).mono ?_); rintro e w' ⟨rfl, rfl⟩)
    go_loop [0, 1] (fun a b => ∃ (n : Int) (j : Nat), a = .int .i64 n ∧ b = .int .i64 (j : Int) ∧ n.natAbs ≤ 999999999999999 ∧ j ≤ 6 ∧ P = nrm n j) (fun _ b => (intOf b).toNat)
    case atStart => exact ⟨t, k, by first | rfl | rw [het], rfl, HT.out, hk6, HP.out⟩
    case round =>
      obtain ⟨n, j, rfl, rfl, hn, hj, hN⟩ := hrel
      have HN := Lib.hid hN
      clear hN
      have hn1 : -999999999999999 ≤ n := by omega
      have hn2 : n ≤ 999999999999999 := by omega
      rcases Nat.eq_zero_or_pos j with h0 | h0
      · subst h0
        have HE := Lib.hid (show P = (n, 0) from HN.out)
        go_wp2_with fail
        exact bodyPost_ret (v := .agg #[.int .i64 n, .int .i64 0]) (by simp [results, Tryd.results7, go_sem]) rfl ⟨by rw [HE.out]; rfl, (Below.refl _ _).alloc (Nat.le_refl _) _⟩
      · have hj0 : (0 : Int) < j := by omega
        by_cases hd : n % 10 = 0
        · have htm : n.tmod 10 = 0 := (tmod_zero n 10).2 hd
          have hq := tdiv10 hd
          have HG := Lib.hid (HN.out.trans (nrm_go j h0 hd))
          go_wp2_with fail
          go_round
          case rel => exact ⟨n / 10, j - 1, by first | rfl | rw [hq], by congr 1; omega, by omega, by omega, HG.out⟩
          case measure => simp [intOf]; omega
        · have htm : ¬ n.tmod 10 = 0 := fun h => hd ((tmod_zero n 10).1 h)
          have HE := Lib.hid (show P = (n, j) by rw [HN.out]; exact nrm_stay _ _ hd)
          go_wp2_with fail
          exact bodyPost_ret (v := .agg #[.int .i64 n, .int .i64 (j : Int)]) (by simp [results, Tryd.results7, go_sem]) rfl ⟨by rw [HE.out], (Below.refl _ _).alloc (Nat.le_refl _) _⟩

theorem piece_at (w : World) (k : Nat) (hk : k < 12) : ∃ Y : ByteArray, (w.alloc (.cells #[.string ⟨#[48]⟩, .string ⟨#[49]⟩, .string ⟨#[53]⟩, .string ⟨#[57]⟩, .string ⟨#[48, 48]⟩, .string ⟨#[46]⟩, .string ⟨#[45]⟩, .string ⟨#[43]⟩, .string ⟨#[49, 50, 51, 52, 53, 54]⟩, .string ⟨#[57, 57, 57]⟩, .string ⟨#[120]⟩, .string ⟨#[]⟩] 9)).cell? ⟨w.heap.size, k, none⟩ = some (.string Y) ∧ Y.size ≤ 6 := by
  have : k = 0 ∨ k = 1 ∨ k = 2 ∨ k = 3 ∨ k = 4 ∨ k = 5 ∨ k = 6 ∨ k = 7 ∨ k = 8 ∨ k = 9 ∨ k = 10 ∨ k = 11 := by omega
  rcases this with rfl | rfl | rfl | rfl | rfl | rfl | rfl | rfl | rfl | rfl | rfl | rfl
  all_goals
    refine ⟨_, by simp; rfl, ?_⟩
    decide

end Go.Proofs.YtodhklapikfpoaaDoor
