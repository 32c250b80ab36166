/- Package dec: numbers on their way. -/
import Derived.Test.YtecomfhbdonkbaaGreatDoorEa
import Derived.ScopeJumps
namespace Go.Proofs.YtecomfhbdonkbaaGreatDoor
open Go.RowKit Flo
set_option maxRecDepth 100000
set_option linter.unusedVariables false
set_option linter.unusedSimpArgs false

theorem ex_u24 (T : Array Value) (F : (Nat → Value) → Array Value) (hF : F (fun i => T.getD i undef) = T) (R : (Nat → Value) → Prop) (h : R (fun i => T.getD i undef)) : ∃ u, ({ tmps := T, defers := [] } : Act) = { tmps := F u, defers := [] } ∧ R u :=
  ⟨fun i => T.getD i undef, by rw [hF], h⟩

/-- a number without the noughts that end it behind the point. -/
def nrm (n : Int) : Nat → Int × Nat
  | 0 => (n, 0)
  | k + 1 => if n % 10 = 0 then nrm (n / 10) k else (n, k + 1)
theorem nrm_go {n : Int} (k : Nat) (hk : 0 < k) (h : n % 10 = 0) : nrm n k = nrm (n / 10) (k - 1) := by
  obtain ⟨j, rfl⟩ : ∃ j, k = j + 1 := ⟨k - 1, by omega⟩
  show (if n % 10 = 0 then _ else _) = _
  rw [if_pos h]; rfl
theorem nrm_stay (n : Int) (k : Nat) (h : ¬ n % 10 = 0) : nrm n k = (n, k) := by
  cases k with
  | zero => rfl
  | succ j =>
    show (if n % 10 = 0 then _ else _) = _
    rw [if_neg h]
theorem nat_div10 {n : Int} (h : n.natAbs < 2 ^ 53) : (n / 10).natAbs < 2 ^ 53 := by
  rw [p53] at *; omega

theorem divides_any (w : World) (re im y : Nat) (n : Int) (m : Nat) (hx : Rep re n) (hy : Rep y (m : Int)) (h0 : m ≠ 0) (hm : m < 2 ^ 53) (hn : n.natAbs < 2 ^ 53) :
    Calls Tryz.prog 146 #[.complex .f64 re im, .float .f64 y] w fun e w' => e = .returned (.bool (decide (n.tmod m = 0))) ∧ w = w' := by
  have hZ := Lib.hid (fun w => mod_any w re y n m hx hy h0 hm hn)
  obtain ⟨b, hb⟩ : ∃ b, b = decide (n.tmod m = 0) := ⟨_, rfl⟩
  rw [← hb]
  cases b with
  | true =>
    have h : n.tmod m = 0 := of_decide_eq_true hb.symm
    have HH := Lib.hid h
    clear hb h
    go_enter Tryz.func146, Tryz.ntmps146
    go_wp2_with fail
    refine (hZ.out _).mono ?_
    rintro e w' ⟨z, rfl, hz, rfl⟩
    have e : FloatKind.f64.format.order z 0 = some .eq := ord_eq hz rep0 HH.out
    clear hz
    go_wp2_with fail
    go_ret
    exact ⟨rfl, rfl⟩
  | false =>
    have h : ¬ n.tmod m = 0 := of_decide_eq_false hb.symm
    have HH := Lib.hid h
    clear hb h
    go_enter Tryz.func146, Tryz.ntmps146
    go_wp2_with fail
    refine (hZ.out _).mono ?_
    rintro e w' ⟨z, rfl, hz, rfl⟩
    have e : (FloatKind.f64.format.order z 0 == some .eq) = false := by
      rw [ord hz rep0]
      simp only [compare, compareOfLessAndEq]
      rw [if_neg HH.out]
      split <;> rfl
    clear hz
    go_wp2_with fail
    go_ret
    exact ⟨rfl, rfl⟩

set_option maxHeartbeats 1000000 in
theorem short_any (w : World) (re im : Nat) (n : Int) (k : Nat) (hr : Rep re n) (hi : Rep im (k : Int)) (hn : n.natAbs < 2 ^ 53) (hk : k ≤ 1000000) :
    Calls Tryz.prog 134 #[.complex .f64 re im] w fun e w' => ∃ r i, e = .returned (.complex .f64 r i) ∧ Rep r (nrm n k).1 ∧ Rep i ((nrm n k).2 : Int) ∧ w = w' := by
  obtain ⟨P, hP⟩ : ∃ P, P = nrm n k := ⟨_, rfl⟩
  rw [← hP]
  have HR := Lib.hid hr
  have HJ := Lib.hid hi
  have HB := Lib.hid hn
  have HK := Lib.hid hk
  have HN := Lib.hid hP
  clear hP hr hi hn hk
  go_enter Tryz.func134, Tryz.ntmps134
  go_wp2_with fail
  refine wp_scope_jumps 0 (fun a' w' => ∃ (r i : Nat) (m : Int) (j : Nat), (fun a' w' => ∃ u : Nat → Value, a' = { tmps := #[.complex .f64 r i, u 1, u 2, u 3, u 4, u 5, u 6, u 7, u 8, u 9, u 10, u 11, u 12, u 13, u 14, u 15, u 16, u 17, u 18, u 19, u 20, u 21, u 22, u 23], defers := [] } ∧ w = w' ∧ Rep r m ∧ Rep i (j : Int) ∧ m.natAbs < 2 ^ 53 ∧ j ≤ 1000000 ∧ P = nrm m j) a' w') (fun a _ => match a.tmps.getD 0 undef with | .complex _ _ i => natOf (.float .f64 i) | _ => 0) rfl ?_ ?_
  · skip
    have e0 : FloatKind.f64.format.order im 0 = some (compare (k : Int) 0) := ord HJ.out rep0
    have hA := Lib.hid (fun w => abs_any re w HR.out.lt)
    have e1 : FloatKind.f64.format.order (re % 2 ^ 63) 4845873199050653696 = some .lt := ord_lt (abs_rep HR.out) rep_whole (by have := HB.out; rw [p53] at this; omega)
    generalize re % 2 ^ 63 = ab at *
    rcases Nat.eq_zero_or_pos k with hj0 | hj0
    · have e2 : FloatKind.f64.format.order im 0 = some .eq := ord_eq HJ.out rep0 (by omega)
      clear e0
      have HE := Lib.hid (show nrm n k = (n, k) by rw [hj0]; rfl)
      go_wp2_with fail; refine wp_label ?_
      go_wp2_with fail
      simp only [Exit.jump]
      go_ret
      exact ⟨_, _, rfl, by rw [HN.out, HE.out]; exact HR.out, by rw [HN.out, HE.out]; exact HJ.out, rfl⟩
    · have e2 : FloatKind.f64.format.order im 0 = some .gt := ord_gt HJ.out rep0 (by omega)
      clear e0
      have hD := Lib.hid (fun w => divides_any w re im 4621819117588971520 n 10 HR.out rep10 (by decide) (by decide) HB.out)
      by_cases hd : n % 10 = 0
      · have hd2 : decide (n.tmod 10 = 0) = true := by
          rw [decide_eq_true_eq]; exact Int.tmod_eq_zero_of_dvd (Int.dvd_of_emod_eq_zero hd)
        have hD2 := Lib.hid (hD.out)
        rw [show ((10 : Nat) : Int) = 10 from rfl, hd2] at hD2
        clear hD hd2
        obtain ⟨q, hq1, hq2⟩ := div_rep (b := 10) (c := n / 10) (by rw [show (10 : Int) * (n / 10) = n by omega]; exact HR.out) rep10 (by decide) (by rw [show (10 : Int) * (n / 10) = n by omega]; exact HB.out) (by decide)
        have hQ := fun t w => run_float_arith (P := Tryz.prog) w .quo t .f64 re 4621819117588971520 q hq1
        obtain ⟨i2, hi1, hi2⟩ := sub_rep HJ.out rep1 (by
          rcases Nat.eq_or_lt_of_le hj0 with h | h
          · exact .inl (by omega)
          · exact .inr (Ex.small (by omega) (by have := HK.out; rw [p53]; omega)))
        have hI := fun t w => run_float_arith (P := Tryz.prog) w .sub t .f64 im 4607182418800017408 i2 hi1
        have hi3 : Rep i2 ((k - 1 : Nat) : Int) := by
          have : ((k - 1 : Nat) : Int) = (k : Int) - 1 := by omega
          rw [this]; exact hi2
        have HP := Lib.hid (And.intro hq2 hi3)
        clear hq1 hi1 hq2 hi2 hi3
        go_wp2_with fail; refine wp_label ?_
        go_wp2_with (first | (go_at_call 135; refine (hA.out _).mono ?_; rintro e w' ⟨rfl, rfl⟩) | (go_at_call 146; refine (hD2.out _).mono ?_; rintro e w' ⟨rfl, rfl⟩))
        refine wp_goto ?_
        exact ⟨rfl, _, _, _, _, ex_u24 _ _ (by kernel_rfl) _ ⟨rfl, HP.out.1, HP.out.2, nat_div10 HB.out, by have := HK.out; omega, by rw [HN.out, nrm_go k hj0 hd]⟩⟩
      · have hd2 : decide (n.tmod 10 = 0) = false := by
          rw [decide_eq_false_iff_not]
          intro h
          exact hd (Int.emod_eq_zero_of_dvd (Int.dvd_of_tmod_eq_zero h))
        have hD2 := Lib.hid (hD.out)
        rw [show ((10 : Nat) : Int) = 10 from rfl, hd2] at hD2
        clear hD hd2
        have HE := Lib.hid (nrm_stay n k hd)
        go_wp2_with fail; refine wp_label ?_
        go_wp2_with (first | (go_at_call 135; refine (hA.out _).mono ?_; rintro e w' ⟨rfl, rfl⟩) | (go_at_call 146; refine (hD2.out _).mono ?_; rintro e w' ⟨rfl, rfl⟩))
        simp only [Exit.jump]
        go_ret
        exact ⟨_, _, rfl, by rw [HN.out, HE.out]; exact HR.out, by rw [HN.out, HE.out]; exact HJ.out, rfl⟩
  · rintro a wr ⟨r2, i2a, n2, k2, u, rfl, rfl, HR, HJ, HB, HK, HN⟩
    replace HR := Lib.hid HR
    replace HJ := Lib.hid HJ
    replace HB := Lib.hid HB
    replace HK := Lib.hid HK
    replace HN := Lib.hid HN
    have e0 : FloatKind.f64.format.order i2a 0 = some (compare (k2 : Int) 0) := ord HJ.out rep0
    have hA := Lib.hid (fun w => abs_any r2 w HR.out.lt)
    have e1 : FloatKind.f64.format.order (r2 % 2 ^ 63) 4845873199050653696 = some .lt := ord_lt (abs_rep HR.out) rep_whole (by have := HB.out; rw [p53] at this; omega)
    generalize r2 % 2 ^ 63 = ab at *
    rcases Nat.eq_zero_or_pos k2 with hj0 | hj0
    · have e2 : FloatKind.f64.format.order i2a 0 = some .eq := ord_eq HJ.out rep0 (by omega)
      clear e0
      have HE := Lib.hid (show nrm n2 k2 = (n2, k2) by rw [hj0]; rfl)
      skip
      go_wp2_with fail
      simp only [Exit.jump]
      go_ret
      exact ⟨_, _, rfl, by rw [HN.out, HE.out]; exact HR.out, by rw [HN.out, HE.out]; exact HJ.out, rfl⟩
    · have e2 : FloatKind.f64.format.order i2a 0 = some .gt := ord_gt HJ.out rep0 (by omega)
      clear e0
      have hD := Lib.hid (fun w => divides_any w r2 i2a 4621819117588971520 n2 10 HR.out rep10 (by decide) (by decide) HB.out)
      by_cases hd : n2 % 10 = 0
      · have hd2 : decide (n2.tmod 10 = 0) = true := by
          rw [decide_eq_true_eq]; exact Int.tmod_eq_zero_of_dvd (Int.dvd_of_emod_eq_zero hd)
        have hD2 := Lib.hid (hD.out)
        rw [show ((10 : Nat) : Int) = 10 from rfl, hd2] at hD2
        clear hD hd2
        obtain ⟨q, hq1, hq2⟩ := div_rep (b := 10) (c := n2 / 10) (by rw [show (10 : Int) * (n2 / 10) = n2 by omega]; exact HR.out) rep10 (by decide) (by rw [show (10 : Int) * (n2 / 10) = n2 by omega]; exact HB.out) (by decide)
        have hQ := fun t w => run_float_arith (P := Tryz.prog) w .quo t .f64 r2 4621819117588971520 q hq1
        obtain ⟨i2, hi1, hi2⟩ := sub_rep HJ.out rep1 (by
          rcases Nat.eq_or_lt_of_le hj0 with h | h
          · exact .inl (by omega)
          · exact .inr (Ex.small (by omega) (by have := HK.out; rw [p53]; omega)))
        have hI := fun t w => run_float_arith (P := Tryz.prog) w .sub t .f64 i2a 4607182418800017408 i2 hi1
        have hi3 : Rep i2 ((k2 - 1 : Nat) : Int) := by
          have : ((k2 - 1 : Nat) : Int) = (k2 : Int) - 1 := by omega
          rw [this]; exact hi2
        have HP := Lib.hid (And.intro hq2 hi3)
        clear hq1 hi1 hq2 hi2 hi3
        skip
        go_wp2_with (first | (go_at_call 135; refine (hA.out _).mono ?_; rintro e w' ⟨rfl, rfl⟩) | (go_at_call 146; refine (hD2.out _).mono ?_; rintro e w' ⟨rfl, rfl⟩))
        refine wp_goto ?_
        exact ⟨rfl, ⟨_, _, _, _, ex_u24 _ _ (by kernel_rfl) _ ⟨rfl, HP.out.1, HP.out.2, nat_div10 HB.out, by have := HK.out; omega, by rw [HN.out, nrm_go _ hj0 hd]⟩⟩, by
          show natOf (.float .f64 i2) < natOf (.float .f64 i2a)
          rw [natOf_rep HP.out.2, natOf_rep HJ.out]; omega⟩
      · have hd2 : decide (n2.tmod 10 = 0) = false := by
          rw [decide_eq_false_iff_not]
          intro h
          exact hd (Int.emod_eq_zero_of_dvd (Int.dvd_of_tmod_eq_zero h))
        have hD2 := Lib.hid (hD.out)
        rw [show ((10 : Nat) : Int) = 10 from rfl, hd2] at hD2
        clear hD hd2
        have HE := Lib.hid (nrm_stay n2 k2 hd)
        skip
        go_wp2_with (first | (go_at_call 135; refine (hA.out _).mono ?_; rintro e w' ⟨rfl, rfl⟩) | (go_at_call 146; refine (hD2.out _).mono ?_; rintro e w' ⟨rfl, rfl⟩))
        simp only [Exit.jump]
        go_ret
        exact ⟨_, _, rfl, by rw [HN.out, HE.out]; exact HR.out, by rw [HN.out, HE.out]; exact HJ.out, rfl⟩
end Go.Proofs.YtecomfhbdonkbaaGreatDoor
