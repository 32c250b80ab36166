/- Rh -/
import Derived.Test.YtpfjbcfnpfgidaaKRg
namespace Go.Proofs.Ytpfjbcfnpfgidaa
open Go.RowKit Go.Maps
set_option maxRecDepth 100000
set_option linter.unusedVariables false
theorem Ss.cellAt {w : World} {ao : Option Addr} {n cap : Nat} {A : List ByteArray} (h : Ss w (.slice ao n cap) A) (i : Nat) (hi : i < A.length) : ∃ b off, ao = some ⟨b, off, none⟩ ∧ w.cell? ⟨b, off + i, none⟩ = some (.string A[i]) ∧ b < w.heap.size := by
 obtain ⟨b, off, cp, e, h1, h2, h3⟩ := h.at (by omega)
 simp only [Value.slice.injEq] at e
 exact ⟨b, off, e.1, h3 i hi, World.block_lt_of_cell? w _ (h3 i hi)⟩
theorem Ss.below {w w' : World} {v : Value} {A : List ByteArray} (h : Ss w v A) (hb : Below w.heap.size w w') : Ss w' v A := by
 obtain ⟨ao, cap, e, h1, h2, h3, h4⟩ := h
 refine ⟨ao, cap, e, h1, h2, h3, fun ad had j u hu => ?_⟩
 have := h4 ad had j u hu
 rw [← this]
 exact hb.cell (World.block_lt_of_cell? w _ this)
set_option maxHeartbeats 4000000 in
theorem rows_any {w : World} {va vb : Value} {A B : List ByteArray} (ha : Ss w va A) (hb : Ss w vb B) (hla : A.length ≤ 1000000) (hlb : B.length ≤ 1000000) :
 Calls Try.prog 13 #[va, vb] w fun e w' => e = .returned (.bool (decide (A = B))) ∧ Below w.heap.size w w' := by
 obtain ⟨ao, cap, e1, h1, h2⟩ := ha.form
 obtain ⟨bo, cap2, e2, h3, h4⟩ := hb.form
 obtain ⟨n, hn⟩ : ∃ n, n = A.length := ⟨_, rfl⟩
 obtain ⟨m, hm⟩ : ∃ m, m = B.length := ⟨_, rfl⟩
 rw [← hn] at e1 h1 hla
 rw [← hm] at e2 h3 hlb
 subst e1 e2
 obtain ⟨d, hd⟩ : ∃ d, d = decide (A = B) := ⟨_, rfl⟩
 rw [← hd]
 have HD := Lib.hid hd
 have HN := Lib.hid hn
 have HM := Lib.hid hm
 have HA := Lib.hid ha
 have HB := Lib.hid hb
 clear ha hb hn hm hd
 by_cases hnm : n = m
 ·subst hnm
  go_enter Try.func13, Try.ntmps13
  go_wp2_with fail
  go_loopw [5] (fun i wr => ∃ k : Nat, k ≤ n ∧ i = .int .i64 k ∧ (∀ j (hj : j < A.length) (hj' : j < B.length), j < k → A[j] = B[j]) ∧ Below w.heap.size w wr) (fun i _ => n - (intOf i).toNat)
  case atStart => exact ⟨0, Nat.zero_le _, rfl, fun j _ _ h => absurd h (Nat.not_lt_zero _), Below.refl _ _⟩
  case round =>
   obtain ⟨k, hk, rfl, hall, hbel⟩ := hrel
   have HALL := Lib.hid hall
   have HBEL := Lib.hid hbel
   by_cases hlt : k < n
   ·obtain ⟨b1, o1, rfl, c1, l1⟩ := (HA.out.below hbel).cellAt k (by rw [← HN.out]; exact hlt)
    obtain ⟨b2, o2, rfl, c2, l2⟩ := (HB.out.below hbel).cellAt k (by rw [← HM.out]; exact hlt)
    obtain ⟨a, ha⟩ : ∃ a, a = A[k]'(by rw [← HN.out]; exact hlt) := ⟨_, rfl⟩
    obtain ⟨b, hb⟩ : ∃ b, b = B[k]'(by rw [← HM.out]; exact hlt) := ⟨_, rfl⟩
    rw [← ha] at c1
    rw [← hb] at c2
    have HAA := Lib.hid ha
    have HBB := Lib.hid hb
    have hlt' : (k : Int) < n := by omega
    have hk0 : (0 : Int) ≤ k := by omega
    clear hall hbel ha hb l1 l2
    cases heq : (a.toList == b.toList) with
    | true =>
     have hab : a = b := ba_eq (by simpa using heq)
     have HAB := Lib.hid hab
     clear hab
     go_wp2_with fail
     go_quiet (fail)
     go_wp2_with fail
     go_roundw
     case rel =>
      refine ⟨k + 1, by omega, by go_num, fun j hj hj' hjk => ?_, draws9 HBEL.out _⟩
      by_cases e : j = k
      ·subst e
       rw [← HAA.out, ← HBB.out]; exact HAB.out
      ·exact HALL.out j hj hj' (by omega)
     case measure => simp [intOf]; omega
    | false =>
     have HNE := Lib.hid heq
     go_wp2_with fail
     go_quiet (fail)
     go_wp2_with fail
     go_ret
     refine ⟨?_, draws9 HBEL.out _⟩
     have hne : ¬ A = B := by
      intro e
      have e2 : A[k]'(by rw [← HN.out]; exact hlt) = B[k]'(by rw [← HM.out]; exact hlt) := by simp only [e]
      rw [← HAA.out, ← HBB.out] at e2
      have := HNE.out
      rw [e2] at this
      simp at this
     rw [HD.out, decide_eq_false hne]; rfl
   ·obtain rfl : k = n := by omega
    clear hall hbel
    go_wp2_with fail
    go_ret
    refine ⟨?_, HBEL.out⟩
    rw [HD.out, decide_eq_true (List.ext_getElem (by rw [← HN.out]; exact HM.out) (fun j hj hj' => HALL.out j hj hj' (by rw [HN.out]; exact hj)))]; rfl
 ·have hz : ((n : Int) == m) = false := by simp; omega
  go_enter Try.func13, Try.ntmps13
  go_wp2_with fail
  go_ret
  refine ⟨?_, Below.refl _ _⟩
  have hne : ¬ A = B := fun e => hnm (by rw [HN.out, HM.out, e])
  rw [HD.out, decide_eq_false hne]; rfl
theorem within5_eq (a n : Int) (hn : 0 < n) (hn2 : n ≤ 4611686018427387904) (w : World) :
 Calls Try.prog 11 #[.int .i64 a, .int .i64 n] w fun e w' => e = .returned (.int .i64 (a % n)) ∧ w' = w := by
 have h1 := Int.tmod_lt_of_pos a hn
 have h2 : -n < a.tmod n := Int.lt_tmod_of_pos a hn
 have hz : (n == 0) = false := by simpa using (by omega : n ≠ 0)
 have he : a % n = if a.tmod n < 0 then a.tmod n + n else a.tmod n := by
  rw [Int.tmod_eq_emod]
  have h3 := Int.emod_nonneg a (show n ≠ 0 by omega)
  have h4 := Int.emod_lt_of_pos a hn
  have h5 : ((Int.natAbs n : Nat) : Int) = n := by omega
  by_cases h0 : 0 ≤ a ∨ n ∣ a
  ·rw [if_pos h0]; split <;> omega
  ·rw [if_neg h0, h5]; split <;> omega
 have HE := Lib.hid he
 clear he
 by_cases h0 : a.tmod n < 0
 ·go_enter Try.func11, Try.ntmps11
  go_wp2
  go_ret
  exact ⟨by rw [HE.out, if_pos h0]; rfl, rfl⟩
 ·go_enter Try.func11, Try.ntmps11
  go_wp2
  go_ret
  exact ⟨by rw [HE.out, if_neg (by omega)]; rfl, rfl⟩
end Go.Proofs.Ytpfjbcfnpfgidaa
