/- triadref13: norm, digits, only. -/
import Derived.Test.YtodhklapikfpoaaDoorEh
import Derived.Test.YtodhklapikfpoaaDoorEf
namespace Go.Proofs.YtodhklapikfpoaaDoor
open Go.RowKit Go.Shelf Flo
set_option maxRecDepth 100000
set_option linter.unusedVariables false
set_option linter.unusedSimpArgs false

theorem tdiv10 {n : Int} (h : n % 10 = 0) : n.tdiv 10 = n / 10 := by
  obtain ⟨q, rfl⟩ := Int.dvd_of_emod_eq_zero h
  rw [Int.mul_tdiv_cancel_left _ (by decide), Int.mul_ediv_cancel_left _ (by decide)]

theorem norm_any (w : World) (m : Int) (k : Nat) (hm : m.natAbs ≤ 4000000000000000000) (hk : k ≤ 100000) :
    Calls Tryd.prog 24 #[.int .i64 m, .int .i64 (k : Int)] w fun e w' => e = .returned (decP (nrm m k)) ∧ Below w.heap.size w w' := by
  obtain ⟨P, hP⟩ : ∃ P, P = nrm m k := ⟨_, rfl⟩
  rw [← hP]
  have HP := Lib.hid hP
  clear hP
  go_enter Tryd.func24, Tryd.ntmps24
  go_wp2_with fail
  go_loop [0, 1] (fun a b => ∃ (n : Int) (j : Nat), a = .int .i64 n ∧ b = .int .i64 (j : Int) ∧ n.natAbs ≤ 4000000000000000000 ∧ j ≤ 100000 ∧ P = nrm n j) (fun _ b => (intOf b).toNat)
  case atStart => exact ⟨m, k, rfl, rfl, hm, hk, HP.out⟩
  case round =>
    obtain ⟨n, j, rfl, rfl, hn, hj, hN⟩ := hrel
    have HN := Lib.hid hN
    clear hN
    have hn1 : -4000000000000000000 ≤ n := by omega
    have hn2 : n ≤ 4000000000000000000 := by omega
    have finish : (j = 0 ∨ ¬ n % 10 = 0) → P = (n, j) := by
      intro h
      rw [HN.out]
      rcases h with h | h
      · rw [h]; rfl
      · exact nrm_stay _ _ h
    have HF := Lib.hid finish
    clear finish
    rcases Nat.eq_zero_or_pos j with h0 | h0
    · subst h0
      have HE := Lib.hid (HF.out (.inl rfl))
      clear HF
      by_cases hf : fitsL P = true
      · have hf2 : n.natAbs ≤ 999999999999999 := by rw [HE.out] at hf; simpa [fitsL] using hf
        have HV := Lib.hid (show decP P = .tuple #[.agg #[.int .i64 n, .int .i64 0], .bool true] by unfold decP; rw [if_pos hf, HE.out]; rfl)
        have hn3 : -1000000000000000 < n := by omega
        have hn4 : n < 1000000000000000 := by omega
        clear hf hf2 hn1 hn2 hn
        go_wp2_with fail
        exact bodyPost_ret (v := .tuple #[.agg #[.int .i64 n, .int .i64 0], .bool true]) (by simp [results, Tryd.results24, go_sem]) rfl ⟨by rw [HV.out], (Below.refl _ _).alloc (Nat.le_refl _) _⟩
      · have hf2 : ¬ n.natAbs ≤ 999999999999999 := by rw [HE.out] at hf; simpa [fitsL] using hf
        have HV := Lib.hid (show decP P = .tuple #[.agg #[.int .i64 0, .int .i64 0], .bool false] by unfold decP; rw [if_neg hf])
        have hn3 : 1000000000000000 ≤ n ∨ n ≤ -1000000000000000 := by omega
        clear hf hf2
        rcases hn3 with hn3 | hn3
        all_goals
          go_wp2_with fail
          exact bodyPost_ret (v := .tuple #[.agg #[.int .i64 0, .int .i64 0], .bool false]) (by simp [results, Tryd.results24, go_sem]) rfl ⟨by rw [HV.out], (Below.refl _ _).alloc (Nat.le_refl _) _⟩
    · have hj0 : (0 : Int) < j := by omega
      by_cases hd : n % 10 = 0
      · have ht : n.tmod 10 = 0 := (tmod_zero n 10).2 hd
        have hq := tdiv10 hd
        have HG := Lib.hid (HN.out.trans (nrm_go j h0 hd))
        have HD := Lib.hid hd
        clear hd HF
        go_wp2_with fail
        go_round
        case rel => exact ⟨n / 10, j - 1, by first | rfl | rw [hq], by congr 1; omega, by omega, by omega, HG.out⟩
        case measure => simp [intOf]; omega
      · have ht : ¬ n.tmod 10 = 0 := fun h => hd ((tmod_zero n 10).1 h)
        have HE := Lib.hid (HF.out (.inr hd))
        clear HF
        by_cases hf : fitsL P = true
        · have hf2 : n.natAbs ≤ 999999999999999 ∧ j ≤ 6 := by rw [HE.out] at hf; simpa [fitsL] using hf
          have HV := Lib.hid (show decP P = .tuple #[.agg #[.int .i64 n, .int .i64 (j : Int)], .bool true] by unfold decP; rw [if_pos hf, HE.out])
          have hn3 : -1000000000000000 < n := by omega
          have hn4 : n < 1000000000000000 := by omega
          have hj3 : (j : Int) ≤ 6 := by omega
          clear hf hf2 hn1 hn2 hn
          go_wp2_with fail
          exact bodyPost_ret (v := .tuple #[.agg #[.int .i64 n, .int .i64 (j : Int)], .bool true]) (by simp [results, Tryd.results24, go_sem]) rfl ⟨by rw [HV.out], (Below.refl _ _).alloc (Nat.le_refl _) _⟩
        · have hf2 : ¬ (n.natAbs ≤ 999999999999999 ∧ j ≤ 6) := by rw [HE.out] at hf; simpa [fitsL] using hf
          have HV := Lib.hid (show decP P = .tuple #[.agg #[.int .i64 0, .int .i64 0], .bool false] by unfold decP; rw [if_neg hf])
          by_cases hj3 : (6 : Int) < j
          · clear hf hf2
            go_wp2_with fail
            exact bodyPost_ret (v := .tuple #[.agg #[.int .i64 0, .int .i64 0], .bool false]) (by simp [results, Tryd.results24, go_sem]) rfl ⟨by rw [HV.out], (Below.refl _ _).alloc (Nat.le_refl _) _⟩
          · have hn3 : 1000000000000000 ≤ n ∨ n ≤ -1000000000000000 := by omega
            clear hf hf2
            rcases hn3 with hn3 | hn3
            all_goals
              go_wp2_with fail
              exact bodyPost_ret (v := .tuple #[.agg #[.int .i64 0, .int .i64 0], .bool false]) (by simp [results, Tryd.results24, go_sem]) rfl ⟨by rw [HV.out], (Below.refl _ _).alloc (Nat.le_refl _) _⟩

/-- digits behind others, or none. -/
def digR (n : Nat) : List UInt8 → Option Nat
  | [] => some n
  | c :: r => if digC c then (if 1000000000000000 ≤ 10 * n + (c.toNat - 48) then none else digR (10 * n + (c.toNat - 48)) r) else none
def digV (n : Nat) (l : List UInt8) : Value := match digR n l with
  | none => .tuple #[.int .i64 0, .bool false]
  | some v => .tuple #[.int .i64 (v : Int), .bool (!l.isEmpty)]

theorem drop_cons (s : ByteArray) (j : Nat) (h : j < s.size) : s.data.toList.drop j = s[j] :: s.data.toList.drop (j + 1) := by
  have e : s[j] = s.data.toList[j]'(by simpa using h) := rfl
  rw [e]
  exact List.drop_eq_getElem_cons (by simpa using h)

def Under15 (n : Nat) : Prop := n < 1000000000000000
end Go.Proofs.YtodhklapikfpoaaDoor
