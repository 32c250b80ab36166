/- triadref13: norm, digits, only. -/
import Derived.Test.YtdlfoinpjbcodaaDoorEh
import Derived.Test.YtdlfoinpjbcodaaDoorEf
namespace Go.Proofs.YtdlfoinpjbcodaaDoor
open Go.RowKit Go.Shelf Flo
set_option maxRecDepth 100000
set_option linter.unusedVariables false
set_option linter.unusedSimpArgs false

theorem tdiv10 {n : Int} (h : n % 10 = 0) : n.tdiv 10 = n / 10 := by
  obtain ⟨q, rfl⟩ := Int.dvd_of_emod_eq_zero h
  rw [Int.mul_tdiv_cancel_left _ (by decide), Int.mul_ediv_cancel_left _ (by decide)]

theorem norm_any (w : World) (m : Int) (k : Nat) (hm : m.natAbs ≤ 4000000000000000000) (hk : k ≤ 100000) :
    Calls Tryd.prog 44 #[.int .i64 m, .int .i64 (k : Int)] w fun e w' => e = .returned (decP (nrm m k)) ∧ Below w.heap.size w w' := by
  obtain ⟨P, hP⟩ : ∃ P, P = nrm m k := ⟨_, rfl⟩
  rw [← hP]
  have HP := Lib.hid hP
  clear hP
  go_enter Tryd.func44, Tryd.ntmps44
  go_wp2_with fail
  go_loop [0, 1] (fun a b => ∃ (n : Int) (j : Nat), a = .int .i64 n ∧ b = .int .i64 (j : Int) ∧ n.natAbs ≤ 4000000000000000000 ∧ j ≤ 100000 ∧ P = nrm n j) (fun _ b => (intOf b).toNat)
  case atStart => exact ⟨m, k, rfl, rfl, hm, hk, HP.out⟩
  case round =>
    obtain ⟨n, j, rfl, rfl, hn, hj, hN⟩ := hrel
    have HN := Lib.hid hN
    clear hN
    have hn1 : -4000000000000000000 ≤ n := by omega
    have hn2 : n ≤ 4000000000000000000 := by omega
    have finish : (j = 0 ∨ ¬ n % 10 = 0) → P = (n, j) := by
      intro h
      rw [HN.out]
      rcases h with h | h
      · rw [h]; rfl
      · exact nrm_stay _ _ h
    have HF := Lib.hid finish
    clear finish
    rcases Nat.eq_zero_or_pos j with h0 | h0
    · subst h0
      have HE := Lib.hid (HF.out (.inl rfl))
      clear HF
      by_cases hf : fitsL P = true
      · have hf2 : n.natAbs ≤ 999999999999999 := by rw [HE.out] at hf; simpa [fitsL] using hf
        have HV := Lib.hid (show decP P = .tuple #[.agg #[.int .i64 n, .int .i64 0], .bool true] by unfold decP; rw [if_pos hf, HE.out]; rfl)
        have hn3 : -1000000000000000 < n := by omega
        have hn4 : n < 1000000000000000 := by omega
        clear hf hf2 hn1 hn2 hn
        go_wp2_with fail
        exact bodyPost_ret (v := .tuple #[.agg #[.int .i64 n, .int .i64 0], .bool true]) (by simp [results, Tryd.results44, go_sem]) rfl ⟨by rw [HV.out], (Below.refl _ _).alloc (Nat.le_refl _) _⟩
      · have hf2 : ¬ n.natAbs ≤ 999999999999999 := by rw [HE.out] at hf; simpa [fitsL] using hf
        have HV := Lib.hid (show decP P = .tuple #[.agg #[.int .i64 0, .int .i64 0], .bool false] by unfold decP; rw [if_neg hf])
        have hn3 : 1000000000000000 ≤ n ∨ n ≤ -1000000000000000 := by omega
        clear hf hf2
        rcases hn3 with hn3 | hn3
        all_goals
          go_wp2_with fail
          exact bodyPost_ret (v := .tuple #[.agg #[.int .i64 0, .int .i64 0], .bool false]) (by simp [results, Tryd.results44, go_sem]) rfl ⟨by rw [HV.out], (Below.refl _ _).alloc (Nat.le_refl _) _⟩
    · have hj0 : (0 : Int) < j := by omega
      by_cases hd : n % 10 = 0
      · have ht : n.tmod 10 = 0 := (tmod_zero n 10).2 hd
        have hq := tdiv10 hd
        have HG := Lib.hid (HN.out.trans (nrm_go j h0 hd))
        have HD := Lib.hid hd
        clear hd HF
        go_wp2_with fail
        go_round
        case rel => exact ⟨n / 10, j - 1, by first | rfl | rw [hq], by congr 1; omega, by omega, by omega, HG.out⟩
        case measure => simp [intOf]; omega
      · have ht : ¬ n.tmod 10 = 0 := fun h => hd ((tmod_zero n 10).1 h)
        have HE := Lib.hid (HF.out (.inr hd))
        clear HF
        by_cases hf : fitsL P = true
        · have hf2 : n.natAbs ≤ 999999999999999 ∧ j ≤ 6 := by rw [HE.out] at hf; simpa [fitsL] using hf
          have HV := Lib.hid (show decP P = .tuple #[.agg #[.int .i64 n, .int .i64 (j : Int)], .bool true] by unfold decP; rw [if_pos hf, HE.out])
          have hn3 : -1000000000000000 < n := by omega
          have hn4 : n < 1000000000000000 := by omega
          have hj3 : (j : Int) ≤ 6 := by omega
          clear hf hf2 hn1 hn2 hn
          go_wp2_with fail
          exact bodyPost_ret (v := .tuple #[.agg #[.int .i64 n, .int .i64 (j : Int)], .bool true]) (by simp [results, Tryd.results44, go_sem]) rfl ⟨by rw [HV.out], (Below.refl _ _).alloc (Nat.le_refl _) _⟩
        · have hf2 : ¬ (n.natAbs ≤ 999999999999999 ∧ j ≤ 6) := by rw [HE.out] at hf; simpa [fitsL] using hf
          have HV := Lib.hid (show decP P = .tuple #[.agg #[.int .i64 0, .int .i64 0], .bool false] by unfold decP; rw [if_neg hf])
          by_cases hj3 : (6 : Int) < j
          · clear hf hf2
            go_wp2_with fail
            exact bodyPost_ret (v := .tuple #[.agg #[.int .i64 0, .int .i64 0], .bool false]) (by simp [results, Tryd.results44, go_sem]) rfl ⟨by rw [HV.out], (Below.refl _ _).alloc (Nat.le_refl _) _⟩
          · have hn3 : 1000000000000000 ≤ n ∨ n ≤ -1000000000000000 := by omega
            clear hf hf2
            rcases hn3 with hn3 | hn3
            all_goals
              go_wp2_with fail
              exact bodyPost_ret (v := .tuple #[.agg #[.int .i64 0, .int .i64 0], .bool false]) (by simp [results, Tryd.results44, go_sem]) rfl ⟨by rw [HV.out], (Below.refl _ _).alloc (Nat.le_refl _) _⟩

/-- digits behind others, or none. -/
def digR (n : Nat) : List UInt8 → Option Nat
  | [] => some n
  | c :: r => if digC c then (if 1000000000000000 ≤ 10 * n + (c.toNat - 48) then none else digR (10 * n + (c.toNat - 48)) r) else none
def digV (n : Nat) (l : List UInt8) : Value := match digR n l with
  | none => .tuple #[.int .i64 0, .bool false]
  | some v => .tuple #[.int .i64 (v : Int), .bool (!l.isEmpty)]

theorem drop_cons (s : ByteArray) (j : Nat) (h : j < s.size) : s.data.toList.drop j = s[j] :: s.data.toList.drop (j + 1) := by
  have e : s[j] = s.data.toList[j]'(by simpa using h) := rfl
  rw [e]
  exact List.drop_eq_getElem_cons (by simpa using h)

def Under15 (n : Nat) : Prop := n < 1000000000000000
theorem digits_any (w : World) (n : Nat) (s : ByteArray) (hn : n < 1000000000000000) (hs : s.size ≤ 100000) :
    Calls Tryd.prog 42 #[.int .i64 (n : Int), .string s] w fun e w' => e = .returned (digV n s.data.toList) ∧ w = w' := by
  obtain ⟨V, hV⟩ : ∃ V, V = digV n s.data.toList := ⟨_, rfl⟩
  rw [← hV]
  have HV := Lib.hid hV
  clear hV
  go_enter Tryd.func42, Tryd.ntmps42
  go_wp2_with fail
  go_loop [0, 6] (fun a i => ∃ (m j : Nat), a = .int .i64 (m : Int) ∧ i = .int .i64 (j : Int) ∧ Under15 m ∧ j ≤ s.size ∧ digR n s.data.toList = digR m (s.data.toList.drop j)) (fun _ i => s.size - (intOf i).toNat)
  case atStart => exact ⟨n, 0, rfl, rfl, hn, Nat.zero_le _, rfl⟩
  case round =>
    obtain ⟨m, j, rfl, rfl, hmu, hj, hD⟩ := hrel
    have HMU := Lib.hid hmu
    clear hmu
    have hm : m < 1000000000000000 := HMU.out
    have HD := Lib.hid hD
    clear hD
    by_cases hlt : j < s.size
    · have hdc := drop_cons s j hlt
      by_cases hg : digC s[j] = true
      · have hg2 := (digC_iff _).1 hg
        have g1 : ¬ (s[j].toNat : Int) < 48 := by omega
        have g2 : ¬ 57 < (s[j].toNat : Int) := by omega
        by_cases hb : 1000000000000000 ≤ 10 * m + (s[j].toNat - 48)
        · have HN := Lib.hid (show V = .tuple #[.int .i64 0, .bool false] by
            rw [HV.out]; unfold digV; rw [HD.out, hdc]; unfold digR; rw [if_pos hg, if_pos hb])
          have hb2 : 1000000000000000 ≤ 10 * (m : Int) + ((s[j].toNat : Int) - 48) := by omega
          have hm2 : (m : Int) < 1000000000000000 := by omega
          have hg3 : (48 : Int) ≤ s[j].toNat := by omega
          have hg4 : (s[j].toNat : Int) ≤ 57 := by omega
          clear hb hdc hg hg2
          go_wp2_with fail
          rw [HN.out]
          go_ret2
          exact ⟨rfl, rfl⟩
        · have HN := Lib.hid (show digR n s.data.toList = digR (10 * m + (s[j].toNat - 48)) (s.data.toList.drop (j + 1)) by
            rw [HD.out, hdc]; conv => lhs; unfold digR
            rw [if_pos hg, if_neg hb])
          have hb2 : ¬ 1000000000000000 ≤ 10 * (m : Int) + ((s[j].toNat : Int) - 48) := by omega
          have hm2 : (m : Int) < 1000000000000000 := by omega
          have hg3 : (48 : Int) ≤ s[j].toNat := by omega
          have hg4 : (s[j].toNat : Int) ≤ 57 := by omega
          have HB := Lib.hid (show Under15 (10 * m + (s[j].toNat - 48)) ∧ 48 ≤ s[j].toNat by unfold Under15; omega)
          clear hb hdc hg hg2 hm
          go_wp2_with fail
          refine ⟨⟨10 * m + (s[j].toNat - 48), j + 1, by have := HB.out.2; congr 1; omega, by go_num, HB.out.1, hlt, HN.out⟩, by simp [intOf]; omega⟩
      · have HN := Lib.hid (show V = .tuple #[.int .i64 0, .bool false] by
          rw [HV.out]; unfold digV; rw [HD.out, hdc]; unfold digR; rw [if_neg hg])
        have hg2 : ¬ (48 ≤ s[j].toNat ∧ s[j].toNat ≤ 57) := fun h => hg ((digC_iff _).2 h)
        have hg3 : (s[j].toNat : Int) < 48 ∨ (¬ (s[j].toNat : Int) < 48 ∧ 57 < (s[j].toNat : Int)) := by omega
        clear hdc hg hg2
        rcases hg3 with h1 | ⟨h1, h2⟩
        all_goals
          go_wp2_with fail
          rw [HN.out]
          go_ret2
          exact ⟨rfl, rfl⟩
    · have HN := Lib.hid (show V = .tuple #[.int .i64 (m : Int), .bool (!s.data.toList.isEmpty)] by
        rw [HV.out]; unfold digV; rw [HD.out, List.drop_eq_nil_of_le (by simp; omega)]; rfl)
      by_cases he : s.data.toList = []
      · have s1 : s.toList = [] := by rw [Lib.toList_data]; exact he
        have s2 : s.toList.isEmpty = true := by rw [s1]; rfl
        have HE := Lib.hid (show s.data.toList.isEmpty = true by rw [he]; rfl)
        clear he
        go_wp2_with fail
        rw [HN.out, HE.out]
        go_ret2
        exact ⟨rfl, rfl⟩
      · have s1 : ¬ s.toList = [] := by rw [Lib.toList_data]; exact he
        have s2 : s.toList.isEmpty = false := by rw [Lib.toList_data]; simpa using he
        have HE := Lib.hid (show s.data.toList.isEmpty = false by simpa using he)
        clear he
        go_wp2_with fail
        rw [HN.out, HE.out]
        go_ret2
        exact ⟨rfl, rfl⟩

theorem only_any (w : World) (s : ByteArray) (hs : s.size ≤ 100000) :
    Calls Tryd.prog 43 #[.string s] w fun e w' => e = .returned (.bool (s.data.toList.all digC)) ∧ w = w' := by
  obtain ⟨V, hV⟩ : ∃ V, V = s.data.toList.all digC := ⟨_, rfl⟩
  rw [← hV]
  have HV := Lib.hid hV
  clear hV
  go_enter Tryd.func43, Tryd.ntmps43
  go_wp2_with fail
  go_loop [3] (fun i => ∃ (j : Nat), i = .int .i64 (j : Int) ∧ j ≤ s.size ∧ V = (s.data.toList.drop j).all digC) (fun i => s.size - (intOf i).toNat)
  case atStart => exact ⟨0, rfl, Nat.zero_le _, HV.out⟩
  case round =>
    obtain ⟨j, rfl, hj, hD⟩ := hrel
    have HD := Lib.hid hD
    clear hD
    by_cases hlt : j < s.size
    · have hdc := drop_cons s j hlt
      by_cases hg : digC s[j] = true
      · have hg2 := (digC_iff _).1 hg
        have g1 : ¬ (s[j].toNat : Int) < 48 := by omega
        have g2 : ¬ 57 < (s[j].toNat : Int) := by omega
        have HN := Lib.hid (show V = (s.data.toList.drop (j + 1)).all digC by rw [HD.out, hdc, List.all_cons, hg]; rfl)
        clear hdc hg hg2
        go_wp2_with fail
        refine ⟨⟨j + 1, by go_num, hlt, HN.out⟩, by simp [intOf]; omega⟩
      · have HN := Lib.hid (show V = false by rw [HD.out, hdc, List.all_cons]; simp [hg])
        have hg2 : ¬ (48 ≤ s[j].toNat ∧ s[j].toNat ≤ 57) := fun h => hg ((digC_iff _).2 h)
        have hg3 : (s[j].toNat : Int) < 48 ∨ (¬ (s[j].toNat : Int) < 48 ∧ 57 < (s[j].toNat : Int)) := by omega
        clear hdc hg hg2
        rcases hg3 with h1 | ⟨h1, h2⟩
        all_goals
          go_wp2_with fail
          rw [HN.out]
          go_ret
          exact ⟨rfl, rfl⟩
    · have HN := Lib.hid (show V = true by rw [HD.out, List.drop_eq_nil_of_le (by simp; omega)]; rfl)
      go_wp2_with fail
      rw [HN.out]
      go_ret
      exact ⟨rfl, rfl⟩
end Go.Proofs.YtdlfoinpjbcodaaDoor
