/- triadref13: norm, digits, only. -/
import Derived.Test.YtecomfhbdonkbaaGreatDoorEh
import Derived.Test.YtecomfhbdonkbaaGreatDoorEf
import Derived.Deep.CutBlock
import Derived.Deep.DeepCutAuto
import Derived.ChangeMaps5
import Derived.OpenShut
namespace Go.Proofs.YtecomfhbdonkbaaGreatDoor
open Go.RowKit Go.Shelf Flo
set_option maxRecDepth 100000
set_option linter.unusedVariables false
set_option linter.unusedSimpArgs false

theorem tdiv10 {n : Int} (h : n % 10 = 0) : n.tdiv 10 = n / 10 := by
  obtain ⟨q, rfl⟩ := Int.dvd_of_emod_eq_zero h
  rw [Int.mul_tdiv_cancel_left _ (by decide), Int.mul_ediv_cancel_left _ (by decide)]

theorem norm_any (w : World) (m : Int) (k : Nat) (hm : m.natAbs ≤ 4000000000000000000) (hk : k ≤ 100000) :
    Calls Tryz.prog 36 #[.int .i64 m, .int .i64 (k : Int)] w fun e w' => e = .returned (decP (nrm m k)) ∧ Below w.heap.size w w' := by
  obtain ⟨P, hP⟩ : ∃ P, P = nrm m k := ⟨_, rfl⟩
  rw [← hP]
  have HP := Lib.hid hP
  clear hP
  go_enter Tryz.func36, Tryz.ntmps36
  go_wp2_with fail
  go_loop [0, 1] (fun a b => ∃ (n : Int) (j : Nat), a = .int .i64 n ∧ b = .int .i64 (j : Int) ∧ n.natAbs ≤ 4000000000000000000 ∧ j ≤ 100000 ∧ P = nrm n j) (fun _ b => (intOf b).toNat)
  case atStart => exact ⟨m, k, rfl, rfl, hm, hk, HP.out⟩
  case round =>
    obtain ⟨n, j, rfl, rfl, hn, hj, hN⟩ := hrel
    have HN := Lib.hid hN
    clear hN
    have hn1 : -4000000000000000000 ≤ n := by omega
    have hn2 : n ≤ 4000000000000000000 := by omega
    have finish : (j = 0 ∨ ¬ n % 10 = 0) → P = (n, j) := by
      intro h
      rw [HN.out]
      rcases h with h | h
      · rw [h]; rfl
      · exact nrm_stay _ _ h
    have HF := Lib.hid finish
    clear finish
    rcases Nat.eq_zero_or_pos j with h0 | h0
    · subst h0
      have HE := Lib.hid (HF.out (.inl rfl))
      clear HF
      by_cases hf : fitsL P = true
      · have hf2 : n.natAbs ≤ 999999999999999 := by rw [HE.out] at hf; simpa [fitsL] using hf
        have HV := Lib.hid (show decP P = .tuple #[.agg #[.int .i64 n, .int .i64 0], .bool true] by unfold decP; rw [if_pos hf, HE.out]; rfl)
        have hn3 : -1000000000000000 < n := by omega
        have hn4 : n < 1000000000000000 := by omega
        clear hf hf2 hn1 hn2 hn
        go_wp2_with fail
        exact bodyPost_ret (v := .tuple #[.agg #[.int .i64 n, .int .i64 0], .bool true]) (by simp [results, Tryz.results36, go_sem]) rfl ⟨by rw [HV.out], (Below.refl _ _).alloc (Nat.le_refl _) _⟩
      · have hf2 : ¬ n.natAbs ≤ 999999999999999 := by rw [HE.out] at hf; simpa [fitsL] using hf
        have HV := Lib.hid (show decP P = .tuple #[.agg #[.int .i64 0, .int .i64 0], .bool false] by unfold decP; rw [if_neg hf])
        have hn3 : 1000000000000000 ≤ n ∨ n ≤ -1000000000000000 := by omega
        clear hf hf2
        rcases hn3 with hn3 | hn3
        all_goals
          go_wp2_with fail
          exact bodyPost_ret (v := .tuple #[.agg #[.int .i64 0, .int .i64 0], .bool false]) (by simp [results, Tryz.results36, go_sem]) rfl ⟨by rw [HV.out], (Below.refl _ _).alloc (Nat.le_refl _) _⟩
    · have hj0 : (0 : Int) < j := by omega
      by_cases hd : n % 10 = 0
      · have ht : n.tmod 10 = 0 := (tmod_zero n 10).2 hd
        have hq := tdiv10 hd
        have HG := Lib.hid (HN.out.trans (nrm_go j h0 hd))
        have HD := Lib.hid hd
        clear hd HF
        go_wp2_with fail
        go_round
        case rel => exact ⟨n / 10, j - 1, by first | rfl | rw [hq], by congr 1; omega, by omega, by omega, HG.out⟩
        case measure => simp [intOf]; omega
      · have ht : ¬ n.tmod 10 = 0 := fun h => hd ((tmod_zero n 10).1 h)
        have HE := Lib.hid (HF.out (.inr hd))
        clear HF
        by_cases hf : fitsL P = true
        · have hf2 : n.natAbs ≤ 999999999999999 ∧ j ≤ 6 := by rw [HE.out] at hf; simpa [fitsL] using hf
          have HV := Lib.hid (show decP P = .tuple #[.agg #[.int .i64 n, .int .i64 (j : Int)], .bool true] by unfold decP; rw [if_pos hf, HE.out])
          have hn3 : -1000000000000000 < n := by omega
          have hn4 : n < 1000000000000000 := by omega
          have hj3 : (j : Int) ≤ 6 := by omega
          clear hf hf2 hn1 hn2 hn
          go_wp2_with fail
          exact bodyPost_ret (v := .tuple #[.agg #[.int .i64 n, .int .i64 (j : Int)], .bool true]) (by simp [results, Tryz.results36, go_sem]) rfl ⟨by rw [HV.out], (Below.refl _ _).alloc (Nat.le_refl _) _⟩
        · have hf2 : ¬ (n.natAbs ≤ 999999999999999 ∧ j ≤ 6) := by rw [HE.out] at hf; simpa [fitsL] using hf
          have HV := Lib.hid (show decP P = .tuple #[.agg #[.int .i64 0, .int .i64 0], .bool false] by unfold decP; rw [if_neg hf])
          by_cases hj3 : (6 : Int) < j
          · clear hf hf2
            go_wp2_with fail
            exact bodyPost_ret (v := .tuple #[.agg #[.int .i64 0, .int .i64 0], .bool false]) (by simp [results, Tryz.results36, go_sem]) rfl ⟨by rw [HV.out], (Below.refl _ _).alloc (Nat.le_refl _) _⟩
          · have hn3 : 1000000000000000 ≤ n ∨ n ≤ -1000000000000000 := by omega
            clear hf hf2
            rcases hn3 with hn3 | hn3
            all_goals
              go_wp2_with fail
              exact bodyPost_ret (v := .tuple #[.agg #[.int .i64 0, .int .i64 0], .bool false]) (by simp [results, Tryz.results36, go_sem]) rfl ⟨by rw [HV.out], (Below.refl _ _).alloc (Nat.le_refl _) _⟩

/-- digits behind others, or none. -/
def digR (n : Nat) : List UInt8 → Option Nat
  | [] => some n
  | c :: r => if digC c then (if 1000000000000000 ≤ 10 * n + (c.toNat - 48) then none else digR (10 * n + (c.toNat - 48)) r) else none
def digV (n : Nat) (l : List UInt8) : Value := match digR n l with
  | none => .tuple #[.int .i64 0, .bool false]
  | some v => .tuple #[.int .i64 (v : Int), .bool (!l.isEmpty)]

theorem drop_cons (s : ByteArray) (j : Nat) (h : j < s.size) : s.data.toList.drop j = s[j] :: s.data.toList.drop (j + 1) := by
  have e : s[j] = s.data.toList[j]'(by simpa using h) := rfl
  rw [e]
  exact List.drop_eq_getElem_cons (by simpa using h)

def Under15 (n : Nat) : Prop := n < 1000000000000000
theorem digits_any (w : World) (n : Nat) (s : ByteArray) (hn : n < 1000000000000000) (hs : s.size ≤ 100000) :
    Calls Tryz.prog 57 #[.int .i64 (n : Int), .string s] w fun e w' => e = .returned (digV n s.data.toList) ∧ w = w' := by
  obtain ⟨V, hV⟩ : ∃ V, V = digV n s.data.toList := ⟨_, rfl⟩
  rw [← hV]
  have HV := Lib.hid hV
  clear hV
  go_enter Tryz.func57, Tryz.ntmps57
  go_wp2_with fail
  go_loop [0, 6] (fun a i => ∃ (m j : Nat), a = .int .i64 (m : Int) ∧ i = .int .i64 (j : Int) ∧ Under15 m ∧ j ≤ s.size ∧ digR n s.data.toList = digR m (s.data.toList.drop j)) (fun _ i => s.size - (intOf i).toNat)
  case atStart => exact ⟨n, 0, rfl, rfl, hn, Nat.zero_le _, rfl⟩
  case round =>
    obtain ⟨m, j, rfl, rfl, hmu, hj, hD⟩ := hrel
    have HMU := Lib.hid hmu
    clear hmu
    have hm : m < 1000000000000000 := HMU.out
    have HD := Lib.hid hD
    clear hD
    by_cases hlt : j < s.size
    · have hdc := drop_cons s j hlt
      by_cases hg : digC s[j] = true
      · have hg2 := (digC_iff _).1 hg
        have g1 : ¬ (s[j].toNat : Int) < 48 := by omega
        have g2 : ¬ 57 < (s[j].toNat : Int) := by omega
        by_cases hb : 1000000000000000 ≤ 10 * m + (s[j].toNat - 48)
        · have HN := Lib.hid (show V = .tuple #[.int .i64 0, .bool false] by
            rw [HV.out]; unfold digV; rw [HD.out, hdc]; unfold digR; rw [if_pos hg, if_pos hb])
          have hb2 : 1000000000000000 ≤ 10 * (m : Int) + ((s[j].toNat : Int) - 48) := by omega
          have hm2 : (m : Int) < 1000000000000000 := by omega
          have hg3 : (48 : Int) ≤ s[j].toNat := by omega
          have hg4 : (s[j].toNat : Int) ≤ 57 := by omega
          clear hb hdc hg hg2
          go_wp2_with fail
          rw [HN.out]
          go_ret2
          exact ⟨rfl, rfl⟩
        · have HN := Lib.hid (show digR n s.data.toList = digR (10 * m + (s[j].toNat - 48)) (s.data.toList.drop (j + 1)) by
            rw [HD.out, hdc]; conv => lhs; unfold digR
            rw [if_pos hg, if_neg hb])
          have hb2 : ¬ 1000000000000000 ≤ 10 * (m : Int) + ((s[j].toNat : Int) - 48) := by omega
          have hm2 : (m : Int) < 1000000000000000 := by omega
          have hg3 : (48 : Int) ≤ s[j].toNat := by omega
          have hg4 : (s[j].toNat : Int) ≤ 57 := by omega
          have HB := Lib.hid (show Under15 (10 * m + (s[j].toNat - 48)) ∧ 48 ≤ s[j].toNat by unfold Under15; omega)
          clear hb hdc hg hg2 hm
          go_wp2_with fail
          refine ⟨⟨10 * m + (s[j].toNat - 48), j + 1, by have := HB.out.2; congr 1; omega, by go_num, HB.out.1, hlt, HN.out⟩, by simp [intOf]; omega⟩
      · have HN := Lib.hid (show V = .tuple #[.int .i64 0, .bool false] by
          rw [HV.out]; unfold digV; rw [HD.out, hdc]; unfold digR; rw [if_neg hg])
        have hg2 : ¬ (48 ≤ s[j].toNat ∧ s[j].toNat ≤ 57) := fun h => hg ((digC_iff _).2 h)
        have hg3 : (s[j].toNat : Int) < 48 ∨ (¬ (s[j].toNat : Int) < 48 ∧ 57 < (s[j].toNat : Int)) := by omega
        clear hdc hg hg2
        rcases hg3 with h1 | ⟨h1, h2⟩
        all_goals
          go_wp2_with fail
          rw [HN.out]
          go_ret2
          exact ⟨rfl, rfl⟩
    · have HN := Lib.hid (show V = .tuple #[.int .i64 (m : Int), .bool (!s.data.toList.isEmpty)] by
        rw [HV.out]; unfold digV; rw [HD.out, List.drop_eq_nil_of_le (by simp; omega)]; rfl)
      by_cases he : s.data.toList = []
      · have s1 : s.toList = [] := by rw [Lib.toList_data]; exact he
        have s2 : s.toList.isEmpty = true := by rw [s1]; rfl
        have HE := Lib.hid (show s.data.toList.isEmpty = true by rw [he]; rfl)
        clear he
        go_wp2_with fail
        rw [HN.out, HE.out]
        go_ret2
        exact ⟨rfl, rfl⟩
      · have s1 : ¬ s.toList = [] := by rw [Lib.toList_data]; exact he
        have s2 : s.toList.isEmpty = false := by rw [Lib.toList_data]; simpa using he
        have HE := Lib.hid (show s.data.toList.isEmpty = false by simpa using he)
        clear he
        go_wp2_with fail
        rw [HN.out, HE.out]
        go_ret2
        exact ⟨rfl, rfl⟩

theorem only_any (w : World) (s : ByteArray) (hs : s.size ≤ 100000) :
    Calls Tryz.prog 58 #[.string s] w fun e w' => e = .returned (.bool (s.data.toList.all digC)) ∧ w = w' := by
  obtain ⟨V, hV⟩ : ∃ V, V = s.data.toList.all digC := ⟨_, rfl⟩
  rw [← hV]
  have HV := Lib.hid hV
  clear hV
  go_enter Tryz.func58, Tryz.ntmps58
  go_wp2_with fail
  go_loop [3] (fun i => ∃ (j : Nat), i = .int .i64 (j : Int) ∧ j ≤ s.size ∧ V = (s.data.toList.drop j).all digC) (fun i => s.size - (intOf i).toNat)
  case atStart => exact ⟨0, rfl, Nat.zero_le _, HV.out⟩
  case round =>
    obtain ⟨j, rfl, hj, hD⟩ := hrel
    have HD := Lib.hid hD
    clear hD
    by_cases hlt : j < s.size
    · have hdc := drop_cons s j hlt
      by_cases hg : digC s[j] = true
      · have hg2 := (digC_iff _).1 hg
        have g1 : ¬ (s[j].toNat : Int) < 48 := by omega
        have g2 : ¬ 57 < (s[j].toNat : Int) := by omega
        have HN := Lib.hid (show V = (s.data.toList.drop (j + 1)).all digC by rw [HD.out, hdc, List.all_cons, hg]; rfl)
        clear hdc hg hg2
        go_wp2_with fail
        refine ⟨⟨j + 1, by go_num, hlt, HN.out⟩, by simp [intOf]; omega⟩
      · have HN := Lib.hid (show V = false by rw [HD.out, hdc, List.all_cons]; simp [hg])
        have hg2 : ¬ (48 ≤ s[j].toNat ∧ s[j].toNat ≤ 57) := fun h => hg ((digC_iff _).2 h)
        have hg3 : (s[j].toNat : Int) < 48 ∨ (¬ (s[j].toNat : Int) < 48 ∧ 57 < (s[j].toNat : Int)) := by omega
        clear hdc hg hg2
        rcases hg3 with h1 | ⟨h1, h2⟩
        all_goals
          go_wp2_with fail
          rw [HN.out]
          go_ret
          exact ⟨rfl, rfl⟩
    · have HN := Lib.hid (show V = true by rw [HD.out, List.drop_eq_nil_of_le (by simp; omega)]; rfl)
      go_wp2_with fail
      rw [HN.out]
      go_ret
      exact ⟨rfl, rfl⟩
end Go.Proofs.YtecomfhbdonkbaaGreatDoor
/- triadref13: Parse. -/
namespace Go.Proofs.YtecomfhbdonkbaaGreatDoor
open Go.RowKit Go.Shelf Flo
set_option maxRecDepth 100000
set_option linter.unusedVariables false
set_option linter.unusedSimpArgs false

def signR (l : List UInt8) : Bool × List UInt8 := match l with
  | [] => (false, [])
  | c :: r => if c = 43 ∨ c = 45 then (decide (c = 45), r) else (false, c :: r)
theorem sign_same (l : List UInt8) : signR l = signD l := by
  unfold signR signD Lib.trimPrefix Lib.hasPrefix
  cases l with
  | nil => simp
  | cons c r =>
    by_cases h1 : c = 45
    · subst h1; simp
    · by_cases h2 : c = 43
      · subst h2; simp
      · have h1' : ¬ (45 : UInt8) = c := Ne.symm h1
        have h2' : ¬ (43 : UInt8) = c := Ne.symm h2
        simp [h1, h2, h1', h2']
def dotN (c : UInt8) : Bool := c != 46
/-- the digits ahead of the point, and those behind it, of which noughts at the end are gone. -/
def tailR (whole part : List UInt8) : Option (Nat × Nat) :=
  match digR 0 whole with
  | none => none
  | some v => if whole = [] then none else
    if 6 < part.length ∧ part.all digC = true then none else
    if part = [] then some (v, 0) else
    match digR v part with
    | none => none
    | some u => some (u, part.length)
/-- the digits, and how many of them stand behind the point, as triadref13 reads them. -/
def bodyR (r : List UInt8) : Option (Nat × Nat) :=
  match r.dropWhile dotN with
  | [] => tailR (r.takeWhile dotN) []
  | _ :: q => if q = [] then none else tailR (r.takeWhile dotN) (Lib.trimRightB q 48)
def ansR (b : Bool) : Option (Nat × Nat) → Value
  | none => overV
  | some p => decP (nrm (if b then -(p.1 : Int) else (p.1 : Int)) p.2)

theorem ansR_cases {V : Value} {b : Bool} {o : Option (Nat × Nat)} (h : V = ansR b o) : ∃ (m s : Int) (q : Bool), V = .tuple #[.agg #[.int .i64 m, .int .i64 s], .bool q] := by
  subst h
  cases o with
  | none => exact ⟨_, _, _, rfl⟩
  | some p => exact decP_cases _
theorem digR_lt : ∀ {l : List UInt8} {n v : Nat}, n < 1000000000000000 → digR n l = some v → v < 1000000000000000
  | [], n, v, hn, h => by cases h; exact hn
  | c :: r, n, v, hn, h => by
    unfold digR at h
    split at h
    · split at h
      · cases h
      · exact digR_lt (by omega) h
    · cases h
theorem digR_bad : ∀ {l : List UInt8} {n : Nat}, l.all digC = false → digR n l = none
  | [], n, h => by cases h
  | c :: r, n, h => by
    unfold digR
    split
    · rename_i hc
      split
      · rfl
      · exact digR_bad (by rw [List.all_cons, hc] at h; simpa using h)
    · rfl
theorem digits0_any (w : World) (s : ByteArray) (hs : s.size ≤ 100000) : Calls Tryz.prog 57 #[.int .i64 0, .string s] w fun e w' => e = .returned (digV 0 s.data.toList) ∧ w = w' := digits_any w 0 s (by decide) hs
theorem wrap_neg {u : Nat} (h : Under15 u) : wrap64 (-(u : Int)) = -(u : Int) := by
  unfold Under15 at h
  unfold wrap64; omega
def strSize (v : Value) : Nat := match v with
  | .string s => s.size
  | _ => 0
theorem trimR_snoc (l : List UInt8) (c : UInt8) : Lib.trimRightB (l ++ [c]) 48 = if c = 48 then Lib.trimRightB l 48 else l ++ [c] := by
  unfold Lib.trimRightB
  rw [List.reverse_append, List.reverse_singleton, List.singleton_append, List.dropWhile_cons]
  by_cases h : c = 48
  · subst h; simp
  · simp [h]
theorem last_split (z : ByteArray) (h : 0 < z.size) : z.data.toList = (z.extract 0 (z.size - 1)).data.toList ++ [z[z.size - 1]] := by
  rw [ba_extract _ _ (by omega)]
  have e : z[z.size - 1] = z.data.toList[z.size - 1]'(by simp; omega) := rfl
  rw [e, ← List.take_succ_eq_append_getElem, List.take_of_length_le (by simp; omega)]
theorem take_stop {p : UInt8 → Bool} {l : List UInt8} {j : Nat} (h : (l.take j).all p = true) (h2 : l.drop j = [] ∨ ∃ c r, l.drop j = c :: r ∧ p c = false) : l.take j = l.takeWhile p := by
  conv => rhs; rw [← List.take_append_drop j l]
  rw [List.takeWhile_append_of_pos (fun x hx => List.all_eq_true.1 h x hx)]
  rcases h2 with h2 | ⟨c, r, h2, hc⟩
  · rw [h2]; simp
  · rw [h2, List.takeWhile_cons, hc]; simp
theorem drop_stop {p : UInt8 → Bool} {l : List UInt8} {j : Nat} (h : (l.take j).all p = true) (h2 : l.drop j = [] ∨ ∃ c r, l.drop j = c :: r ∧ p c = false) : l.dropWhile p = l.drop j := by
  conv => lhs; rw [← List.take_append_drop j l]
  rw [List.dropWhile_append_of_pos (fun x hx => List.all_eq_true.1 h x hx)]
  rcases h2 with h2 | ⟨c, r, h2, hc⟩
  · rw [h2]; simp
  · rw [h2, List.dropWhile_cons, hc]; simp
theorem sign_len (l : List UInt8) : (signR l).2.length ≤ l.length := by
  unfold signR
  cases l with
  | nil => exact Nat.le_refl _
  | cons c r => simp only; split <;> simp

set_option maxHeartbeats 4000000 in
theorem rparse_any (s : ByteArray) (w : World) (hs : s.size ≤ 400) : Calls Tryz.prog 31 #[.string s] w fun e w' => e = .returned (ansR (signR s.data.toList).1 (bodyR (signR s.data.toList).2)) ∧ Below w.heap.size w w' := by
  obtain ⟨V, hV⟩ : ∃ V, V = ansR (signR s.data.toList).1 (bodyR (signR s.data.toList).2) := ⟨_, rfl⟩
  rw [← hV]
  have HV := Lib.hid hV
  clear hV
  have HD0 := Lib.hid (show DecB (w.alloc (.cells #[.int .i64 0, .int .i64 0] 44)) w.heap.size 0 0 from DecB.new w 0 0 _)
  have HB0 := Lib.hid (show Below w.heap.size w (w.alloc (.cells #[.int .i64 0, .int .i64 0] 44)) from (Below.refl _ _).alloc (Nat.le_refl _) _)
  obtain ⟨b0, hb0⟩ : ∃ b0 : Bool, b0 = decide (s.data.toList.head? = some 43 ∨ s.data.toList.head? = some 45) := ⟨_, rfl⟩
  have HB := Lib.hid hb0
  clear hb0
  go_enter Tryz.func31, Tryz.ntmps31
  go_upto_region 2 with fail
  generalize World.alloc w _ = w1 at HD0 HB0 ⊢
  go_cut [22] from 10 to 22 (fun s22 wx => s22 = .bool b0 ∧ wx = w1)
  case first =>
    cases hl : s.data.toList with
    | nil =>
      have hz : s.size = 0 := by rw [Lib.size_eq, hl]; rfl
      have hz2 : ¬ 0 < s.size := by omega
      have e : b0 = false := by rw [HB.out, hl]; rfl
      subst e
      clear hl hz
      go_wp2_with fail
      go_meet
      exact ⟨rfl, rfl⟩
    | cons c r =>
      have hz : 0 < s.size := by rw [Lib.size_eq, hl]; simp
      have hc0 : s[0] = c := by
        have : s[0] = s.data.toList[0]'(by rw [hl]; simp) := rfl
        rw [this]; simp [hl]
      by_cases h43 : c.toNat = 43
      · have t0 : (((s[0]).toNat : Int) == 43) = true := by rw [hc0, h43]; rfl
        have e : b0 = true := by rw [HB.out, hl, show c = 43 from UInt8.toNat_inj.1 h43]; rfl
        subst e
        clear hl h43 hc0
        go_wp2_with fail
        go_meet
        exact ⟨rfl, rfl⟩
      · have t0 : (((s[0]).toNat : Int) == 43) = false := by rw [hc0]; simpa using (show ¬ (c.toNat : Int) = 43 by omega)
        by_cases h45 : c.toNat = 45
        · have t1 : (((s[0]).toNat : Int) == 45) = true := by rw [hc0, h45]; rfl
          have e : b0 = true := by rw [HB.out, hl, show c = 45 from UInt8.toNat_inj.1 h45]; rfl
          subst e
          clear hl h43 h45 hc0
          go_wp2_with fail
          go_meet
          exact ⟨rfl, rfl⟩
        · have t1 : (((s[0]).toNat : Int) == 45) = false := by rw [hc0]; simpa using (show ¬ (c.toNat : Int) = 45 by omega)
          have e : b0 = false := by
            rw [HB.out, hl]
            have g1 : ¬ c = 43 := fun e => h43 (by rw [e]; rfl)
            have g2 : ¬ c = 45 := fun e => h45 (by rw [e]; rfl)
            simp [g1, g2]
          subst e
          clear hl h43 h45 hc0
          go_wp2_with fail
          go_meet
          exact ⟨rfl, rfl⟩
  case rest =>
    obtain ⟨rfl, rfl⟩ := hcut
    obtain ⟨y, b, hyb⟩ : ∃ (y : ByteArray) (b : Bool), y.data.toList = (signR s.data.toList).2 ∧ b = (signR s.data.toList).1 ∧ y.size ≤ s.size ∧ (b0 = false → y = s ∧ b = false) ∧ (b0 = true → y = s.extract 1 s.size ∧ 1 ≤ s.size ∧ ∃ h : 0 < s.size, b = (((s[0]).toNat : Int) == 45)) := by
      cases hl : s.data.toList with
      | nil =>
        have e : b0 = false := by rw [HB.out, hl]; rfl
        exact ⟨s, false, hl, rfl, Nat.le_refl _, fun _ => ⟨rfl, rfl⟩, fun h => by rw [e] at h; cases h⟩
      | cons c r =>
        have hz : 0 < s.size := by rw [Lib.size_eq, hl]; simp
        have hc0 : s[0] = c := by
          have : s[0] = s.data.toList[0]'(by rw [hl]; simp) := rfl
          rw [this]; simp [hl]
        by_cases h : c = 43 ∨ c = 45
        · have e : b0 = true := by rw [HB.out, hl]; rcases h with rfl | rfl <;> rfl
          refine ⟨s.extract 1 s.size, (((s[0]).toNat : Int) == 45), ?_, ?_, ?_, (fun h => by rw [e] at h; cases h), fun _ => ⟨rfl, hz, hz, rfl⟩⟩
          · rw [ba_drop _ _ hz, hl]; unfold signR; simp only [if_pos h]; rfl
          · unfold signR; simp only [if_pos h]; rw [hc0]
            rcases h with rfl | rfl <;> decide
          · rw [Lib.size_eq, ba_drop _ _ hz, Lib.size_eq]; simp
        · have e : b0 = false := by
            rw [HB.out, hl]
            have g : ¬ c = 43 ∧ ¬ c = 45 := ⟨fun x => h (.inl x), fun x => h (.inr x)⟩
            simp [g.1, g.2]
          refine ⟨s, false, ?_, ?_, Nat.le_refl _, fun _ => ⟨rfl, rfl⟩, fun h => by rw [e] at h; cases h⟩
          · rw [hl]; unfold signR; simp only [if_neg h]
          · unfold signR; simp only [if_neg h]
    have HY := Lib.hid hyb
    clear hyb
    go_upto_if 22 with fail
    go_cut [0, 4] from 23 to 27 (fun s0 s4 wx => s0 = .string y ∧ s4 = .bool b ∧ DecB wx w.heap.size 0 0 ∧ Below w.heap.size w wx)
    case first =>
      cases b0
      · have HE := Lib.hid (HY.out.2.2.2.1 rfl)
        go_wp2_with fail
        go_meet
        exact ⟨by rw [HE.out.1], by rw [HE.out.2], HD0.out, HB0.out⟩
      · obtain ⟨hy1, hz, hz0, hb⟩ := HY.out.2.2.2.2 rfl
        have HE := Lib.hid (And.intro hy1 hb)
        clear hy1 hb
        go_wp2_with fail
        go_quiet (fail)
        go_wp2_with fail
        go_meet
        exact ⟨by rw [HE.out.1], by rw [HE.out.2], HD0.out.below (drewN_below _ _), HB0.out.trans ((drewN_below _ _).mono HB0.out.size)⟩
    case rest =>
      obtain ⟨rfl, rfl, hD1, hB1⟩ := hcut
      have HC := Lib.hid (And.intro hD1 hB1)
      have hys : y.size ≤ 400 := by have := HY.out.2.2.1; omega
      clear hD1 hB1
      go_wp2_with fail
      go_loop [5] (fun v => ∃ j : Nat, v = .int .i64 (j : Int) ∧ j ≤ y.size ∧ (y.data.toList.take j).all dotN = true) (fun v => y.size - (intOf v).toNat)
      case atStart => exact ⟨0, rfl, Nat.zero_le _, rfl⟩
      case round =>
        obtain ⟨j, rfl, hj, hD⟩ := hrel
        have HJ := Lib.hid hD
        clear hD
        by_cases hlt : j < y.size
        · have hdc := drop_cons y j hlt
          by_cases h46 : y[j].toNat = 46
          · have t0 : (((y[j]).toNat : Int) != 46) = false := by simp [h46]
            obtain ⟨wh, hwh⟩ : ∃ wh : ByteArray, wh = y.extract 0 j := ⟨_, rfl⟩
            obtain ⟨q, hq⟩ : ∃ q : ByteArray, q = y.extract (j + 1) y.size := ⟨_, rfl⟩
            have hwl : wh.data.toList = y.data.toList.takeWhile dotN := by
              rw [hwh, ba_extract _ _ hj]
              exact take_stop HJ.out (by rw [hdc]; exact .inr ⟨y[j], _, rfl, by simp [dotN, UInt8.toNat_inj.1 (show y[j].toNat = (46 : UInt8).toNat from h46)]⟩)
            have hql : q.data.toList = y.data.toList.drop (j + 1) := by rw [hq, ba_drop _ _ hlt]
            have hdl : y.data.toList.dropWhile dotN = y[j] :: q.data.toList := by
              rw [drop_stop HJ.out (by rw [hdc]; exact .inr ⟨y[j], _, rfl, by simp [dotN, UInt8.toNat_inj.1 (show y[j].toNat = (46 : UInt8).toNat from h46)]⟩), hdc, hql]
            have HWH := Lib.hid (show wh.data.toList = y.data.toList.takeWhile dotN ∧ wh.size ≤ 400 from ⟨hwl, by
              rw [Lib.size_eq, hwl]; have := take_len dotN y.data.toList; rw [← Lib.size_eq] at this; have := HY.out.2.2.1; omega⟩)
            have hqs : q.size ≤ 400 := by
              rw [Lib.size_eq, hql, List.length_drop, ← Lib.size_eq]; have := HY.out.2.2.1; omega
            have HDL := Lib.hid hdl
            by_cases hq0 : q.data.toList = []
            · have HV0 := Lib.hid (show V = overV by
                rw [HV.out, ← HY.out.1]; unfold bodyR; rw [HDL.out]; simp only [if_pos hq0]; rfl)
              have s1 : q.toList = [] := by rw [Lib.toList_data]; exact hq0
              have s2 : q.toList.isEmpty = true := by rw [s1]; rfl
              rw [hq] at s1 s2
              have hj1 : j + 1 ≤ y.size := hlt
              obtain ⟨c0, c1, c2, c3, c4⟩ := HC.out.1
              clear hdc h46 hwh hq hwl hql hdl hq0
              go_wp2_with fail
              exact bodyPost_ret (v := .tuple #[.agg #[.int .i64 0, .int .i64 0], .bool false]) (by simp [results, Tryz.results31, go_sem, HC.out.1.1, HC.out.1.2.1, HC.out.1.2.2.1]) rfl ⟨by rw [HV0.out]; rfl, (HC.out.2.setCell (Nat.le_refl _) _).setCell (Nat.le_refl _) _⟩
            · have HQ0 := Lib.hid hq0
              have s1 : ¬ q.toList = [] := by rw [Lib.toList_data]; exact hq0
              have s2 : q.toList.isEmpty = false := by rw [Lib.toList_data]; simpa using hq0
              have HQQ := Lib.hid hq
              rw [hq] at s1 s2
              have HWQ := Lib.hid hwh
              have hj1 : j + 1 ≤ y.size := hlt
              clear hdc h46 hwh hq hwl hql hdl hq0
              go_wp2_with fail
              rw [← HQQ.out, ← HWQ.out]
              go_loop [7] (fun v => ∃ z : ByteArray, v = .string z ∧ z.size ≤ 400 ∧ Lib.trimRightB z.data.toList 48 = Lib.trimRightB q.data.toList 48) (fun v => strSize v)
              case atStart => exact ⟨q, rfl, hqs, rfl⟩
              case round =>
                obtain ⟨z, rfl, hz, hzt⟩ := hrel
                have HZT := Lib.hid hzt
                clear hzt
                have HZL := Lib.hid hz
                by_cases hz0 : 0 < z.size
                · have hsp := last_split z hz0
                  by_cases hz48 : z[z.size - 1].toNat = 48
                  · have g0 : (((z[z.size - 1]).toNat : Int) == 48) = true := by simp [hz48]
                    have HN := Lib.hid (show Lib.trimRightB (z.extract 0 (z.size - 1)).data.toList 48 = Lib.trimRightB q.data.toList 48 by
                      rw [← HZT.out]; conv => rhs; rw [hsp]
                      rw [trimR_snoc, if_pos (UInt8.toNat_inj.1 (show z[z.size - 1].toNat = (48 : UInt8).toNat from hz48))])
                    have HZX := Lib.hid (show (z.extract 0 (z.size - 1)).size < z.size by rw [Lib.size_eq, ba_extract _ _ (by omega), List.length_take]; omega)
                    clear hsp hz48
                    go_wp2_with fail
                    exact ⟨⟨_, rfl, by have := HZX.out; omega, HN.out⟩, HZX.out⟩
                  · have g0 : (((z[z.size - 1]).toNat : Int) == 48) = false := by simpa using (show ¬ (z[z.size - 1].toNat : Int) = 48 by omega)
                    have hzt : Lib.trimRightB q.data.toList 48 = z.data.toList := by
                      rw [← HZT.out, hsp, trimR_snoc, if_neg (fun e => hz48 (by rw [e]; rfl))]
                    have HT := Lib.hid (show V = ansR b (tailR wh.data.toList z.data.toList) by
                      rw [HV.out, ← HY.out.1, ← HY.out.2.1]; unfold bodyR; rw [HDL.out]; simp only [if_neg HQ0.out]; rw [hzt, HWH.out.1])
                    have HZN := Lib.hid (show ¬ z.data.toList = [] from fun e => by rw [Lib.size_eq, e] at hz0; exact absurd hz0 (by decide))
                    clear hsp hz48 hzt HQ0 HQQ HWQ HDL
                    have hwz : wh.size ≤ 400 := HWH.out.2
                    have HDG := Lib.hid (fun w => digits0_any w wh (by omega))
                    clear hwz
                    cases hd : digR 0 wh.data.toList with
                    | none =>
                      have HV0 := Lib.hid (show V = overV by rw [HT.out]; unfold tailR; rw [hd]; rfl)
                      rw [show digV 0 wh.data.toList = .tuple #[.int .i64 0, .bool false] by unfold digV; rw [hd]] at HDG
                      obtain ⟨c0, c1, c2, c3, c4⟩ := HC.out.1
                      clear hd
                      go_wp2_with (go_at_call 57; (with_reducible refine (HDG.out _).mono ?_); rintro e w' ⟨rfl, rfl⟩)
                      exact bodyPost_ret (v := .tuple #[.agg #[.int .i64 0, .int .i64 0], .bool false]) (by simp [results, Tryz.results31, go_sem, HC.out.1.1, HC.out.1.2.1, HC.out.1.2.2.1]) rfl ⟨by rw [HV0.out]; rfl, (HC.out.2.setCell (Nat.le_refl _) _).setCell (Nat.le_refl _) _⟩
                    | some v =>
                      have HDV := Lib.hid hd
                      rw [show digV 0 wh.data.toList = .tuple #[.int .i64 (v : Int), .bool (!wh.data.toList.isEmpty)] by unfold digV; rw [hd]] at HDG
                      have hvb : v < 1000000000000000 := digR_lt (by decide) hd
                      have HVB := Lib.hid (show Under15 v from hvb)
                      clear hd
                      cases hwe : wh.data.toList.isEmpty with
                      | true =>
                        rw [hwe] at HDG
                        have HWE := Lib.hid (List.isEmpty_iff.1 hwe)
                        have HV0 := Lib.hid (show V = overV by rw [HT.out]; unfold tailR; rw [HDV.out]; simp only [if_pos HWE.out]; rfl)
                        obtain ⟨c0, c1, c2, c3, c4⟩ := HC.out.1
                        clear hwe hvb
                        go_wp2_with (go_at_call 57; (with_reducible refine (HDG.out _).mono ?_); rintro e w' ⟨rfl, rfl⟩)
                        exact bodyPost_ret (v := .tuple #[.agg #[.int .i64 0, .int .i64 0], .bool false]) (by simp [results, Tryz.results31, go_sem, HC.out.1.1, HC.out.1.2.1, HC.out.1.2.2.1]) rfl ⟨by rw [HV0.out]; rfl, (HC.out.2.setCell (Nat.le_refl _) _).setCell (Nat.le_refl _) _⟩
                      | false =>
                        rw [hwe] at HDG
                        have HWE := Lib.hid (show ¬ wh.data.toList = [] from fun e => by rw [e] at hwe; cases hwe)
                        clear hwe
                        have hz0 : ¬ z.data.toList = [] := HZN.out
                        have zs1 : ¬ z.toList = [] := by rw [Lib.toList_data]; exact hz0
                        have zs2 : z.toList.isEmpty = false := by rw [Lib.toList_data]; simpa using hz0
                        have HZ0 := Lib.hid hz0
                        have hzz : z.size ≤ 400 := HZL.out
                        have HON := Lib.hid (fun w => only_any w z (by omega))
                        have HDZ := Lib.hid (fun w => digits_any w v z hvb (by omega))
                        clear hz0 hzz
                        obtain ⟨qb, hqb⟩ : ∃ qb : Bool, qb = z.data.toList.all digC := ⟨_, rfl⟩
                        rw [← hqb] at HON
                        have HQB := Lib.hid hqb
                        clear hqb
                        obtain ⟨c0, c1, c2, c3, c4⟩ := HC.out.1
                        by_cases h6 : 6 < z.size
                        · have h6i : (6 : Int) < (z.size : Int) := by omega
                          cases qb
                          · have HDN := Lib.hid (digR_bad (n := v) HQB.out.symm)
                            rw [show digV v z.data.toList = .tuple #[.int .i64 0, .bool false] by unfold digV; rw [HDN.out]] at HDZ
                            have HV0 := Lib.hid (show V = overV by rw [HT.out]; unfold tailR; rw [HDV.out]; simp only [if_neg HWE.out]; rw [if_neg (by rw [← HQB.out]; simp)]; simp only [if_neg HZ0.out, HDN.out]; rfl)
                            clear hvb
                            go_wp2_with (first | (go_at_call 57; (first | (with_reducible refine (HDG.out _).mono ?_) | (with_reducible refine (HDZ.out _).mono ?_)); rintro e w' ⟨rfl, rfl⟩) | (go_at_call 58; (with_reducible refine (HON.out _).mono ?_); rintro e w' ⟨rfl, rfl⟩))
                            exact bodyPost_ret (v := .tuple #[.agg #[.int .i64 0, .int .i64 0], .bool false]) (by simp [results, Tryz.results31, go_sem, HC.out.1.1, HC.out.1.2.1, HC.out.1.2.2.1]) rfl ⟨by rw [HV0.out]; rfl, (HC.out.2.setCell (Nat.le_refl _) _).setCell (Nat.le_refl _) _⟩
                          · have HV0 := Lib.hid (show V = overV by rw [HT.out]; unfold tailR; rw [HDV.out]; simp only [if_neg HWE.out]; rw [if_pos ⟨by rw [← Lib.size_eq]; exact h6, HQB.out.symm⟩]; rfl)
                            clear hvb
                            go_wp2_with (first | (go_at_call 57; (first | (with_reducible refine (HDG.out _).mono ?_) | (with_reducible refine (HDZ.out _).mono ?_)); rintro e w' ⟨rfl, rfl⟩) | (go_at_call 58; (with_reducible refine (HON.out _).mono ?_); rintro e w' ⟨rfl, rfl⟩))
                            exact bodyPost_ret (v := .tuple #[.agg #[.int .i64 0, .int .i64 0], .bool false]) (by simp [results, Tryz.results31, go_sem, HC.out.1.1, HC.out.1.2.1, HC.out.1.2.2.1]) rfl ⟨by rw [HV0.out]; rfl, (HC.out.2.setCell (Nat.le_refl _) _).setCell (Nat.le_refl _) _⟩
                        · have h6i : ¬ (6 : Int) < (z.size : Int) := by omega
                          cases hd2 : digR v z.data.toList with
                          | none =>
                            rw [show digV v z.data.toList = .tuple #[.int .i64 0, .bool false] by unfold digV; rw [hd2]] at HDZ
                            have HDN := Lib.hid hd2
                            have HV0 := Lib.hid (show V = overV by rw [HT.out]; unfold tailR; rw [HDV.out]; simp only [if_neg HWE.out]; rw [if_neg (fun h => h6 (by rw [Lib.size_eq]; exact h.1))]; simp only [if_neg HZ0.out, HDN.out]; rfl)
                            clear hvb hd2
                            go_wp2_with (first | (go_at_call 57; (first | (with_reducible refine (HDG.out _).mono ?_) | (with_reducible refine (HDZ.out _).mono ?_)); rintro e w' ⟨rfl, rfl⟩))
                            exact bodyPost_ret (v := .tuple #[.agg #[.int .i64 0, .int .i64 0], .bool false]) (by simp [results, Tryz.results31, go_sem, HC.out.1.1, HC.out.1.2.1, HC.out.1.2.2.1]) rfl ⟨by rw [HV0.out]; rfl, (HC.out.2.setCell (Nat.le_refl _) _).setCell (Nat.le_refl _) _⟩
                          | some u =>
                            have hze : z.data.toList.isEmpty = false := by simpa using HZ0.out
                            rw [show digV v z.data.toList = .tuple #[.int .i64 (u : Int), .bool true] by unfold digV; rw [hd2, hze]; rfl] at HDZ
                            have HDN := Lib.hid hd2
                            have HUB := Lib.hid (show Under15 u from digR_lt hvb hd2)
                            clear hvb hd2 hze
                            cases b
                            · have HNM := Lib.hid (fun w => norm_any w (((u : Nat) : Int)) (z.data.toList.length) (by have := HUB.out; unfold Under15 at this; omega) (by have := HZL.out; rw [Lib.size_eq] at this; omega))
                              have HVN := Lib.hid (show V = decP (nrm (((u : Nat) : Int)) (z.data.toList.length)) by rw [HT.out]; unfold tailR; rw [HDV.out]; simp only [if_neg HWE.out]; rw [if_neg (fun h => h6 (by rw [Lib.size_eq]; exact h.1))]; simp only [if_neg HZ0.out, HDN.out]; rfl)
                              rw [← HVN.out] at HNM
                              obtain ⟨vm, vs, vb, hv⟩ := ansR_cases HV.out
                              rw [hv] at HNM
                              have HVT := Lib.hid hv
                              have hu9 : wrap64 (-((u : Nat) : Int)) = -((u : Nat) : Int) := wrap_neg (HUB.out)
                              clear hv
                              rw [← Lib.size_eq] at HNM
                              go_wp2_with (first | (go_at_call 57; (first | (with_reducible refine (HDG.out _).mono ?_) | (with_reducible refine (HDZ.out _).mono ?_)); rintro e w' ⟨rfl, rfl⟩))
                              (with_reducible refine (HNM.out _).mono ?_)
                              rintro e w8 ⟨rfl, hb8⟩
                              have HB8 := Lib.hid (HC.out.2.trans (hb8.mono HC.out.2.size))
                              obtain ⟨q0, q1, q2, q3, q4⟩ := HC.out.1.below hb8
                              clear hb8
                              go_wp2_with fail
                              exact bodyPost_ret (v := .tuple #[.agg #[.int .i64 vm, .int .i64 vs], .bool vb]) (by simp [results, Tryz.results31, go_sem, q0, q1, q2]) rfl ⟨by rw [HVT.out], (HB8.out.setCell (Nat.le_refl _) _).setCell (Nat.le_refl _) _⟩
                            · have HNM := Lib.hid (fun w => norm_any w ((-((u : Nat) : Int))) (z.data.toList.length) (by have := HUB.out; unfold Under15 at this; omega) (by have := HZL.out; rw [Lib.size_eq] at this; omega))
                              have HVN := Lib.hid (show V = decP (nrm ((-((u : Nat) : Int))) (z.data.toList.length)) by rw [HT.out]; unfold tailR; rw [HDV.out]; simp only [if_neg HWE.out]; rw [if_neg (fun h => h6 (by rw [Lib.size_eq]; exact h.1))]; simp only [if_neg HZ0.out, HDN.out]; rfl)
                              rw [← HVN.out] at HNM
                              obtain ⟨vm, vs, vb, hv⟩ := ansR_cases HV.out
                              rw [hv] at HNM
                              have HVT := Lib.hid hv
                              have hu9 : wrap64 (-((u : Nat) : Int)) = -((u : Nat) : Int) := wrap_neg (HUB.out)
                              clear hv
                              rw [← Lib.size_eq] at HNM
                              go_wp2_with (first | (go_at_call 57; (first | (with_reducible refine (HDG.out _).mono ?_) | (with_reducible refine (HDZ.out _).mono ?_)); rintro e w' ⟨rfl, rfl⟩))
                              (with_reducible refine (HNM.out _).mono ?_)
                              rintro e w8 ⟨rfl, hb8⟩
                              have HB8 := Lib.hid (HC.out.2.trans (hb8.mono HC.out.2.size))
                              obtain ⟨q0, q1, q2, q3, q4⟩ := HC.out.1.below hb8
                              clear hb8
                              go_wp2_with fail
                              exact bodyPost_ret (v := .tuple #[.agg #[.int .i64 vm, .int .i64 vs], .bool vb]) (by simp [results, Tryz.results31, go_sem, q0, q1, q2]) rfl ⟨by rw [HVT.out], (HB8.out.setCell (Nat.le_refl _) _).setCell (Nat.le_refl _) _⟩
                · have hze : z.size = 0 := by omega
                  have hzl : z.data.toList = [] := by
                    have := Lib.size_eq z
                    rw [hze] at this
                    exact List.eq_nil_of_length_eq_zero this.symm
                  have hzt : Lib.trimRightB q.data.toList 48 = [] := by
                    rw [← HZT.out, hzl]; rfl
                  have HT := Lib.hid (show V = ansR b (tailR wh.data.toList z.data.toList) by
                    rw [HV.out, ← HY.out.1, ← HY.out.2.1]; unfold bodyR; rw [HDL.out]; simp only [if_neg HQ0.out]; rw [hzt, HWH.out.1, hzl])
                  clear hzt HQ0 HQQ HWQ HDL
                  have hwz : wh.size ≤ 400 := HWH.out.2
                  have HDG := Lib.hid (fun w => digits0_any w wh (by omega))
                  clear hwz
                  cases hd : digR 0 wh.data.toList with
                  | none =>
                    have HV0 := Lib.hid (show V = overV by rw [HT.out]; unfold tailR; rw [hd]; rfl)
                    rw [show digV 0 wh.data.toList = .tuple #[.int .i64 0, .bool false] by unfold digV; rw [hd]] at HDG
                    obtain ⟨c0, c1, c2, c3, c4⟩ := HC.out.1
                    clear hd
                    go_wp2_with (go_at_call 57; (with_reducible refine (HDG.out _).mono ?_); rintro e w' ⟨rfl, rfl⟩)
                    exact bodyPost_ret (v := .tuple #[.agg #[.int .i64 0, .int .i64 0], .bool false]) (by simp [results, Tryz.results31, go_sem, HC.out.1.1, HC.out.1.2.1, HC.out.1.2.2.1]) rfl ⟨by rw [HV0.out]; rfl, (HC.out.2.setCell (Nat.le_refl _) _).setCell (Nat.le_refl _) _⟩
                  | some v =>
                    have HDV := Lib.hid hd
                    rw [show digV 0 wh.data.toList = .tuple #[.int .i64 (v : Int), .bool (!wh.data.toList.isEmpty)] by unfold digV; rw [hd]] at HDG
                    have hvb : v < 1000000000000000 := digR_lt (by decide) hd
                    have HVB := Lib.hid (show Under15 v from hvb)
                    clear hd
                    cases hwe : wh.data.toList.isEmpty with
                    | true =>
                      rw [hwe] at HDG
                      have HWE := Lib.hid (List.isEmpty_iff.1 hwe)
                      have HV0 := Lib.hid (show V = overV by rw [HT.out]; unfold tailR; rw [HDV.out]; simp only [if_pos HWE.out]; rfl)
                      obtain ⟨c0, c1, c2, c3, c4⟩ := HC.out.1
                      clear hwe hvb
                      go_wp2_with (go_at_call 57; (with_reducible refine (HDG.out _).mono ?_); rintro e w' ⟨rfl, rfl⟩)
                      exact bodyPost_ret (v := .tuple #[.agg #[.int .i64 0, .int .i64 0], .bool false]) (by simp [results, Tryz.results31, go_sem, HC.out.1.1, HC.out.1.2.1, HC.out.1.2.2.1]) rfl ⟨by rw [HV0.out]; rfl, (HC.out.2.setCell (Nat.le_refl _) _).setCell (Nat.le_refl _) _⟩
                    | false =>
                      rw [hwe] at HDG
                      have HWE := Lib.hid (show ¬ wh.data.toList = [] from fun e => by rw [e] at hwe; cases hwe)
                      clear hwe
                      have zs1 : z.toList = [] := by rw [Lib.toList_data]; exact hzl
                      have zs2 : z.toList.isEmpty = true := by rw [zs1]; rfl
                      have zs3 : z.size = 0 := by exact hze
                      have zs4 : ¬ (6 : Int) < (z.size : Int) := by omega
                      have HZ0 := Lib.hid hzl
                      clear hzl hze
                      obtain ⟨c0, c1, c2, c3, c4⟩ := HC.out.1
                      cases b
                      · have HNM := Lib.hid (fun w => norm_any w (((v : Nat) : Int)) (0) (by have := HVB.out; unfold Under15 at this; omega) (by decide))
                        have HVN := Lib.hid (show V = decP (nrm (((v : Nat) : Int)) (0)) by rw [HT.out]; unfold tailR; rw [HDV.out]; simp only [if_neg HWE.out]; rw [if_neg (fun h => by rw [HZ0.out] at h; exact absurd h.1 (by decide))]; simp only [if_pos HZ0.out]; rfl)
                        rw [← HVN.out] at HNM
                        obtain ⟨vm, vs, vb, hv⟩ := ansR_cases HV.out
                        rw [hv] at HNM
                        have HVT := Lib.hid hv
                        have hu9 : wrap64 (-((v : Nat) : Int)) = -((v : Nat) : Int) := wrap_neg (HVB.out)
                        clear hv hvb
                        rw [show ((0 : Nat) : Int) = 0 from rfl] at HNM
                        go_wp2_with (go_at_call 57; (with_reducible refine (HDG.out _).mono ?_); rintro e w' ⟨rfl, rfl⟩)
                        (with_reducible refine (HNM.out _).mono ?_)
                        rintro e w8 ⟨rfl, hb8⟩
                        have HB8 := Lib.hid (HC.out.2.trans (hb8.mono HC.out.2.size))
                        obtain ⟨q0, q1, q2, q3, q4⟩ := HC.out.1.below hb8
                        clear hb8
                        go_wp2_with fail
                        exact bodyPost_ret (v := .tuple #[.agg #[.int .i64 vm, .int .i64 vs], .bool vb]) (by simp [results, Tryz.results31, go_sem, q0, q1, q2]) rfl ⟨by rw [HVT.out], (HB8.out.setCell (Nat.le_refl _) _).setCell (Nat.le_refl _) _⟩
                      · have HNM := Lib.hid (fun w => norm_any w ((-((v : Nat) : Int))) (0) (by have := HVB.out; unfold Under15 at this; omega) (by decide))
                        have HVN := Lib.hid (show V = decP (nrm ((-((v : Nat) : Int))) (0)) by rw [HT.out]; unfold tailR; rw [HDV.out]; simp only [if_neg HWE.out]; rw [if_neg (fun h => by rw [HZ0.out] at h; exact absurd h.1 (by decide))]; simp only [if_pos HZ0.out]; rfl)
                        rw [← HVN.out] at HNM
                        obtain ⟨vm, vs, vb, hv⟩ := ansR_cases HV.out
                        rw [hv] at HNM
                        have HVT := Lib.hid hv
                        have hu9 : wrap64 (-((v : Nat) : Int)) = -((v : Nat) : Int) := wrap_neg (HVB.out)
                        clear hv hvb
                        rw [show ((0 : Nat) : Int) = 0 from rfl] at HNM
                        go_wp2_with (go_at_call 57; (with_reducible refine (HDG.out _).mono ?_); rintro e w' ⟨rfl, rfl⟩)
                        (with_reducible refine (HNM.out _).mono ?_)
                        rintro e w8 ⟨rfl, hb8⟩
                        have HB8 := Lib.hid (HC.out.2.trans (hb8.mono HC.out.2.size))
                        obtain ⟨q0, q1, q2, q3, q4⟩ := HC.out.1.below hb8
                        clear hb8
                        go_wp2_with fail
                        exact bodyPost_ret (v := .tuple #[.agg #[.int .i64 vm, .int .i64 vs], .bool vb]) (by simp [results, Tryz.results31, go_sem, q0, q1, q2]) rfl ⟨by rw [HVT.out], (HB8.out.setCell (Nat.le_refl _) _).setCell (Nat.le_refl _) _⟩
          · have t0 : (((y[j]).toNat : Int) != 46) = true := by simpa using (show ¬ (y[j].toNat : Int) = 46 by omega)
            have HN := Lib.hid (show (y.data.toList.take (j + 1)).all dotN = true by
              rw [List.take_succ_eq_append_getElem (by simpa using hlt), List.all_append, HJ.out]
              have : dotN y[j] = true := by
                unfold dotN
                rw [bne_iff_ne]
                intro e
                exact h46 (by rw [e]; rfl)
              show (true && (dotN y[j] && true)) = true
              rw [this]; rfl)
            clear hdc h46
            go_wp2_with fail
            exact ⟨⟨j + 1, by go_num, hlt, HN.out⟩, by simp [intOf]; omega⟩
        · have hje : j = y.size := by omega
          obtain ⟨wh, hwh⟩ : ∃ wh : ByteArray, wh = y := ⟨_, rfl⟩
          obtain ⟨z, hz⟩ : ∃ z : ByteArray, z = ⟨#[]⟩ := ⟨_, rfl⟩
          have hnil : y.data.toList.drop j = [] := List.drop_eq_nil_of_le (by simp; omega)
          have hwl : wh.data.toList = y.data.toList.takeWhile dotN := by
            have := take_stop HJ.out (.inl hnil)
            rw [List.take_of_length_le (by simp; omega)] at this
            rw [hwh]; exact this
          have hdl : y.data.toList.dropWhile dotN = [] := by
            rw [drop_stop HJ.out (.inl hnil), hnil]
          have HWH := Lib.hid (show wh.data.toList = y.data.toList.takeWhile dotN ∧ wh.size ≤ 400 from ⟨hwl, by
            rw [Lib.size_eq, hwl]; have := take_len dotN y.data.toList; rw [← Lib.size_eq] at this; omega⟩)
          have hzl : z.data.toList = [] := by rw [hz]
          have hze : z.size = 0 := by rw [hz]; rfl
          have HT := Lib.hid (show V = ansR b (tailR wh.data.toList z.data.toList) by
            rw [HV.out, ← HY.out.1, ← HY.out.2.1]; unfold bodyR; rw [hdl, HWH.out.1, hzl])
          have HWQ := Lib.hid hwh
          have HZQ := Lib.hid hz
          clear hwh hnil hwl hdl hz
          go_upto_region 14 with fail
          rw [← HZQ.out, ← HWQ.out]
          have hwz : wh.size ≤ 400 := HWH.out.2
          have HDG := Lib.hid (fun w => digits0_any w wh (by omega))
          clear hwz
          cases hd : digR 0 wh.data.toList with
          | none =>
            have HV0 := Lib.hid (show V = overV by rw [HT.out]; unfold tailR; rw [hd]; rfl)
            rw [show digV 0 wh.data.toList = .tuple #[.int .i64 0, .bool false] by unfold digV; rw [hd]] at HDG
            obtain ⟨c0, c1, c2, c3, c4⟩ := HC.out.1
            clear hd
            go_wp2_with (go_at_call 57; (with_reducible refine (HDG.out _).mono ?_); rintro e w' ⟨rfl, rfl⟩)
            exact bodyPost_ret (v := .tuple #[.agg #[.int .i64 0, .int .i64 0], .bool false]) (by simp [results, Tryz.results31, go_sem, HC.out.1.1, HC.out.1.2.1, HC.out.1.2.2.1]) rfl ⟨by rw [HV0.out]; rfl, (HC.out.2.setCell (Nat.le_refl _) _).setCell (Nat.le_refl _) _⟩
          | some v =>
            have HDV := Lib.hid hd
            rw [show digV 0 wh.data.toList = .tuple #[.int .i64 (v : Int), .bool (!wh.data.toList.isEmpty)] by unfold digV; rw [hd]] at HDG
            have hvb : v < 1000000000000000 := digR_lt (by decide) hd
            have HVB := Lib.hid (show Under15 v from hvb)
            clear hd
            cases hwe : wh.data.toList.isEmpty with
            | true =>
              rw [hwe] at HDG
              have HWE := Lib.hid (List.isEmpty_iff.1 hwe)
              have HV0 := Lib.hid (show V = overV by rw [HT.out]; unfold tailR; rw [HDV.out]; simp only [if_pos HWE.out]; rfl)
              obtain ⟨c0, c1, c2, c3, c4⟩ := HC.out.1
              clear hwe hvb
              go_wp2_with (go_at_call 57; (with_reducible refine (HDG.out _).mono ?_); rintro e w' ⟨rfl, rfl⟩)
              exact bodyPost_ret (v := .tuple #[.agg #[.int .i64 0, .int .i64 0], .bool false]) (by simp [results, Tryz.results31, go_sem, HC.out.1.1, HC.out.1.2.1, HC.out.1.2.2.1]) rfl ⟨by rw [HV0.out]; rfl, (HC.out.2.setCell (Nat.le_refl _) _).setCell (Nat.le_refl _) _⟩
            | false =>
              rw [hwe] at HDG
              have HWE := Lib.hid (show ¬ wh.data.toList = [] from fun e => by rw [e] at hwe; cases hwe)
              clear hwe
              have zs1 : z.toList = [] := by rw [Lib.toList_data]; exact hzl
              have zs2 : z.toList.isEmpty = true := by rw [zs1]; rfl
              have zs3 : z.size = 0 := by exact hze
              have zs4 : ¬ (6 : Int) < (z.size : Int) := by omega
              have HZ0 := Lib.hid hzl
              clear hzl hze
              obtain ⟨c0, c1, c2, c3, c4⟩ := HC.out.1
              cases b
              · have HNM := Lib.hid (fun w => norm_any w (((v : Nat) : Int)) (0) (by have := HVB.out; unfold Under15 at this; omega) (by decide))
                have HVN := Lib.hid (show V = decP (nrm (((v : Nat) : Int)) (0)) by rw [HT.out]; unfold tailR; rw [HDV.out]; simp only [if_neg HWE.out]; rw [if_neg (fun h => by rw [HZ0.out] at h; exact absurd h.1 (by decide))]; simp only [if_pos HZ0.out]; rfl)
                rw [← HVN.out] at HNM
                obtain ⟨vm, vs, vb, hv⟩ := ansR_cases HV.out
                rw [hv] at HNM
                have HVT := Lib.hid hv
                have hu9 : wrap64 (-((v : Nat) : Int)) = -((v : Nat) : Int) := wrap_neg (HVB.out)
                clear hv hvb
                rw [show ((0 : Nat) : Int) = 0 from rfl] at HNM
                go_wp2_with (go_at_call 57; (with_reducible refine (HDG.out _).mono ?_); rintro e w' ⟨rfl, rfl⟩)
                (with_reducible refine (HNM.out _).mono ?_)
                rintro e w8 ⟨rfl, hb8⟩
                have HB8 := Lib.hid (HC.out.2.trans (hb8.mono HC.out.2.size))
                obtain ⟨q0, q1, q2, q3, q4⟩ := HC.out.1.below hb8
                clear hb8
                go_wp2_with fail
                exact bodyPost_ret (v := .tuple #[.agg #[.int .i64 vm, .int .i64 vs], .bool vb]) (by simp [results, Tryz.results31, go_sem, q0, q1, q2]) rfl ⟨by rw [HVT.out], (HB8.out.setCell (Nat.le_refl _) _).setCell (Nat.le_refl _) _⟩
              · have HNM := Lib.hid (fun w => norm_any w ((-((v : Nat) : Int))) (0) (by have := HVB.out; unfold Under15 at this; omega) (by decide))
                have HVN := Lib.hid (show V = decP (nrm ((-((v : Nat) : Int))) (0)) by rw [HT.out]; unfold tailR; rw [HDV.out]; simp only [if_neg HWE.out]; rw [if_neg (fun h => by rw [HZ0.out] at h; exact absurd h.1 (by decide))]; simp only [if_pos HZ0.out]; rfl)
                rw [← HVN.out] at HNM
                obtain ⟨vm, vs, vb, hv⟩ := ansR_cases HV.out
                rw [hv] at HNM
                have HVT := Lib.hid hv
                have hu9 : wrap64 (-((v : Nat) : Int)) = -((v : Nat) : Int) := wrap_neg (HVB.out)
                clear hv hvb
                rw [show ((0 : Nat) : Int) = 0 from rfl] at HNM
                go_wp2_with (go_at_call 57; (with_reducible refine (HDG.out _).mono ?_); rintro e w' ⟨rfl, rfl⟩)
                (with_reducible refine (HNM.out _).mono ?_)
                rintro e w8 ⟨rfl, hb8⟩
                have HB8 := Lib.hid (HC.out.2.trans (hb8.mono HC.out.2.size))
                obtain ⟨q0, q1, q2, q3, q4⟩ := HC.out.1.below hb8
                clear hb8
                go_wp2_with fail
                exact bodyPost_ret (v := .tuple #[.agg #[.int .i64 vm, .int .i64 vs], .bool vb]) (by simp [results, Tryz.results31, go_sem, q0, q1, q2]) rfl ⟨by rw [HVT.out], (HB8.out.setCell (Nat.le_refl _) _).setCell (Nat.le_refl _) _⟩
end Go.Proofs.YtecomfhbdonkbaaGreatDoor
/- Parse and triadref13's Parse answer the same, plainly. -/
namespace Go.Proofs.YtecomfhbdonkbaaGreatDoor
open Go.RowKit Go.Shelf Flo
set_option maxRecDepth 100000
set_option linter.unusedVariables false
set_option linter.unusedSimpArgs false

theorem dval_mono : ∀ (l : List UInt8) (n : Nat), n ≤ dval n l
  | [], n => Nat.le_refl _
  | c :: r, n => by
    show n ≤ dval (10 * n + (c.toNat - 48)) r
    have := dval_mono r (10 * n + (c.toNat - 48))
    omega
theorem digR_all : ∀ {l : List UInt8} {n : Nat}, n < 1000000000000000 → l.all digC = true → digR n l = if 1000000000000000 ≤ dval n l then none else some (dval n l)
  | [], n, hn, h => by
    show some n = if 1000000000000000 ≤ n then none else some n
    rw [if_neg (by omega)]
  | c :: r, n, hn, h => by
    rw [List.all_cons, Bool.and_eq_true] at h
    have e : dval n (c :: r) = dval (10 * n + (c.toNat - 48)) r := rfl
    unfold digR
    rw [if_pos h.1, e]
    split
    · rename_i hb
      have := dval_mono r (10 * n + (c.toNat - 48))
      rw [if_pos (by omega)]
    · rename_i hb
      exact digR_all (by omega) h.2
theorem over_of {n : Int} {k : Nat} (h : 999999999999999 < n.natAbs) (h2 : k = 0 ∨ ¬ n % 10 = 0) : decV n k = overV := by
  rw [decV_eq]
  have hs : shrt n k = (n, k) := by
    unfold shrt
    split
    · rcases h2 with h2 | h2
      · rw [h2]; rfl
      · exact nrm_stay _ _ h2
    · rfl
  rw [hs]
  unfold decP
  rw [if_neg (by simp [fitsL]; omega)]; rfl
theorem over_far {n : Int} {k : Nat} (h : 6 < k) (h2 : ¬ n % 10 = 0) : decV n k = overV := by
  rw [decV_eq]
  have hs : shrt n k = (n, k) := by
    unfold shrt
    split
    · exact nrm_stay _ _ h2
    · rfl
  rw [hs]
  unfold decP
  rw [if_neg (by simp [fitsL]; omega)]; rfl
theorem fits_of {n : Int} {k : Nat} (h : n.natAbs < 1000000000000000) : decV n k = decP (nrm n k) := by
  rw [decV_eq]
  unfold shrt
  rw [if_pos (by rw [p53]; omega)]

/-- the last digit of what is not noughts at its end. -/
theorem dval_last {n : Nat} {l : List UInt8} (h : Lib.trimRightB l 48 ≠ []) (hd : l.all digC = true) : ¬ dval n (Lib.trimRightB l 48) % 10 = 0 := by
  have hz : Lib.trimRightB (Lib.trimRightB l 48) 48 = Lib.trimRightB l 48 := by
    unfold Lib.trimRightB
    rw [List.reverse_reverse]
    congr 1
    induction l.reverse with
    | nil => rfl
    | cons c r ih =>
      rw [List.dropWhile_cons]
      split
      · exact ih
      · rename_i hc; rw [List.dropWhile_cons, if_neg hc]
  have hm : ∀ x ∈ Lib.trimRightB l 48, digC x = true := fun x hx => List.all_eq_true.1 hd x (trimR_mem _ _ hx)
  generalize Lib.trimRightB l 48 = t at *
  obtain ⟨i, c, rfl⟩ : ∃ i c, t = i ++ [c] := ⟨t.dropLast, t.getLast h, (List.dropLast_concat_getLast h).symm⟩
  rw [trimR_snoc] at hz
  have hc : c ≠ 48 := by
    intro e
    rw [if_pos e] at hz
    have h1 := congrArg List.length hz
    have := trimR_len i 48
    simp at h1
    omega
  have hg := (digC_iff c).1 (hm c (by simp))
  have hn : c.toNat ≠ 48 := fun e => hc (UInt8.toNat_inj.1 (by rw [e]; rfl))
  rw [dval_snoc]
  omega

theorem neg_mod {n : Nat} (b : Bool) : ((if b then -(n : Int) else (n : Int)) % 10 = 0) ↔ n % 10 = 0 := by
  cases b
  · simp only [Bool.false_eq_true, if_false]; omega
  · simp only [if_true]; omega
theorem neg_abs {n : Nat} (b : Bool) : (if b then -(n : Int) else (n : Int)).natAbs = n := by
  cases b
  · simp
  · simp

/-- both parts of a text that is a decimal's. -/
theorem tail_same (b : Bool) (whole q : List UInt8) (hw : whole.all digC = true) (hw0 : whole ≠ []) (hq : q.all digC = true) :
    ansR b (tailR whole (Lib.trimRightB q 48)) = decV (if b then -((dval (dval 0 whole) (Lib.trimRightB q 48) : Nat) : Int) else ((dval (dval 0 whole) (Lib.trimRightB q 48) : Nat) : Int)) (Lib.trimRightB q 48).length := by
  have hpa : (Lib.trimRightB q 48).all digC = true := List.all_eq_true.2 fun x hx => List.all_eq_true.1 hq x (trimR_mem _ _ hx)
  have hmo := dval_mono (Lib.trimRightB q 48) (dval 0 whole)
  have hlast : (Lib.trimRightB q 48).length = 0 ∨ ¬ dval (dval 0 whole) (Lib.trimRightB q 48) % 10 = 0 := by
    by_cases h : Lib.trimRightB q 48 = []
    · left; rw [h]; rfl
    · exact .inr (dval_last h hq)
  generalize Lib.trimRightB q 48 = p at *
  unfold tailR
  rw [digR_all (by decide) hw]
  by_cases h1 : 1000000000000000 ≤ dval 0 whole
  · rw [if_pos h1]
    simp only
    rw [over_of (by rw [neg_abs]; omega) (hlast.imp id (fun h => by rw [neg_mod]; exact h))]
    rfl
  · rw [if_neg h1]
    simp only [if_neg hw0]
    by_cases h6 : 6 < p.length
    · rw [if_pos ⟨h6, hpa⟩]
      rw [over_far h6 (by rw [neg_mod]; exact hlast.resolve_left (by omega))]
      rfl
    · rw [if_neg (fun h => h6 h.1)]
      by_cases hp : p = []
      · rw [if_pos hp]
        subst hp
        show decP _ = _
        rw [fits_of (by rw [neg_abs]; show dval 0 whole < _; omega)]
        rfl
      · rw [if_neg hp, digR_all (by omega) hpa]
        by_cases h2 : 1000000000000000 ≤ dval (dval 0 whole) p
        · rw [if_pos h2]
          simp only
          rw [over_of (by rw [neg_abs]; omega) (hlast.imp id (fun h => by rw [neg_mod]; exact h))]
          rfl
        · rw [if_neg h2]
          simp only
          rw [fits_of (by rw [neg_abs]; omega)]
          rfl

theorem tailR_bad1 {whole p : List UInt8} (h : whole.all digC = false ∨ whole = []) : tailR whole p = none := by
  unfold tailR
  rcases h with h | h
  · rw [digR_bad h]
  · subst h
    show (match some 0 with | none => none | some v => _) = _
    rfl
theorem tailR_bad2 {whole p : List UInt8} (h : p.all digC = false) : tailR whole p = none := by
  unfold tailR
  cases digR 0 whole with
  | none => rfl
  | some v =>
    simp only
    split
    · rfl
    · rw [if_neg (by rw [h]; simp), if_neg (fun e => by rw [e] at h; cases h), digR_bad h]

theorem dot_not_dig {c : UInt8} (h : digC c = true) : dotN c = true := by
  have := (digC_iff c).1 h
  unfold dotN
  rw [bne_iff_ne]
  intro e
  rw [e] at this
  exact absurd this (by decide)
/-- where both ways part a text. -/
theorem split_dot (r : List UInt8) : ((r.takeWhile dotN).all digC = true ∧ r.takeWhile digC = r.takeWhile dotN ∧ r.dropWhile digC = r.dropWhile dotN) ∨
    ((r.takeWhile dotN).all digC = false ∧ ∃ c q, r.dropWhile digC = c :: q ∧ c ≠ 46) := by
  induction r with
  | nil => exact .inl ⟨rfl, rfl, rfl⟩
  | cons c r ih =>
    by_cases hd : digC c = true
    · have hn := dot_not_dig hd
      rw [List.takeWhile_cons, List.takeWhile_cons, List.dropWhile_cons, List.dropWhile_cons, if_pos hd, if_pos hn, if_pos hd, if_pos hn]
      rcases ih with ⟨h1, h2, h3⟩ | ⟨h1, c', q, h2, h3⟩
      · exact .inl ⟨by rw [List.all_cons, hd, h1]; rfl, by rw [h2], h3⟩
      · exact .inr ⟨by rw [List.all_cons, h1, Bool.and_false], c', q, h2, h3⟩
    · by_cases h46 : c = 46
      · subst h46
        exact .inl ⟨rfl, rfl, rfl⟩
      · have hn : dotN c = true := by unfold dotN; rw [bne_iff_ne]; exact h46
        refine .inr ⟨?_, c, r, ?_, h46⟩
        · rw [List.takeWhile_cons, if_pos hn, List.all_cons]
          simp [hd]
        · rw [List.dropWhile_cons, if_neg hd]

theorem take_all_iff {p : UInt8 → Bool} : ∀ {l : List UInt8}, l.dropWhile p = [] → l.takeWhile p = l ∧ l.all p = true
  | [], _ => ⟨rfl, rfl⟩
  | c :: r, h => by
    rw [List.dropWhile_cons] at h
    split at h
    · rename_i hc
      have := take_all_iff h
      exact ⟨by rw [List.takeWhile_cons, if_pos hc, this.1], by rw [List.all_cons, hc, this.2]; rfl⟩
    · cases h
theorem not_all {p : UInt8 → Bool} : ∀ {l : List UInt8}, l.dropWhile p ≠ [] → l.all p = false
  | [], h => absurd rfl h
  | c :: r, h => by
    rw [List.dropWhile_cons] at h
    split at h
    · rename_i hc
      rw [List.all_cons, not_all h, Bool.and_false]
    · rename_i hc
      rw [List.all_cons]
      simp [hc]
theorem trim_bad {q : List UInt8} (h : q.all digC = false) : (Lib.trimRightB q 48).all digC = false := by
  unfold Lib.trimRightB
  rw [List.all_reverse]
  have h2 : q.reverse.all digC = false := by rw [List.all_reverse]; exact h
  generalize q.reverse = t at *
  induction t with
  | nil => cases h2
  | cons c r ih =>
    rw [List.dropWhile_cons]
    split
    · rename_i hc
      have : c = 48 := by simpa using hc
      subst this
      exact ih (by rw [List.all_cons, show digC 48 = true from by decide, Bool.true_and] at h2; exact h2)
    · exact h2

theorem ans_same (b : Bool) (r : List UInt8) : ansR b (bodyR r) = ansD b (bodyD r) := by
  rcases split_dot r with ⟨h1, h2, h3⟩ | ⟨h1, c, q, h2, h3⟩
  · unfold bodyR bodyD
    rw [h2, h3]
    by_cases hw : r.takeWhile dotN = []
    · rw [if_pos hw]
      cases r.dropWhile dotN with
      | nil => simp only; rw [tailR_bad1 (.inr hw)]; rfl
      | cons c q =>
        simp only
        split
        · rfl
        · rw [tailR_bad1 (.inr hw)]; rfl
    · rw [if_neg hw]
      have hc46 : ∀ c q, r.dropWhile dotN = c :: q → c = 46 := by
        intro c q h
        have := List.head?_dropWhile_not dotN r
        rw [h] at this
        simpa [dotN] using this
      cases hd : r.dropWhile dotN with
      | nil =>
        simp only
        have := tail_same b (r.takeWhile dotN) [] h1 hw rfl
        exact this
      | cons c q =>
        obtain rfl := hc46 c q hd
        simp only
        by_cases hq : q = []
        · subst hq; rfl
        · rw [if_neg hq]
          by_cases hqd : q.dropWhile digC = []
          · obtain ⟨e1, e2⟩ := take_all_iff hqd
            rw [if_pos ⟨trivial, by rw [e1]; exact hq, hqd⟩, e1]
            exact tail_same b (r.takeWhile dotN) q h1 hw e2
          · rw [if_neg (fun h => hqd h.2.2), tailR_bad2 (trim_bad (not_all hqd))]
            rfl
  · have e : bodyR r = none := by
      unfold bodyR
      cases r.dropWhile dotN with
      | nil => exact tailR_bad1 (.inl h1)
      | cons c q =>
        simp only
        split
        · rfl
        · exact tailR_bad1 (.inl h1)
    unfold bodyD
    rw [e, h2]
    simp only
    split
    · rfl
    · rw [if_neg (fun h => h3 h.1)]; rfl

theorem parse_same (l : List UInt8) : ansR (signR l).1 (bodyR (signR l).2) = ansD (signD l).1 (bodyD (signD l).2) := by
  rw [sign_same]; exact ans_same _ _
end Go.Proofs.YtecomfhbdonkbaaGreatDoor
/- Rows of numbers, read. -/
namespace Go.Proofs.YtecomfhbdonkbaaGreatDoor
open Go.RowKit
set_option maxRecDepth 100000
set_option linter.unusedVariables false
/-- A slice of numbers that reads as l, wherever it lies. -/
def Nl (w : World) (v : Value) (l : List Int) : Prop :=
  ∃ ao cap, v = .slice ao l.length cap ∧ l.length ≤ cap ∧ cap ≤ maxLen ∧ (ao = none → cap = 0) ∧ ∀ ad, ao = some ad → ∀ j u, (l.map (Value.int .i64))[j]? = some u → w.cell? (ad.add j) = some u
theorem Nl.at {w : World} {v : Value} {l : List Int} (h : Nl w v l) (hl : 0 < l.length) :
    ∃ b off cap, v = .slice (some ⟨b, off, none⟩) l.length cap ∧ l.length ≤ cap ∧ cap ≤ maxLen ∧ ∀ j (hj : j < l.length), w.cell? ⟨b, off + j, none⟩ = some (.int .i64 l[j]) := by
  obtain ⟨ao, cap, rfl, h1, h2, h3, h4⟩ := h
  cases ao with
  | none => have := h3 rfl; omega
  | some ad =>
    obtain ⟨b, off, spot⟩ := ad
    have key : ∀ j (hj : j < l.length), w.cell? ((⟨b, off, spot⟩ : Addr).add j) = some (.int .i64 l[j]) := fun j hj => h4 _ rfl j _ (by simp [hj])
    have hs : spot = none := by simpa [Addr.add] using World.cell?_spot (key 0 hl)
    subst hs
    refine ⟨b, off, cap, rfl, h1, h2, fun j hj => ?_⟩
    have := key j hj
    rwa [Addr.add_lit] at this
theorem Nl.of_row {w : World} {a : Option Addr} {len cap : Nat} {zs : List Int}
    (h : (a = none ∧ len = 0 ∧ cap = 0 ∧ zs = []) ∨ ∃ x, a = some x ∧ len ≤ cap ∧ cap ≤ maxLen ∧ zs.length = cap ∧ (∀ i, i < zs.length → w.cell? (x.add i) = some (.int .i64 (zs.getD i 0))) ∧ ∀ n ∈ zs, (Lit.int .i64 n).wf = true) :
    ∃ l : List Int, l.length = len ∧ Nl w (.slice a len cap) l := by
  rcases h with ⟨rfl, rfl, rfl, rfl⟩ | ⟨x, rfl, hl, hm, hz, hc, hw⟩
  · exact ⟨[], rfl, none, 0, rfl, by simp, by simp [maxLen], fun _ => rfl, fun ad h => by cases h⟩
  · have hlen : (zs.take len).length = len := by simp; omega
    refine ⟨zs.take len, hlen, some x, cap, by rw [hlen], by omega, hm, (fun h => by cases h), fun ad had j u hu => ?_⟩
    cases had
    have hj : j < len := by
      have := (List.getElem?_eq_some_iff.1 hu).1
      rw [List.length_map, hlen] at this; exact this
    rw [hc j (by omega)]
    have hjz : j < zs.length := by omega
    simp [hj, hjz] at hu
    rw [← hu]
    simp [List.getD, hjz]
theorem Nl.of_rowB {w : World} {a : Option Addr} {len cap : Nat} {zs : List Int}
    (h : (a = none ∧ len = 0 ∧ cap = 0 ∧ zs = []) ∨ ∃ x, a = some x ∧ len ≤ cap ∧ cap ≤ maxLen ∧ zs.length = cap ∧ (∀ i, i < zs.length → w.cell? (x.add i) = some (.int .i64 (zs.getD i 0))) ∧ ∀ n ∈ zs, (Lit.int .i64 n).wf = true) :
    ∃ l : List Int, l.length = len ∧ Nl w (.slice a len cap) l ∧ ∀ x ∈ l, -9223372036854775808 ≤ x ∧ x ≤ 9223372036854775807 := by
  rcases h with ⟨rfl, rfl, rfl, rfl⟩ | ⟨x, rfl, hl, hm, hz, hc, hw⟩
  · exact ⟨[], rfl, ⟨none, 0, rfl, by simp, by simp [maxLen], fun _ => rfl, fun ad h => by cases h⟩, fun x h => by cases h⟩
  · have hlen : (zs.take len).length = len := by simp; omega
    refine ⟨zs.take len, hlen, ⟨some x, cap, by rw [hlen], by omega, hm, (fun h => by cases h), fun ad had j u hu => ?_⟩, fun y hy => ?_⟩
    · cases had
      have hj : j < len := by
        have := (List.getElem?_eq_some_iff.1 hu).1
        rw [List.length_map, hlen] at this; exact this
      rw [hc j (by omega)]
      have hjz : j < zs.length := by omega
      simp [hj, hjz] at hu
      rw [← hu]
      simp [List.getD, hjz]
    · have h := hw y (List.mem_of_mem_take hy)
      simp only [Lit.wf, Bool.and_eq_true, decide_eq_true_eq] at h
      have h1 : IntKind.i64.min = -9223372036854775808 := by decide
      have h2 : IntKind.i64.max = 9223372036854775807 := by decide
      rw [h1, h2] at h
      exact h
theorem Nl.below {w w' : World} {v : Value} {l : List Int} (h : Nl w v l) (hb : Below w.heap.size w w') : Nl w' v l := by
  obtain ⟨ao, cap, e, h1, h2, h3, h4⟩ := h
  exact ⟨ao, cap, e, h1, h2, h3, fun ad had j u hu => (hb.cell (World.block_lt_of_cell? _ _ (h4 ad had j u hu))).trans (h4 ad had j u hu)⟩
end Go.Proofs.YtecomfhbdonkbaaGreatDoor
/- triadlaw13: known, within, Good, Word. -/
namespace Go.Proofs.YtecomfhbdonkbaaGreatDoor
open Go.RowKit Go.Shelf Flo
set_option maxRecDepth 100000
set_option linter.unusedVariables false
set_option linter.unusedSimpArgs false

theorem equal_dec (m s m2 s2 : Int) (w : World) : (Op.equalIn 10000 44 (.agg #[.int .i64 m, .int .i64 s]) (.agg #[.int .i64 m2, .int .i64 s2])).run Tryz.prog w = .ok (m == m2 && s == s2) w := by
  cases h1 : m == m2 <;> cases h2 : s == s2
  all_goals go_simp

/-- a decimal of raw numbers. -/
def goodP (m s : Int) : Int × Nat := nrm (m.tmod 1000000000000000) (s % 7).toNat
theorem nrm_good : ∀ (k : Nat) (n : Int), n.natAbs ≤ 999999999999999 → k ≤ 6 → GoodD (nrm n k).1 ((nrm n k).2 : Int)
  | 0, n, h, hk => ⟨by show _ ≤ n; omega, by show n ≤ _; omega, by show (0 : Int) ≤ ((0 : Nat) : Int); decide, by show ((0 : Nat) : Int) ≤ 6; decide, .inl rfl⟩
  | k + 1, n, h, hk => by
    by_cases hd : n % 10 = 0
    · rw [nrm_go (k + 1) (by omega) hd]
      exact nrm_good k (n / 10) (by omega) (by omega)
    · rw [nrm_stay _ _ hd]
      exact ⟨by omega, by omega, by omega, by omega, .inr hd⟩
theorem good_good (m s : Int) : GoodD (goodP m s).1 ((goodP m s).2 : Int) := by
  refine nrm_good _ _ ?_ (by omega)
  have h1 := Int.natAbs_tmod m 1000000000000000
  have h2 := Nat.mod_lt m.natAbs (show 0 < (1000000000000000 : Int).natAbs by decide)
  omega

theorem piece_at (w : World) (k : Nat) (hk : k < 12) : ∃ Y : ByteArray, (w.alloc (.cells #[.string ⟨#[48]⟩, .string ⟨#[49]⟩, .string ⟨#[53]⟩, .string ⟨#[57]⟩, .string ⟨#[48, 48]⟩, .string ⟨#[46]⟩, .string ⟨#[45]⟩, .string ⟨#[43]⟩, .string ⟨#[49, 50, 51, 52, 53, 54]⟩, .string ⟨#[57, 57, 57]⟩, .string ⟨#[120]⟩, .string ⟨#[]⟩] 9)).cell? ⟨w.heap.size, k, none⟩ = some (.string Y) ∧ Y.size ≤ 6 := by
  have : k = 0 ∨ k = 1 ∨ k = 2 ∨ k = 3 ∨ k = 4 ∨ k = 5 ∨ k = 6 ∨ k = 7 ∨ k = 8 ∨ k = 9 ∨ k = 10 ∨ k = 11 := by omega
  rcases this with rfl | rfl | rfl | rfl | rfl | rfl | rfl | rfl | rfl | rfl | rfl | rfl
  all_goals
    refine ⟨_, by simp; rfl, ?_⟩
    decide

end Go.Proofs.YtecomfhbdonkbaaGreatDoor
