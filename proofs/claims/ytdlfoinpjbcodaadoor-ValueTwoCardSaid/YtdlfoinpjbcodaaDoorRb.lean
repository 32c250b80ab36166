/- triadref13: Parse. -/
import Derived.Test.YtdlfoinpjbcodaaDoorRa
import Derived.Deep.CutBlock
import Derived.Deep.DeepCutAuto
namespace Go.Proofs.YtdlfoinpjbcodaaDoor
open Go.RowKit Go.Shelf Flo
set_option maxRecDepth 100000
set_option linter.unusedVariables false
set_option linter.unusedSimpArgs false

def signR (l : List UInt8) : Bool × List UInt8 := match l with
  | [] => (false, [])
  | c :: r => if c = 43 ∨ c = 45 then (decide (c = 45), r) else (false, c :: r)
theorem sign_same (l : List UInt8) : signR l = signD l := by
  unfold signR signD Lib.trimPrefix Lib.hasPrefix
  cases l with
  | nil => simp
  | cons c r =>
    by_cases h1 : c = 45
    · subst h1; simp
    · by_cases h2 : c = 43
      · subst h2; simp
      · have h1' : ¬ (45 : UInt8) = c := Ne.symm h1
        have h2' : ¬ (43 : UInt8) = c := Ne.symm h2
        simp [h1, h2, h1', h2']
def dotN (c : UInt8) : Bool := c != 46
/-- the digits ahead of the point, and those behind it, of which noughts at the end are gone. -/
def tailR (whole part : List UInt8) : Option (Nat × Nat) :=
  match digR 0 whole with
  | none => none
  | some v => if whole = [] then none else
    if 6 < part.length ∧ part.all digC = true then none else
    if part = [] then some (v, 0) else
    match digR v part with
    | none => none
    | some u => some (u, part.length)
/-- the digits, and how many of them stand behind the point, as triadref13 reads them. -/
def bodyR (r : List UInt8) : Option (Nat × Nat) :=
  match r.dropWhile dotN with
  | [] => tailR (r.takeWhile dotN) []
  | _ :: q => if q = [] then none else tailR (r.takeWhile dotN) (Lib.trimRightB q 48)
def ansR (b : Bool) : Option (Nat × Nat) → Value
  | none => overV
  | some p => decP (nrm (if b then -(p.1 : Int) else (p.1 : Int)) p.2)

theorem ansR_cases {V : Value} {b : Bool} {o : Option (Nat × Nat)} (h : V = ansR b o) : ∃ (m s : Int) (q : Bool), V = .tuple #[.agg #[.int .i64 m, .int .i64 s], .bool q] := by
  subst h
  cases o with
  | none => exact ⟨_, _, _, rfl⟩
  | some p => exact decP_cases _
theorem digR_lt : ∀ {l : List UInt8} {n v : Nat}, n < 1000000000000000 → digR n l = some v → v < 1000000000000000
  | [], n, v, hn, h => by cases h; exact hn
  | c :: r, n, v, hn, h => by
    unfold digR at h
    split at h
    · split at h
      · cases h
      · exact digR_lt (by omega) h
    · cases h
theorem digR_bad : ∀ {l : List UInt8} {n : Nat}, l.all digC = false → digR n l = none
  | [], n, h => by cases h
  | c :: r, n, h => by
    unfold digR
    split
    · rename_i hc
      split
      · rfl
      · exact digR_bad (by rw [List.all_cons, hc] at h; simpa using h)
    · rfl
theorem digits0_any (w : World) (s : ByteArray) (hs : s.size ≤ 100000) : Calls Tryd.prog 42 #[.int .i64 0, .string s] w fun e w' => e = .returned (digV 0 s.data.toList) ∧ w = w' := digits_any w 0 s (by decide) hs
theorem wrap_neg {u : Nat} (h : Under15 u) : wrap64 (-(u : Int)) = -(u : Int) := by
  unfold Under15 at h
  unfold wrap64; omega
def strSize (v : Value) : Nat := match v with
  | .string s => s.size
  | _ => 0
theorem trimR_snoc (l : List UInt8) (c : UInt8) : Lib.trimRightB (l ++ [c]) 48 = if c = 48 then Lib.trimRightB l 48 else l ++ [c] := by
  unfold Lib.trimRightB
  rw [List.reverse_append, List.reverse_singleton, List.singleton_append, List.dropWhile_cons]
  by_cases h : c = 48
  · subst h; simp
  · simp [h]
theorem last_split (z : ByteArray) (h : 0 < z.size) : z.data.toList = (z.extract 0 (z.size - 1)).data.toList ++ [z[z.size - 1]] := by
  rw [ba_extract _ _ (by omega)]
  have e : z[z.size - 1] = z.data.toList[z.size - 1]'(by simp; omega) := rfl
  rw [e, ← List.take_succ_eq_append_getElem, List.take_of_length_le (by simp; omega)]
theorem take_stop {p : UInt8 → Bool} {l : List UInt8} {j : Nat} (h : (l.take j).all p = true) (h2 : l.drop j = [] ∨ ∃ c r, l.drop j = c :: r ∧ p c = false) : l.take j = l.takeWhile p := by
  conv => rhs; rw [← List.take_append_drop j l]
  rw [List.takeWhile_append_of_pos (fun x hx => List.all_eq_true.1 h x hx)]
  rcases h2 with h2 | ⟨c, r, h2, hc⟩
  · rw [h2]; simp
  · rw [h2, List.takeWhile_cons, hc]; simp
theorem drop_stop {p : UInt8 → Bool} {l : List UInt8} {j : Nat} (h : (l.take j).all p = true) (h2 : l.drop j = [] ∨ ∃ c r, l.drop j = c :: r ∧ p c = false) : l.dropWhile p = l.drop j := by
  conv => lhs; rw [← List.take_append_drop j l]
  rw [List.dropWhile_append_of_pos (fun x hx => List.all_eq_true.1 h x hx)]
  rcases h2 with h2 | ⟨c, r, h2, hc⟩
  · rw [h2]; simp
  · rw [h2, List.dropWhile_cons, hc]; simp
theorem sign_len (l : List UInt8) : (signR l).2.length ≤ l.length := by
  unfold signR
  cases l with
  | nil => exact Nat.le_refl _
  | cons c r => simp only; split <;> simp

set_option maxHeartbeats 4000000 in
theorem rparse_any (s : ByteArray) (w : World) (hs : s.size ≤ 400) : Calls Tryd.prog 29 #[.string s] w fun e w' => e = .returned (ansR (signR s.data.toList).1 (bodyR (signR s.data.toList).2)) ∧ Below w.heap.size w w' := by
  obtain ⟨V, hV⟩ : ∃ V, V = ansR (signR s.data.toList).1 (bodyR (signR s.data.toList).2) := ⟨_, rfl⟩
  rw [← hV]
  have HV := Lib.hid hV
  clear hV
  have HD0 := Lib.hid (show DecB (w.alloc (.cells #[.int .i64 0, .int .i64 0] 43)) w.heap.size 0 0 from DecB.new w 0 0 _)
  have HB0 := Lib.hid (show Below w.heap.size w (w.alloc (.cells #[.int .i64 0, .int .i64 0] 43)) from (Below.refl _ _).alloc (Nat.le_refl _) _)
  obtain ⟨b0, hb0⟩ : ∃ b0 : Bool, b0 = decide (s.data.toList.head? = some 43 ∨ s.data.toList.head? = some 45) := ⟨_, rfl⟩
  have HB := Lib.hid hb0
  clear hb0
  go_enter Tryd.func29, Tryd.ntmps29
  go_upto_region 2 with fail
  generalize World.alloc w _ = w1 at HD0 HB0 ⊢
  go_cut [22] from 10 to 22 (fun s22 wx => s22 = .bool b0 ∧ wx = w1)
  case first =>
    cases hl : s.data.toList with
    | nil =>
      have hz : s.size = 0 := by rw [Lib.size_eq, hl]; rfl
      have hz2 : ¬ 0 < s.size := by omega
      have e : b0 = false := by rw [HB.out, hl]; rfl
      subst e
      clear hl hz
      go_wp2_with fail
      go_meet
      exact ⟨rfl, rfl⟩
    | cons c r =>
      have hz : 0 < s.size := by rw [Lib.size_eq, hl]; simp
      have hc0 : s[0] = c := by
        have : s[0] = s.data.toList[0]'(by rw [hl]; simp) := rfl
        rw [this]; simp [hl]
      by_cases h43 : c.toNat = 43
      · have t0 : (((s[0]).toNat : Int) == 43) = true := by rw [hc0, h43]; rfl
        have e : b0 = true := by rw [HB.out, hl, show c = 43 from UInt8.toNat_inj.1 h43]; rfl
        subst e
        clear hl h43 hc0
        go_wp2_with fail
        go_meet
        exact ⟨rfl, rfl⟩
      · have t0 : (((s[0]).toNat : Int) == 43) = false := by rw [hc0]; simpa using (show ¬ (c.toNat : Int) = 43 by omega)
        by_cases h45 : c.toNat = 45
        · have t1 : (((s[0]).toNat : Int) == 45) = true := by rw [hc0, h45]; rfl
          have e : b0 = true := by rw [HB.out, hl, show c = 45 from UInt8.toNat_inj.1 h45]; rfl
          subst e
          clear hl h43 h45 hc0
          go_wp2_with fail
          go_meet
          exact ⟨rfl, rfl⟩
        · have t1 : (((s[0]).toNat : Int) == 45) = false := by rw [hc0]; simpa using (show ¬ (c.toNat : Int) = 45 by omega)
          have e : b0 = false := by
            rw [HB.out, hl]
            have g1 : ¬ c = 43 := fun e => h43 (by rw [e]; rfl)
            have g2 : ¬ c = 45 := fun e => h45 (by rw [e]; rfl)
            simp [g1, g2]
          subst e
          clear hl h43 h45 hc0
          go_wp2_with fail
          go_meet
          exact ⟨rfl, rfl⟩
  case rest =>
    obtain ⟨rfl, rfl⟩ := hcut
    obtain ⟨y, b, hyb⟩ : ∃ (y : ByteArray) (b : Bool), y.data.toList = (signR s.data.toList).2 ∧ b = (signR s.data.toList).1 ∧ y.size ≤ s.size ∧ (b0 = false → y = s ∧ b = false) ∧ (b0 = true → y = s.extract 1 s.size ∧ 1 ≤ s.size ∧ ∃ h : 0 < s.size, b = (((s[0]).toNat : Int) == 45)) := by
      cases hl : s.data.toList with
      | nil =>
        have e : b0 = false := by rw [HB.out, hl]; rfl
        exact ⟨s, false, hl, rfl, Nat.le_refl _, fun _ => ⟨rfl, rfl⟩, fun h => by rw [e] at h; cases h⟩
      | cons c r =>
        have hz : 0 < s.size := by rw [Lib.size_eq, hl]; simp
        have hc0 : s[0] = c := by
          have : s[0] = s.data.toList[0]'(by rw [hl]; simp) := rfl
          rw [this]; simp [hl]
        by_cases h : c = 43 ∨ c = 45
        · have e : b0 = true := by rw [HB.out, hl]; rcases h with rfl | rfl <;> rfl
          refine ⟨s.extract 1 s.size, (((s[0]).toNat : Int) == 45), ?_, ?_, ?_, (fun h => by rw [e] at h; cases h), fun _ => ⟨rfl, hz, hz, rfl⟩⟩
          · rw [ba_drop _ _ hz, hl]; unfold signR; simp only [if_pos h]; rfl
          · unfold signR; simp only [if_pos h]; rw [hc0]
            rcases h with rfl | rfl <;> decide
          · rw [Lib.size_eq, ba_drop _ _ hz, Lib.size_eq]; simp
        · have e : b0 = false := by
            rw [HB.out, hl]
            have g : ¬ c = 43 ∧ ¬ c = 45 := ⟨fun x => h (.inl x), fun x => h (.inr x)⟩
            simp [g.1, g.2]
          refine ⟨s, false, ?_, ?_, Nat.le_refl _, fun _ => ⟨rfl, rfl⟩, fun h => by rw [e] at h; cases h⟩
          · rw [hl]; unfold signR; simp only [if_neg h]
          · unfold signR; simp only [if_neg h]
    have HY := Lib.hid hyb
    clear hyb
    go_upto_if 22 with fail
    go_cut [0, 4] from 23 to 27 (fun s0 s4 wx => s0 = .string y ∧ s4 = .bool b ∧ DecB wx w.heap.size 0 0 ∧ Below w.heap.size w wx)
    case first =>
      cases b0
      · have HE := Lib.hid (HY.out.2.2.2.1 rfl)
        go_wp2_with fail
        go_meet
        exact ⟨by rw [HE.out.1], by rw [HE.out.2], HD0.out, HB0.out⟩
      · obtain ⟨hy1, hz, hz0, hb⟩ := HY.out.2.2.2.2 rfl
        have HE := Lib.hid (And.intro hy1 hb)
        clear hy1 hb
        go_wp2_with fail
        go_quiet (fail)
        go_wp2_with fail
        go_meet
        exact ⟨by rw [HE.out.1], by rw [HE.out.2], HD0.out.below (drewN_below _ _), HB0.out.trans ((drewN_below _ _).mono HB0.out.size)⟩
    case rest =>
      obtain ⟨rfl, rfl, hD1, hB1⟩ := hcut
      have HC := Lib.hid (And.intro hD1 hB1)
      have hys : y.size ≤ 400 := by have := HY.out.2.2.1; omega
      clear hD1 hB1
      go_wp2_with fail
      go_loop [5] (fun v => ∃ j : Nat, v = .int .i64 (j : Int) ∧ j ≤ y.size ∧ (y.data.toList.take j).all dotN = true) (fun v => y.size - (intOf v).toNat)
      case atStart => exact ⟨0, rfl, Nat.zero_le _, rfl⟩
      case round =>
        obtain ⟨j, rfl, hj, hD⟩ := hrel
        have HJ := Lib.hid hD
        clear hD
        by_cases hlt : j < y.size
        · have hdc := drop_cons y j hlt
          by_cases h46 : y[j].toNat = 46
          · have t0 : (((y[j]).toNat : Int) != 46) = false := by simp [h46]
            obtain ⟨wh, hwh⟩ : ∃ wh : ByteArray, wh = y.extract 0 j := ⟨_, rfl⟩
            obtain ⟨q, hq⟩ : ∃ q : ByteArray, q = y.extract (j + 1) y.size := ⟨_, rfl⟩
            have hwl : wh.data.toList = y.data.toList.takeWhile dotN := by
              rw [hwh, ba_extract _ _ hj]
              exact take_stop HJ.out (by rw [hdc]; exact .inr ⟨y[j], _, rfl, by simp [dotN, UInt8.toNat_inj.1 (show y[j].toNat = (46 : UInt8).toNat from h46)]⟩)
            have hql : q.data.toList = y.data.toList.drop (j + 1) := by rw [hq, ba_drop _ _ hlt]
            have hdl : y.data.toList.dropWhile dotN = y[j] :: q.data.toList := by
              rw [drop_stop HJ.out (by rw [hdc]; exact .inr ⟨y[j], _, rfl, by simp [dotN, UInt8.toNat_inj.1 (show y[j].toNat = (46 : UInt8).toNat from h46)]⟩), hdc, hql]
            have HWH := Lib.hid (show wh.data.toList = y.data.toList.takeWhile dotN ∧ wh.size ≤ 400 from ⟨hwl, by
              rw [Lib.size_eq, hwl]; have := take_len dotN y.data.toList; rw [← Lib.size_eq] at this; have := HY.out.2.2.1; omega⟩)
            have hqs : q.size ≤ 400 := by
              rw [Lib.size_eq, hql, List.length_drop, ← Lib.size_eq]; have := HY.out.2.2.1; omega
            have HDL := Lib.hid hdl
            by_cases hq0 : q.data.toList = []
            · have HV0 := Lib.hid (show V = overV by
                rw [HV.out, ← HY.out.1]; unfold bodyR; rw [HDL.out]; simp only [if_pos hq0]; rfl)
              have s1 : q.toList = [] := by rw [Lib.toList_data]; exact hq0
              have s2 : q.toList.isEmpty = true := by rw [s1]; rfl
              rw [hq] at s1 s2
              have hj1 : j + 1 ≤ y.size := hlt
              obtain ⟨c0, c1, c2, c3, c4⟩ := HC.out.1
              clear hdc h46 hwh hq hwl hql hdl hq0
              go_wp2_with fail
              exact bodyPost_ret (v := .tuple #[.agg #[.int .i64 0, .int .i64 0], .bool false]) (by simp [results, Tryd.results29, go_sem, HC.out.1.1, HC.out.1.2.1, HC.out.1.2.2.1]) rfl ⟨by rw [HV0.out]; rfl, (HC.out.2.setCell (Nat.le_refl _) _).setCell (Nat.le_refl _) _⟩
            · have HQ0 := Lib.hid hq0
              have s1 : ¬ q.toList = [] := by rw [Lib.toList_data]; exact hq0
              have s2 : q.toList.isEmpty = false := by rw [Lib.toList_data]; simpa using hq0
              have HQQ := Lib.hid hq
              rw [hq] at s1 s2
              have HWQ := Lib.hid hwh
              have hj1 : j + 1 ≤ y.size := hlt
              clear hdc h46 hwh hq hwl hql hdl hq0
              go_wp2_with fail
              rw [← HQQ.out, ← HWQ.out]
              go_loop [7] (fun v => ∃ z : ByteArray, v = .string z ∧ z.size ≤ 400 ∧ Lib.trimRightB z.data.toList 48 = Lib.trimRightB q.data.toList 48) (fun v => strSize v)
              case atStart => exact ⟨q, rfl, hqs, rfl⟩
              case round =>
                obtain ⟨z, rfl, hz, hzt⟩ := hrel
                have HZT := Lib.hid hzt
                clear hzt
                have HZL := Lib.hid hz
                by_cases hz0 : 0 < z.size
                · have hsp := last_split z hz0
                  by_cases hz48 : z[z.size - 1].toNat = 48
                  · have g0 : (((z[z.size - 1]).toNat : Int) == 48) = true := by simp [hz48]
                    have HN := Lib.hid (show Lib.trimRightB (z.extract 0 (z.size - 1)).data.toList 48 = Lib.trimRightB q.data.toList 48 by
                      rw [← HZT.out]; conv => rhs; rw [hsp]
                      rw [trimR_snoc, if_pos (UInt8.toNat_inj.1 (show z[z.size - 1].toNat = (48 : UInt8).toNat from hz48))])
                    have HZX := Lib.hid (show (z.extract 0 (z.size - 1)).size < z.size by rw [Lib.size_eq, ba_extract _ _ (by omega), List.length_take]; omega)
                    clear hsp hz48
                    go_wp2_with fail
                    exact ⟨⟨_, rfl, by have := HZX.out; omega, HN.out⟩, HZX.out⟩
                  · have g0 : (((z[z.size - 1]).toNat : Int) == 48) = false := by simpa using (show ¬ (z[z.size - 1].toNat : Int) = 48 by omega)
                    have hzt : Lib.trimRightB q.data.toList 48 = z.data.toList := by
                      rw [← HZT.out, hsp, trimR_snoc, if_neg (fun e => hz48 (by rw [e]; rfl))]
                    have HT := Lib.hid (show V = ansR b (tailR wh.data.toList z.data.toList) by
                      rw [HV.out, ← HY.out.1, ← HY.out.2.1]; unfold bodyR; rw [HDL.out]; simp only [if_neg HQ0.out]; rw [hzt, HWH.out.1])
                    have HZN := Lib.hid (show ¬ z.data.toList = [] from fun e => by rw [Lib.size_eq, e] at hz0; exact absurd hz0 (by decide))
                    clear hsp hz48 hzt HQ0 HQQ HWQ HDL
                    have hwz : wh.size ≤ 400 := HWH.out.2
                    have HDG := Lib.hid (fun w => digits0_any w wh (by omega))
                    clear hwz
                    cases hd : digR 0 wh.data.toList with
                    | none =>
                      have HV0 := Lib.hid (show V = overV by rw [HT.out]; unfold tailR; rw [hd]; rfl)
                      rw [show digV 0 wh.data.toList = .tuple #[.int .i64 0, .bool false] by unfold digV; rw [hd]] at HDG
                      obtain ⟨c0, c1, c2, c3, c4⟩ := HC.out.1
                      clear hd
                      go_wp2_with (go_at_call 42; (with_reducible refine (HDG.out _).mono ?_); rintro e w' ⟨rfl, rfl⟩)
                      exact bodyPost_ret (v := .tuple #[.agg #[.int .i64 0, .int .i64 0], .bool false]) (by simp [results, Tryd.results29, go_sem, HC.out.1.1, HC.out.1.2.1, HC.out.1.2.2.1]) rfl ⟨by rw [HV0.out]; rfl, (HC.out.2.setCell (Nat.le_refl _) _).setCell (Nat.le_refl _) _⟩
                    | some v =>
                      have HDV := Lib.hid hd
                      rw [show digV 0 wh.data.toList = .tuple #[.int .i64 (v : Int), .bool (!wh.data.toList.isEmpty)] by unfold digV; rw [hd]] at HDG
                      have hvb : v < 1000000000000000 := digR_lt (by decide) hd
                      have HVB := Lib.hid (show Under15 v from hvb)
                      clear hd
                      cases hwe : wh.data.toList.isEmpty with
                      | true =>
                        rw [hwe] at HDG
                        have HWE := Lib.hid (List.isEmpty_iff.1 hwe)
                        have HV0 := Lib.hid (show V = overV by rw [HT.out]; unfold tailR; rw [HDV.out]; simp only [if_pos HWE.out]; rfl)
                        obtain ⟨c0, c1, c2, c3, c4⟩ := HC.out.1
                        clear hwe hvb
                        go_wp2_with (go_at_call 42; (with_reducible refine (HDG.out _).mono ?_); rintro e w' ⟨rfl, rfl⟩)
                        exact bodyPost_ret (v := .tuple #[.agg #[.int .i64 0, .int .i64 0], .bool false]) (by simp [results, Tryd.results29, go_sem, HC.out.1.1, HC.out.1.2.1, HC.out.1.2.2.1]) rfl ⟨by rw [HV0.out]; rfl, (HC.out.2.setCell (Nat.le_refl _) _).setCell (Nat.le_refl _) _⟩
                      | false =>
                        rw [hwe] at HDG
                        have HWE := Lib.hid (show ¬ wh.data.toList = [] from fun e => by rw [e] at hwe; cases hwe)
                        clear hwe
                        have hz0 : ¬ z.data.toList = [] := HZN.out
                        have zs1 : ¬ z.toList = [] := by rw [Lib.toList_data]; exact hz0
                        have zs2 : z.toList.isEmpty = false := by rw [Lib.toList_data]; simpa using hz0
                        have HZ0 := Lib.hid hz0
                        have hzz : z.size ≤ 400 := HZL.out
                        have HON := Lib.hid (fun w => only_any w z (by omega))
                        have HDZ := Lib.hid (fun w => digits_any w v z hvb (by omega))
                        clear hz0 hzz
                        obtain ⟨qb, hqb⟩ : ∃ qb : Bool, qb = z.data.toList.all digC := ⟨_, rfl⟩
                        rw [← hqb] at HON
                        have HQB := Lib.hid hqb
                        clear hqb
                        obtain ⟨c0, c1, c2, c3, c4⟩ := HC.out.1
                        by_cases h6 : 6 < z.size
                        · have h6i : (6 : Int) < (z.size : Int) := by omega
                          cases qb
                          · have HDN := Lib.hid (digR_bad (n := v) HQB.out.symm)
                            rw [show digV v z.data.toList = .tuple #[.int .i64 0, .bool false] by unfold digV; rw [HDN.out]] at HDZ
                            have HV0 := Lib.hid (show V = overV by rw [HT.out]; unfold tailR; rw [HDV.out]; simp only [if_neg HWE.out]; rw [if_neg (by rw [← HQB.out]; simp)]; simp only [if_neg HZ0.out, HDN.out]; rfl)
                            clear hvb
                            go_wp2_with (first | (go_at_call 42; (first | (with_reducible refine (HDG.out _).mono ?_) | (with_reducible refine (HDZ.out _).mono ?_)); rintro e w' ⟨rfl, rfl⟩) | (go_at_call 43; (with_reducible refine (HON.out _).mono ?_); rintro e w' ⟨rfl, rfl⟩))
                            exact bodyPost_ret (v := .tuple #[.agg #[.int .i64 0, .int .i64 0], .bool false]) (by simp [results, Tryd.results29, go_sem, HC.out.1.1, HC.out.1.2.1, HC.out.1.2.2.1]) rfl ⟨by rw [HV0.out]; rfl, (HC.out.2.setCell (Nat.le_refl _) _).setCell (Nat.le_refl _) _⟩
                          · have HV0 := Lib.hid (show V = overV by rw [HT.out]; unfold tailR; rw [HDV.out]; simp only [if_neg HWE.out]; rw [if_pos ⟨by rw [← Lib.size_eq]; exact h6, HQB.out.symm⟩]; rfl)
                            clear hvb
                            go_wp2_with (first | (go_at_call 42; (first | (with_reducible refine (HDG.out _).mono ?_) | (with_reducible refine (HDZ.out _).mono ?_)); rintro e w' ⟨rfl, rfl⟩) | (go_at_call 43; (with_reducible refine (HON.out _).mono ?_); rintro e w' ⟨rfl, rfl⟩))
                            exact bodyPost_ret (v := .tuple #[.agg #[.int .i64 0, .int .i64 0], .bool false]) (by simp [results, Tryd.results29, go_sem, HC.out.1.1, HC.out.1.2.1, HC.out.1.2.2.1]) rfl ⟨by rw [HV0.out]; rfl, (HC.out.2.setCell (Nat.le_refl _) _).setCell (Nat.le_refl _) _⟩
                        · have h6i : ¬ (6 : Int) < (z.size : Int) := by omega
                          cases hd2 : digR v z.data.toList with
                          | none =>
                            rw [show digV v z.data.toList = .tuple #[.int .i64 0, .bool false] by unfold digV; rw [hd2]] at HDZ
                            have HDN := Lib.hid hd2
                            have HV0 := Lib.hid (show V = overV by rw [HT.out]; unfold tailR; rw [HDV.out]; simp only [if_neg HWE.out]; rw [if_neg (fun h => h6 (by rw [Lib.size_eq]; exact h.1))]; simp only [if_neg HZ0.out, HDN.out]; rfl)
                            clear hvb hd2
                            go_wp2_with (first | (go_at_call 42; (first | (with_reducible refine (HDG.out _).mono ?_) | (with_reducible refine (HDZ.out _).mono ?_)); rintro e w' ⟨rfl, rfl⟩))
                            exact bodyPost_ret (v := .tuple #[.agg #[.int .i64 0, .int .i64 0], .bool false]) (by simp [results, Tryd.results29, go_sem, HC.out.1.1, HC.out.1.2.1, HC.out.1.2.2.1]) rfl ⟨by rw [HV0.out]; rfl, (HC.out.2.setCell (Nat.le_refl _) _).setCell (Nat.le_refl _) _⟩
                          | some u =>
                            have hze : z.data.toList.isEmpty = false := by simpa using HZ0.out
                            rw [show digV v z.data.toList = .tuple #[.int .i64 (u : Int), .bool true] by unfold digV; rw [hd2, hze]; rfl] at HDZ
                            have HDN := Lib.hid hd2
                            have HUB := Lib.hid (show Under15 u from digR_lt hvb hd2)
                            clear hvb hd2 hze
                            cases b
                            · have HNM := Lib.hid (fun w => norm_any w (((u : Nat) : Int)) (z.data.toList.length) (by have := HUB.out; unfold Under15 at this; omega) (by have := HZL.out; rw [Lib.size_eq] at this; omega))
                              have HVN := Lib.hid (show V = decP (nrm (((u : Nat) : Int)) (z.data.toList.length)) by rw [HT.out]; unfold tailR; rw [HDV.out]; simp only [if_neg HWE.out]; rw [if_neg (fun h => h6 (by rw [Lib.size_eq]; exact h.1))]; simp only [if_neg HZ0.out, HDN.out]; rfl)
                              rw [← HVN.out] at HNM
                              obtain ⟨vm, vs, vb, hv⟩ := ansR_cases HV.out
                              rw [hv] at HNM
                              have HVT := Lib.hid hv
                              have hu9 : wrap64 (-((u : Nat) : Int)) = -((u : Nat) : Int) := wrap_neg (HUB.out)
                              clear hv
                              rw [← Lib.size_eq] at HNM
                              go_wp2_with (first | (go_at_call 42; (first | (with_reducible refine (HDG.out _).mono ?_) | (with_reducible refine (HDZ.out _).mono ?_)); rintro e w' ⟨rfl, rfl⟩))
                              (with_reducible refine (HNM.out _).mono ?_)
                              rintro e w8 ⟨rfl, hb8⟩
                              have HB8 := Lib.hid (HC.out.2.trans (hb8.mono HC.out.2.size))
                              obtain ⟨q0, q1, q2, q3, q4⟩ := HC.out.1.below hb8
                              clear hb8
                              go_wp2_with fail
                              exact bodyPost_ret (v := .tuple #[.agg #[.int .i64 vm, .int .i64 vs], .bool vb]) (by simp [results, Tryd.results29, go_sem, q0, q1, q2]) rfl ⟨by rw [HVT.out], (HB8.out.setCell (Nat.le_refl _) _).setCell (Nat.le_refl _) _⟩
                            · have HNM := Lib.hid (fun w => norm_any w ((-((u : Nat) : Int))) (z.data.toList.length) (by have := HUB.out; unfold Under15 at this; omega) (by have := HZL.out; rw [Lib.size_eq] at this; omega))
                              have HVN := Lib.hid (show V = decP (nrm ((-((u : Nat) : Int))) (z.data.toList.length)) by rw [HT.out]; unfold tailR; rw [HDV.out]; simp only [if_neg HWE.out]; rw [if_neg (fun h => h6 (by rw [Lib.size_eq]; exact h.1))]; simp only [if_neg HZ0.out, HDN.out]; rfl)
                              rw [← HVN.out] at HNM
                              obtain ⟨vm, vs, vb, hv⟩ := ansR_cases HV.out
                              rw [hv] at HNM
                              have HVT := Lib.hid hv
                              have hu9 : wrap64 (-((u : Nat) : Int)) = -((u : Nat) : Int) := wrap_neg (HUB.out)
                              clear hv
                              rw [← Lib.size_eq] at HNM
                              go_wp2_with (first | (go_at_call 42; (first | (with_reducible refine (HDG.out _).mono ?_) | (with_reducible refine (HDZ.out _).mono ?_)); rintro e w' ⟨rfl, rfl⟩))
                              (with_reducible refine (HNM.out _).mono ?_)
                              rintro e w8 ⟨rfl, hb8⟩
                              have HB8 := Lib.hid (HC.out.2.trans (hb8.mono HC.out.2.size))
                              obtain ⟨q0, q1, q2, q3, q4⟩ := HC.out.1.below hb8
                              clear hb8
                              go_wp2_with fail
                              exact bodyPost_ret (v := .tuple #[.agg #[.int .i64 vm, .int .i64 vs], .bool vb]) (by simp [results, Tryd.results29, go_sem, q0, q1, q2]) rfl ⟨by rw [HVT.out], (HB8.out.setCell (Nat.le_refl _) _).setCell (Nat.le_refl _) _⟩
                · have hze : z.size = 0 := by omega
                  have hzl : z.data.toList = [] := by
                    have := Lib.size_eq z
                    rw [hze] at this
                    exact List.eq_nil_of_length_eq_zero this.symm
                  have hzt : Lib.trimRightB q.data.toList 48 = [] := by
                    rw [← HZT.out, hzl]; rfl
                  have HT := Lib.hid (show V = ansR b (tailR wh.data.toList z.data.toList) by
                    rw [HV.out, ← HY.out.1, ← HY.out.2.1]; unfold bodyR; rw [HDL.out]; simp only [if_neg HQ0.out]; rw [hzt, HWH.out.1, hzl])
                  clear hzt HQ0 HQQ HWQ HDL
                  have hwz : wh.size ≤ 400 := HWH.out.2
                  have HDG := Lib.hid (fun w => digits0_any w wh (by omega))
                  clear hwz
                  cases hd : digR 0 wh.data.toList with
                  | none =>
                    have HV0 := Lib.hid (show V = overV by rw [HT.out]; unfold tailR; rw [hd]; rfl)
                    rw [show digV 0 wh.data.toList = .tuple #[.int .i64 0, .bool false] by unfold digV; rw [hd]] at HDG
                    obtain ⟨c0, c1, c2, c3, c4⟩ := HC.out.1
                    clear hd
                    go_wp2_with (go_at_call 42; (with_reducible refine (HDG.out _).mono ?_); rintro e w' ⟨rfl, rfl⟩)
                    exact bodyPost_ret (v := .tuple #[.agg #[.int .i64 0, .int .i64 0], .bool false]) (by simp [results, Tryd.results29, go_sem, HC.out.1.1, HC.out.1.2.1, HC.out.1.2.2.1]) rfl ⟨by rw [HV0.out]; rfl, (HC.out.2.setCell (Nat.le_refl _) _).setCell (Nat.le_refl _) _⟩
                  | some v =>
                    have HDV := Lib.hid hd
                    rw [show digV 0 wh.data.toList = .tuple #[.int .i64 (v : Int), .bool (!wh.data.toList.isEmpty)] by unfold digV; rw [hd]] at HDG
                    have hvb : v < 1000000000000000 := digR_lt (by decide) hd
                    have HVB := Lib.hid (show Under15 v from hvb)
                    clear hd
                    cases hwe : wh.data.toList.isEmpty with
                    | true =>
                      rw [hwe] at HDG
                      have HWE := Lib.hid (List.isEmpty_iff.1 hwe)
                      have HV0 := Lib.hid (show V = overV by rw [HT.out]; unfold tailR; rw [HDV.out]; simp only [if_pos HWE.out]; rfl)
                      obtain ⟨c0, c1, c2, c3, c4⟩ := HC.out.1
                      clear hwe hvb
                      go_wp2_with (go_at_call 42; (with_reducible refine (HDG.out _).mono ?_); rintro e w' ⟨rfl, rfl⟩)
                      exact bodyPost_ret (v := .tuple #[.agg #[.int .i64 0, .int .i64 0], .bool false]) (by simp [results, Tryd.results29, go_sem, HC.out.1.1, HC.out.1.2.1, HC.out.1.2.2.1]) rfl ⟨by rw [HV0.out]; rfl, (HC.out.2.setCell (Nat.le_refl _) _).setCell (Nat.le_refl _) _⟩
                    | false =>
                      rw [hwe] at HDG
                      have HWE := Lib.hid (show ¬ wh.data.toList = [] from fun e => by rw [e] at hwe; cases hwe)
                      clear hwe
                      have zs1 : z.toList = [] := by rw [Lib.toList_data]; exact hzl
                      have zs2 : z.toList.isEmpty = true := by rw [zs1]; rfl
                      have zs3 : z.size = 0 := by exact hze
                      have zs4 : ¬ (6 : Int) < (z.size : Int) := by omega
                      have HZ0 := Lib.hid hzl
                      clear hzl hze
                      obtain ⟨c0, c1, c2, c3, c4⟩ := HC.out.1
                      cases b
                      · have HNM := Lib.hid (fun w => norm_any w (((v : Nat) : Int)) (0) (by have := HVB.out; unfold Under15 at this; omega) (by decide))
                        have HVN := Lib.hid (show V = decP (nrm (((v : Nat) : Int)) (0)) by rw [HT.out]; unfold tailR; rw [HDV.out]; simp only [if_neg HWE.out]; rw [if_neg (fun h => by rw [HZ0.out] at h; exact absurd h.1 (by decide))]; simp only [if_pos HZ0.out]; rfl)
                        rw [← HVN.out] at HNM
                        obtain ⟨vm, vs, vb, hv⟩ := ansR_cases HV.out
                        rw [hv] at HNM
                        have HVT := Lib.hid hv
                        have hu9 : wrap64 (-((v : Nat) : Int)) = -((v : Nat) : Int) := wrap_neg (HVB.out)
                        clear hv hvb
                        rw [show ((0 : Nat) : Int) = 0 from rfl] at HNM
                        go_wp2_with (go_at_call 42; (with_reducible refine (HDG.out _).mono ?_); rintro e w' ⟨rfl, rfl⟩)
                        (with_reducible refine (HNM.out _).mono ?_)
                        rintro e w8 ⟨rfl, hb8⟩
                        have HB8 := Lib.hid (HC.out.2.trans (hb8.mono HC.out.2.size))
                        obtain ⟨q0, q1, q2, q3, q4⟩ := HC.out.1.below hb8
                        clear hb8
                        go_wp2_with fail
                        exact bodyPost_ret (v := .tuple #[.agg #[.int .i64 vm, .int .i64 vs], .bool vb]) (by simp [results, Tryd.results29, go_sem, q0, q1, q2]) rfl ⟨by rw [HVT.out], (HB8.out.setCell (Nat.le_refl _) _).setCell (Nat.le_refl _) _⟩
                      · have HNM := Lib.hid (fun w => norm_any w ((-((v : Nat) : Int))) (0) (by have := HVB.out; unfold Under15 at this; omega) (by decide))
                        have HVN := Lib.hid (show V = decP (nrm ((-((v : Nat) : Int))) (0)) by rw [HT.out]; unfold tailR; rw [HDV.out]; simp only [if_neg HWE.out]; rw [if_neg (fun h => by rw [HZ0.out] at h; exact absurd h.1 (by decide))]; simp only [if_pos HZ0.out]; rfl)
                        rw [← HVN.out] at HNM
                        obtain ⟨vm, vs, vb, hv⟩ := ansR_cases HV.out
                        rw [hv] at HNM
                        have HVT := Lib.hid hv
                        have hu9 : wrap64 (-((v : Nat) : Int)) = -((v : Nat) : Int) := wrap_neg (HVB.out)
                        clear hv hvb
                        rw [show ((0 : Nat) : Int) = 0 from rfl] at HNM
                        go_wp2_with (go_at_call 42; (with_reducible refine (HDG.out _).mono ?_); rintro e w' ⟨rfl, rfl⟩)
                        (with_reducible refine (HNM.out _).mono ?_)
                        rintro e w8 ⟨rfl, hb8⟩
                        have HB8 := Lib.hid (HC.out.2.trans (hb8.mono HC.out.2.size))
                        obtain ⟨q0, q1, q2, q3, q4⟩ := HC.out.1.below hb8
                        clear hb8
                        go_wp2_with fail
                        exact bodyPost_ret (v := .tuple #[.agg #[.int .i64 vm, .int .i64 vs], .bool vb]) (by simp [results, Tryd.results29, go_sem, q0, q1, q2]) rfl ⟨by rw [HVT.out], (HB8.out.setCell (Nat.le_refl _) _).setCell (Nat.le_refl _) _⟩
          · have t0 : (((y[j]).toNat : Int) != 46) = true := by simpa using (show ¬ (y[j].toNat : Int) = 46 by omega)
            have HN := Lib.hid (show (y.data.toList.take (j + 1)).all dotN = true by
              rw [List.take_succ_eq_append_getElem (by simpa using hlt), List.all_append, HJ.out]
              have : dotN y[j] = true := by
                unfold dotN
                rw [bne_iff_ne]
                intro e
                exact h46 (by rw [e]; rfl)
              show (true && (dotN y[j] && true)) = true
              rw [this]; rfl)
            clear hdc h46
            go_wp2_with fail
            exact ⟨⟨j + 1, by go_num, hlt, HN.out⟩, by simp [intOf]; omega⟩
        · have hje : j = y.size := by omega
          obtain ⟨wh, hwh⟩ : ∃ wh : ByteArray, wh = y := ⟨_, rfl⟩
          obtain ⟨z, hz⟩ : ∃ z : ByteArray, z = ⟨#[]⟩ := ⟨_, rfl⟩
          have hnil : y.data.toList.drop j = [] := List.drop_eq_nil_of_le (by simp; omega)
          have hwl : wh.data.toList = y.data.toList.takeWhile dotN := by
            have := take_stop HJ.out (.inl hnil)
            rw [List.take_of_length_le (by simp; omega)] at this
            rw [hwh]; exact this
          have hdl : y.data.toList.dropWhile dotN = [] := by
            rw [drop_stop HJ.out (.inl hnil), hnil]
          have HWH := Lib.hid (show wh.data.toList = y.data.toList.takeWhile dotN ∧ wh.size ≤ 400 from ⟨hwl, by
            rw [Lib.size_eq, hwl]; have := take_len dotN y.data.toList; rw [← Lib.size_eq] at this; omega⟩)
          have hzl : z.data.toList = [] := by rw [hz]
          have hze : z.size = 0 := by rw [hz]; rfl
          have HT := Lib.hid (show V = ansR b (tailR wh.data.toList z.data.toList) by
            rw [HV.out, ← HY.out.1, ← HY.out.2.1]; unfold bodyR; rw [hdl, HWH.out.1, hzl])
          have HWQ := Lib.hid hwh
          have HZQ := Lib.hid hz
          clear hwh hnil hwl hdl hz
          go_upto_region 14 with fail
          rw [← HZQ.out, ← HWQ.out]
          have hwz : wh.size ≤ 400 := HWH.out.2
          have HDG := Lib.hid (fun w => digits0_any w wh (by omega))
          clear hwz
          cases hd : digR 0 wh.data.toList with
          | none =>
            have HV0 := Lib.hid (show V = overV by rw [HT.out]; unfold tailR; rw [hd]; rfl)
            rw [show digV 0 wh.data.toList = .tuple #[.int .i64 0, .bool false] by unfold digV; rw [hd]] at HDG
            obtain ⟨c0, c1, c2, c3, c4⟩ := HC.out.1
            clear hd
            go_wp2_with (go_at_call 42; (with_reducible refine (HDG.out _).mono ?_); rintro e w' ⟨rfl, rfl⟩)
            exact bodyPost_ret (v := .tuple #[.agg #[.int .i64 0, .int .i64 0], .bool false]) (by simp [results, Tryd.results29, go_sem, HC.out.1.1, HC.out.1.2.1, HC.out.1.2.2.1]) rfl ⟨by rw [HV0.out]; rfl, (HC.out.2.setCell (Nat.le_refl _) _).setCell (Nat.le_refl _) _⟩
          | some v =>
            have HDV := Lib.hid hd
            rw [show digV 0 wh.data.toList = .tuple #[.int .i64 (v : Int), .bool (!wh.data.toList.isEmpty)] by unfold digV; rw [hd]] at HDG
            have hvb : v < 1000000000000000 := digR_lt (by decide) hd
            have HVB := Lib.hid (show Under15 v from hvb)
            clear hd
            cases hwe : wh.data.toList.isEmpty with
            | true =>
              rw [hwe] at HDG
              have HWE := Lib.hid (List.isEmpty_iff.1 hwe)
              have HV0 := Lib.hid (show V = overV by rw [HT.out]; unfold tailR; rw [HDV.out]; simp only [if_pos HWE.out]; rfl)
              obtain ⟨c0, c1, c2, c3, c4⟩ := HC.out.1
              clear hwe hvb
              go_wp2_with (go_at_call 42; (with_reducible refine (HDG.out _).mono ?_); rintro e w' ⟨rfl, rfl⟩)
              exact bodyPost_ret (v := .tuple #[.agg #[.int .i64 0, .int .i64 0], .bool false]) (by simp [results, Tryd.results29, go_sem, HC.out.1.1, HC.out.1.2.1, HC.out.1.2.2.1]) rfl ⟨by rw [HV0.out]; rfl, (HC.out.2.setCell (Nat.le_refl _) _).setCell (Nat.le_refl _) _⟩
            | false =>
              rw [hwe] at HDG
              have HWE := Lib.hid (show ¬ wh.data.toList = [] from fun e => by rw [e] at hwe; cases hwe)
              clear hwe
              have zs1 : z.toList = [] := by rw [Lib.toList_data]; exact hzl
              have zs2 : z.toList.isEmpty = true := by rw [zs1]; rfl
              have zs3 : z.size = 0 := by exact hze
              have zs4 : ¬ (6 : Int) < (z.size : Int) := by omega
              have HZ0 := Lib.hid hzl
              clear hzl hze
              obtain ⟨c0, c1, c2, c3, c4⟩ := HC.out.1
              cases b
              · have HNM := Lib.hid (fun w => norm_any w (((v : Nat) : Int)) (0) (by have := HVB.out; unfold Under15 at this; omega) (by decide))
                have HVN := Lib.hid (show V = decP (nrm (((v : Nat) : Int)) (0)) by rw [HT.out]; unfold tailR; rw [HDV.out]; simp only [if_neg HWE.out]; rw [if_neg (fun h => by rw [HZ0.out] at h; exact absurd h.1 (by decide))]; simp only [if_pos HZ0.out]; rfl)
                rw [← HVN.out] at HNM
                obtain ⟨vm, vs, vb, hv⟩ := ansR_cases HV.out
                rw [hv] at HNM
                have HVT := Lib.hid hv
                have hu9 : wrap64 (-((v : Nat) : Int)) = -((v : Nat) : Int) := wrap_neg (HVB.out)
                clear hv hvb
                rw [show ((0 : Nat) : Int) = 0 from rfl] at HNM
                go_wp2_with (go_at_call 42; (with_reducible refine (HDG.out _).mono ?_); rintro e w' ⟨rfl, rfl⟩)
                (with_reducible refine (HNM.out _).mono ?_)
                rintro e w8 ⟨rfl, hb8⟩
                have HB8 := Lib.hid (HC.out.2.trans (hb8.mono HC.out.2.size))
                obtain ⟨q0, q1, q2, q3, q4⟩ := HC.out.1.below hb8
                clear hb8
                go_wp2_with fail
                exact bodyPost_ret (v := .tuple #[.agg #[.int .i64 vm, .int .i64 vs], .bool vb]) (by simp [results, Tryd.results29, go_sem, q0, q1, q2]) rfl ⟨by rw [HVT.out], (HB8.out.setCell (Nat.le_refl _) _).setCell (Nat.le_refl _) _⟩
              · have HNM := Lib.hid (fun w => norm_any w ((-((v : Nat) : Int))) (0) (by have := HVB.out; unfold Under15 at this; omega) (by decide))
                have HVN := Lib.hid (show V = decP (nrm ((-((v : Nat) : Int))) (0)) by rw [HT.out]; unfold tailR; rw [HDV.out]; simp only [if_neg HWE.out]; rw [if_neg (fun h => by rw [HZ0.out] at h; exact absurd h.1 (by decide))]; simp only [if_pos HZ0.out]; rfl)
                rw [← HVN.out] at HNM
                obtain ⟨vm, vs, vb, hv⟩ := ansR_cases HV.out
                rw [hv] at HNM
                have HVT := Lib.hid hv
                have hu9 : wrap64 (-((v : Nat) : Int)) = -((v : Nat) : Int) := wrap_neg (HVB.out)
                clear hv hvb
                rw [show ((0 : Nat) : Int) = 0 from rfl] at HNM
                go_wp2_with (go_at_call 42; (with_reducible refine (HDG.out _).mono ?_); rintro e w' ⟨rfl, rfl⟩)
                (with_reducible refine (HNM.out _).mono ?_)
                rintro e w8 ⟨rfl, hb8⟩
                have HB8 := Lib.hid (HC.out.2.trans (hb8.mono HC.out.2.size))
                obtain ⟨q0, q1, q2, q3, q4⟩ := HC.out.1.below hb8
                clear hb8
                go_wp2_with fail
                exact bodyPost_ret (v := .tuple #[.agg #[.int .i64 vm, .int .i64 vs], .bool vb]) (by simp [results, Tryd.results29, go_sem, q0, q1, q2]) rfl ⟨by rw [HVT.out], (HB8.out.setCell (Nat.le_refl _) _).setCell (Nat.le_refl _) _⟩
end Go.Proofs.YtdlfoinpjbcodaaDoor
