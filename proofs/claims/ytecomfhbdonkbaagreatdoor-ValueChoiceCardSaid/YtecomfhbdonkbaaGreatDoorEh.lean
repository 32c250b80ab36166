/- Package dec: Parse. -/
import Derived.Test.YtecomfhbdonkbaaGreatDoorEg
import Derived.Test.YtecomfhbdonkbaaGreatDoorEe
namespace Go.Proofs.YtecomfhbdonkbaaGreatDoor
open Go.RowKit Go.Shelf Flo
set_option maxRecDepth 100000
set_option linter.unusedVariables false
set_option linter.unusedSimpArgs false

theorem take_all {p : UInt8 → Bool} : ∀ l : List UInt8, ∀ x ∈ l.takeWhile p, p x = true
  | [], x, h => by cases h
  | c :: r, x, h => by
    rw [List.takeWhile_cons] at h
    split at h
    · rename_i hc
      rcases List.mem_cons.1 h with rfl | h
      · exact hc
      · exact take_all r x h
    · cases h
theorem take_len (p : UInt8 → Bool) (l : List UInt8) : (l.takeWhile p).length ≤ l.length := by
  have := congrArg List.length (List.takeWhile_append_dropWhile (p := p) (l := l))
  rw [List.length_append] at this
  omega
theorem drop_len (p : UInt8 → Bool) (l : List UInt8) : (l.dropWhile p).length ≤ l.length := by
  have := congrArg List.length (List.takeWhile_append_dropWhile (p := p) (l := l))
  rw [List.length_append] at this
  omega

def overV : Value := .tuple #[.agg #[.int .i64 0, .int .i64 0], .bool false]
/-- the sign, and what stands behind it. -/
def signD (l : List UInt8) : Bool × List UInt8 := if Lib.hasPrefix l [45] then (true, Lib.trimPrefix l [45]) else (false, Lib.trimPrefix l [43])
/-- the digits, and how many of them stand behind the point. -/
def bodyD (r : List UInt8) : Option (Nat × Nat) :=
  if r.takeWhile digC = [] then none
  else match r.dropWhile digC with
    | [] => some (dval 0 (r.takeWhile digC), 0)
    | c :: q => if c = 46 ∧ q.takeWhile digC ≠ [] ∧ q.dropWhile digC = [] then some (dval (dval 0 (r.takeWhile digC)) (Lib.trimRightB (q.takeWhile digC) 48), (Lib.trimRightB (q.takeWhile digC) 48).length) else none
def ansD (b : Bool) : Option (Nat × Nat) → Value
  | none => overV
  | some p => decV (if b then -(p.1 : Int) else (p.1 : Int)) p.2
theorem bodyD_none1 {r : List UInt8} (h : r.takeWhile digC = []) : bodyD r = none := if_pos h
theorem bodyD_one {r : List UInt8} (h : ¬ r.takeWhile digC = []) (h2 : r.dropWhile digC = []) : bodyD r = some (dval 0 (r.takeWhile digC), 0) := by
  unfold bodyD; rw [if_neg h, h2]
theorem bodyD_none2 {r q : List UInt8} {c : UInt8} (h : ¬ r.takeWhile digC = []) (h2 : r.dropWhile digC = c :: q) (h3 : c ≠ 46) : bodyD r = none := by
  unfold bodyD; rw [if_neg h, h2]; exact if_neg (fun e => h3 e.1)
theorem bodyD_none3 {r q : List UInt8} {c : UInt8} (h : ¬ r.takeWhile digC = []) (h2 : r.dropWhile digC = c :: q) (h3 : q.takeWhile digC = [] ∨ q.dropWhile digC ≠ []) : bodyD r = none := by
  unfold bodyD; rw [if_neg h, h2]; exact if_neg (fun e => h3.elim (fun x => e.2.1 x) (fun x => x e.2.2))
theorem bodyD_two {r q : List UInt8} (h : ¬ r.takeWhile digC = []) (h2 : r.dropWhile digC = 46 :: q) (h3 : q.takeWhile digC ≠ []) (h4 : q.dropWhile digC = []) :
    bodyD r = some (dval (dval 0 (r.takeWhile digC)) (Lib.trimRightB (q.takeWhile digC) 48), (Lib.trimRightB (q.takeWhile digC) 48).length) := by
  unfold bodyD; rw [if_neg h, h2]; exact if_pos ⟨rfl, h3, h4⟩
theorem trim_len (l p : List UInt8) : (Lib.trimPrefix l p).length ≤ l.length := by
  unfold Lib.trimPrefix
  split
  · simp
  · exact Nat.le_refl _
theorem ba_drop (s : ByteArray) (n : Nat) (h : n ≤ s.size) : (s.extract n s.size).data.toList = s.data.toList.drop n := by
  simp [ByteArray.data_extract]
  rw [List.take_of_length_le (by simp)]
theorem trimR_mem (l : List UInt8) (c : UInt8) {x : UInt8} (h : x ∈ Lib.trimRightB l c) : x ∈ l := by
  unfold Lib.trimRightB at h
  rw [List.mem_reverse] at h
  have := (List.dropWhile_sublist (p := (· == c)) (l := l.reverse)).subset h
  rwa [List.mem_reverse] at this
theorem trimR_len (l : List UInt8) (c : UInt8) : (Lib.trimRightB l c).length ≤ l.length := by
  unfold Lib.trimRightB
  rw [List.length_reverse]
  have := drop_len (· == c) l.reverse
  rwa [List.length_reverse] at this
theorem ans_cases {V : Value} {b : Bool} {o : Option (Nat × Nat)} (h : V = ansD b o) : ∃ (m s : Int) (q : Bool), V = .tuple #[.agg #[.int .i64 m, .int .i64 s], .bool q] := by
  subst h
  cases o with
  | none => exact ⟨_, _, _, rfl⟩
  | some p => exact decP_cases _
theorem num_pos {re im n k : Nat} (h : PosN re n) (hi : Rep im (k : Int)) (hk : k ≤ 1000000) : Num re im (n : Int) k := by
  refine ⟨hi, hk, ?_⟩
  rcases h with ⟨h1, h2⟩ | ⟨h1, h2⟩
  · exact .inl ⟨by simpa using h1, h2⟩
  · exact .inr ⟨by simpa using h1, _, h2⟩

set_option maxHeartbeats 4000000 in
theorem parse_any (s : ByteArray) (w : World) (hs : s.size ≤ 400) : Calls Tryz.prog 62 #[.string s] w fun e w' => e = .returned (ansD (signD s.data.toList).1 (bodyD (signD s.data.toList).2)) ∧ Below w.heap.size w w' := by
  obtain ⟨V, hV⟩ : ∃ V, V = ansD (signD s.data.toList).1 (bodyD (signD s.data.toList).2) := ⟨_, rfl⟩
  rw [← hV]
  have HV := Lib.hid hV
  clear hV
  have HC := Lib.hid (fun w => scutp_any s ⟨#[45]⟩ w)
  have HD0 := Lib.hid (show DecB (w.alloc (.cells #[.int .i64 0, .int .i64 0] 44)) w.heap.size 0 0 from DecB.new w 0 0 _)
  have HB0 := Lib.hid (show Below w.heap.size w (w.alloc (.cells #[.int .i64 0, .int .i64 0] 44)) from (Below.refl _ _).alloc (Nat.le_refl _) _)
  go_enter Tryz.func62, Tryz.ntmps62
  go_wp2_with fail
  generalize World.alloc w _ = w1 at HD0 HB0 ⊢
  refine wp_scope_two10 (fun a' w' => ∃ u : Nat → Value, a' = { tmps := #[u 0, u 1, .pointer (some ⟨w.heap.size, 0, none⟩), u 3, u 4, u 5, u 6, u 7, u 8, u 9, u 10, u 11, u 12, u 13, u 14, u 15, u 16, u 17, u 18, u 19, u 20, u 21, u 22, u 23, u 24, u 25, u 26, u 27, u 28, u 29, u 30, u 31, u 32, u 33, u 34, u 35, u 36, u 37, u 38, u 39, u 40, u 41, u 42, u 43, u 44, u 45, u 46, u 47, u 48, u 49, u 50, u 51, u 52, u 53], defers := [] } ∧ DecB w' w.heap.size 0 0 ∧ Below w.heap.size w w' ∧ V = overV) (fun a' w' => (fun a' w' => ∃ (re im n k : Nat) (b : Bool), ∃ u : Nat → Value, a' = { tmps := #[u 0, u 1, .pointer (some ⟨w.heap.size, 0, none⟩), u 3, .complex .f64 re im, u 5, u 6, .bool b, u 8, u 9, u 10, u 11, u 12, u 13, u 14, u 15, u 16, u 17, u 18, u 19, u 20, u 21, u 22, u 23, u 24, u 25, u 26, u 27, u 28, u 29, u 30, u 31, u 32, u 33, u 34, u 35, u 36, u 37, u 38, u 39, u 40, u 41, u 42, u 43, u 44, u 45, u 46, u 47, u 48, u 49, u 50, u 51, u 52, u 53], defers := [] } ∧ DecB w' w.heap.size 0 0 ∧ Below w.heap.size w w' ∧ PosN re n ∧ Rep im (k : Int) ∧ k ≤ 400 ∧ V = decV (if b then -(n : Int) else n) k) a' w') (fun _ _ => 0) rfl rfl ?_ ?_ ?_
  · rintro a wr ⟨re, im, n, k, b, u, rfl, hD, hB, hp, hi, hk, hV⟩
    have HSG := Lib.hid (fun w => signed_any w re im _ k b (num_pos hp hi (by omega)))
    rw [← hV] at HSG
    obtain ⟨vm, vs, vb, hv⟩ := ans_cases HV.out
    rw [hv] at HSG
    have HVT := Lib.hid hv
    have HD6 := Lib.hid hD
    have HB6 := Lib.hid hB
    clear hv hD hB hp hi hk hV
    go_wp2_with fail
    (with_reducible refine (HSG.out _).mono ?_)
    rintro e w8 ⟨rfl, hb8⟩
    have HB8 := Lib.hid (HB6.out.trans (hb8.mono HB6.out.size))
    obtain ⟨q0, q1, q2, q3, q4⟩ := HD6.out.below hb8
    clear hb8
    go_wp2_with fail
    repeat rw [Exit.noGoto_ret]
    exact bodyPost_ret (v := .tuple #[.agg #[.int .i64 vm, .int .i64 vs], .bool vb]) (by simp [results, Tryz.results62, go_sem, q0, q1, q2]) rfl ⟨by rw [HVT.out], (HB8.out.setCell (Nat.le_refl _) _).setCell (Nat.le_refl _) _⟩
  · rintro a wr ⟨u, rfl, hD, hB, hV⟩
    have HVT := Lib.hid hV
    have HB8 := Lib.hid hB
    obtain ⟨q0, q1, q2, q3, q4⟩ := hD
    clear hV hB
    go_wp2_with fail
    repeat rw [Exit.twoX_ret]
    exact bodyPost_ret (v := .tuple #[.agg #[.int .i64 0, .int .i64 0], .bool false]) (by simp [results, Tryz.results62, go_sem, q0, q1, q2]) rfl ⟨by rw [HVT.out]; rfl, (HB8.out.setCell (Nat.le_refl _) _).setCell (Nat.le_refl _) _⟩
  intro hfirst
  go_wp2_with fail
  refine (HC.out _).mono ?_
  rintro e w3 ⟨rfl, hw⟩
  obtain rfl := hw.symm
  clear hw
  cases hp : Lib.hasPrefix s.data.toList [45] with
  | true =>
    obtain ⟨y, hy⟩ : ∃ y : ByteArray, y = ⟨(Lib.trimPrefix s.data.toList [45]).toArray⟩ := ⟨_, rfl⟩
    have SGN := Lib.hid (show (signD s.data.toList).2 = y.data.toList ∧ (signD s.data.toList).1 = true by unfold signD; rw [if_pos hp, hy]; exact ⟨rfl, rfl⟩)
    have hyl : y.size ≤ s.size := by rw [hy, Lib.size_eq, Lib.size_eq]; exact trim_len _ _
    have HZ := Lib.hid (show y.size ≤ 100000 by omega)
    have HZ4 := Lib.hid (show y.size ≤ 400 by omega)
    have HBX := HB0
    have HDX := HD0
    simp only [hp, ← hy]
    clear hp hy
    go_wp2_with fail
    (with_reducible refine (front_any y _ HZ.out).mono ?_)
    rintro e w4 ⟨row, rest, rfl, hrow, hrest, hb4⟩
    have HB4 := Lib.hid (HBX.out.trans (hb4.mono HBX.out.size))
    have HD4 := Lib.hid (HDX.out.below hb4)
    have HRW := Lib.hid (And.intro hrow hrest)
    have hdig : ∀ x ∈ row.data.toList, digC x = true := by rw [hrow]; exact take_all _
    have hzr : row.size ≤ 400 ∧ rest.size ≤ 400 := by
      have h := HZ4.out
      rw [Lib.size_eq] at h
      rw [Lib.size_eq, Lib.size_eq, hrow, hrest]
      exact ⟨Nat.le_trans (take_len _ _) h, Nat.le_trans (drop_len _ _) h⟩
    have HDG := Lib.hid (And.intro hdig hzr)
    clear hb4 hrow hrest hdig hzr
    by_cases hr0 : row.data.toList = []
    · have HV0 := Lib.hid (show V = overV by rw [HV.out, SGN.out.1]; rw [bodyD_none1 (by rw [← HRW.out.1]; exact hr0)]; rfl)
      have s1 : row.toList = [] := by rw [Lib.toList_data]; exact hr0
      have s2 : row.toList.isEmpty = true := by rw [s1]; rfl
      clear hr0
      go_wp2_with fail
      refine wp_goto ?_
      exact .inl ⟨rfl, ex_u24 _ _ (by kernel_rfl) _ ⟨HD4.out, HB4.out, HV0.out⟩⟩
    · have s1 : ¬ row.toList = [] := by rw [Lib.toList_data]; exact hr0
      have s2 : row.toList.isEmpty = false := by rw [Lib.toList_data]; simpa using hr0
      have HR0 := Lib.hid hr0
      clear hr0
      have HRD := Lib.hid (read_any w4 0 0 0 0 0 0 0 row (.inl ⟨by rw [p53]; decide, rep0⟩) rep0 (by decide) rep0 rep0 (by decide) HDG.out.1 HDG.out.2.1)
      go_wp2_with fail
      refine (HRD.out).mono ?_
      rintro e w5 ⟨re, im, rfl, h1, h2, rfl⟩
      have HN1 := Lib.hid (And.intro h1 (show Rep im ((0 : Nat) : Int) by simpa using h2))
      clear h1 h2 s1 s2
      by_cases hr1 : rest.data.toList = []
      · have HV0 := Lib.hid (show V = decV (if true then -((dval 0 row.data.toList : Nat) : Int) else ((dval 0 row.data.toList : Nat) : Int)) 0 by
          rw [HV.out, SGN.out.1, SGN.out.2, bodyD_one (by rw [← HRW.out.1]; exact HR0.out) (by rw [← HRW.out.2]; exact hr1), ← HRW.out.1]; rfl)
        have s1 : rest.toList = [] := by rw [Lib.toList_data]; exact hr1
        have s2 : rest.toList.isEmpty = true := by rw [s1]; rfl
        clear hr1
        go_wp2_with fail
        refine wp_goto ?_
        exact .inr ⟨rfl, re, im, _, 0, true, ex_u24 _ _ (by kernel_rfl) _ ⟨HD4.out, HB4.out, HN1.out.1, HN1.out.2, by decide, HV0.out⟩⟩
      · obtain ⟨c0, cr, hcr⟩ : ∃ c0 cr, rest.data.toList = c0 :: cr := by
          cases h : rest.data.toList with
          | nil => exact absurd h hr1
          | cons a b => exact ⟨a, b, rfl⟩
        have s1 : ¬ rest.toList = [] := by rw [Lib.toList_data]; exact hr1
        have s2 : rest.toList.isEmpty = false := by rw [Lib.toList_data]; simpa using hr1
        have hz0 : 0 < rest.size := by rw [Lib.size_eq, hcr]; simp
        have hc0 : rest[0] = c0 := by
          have : rest[0] = rest.data.toList[0]'(by rw [hcr]; simp) := rfl
          rw [this]; simp [hcr]
        have HR1 := Lib.hid hr1
        have HCR := Lib.hid hcr
        clear hr1 hcr
        by_cases h46 : c0.toNat = 46
        · have t0 : (((rest[0]).toNat : Int) == 46) = true := by rw [hc0, h46]; rfl
          have t1 : (((rest[0]).toNat : Int) != 46) = false := by rw [hc0, h46]; rfl
          have hc46 : c0 = 46 := UInt8.toNat_inj.1 h46
          have HC := Lib.hid hc46
          have hz1 : 1 ≤ rest.size := hz0
          clear hc0 h46 hc46
          have hql : (rest.extract 1 rest.size).data.toList = cr := by
            rw [ba_drop _ _ hz1, HCR.out]; rfl
          have hqz : (rest.extract 1 rest.size).size ≤ 400 := by
            have h := HDG.out.2.2
            rw [Lib.size_eq, HCR.out] at h
            rw [Lib.size_eq, hql]
            simp at h
            omega
          have HQ := Lib.hid (And.intro hql hqz)
          have HFR := Lib.hid (fun w => front_any (rest.extract 1 rest.size) w (by have := HQ.out.2; omega))
          clear hql hqz
          go_wp2_with fail
          (with_reducible refine (HFR.out _).mono ?_)
          rintro e w6 ⟨row2, rest2, rfl, hrow, hrest, hb6⟩
          rw [HQ.out.1] at hrow hrest
          have HB6 := Lib.hid (HB4.out.trans (hb6.mono HB4.out.size))
          have HD6 := Lib.hid (HD4.out.below hb6)
          have HRW2 := Lib.hid (And.intro hrow hrest)
          have hdig : ∀ x ∈ row2.data.toList, digC x = true := by rw [hrow]; exact take_all _
          have hzr : row2.size ≤ 400 := by
            have h := HQ.out.2
            rw [Lib.size_eq, HQ.out.1] at h
            rw [Lib.size_eq, hrow]
            exact Nat.le_trans (take_len _ _) h
          have HDG2 := Lib.hid (And.intro hdig hzr)
          clear hb6 hrow hrest hdig hzr s1 s2 t0 t1 hz1
          by_cases hr2 : row2.data.toList = []
          · have HV0 := Lib.hid (show V = overV by
              rw [HV.out, SGN.out.1, bodyD_none3 (by rw [← HRW.out.1]; exact HR0.out) (by rw [← HRW.out.2]; exact HCR.out) (.inl (by rw [← HRW2.out.1]; exact hr2))]; rfl)
            have s1 : row2.toList = [] := by rw [Lib.toList_data]; exact hr2
            have s2 : row2.toList.isEmpty = true := by rw [s1]; rfl
            clear hr2
            go_wp2_with fail
            refine wp_goto ?_
            exact .inl ⟨rfl, ex_u24 _ _ (by kernel_rfl) _ ⟨HD6.out, HB6.out, HV0.out⟩⟩
          · have s1 : ¬ row2.toList = [] := by rw [Lib.toList_data]; exact hr2
            have s2 : row2.toList.isEmpty = false := by rw [Lib.toList_data]; simpa using hr2
            have HR2 := Lib.hid hr2
            clear hr2
            by_cases hr3 : rest2.data.toList = []
            · have HV0 := Lib.hid (show V = decV (if true then -((dval (dval 0 row.data.toList) (Lib.trimRightB row2.data.toList 48) : Nat) : Int) else ((dval (dval 0 row.data.toList) (Lib.trimRightB row2.data.toList 48) : Nat) : Int)) (Lib.trimRightB row2.data.toList 48).length by
                rw [HV.out, SGN.out.1, SGN.out.2, bodyD_two (by rw [← HRW.out.1]; exact HR0.out) (by rw [← HRW.out.2, ← HC.out]; exact HCR.out) (by rw [← HRW2.out.1]; exact HR2.out) (by rw [← HRW2.out.2]; exact hr3), ← HRW.out.1, ← HRW2.out.1]; rfl)
              have s3 : rest2.toList = [] := by rw [Lib.toList_data]; exact hr3
              have s4 : rest2.toList.isEmpty = true := by rw [s3]; rfl
              clear hr3
              have HTR := Lib.hid (fun w => strimr_any row2 w (by have := HDG2.out.2; omega))
              obtain ⟨z0, hz0'⟩ : ∃ z0 : ByteArray, z0 = ⟨(Lib.trimRightB row2.data.toList 48).toArray⟩ := ⟨_, rfl⟩
              rw [← hz0'] at HTR
              have hzl : z0.data.toList = Lib.trimRightB row2.data.toList 48 := by rw [hz0']
              rw [← hzl] at HV0
              have hzd : ∀ x ∈ z0.data.toList, digC x = true := by
                rw [hzl]; intro x hx; exact HDG2.out.1 x (trimR_mem _ _ hx)
              have hzz : z0.size ≤ 400 := by
                rw [Lib.size_eq, hzl]
                have h := HDG2.out.2
                rw [Lib.size_eq] at h
                exact Nat.le_trans (trimR_len _ _) h
              have HRD2 := Lib.hid (fun w => read_any w re im 0 4607182418800017408 _ 0 1 z0 HN1.out.1 HN1.out.2 (by decide) rep0 rep1 (by decide) hzd hzz)
              have HZ0 := Lib.hid hzz
              clear hz0' hzl hzd hzz
              go_wp2_with fail
              (with_reducible refine (HTR.out _).mono ?_)
              rintro e w7 ⟨rfl, hw⟩
              obtain rfl := hw.symm
              clear hw
              go_wp2_with fail
              (with_reducible refine (HRD2.out _).mono ?_)
              rintro e w7 ⟨re2, im2, rfl, h1, h2, rfl⟩
              rw [show 0 + 1 * z0.size = z0.size by omega, Lib.size_eq] at h2
              have HSG := Lib.hid (fun w => signed_any w re2 im2 _ z0.data.toList.length true (num_pos h1 h2 (by rw [← Lib.size_eq]; have := HZ0.out; omega)))
              simp only [Bool.false_eq_true, if_false, if_true] at HSG HV0
              rw [← HV0.out] at HSG
              clear h1 h2
              obtain ⟨vm, vs, vb, hv⟩ := ans_cases HV.out
              rw [hv] at HSG
              have HVT := Lib.hid hv
              clear hv
              go_wp2_with fail
              refine wp_label ?_
              go_wp2_with fail
              (with_reducible refine (HSG.out _).mono ?_)
              rintro e w8 ⟨rfl, hb8⟩
              have HB8 := Lib.hid (HB6.out.trans (hb8.mono HB6.out.size))
              obtain ⟨q0, q1, q2, q3, q4⟩ := HD6.out.below hb8
              clear hb8
              go_wp2_with fail
              repeat rw [Exit.twoX_ret]
              exact bodyPost_ret (v := .tuple #[.agg #[.int .i64 vm, .int .i64 vs], .bool vb]) (by simp [results, Tryz.results62, go_sem, q0, q1, q2]) rfl ⟨by rw [HVT.out], (HB8.out.setCell (Nat.le_refl _) _).setCell (Nat.le_refl _) _⟩
            · have HV0 := Lib.hid (show V = overV by
                rw [HV.out, SGN.out.1, bodyD_none3 (by rw [← HRW.out.1]; exact HR0.out) (by rw [← HRW.out.2]; exact HCR.out) (.inr (by rw [← HRW2.out.2]; exact hr3))]; rfl)
              have s3 : ¬ rest2.toList = [] := by rw [Lib.toList_data]; exact hr3
              have s4 : rest2.toList.isEmpty = false := by rw [Lib.toList_data]; simpa using hr3
              clear hr3
              go_wp2_with fail
              refine wp_goto ?_
              exact .inl ⟨rfl, ex_u24 _ _ (by kernel_rfl) _ ⟨HD6.out, HB6.out, HV0.out⟩⟩
        · have t0 : (((rest[0]).toNat : Int) == 46) = false := by rw [hc0]; simpa using (show ¬ (c0.toNat : Int) = 46 by omega)
          have t1 : (((rest[0]).toNat : Int) != 46) = true := by rw [hc0]; simpa using (show ¬ (c0.toNat : Int) = 46 by omega)
          have HV0 := Lib.hid (show V = overV by
            rw [HV.out, SGN.out.1, bodyD_none2 (by rw [← HRW.out.1]; exact HR0.out) (by rw [← HRW.out.2]; exact HCR.out) (fun e => h46 (by rw [e]; rfl))]; rfl)
          clear hc0 h46
          go_wp2_with fail
          refine wp_goto ?_
          exact .inl ⟨rfl, ex_u24 _ _ (by kernel_rfl) _ ⟨HD4.out, HB4.out, HV0.out⟩⟩
  | false =>
    obtain ⟨y0, hy0⟩ : ∃ y : ByteArray, y = ⟨(Lib.trimPrefix s.data.toList [45]).toArray⟩ := ⟨_, rfl⟩
    have hys : y0 = s := by
      rw [hy0, show Lib.trimPrefix s.data.toList [45] = s.data.toList by unfold Lib.trimPrefix; rw [hp]; rfl]
    have HTP := Lib.hid (fun w => strimp_any s ⟨#[43]⟩ w)
    obtain ⟨y, hy⟩ : ∃ y : ByteArray, y = ⟨(Lib.trimPrefix s.data.toList [43]).toArray⟩ := ⟨_, rfl⟩
    simp only [← hy] at HTP
    have SGN := Lib.hid (show (signD s.data.toList).2 = y.data.toList ∧ (signD s.data.toList).1 = false by unfold signD; rw [hp, hy]; exact ⟨rfl, rfl⟩)
    have hyl : y.size ≤ s.size := by rw [hy, Lib.size_eq, Lib.size_eq]; exact trim_len _ _
    have HZ := Lib.hid (show y.size ≤ 100000 by omega)
    have HZ4 := Lib.hid (show y.size ≤ 400 by omega)
    have HBX := HB0
    have HDX := HD0
    simp only [hp, ← hy0, hys]
    clear hp hy hy0 hys
    go_wp2_with fail
    (with_reducible refine (HTP.out _).mono ?_)
    rintro e w3 ⟨rfl, hw⟩
    obtain rfl := hw.symm
    clear hw
    go_wp2_with fail
    (with_reducible refine (front_any y _ HZ.out).mono ?_)
    rintro e w4 ⟨row, rest, rfl, hrow, hrest, hb4⟩
    have HB4 := Lib.hid (HBX.out.trans (hb4.mono HBX.out.size))
    have HD4 := Lib.hid (HDX.out.below hb4)
    have HRW := Lib.hid (And.intro hrow hrest)
    have hdig : ∀ x ∈ row.data.toList, digC x = true := by rw [hrow]; exact take_all _
    have hzr : row.size ≤ 400 ∧ rest.size ≤ 400 := by
      have h := HZ4.out
      rw [Lib.size_eq] at h
      rw [Lib.size_eq, Lib.size_eq, hrow, hrest]
      exact ⟨Nat.le_trans (take_len _ _) h, Nat.le_trans (drop_len _ _) h⟩
    have HDG := Lib.hid (And.intro hdig hzr)
    clear hb4 hrow hrest hdig hzr
    by_cases hr0 : row.data.toList = []
    · have HV0 := Lib.hid (show V = overV by rw [HV.out, SGN.out.1]; rw [bodyD_none1 (by rw [← HRW.out.1]; exact hr0)]; rfl)
      have s1 : row.toList = [] := by rw [Lib.toList_data]; exact hr0
      have s2 : row.toList.isEmpty = true := by rw [s1]; rfl
      clear hr0
      go_wp2_with fail
      refine wp_goto ?_
      exact .inl ⟨rfl, ex_u24 _ _ (by kernel_rfl) _ ⟨HD4.out, HB4.out, HV0.out⟩⟩
    · have s1 : ¬ row.toList = [] := by rw [Lib.toList_data]; exact hr0
      have s2 : row.toList.isEmpty = false := by rw [Lib.toList_data]; simpa using hr0
      have HR0 := Lib.hid hr0
      clear hr0
      have HRD := Lib.hid (read_any w4 0 0 0 0 0 0 0 row (.inl ⟨by rw [p53]; decide, rep0⟩) rep0 (by decide) rep0 rep0 (by decide) HDG.out.1 HDG.out.2.1)
      go_wp2_with fail
      refine (HRD.out).mono ?_
      rintro e w5 ⟨re, im, rfl, h1, h2, rfl⟩
      have HN1 := Lib.hid (And.intro h1 (show Rep im ((0 : Nat) : Int) by simpa using h2))
      clear h1 h2 s1 s2
      by_cases hr1 : rest.data.toList = []
      · have HV0 := Lib.hid (show V = decV (if false then -((dval 0 row.data.toList : Nat) : Int) else ((dval 0 row.data.toList : Nat) : Int)) 0 by
          rw [HV.out, SGN.out.1, SGN.out.2, bodyD_one (by rw [← HRW.out.1]; exact HR0.out) (by rw [← HRW.out.2]; exact hr1), ← HRW.out.1]; rfl)
        have s1 : rest.toList = [] := by rw [Lib.toList_data]; exact hr1
        have s2 : rest.toList.isEmpty = true := by rw [s1]; rfl
        clear hr1
        go_wp2_with fail
        refine wp_goto ?_
        exact .inr ⟨rfl, re, im, _, 0, false, ex_u24 _ _ (by kernel_rfl) _ ⟨HD4.out, HB4.out, HN1.out.1, HN1.out.2, by decide, HV0.out⟩⟩
      · obtain ⟨c0, cr, hcr⟩ : ∃ c0 cr, rest.data.toList = c0 :: cr := by
          cases h : rest.data.toList with
          | nil => exact absurd h hr1
          | cons a b => exact ⟨a, b, rfl⟩
        have s1 : ¬ rest.toList = [] := by rw [Lib.toList_data]; exact hr1
        have s2 : rest.toList.isEmpty = false := by rw [Lib.toList_data]; simpa using hr1
        have hz0 : 0 < rest.size := by rw [Lib.size_eq, hcr]; simp
        have hc0 : rest[0] = c0 := by
          have : rest[0] = rest.data.toList[0]'(by rw [hcr]; simp) := rfl
          rw [this]; simp [hcr]
        have HR1 := Lib.hid hr1
        have HCR := Lib.hid hcr
        clear hr1 hcr
        by_cases h46 : c0.toNat = 46
        · have t0 : (((rest[0]).toNat : Int) == 46) = true := by rw [hc0, h46]; rfl
          have t1 : (((rest[0]).toNat : Int) != 46) = false := by rw [hc0, h46]; rfl
          have hc46 : c0 = 46 := UInt8.toNat_inj.1 h46
          have HC := Lib.hid hc46
          have hz1 : 1 ≤ rest.size := hz0
          clear hc0 h46 hc46
          have hql : (rest.extract 1 rest.size).data.toList = cr := by
            rw [ba_drop _ _ hz1, HCR.out]; rfl
          have hqz : (rest.extract 1 rest.size).size ≤ 400 := by
            have h := HDG.out.2.2
            rw [Lib.size_eq, HCR.out] at h
            rw [Lib.size_eq, hql]
            simp at h
            omega
          have HQ := Lib.hid (And.intro hql hqz)
          have HFR := Lib.hid (fun w => front_any (rest.extract 1 rest.size) w (by have := HQ.out.2; omega))
          clear hql hqz
          go_wp2_with fail
          (with_reducible refine (HFR.out _).mono ?_)
          rintro e w6 ⟨row2, rest2, rfl, hrow, hrest, hb6⟩
          rw [HQ.out.1] at hrow hrest
          have HB6 := Lib.hid (HB4.out.trans (hb6.mono HB4.out.size))
          have HD6 := Lib.hid (HD4.out.below hb6)
          have HRW2 := Lib.hid (And.intro hrow hrest)
          have hdig : ∀ x ∈ row2.data.toList, digC x = true := by rw [hrow]; exact take_all _
          have hzr : row2.size ≤ 400 := by
            have h := HQ.out.2
            rw [Lib.size_eq, HQ.out.1] at h
            rw [Lib.size_eq, hrow]
            exact Nat.le_trans (take_len _ _) h
          have HDG2 := Lib.hid (And.intro hdig hzr)
          clear hb6 hrow hrest hdig hzr s1 s2 t0 t1 hz1
          by_cases hr2 : row2.data.toList = []
          · have HV0 := Lib.hid (show V = overV by
              rw [HV.out, SGN.out.1, bodyD_none3 (by rw [← HRW.out.1]; exact HR0.out) (by rw [← HRW.out.2]; exact HCR.out) (.inl (by rw [← HRW2.out.1]; exact hr2))]; rfl)
            have s1 : row2.toList = [] := by rw [Lib.toList_data]; exact hr2
            have s2 : row2.toList.isEmpty = true := by rw [s1]; rfl
            clear hr2
            go_wp2_with fail
            refine wp_goto ?_
            exact .inl ⟨rfl, ex_u24 _ _ (by kernel_rfl) _ ⟨HD6.out, HB6.out, HV0.out⟩⟩
          · have s1 : ¬ row2.toList = [] := by rw [Lib.toList_data]; exact hr2
            have s2 : row2.toList.isEmpty = false := by rw [Lib.toList_data]; simpa using hr2
            have HR2 := Lib.hid hr2
            clear hr2
            by_cases hr3 : rest2.data.toList = []
            · have HV0 := Lib.hid (show V = decV (if false then -((dval (dval 0 row.data.toList) (Lib.trimRightB row2.data.toList 48) : Nat) : Int) else ((dval (dval 0 row.data.toList) (Lib.trimRightB row2.data.toList 48) : Nat) : Int)) (Lib.trimRightB row2.data.toList 48).length by
                rw [HV.out, SGN.out.1, SGN.out.2, bodyD_two (by rw [← HRW.out.1]; exact HR0.out) (by rw [← HRW.out.2, ← HC.out]; exact HCR.out) (by rw [← HRW2.out.1]; exact HR2.out) (by rw [← HRW2.out.2]; exact hr3), ← HRW.out.1, ← HRW2.out.1]; rfl)
              have s3 : rest2.toList = [] := by rw [Lib.toList_data]; exact hr3
              have s4 : rest2.toList.isEmpty = true := by rw [s3]; rfl
              clear hr3
              have HTR := Lib.hid (fun w => strimr_any row2 w (by have := HDG2.out.2; omega))
              obtain ⟨z0, hz0'⟩ : ∃ z0 : ByteArray, z0 = ⟨(Lib.trimRightB row2.data.toList 48).toArray⟩ := ⟨_, rfl⟩
              rw [← hz0'] at HTR
              have hzl : z0.data.toList = Lib.trimRightB row2.data.toList 48 := by rw [hz0']
              rw [← hzl] at HV0
              have hzd : ∀ x ∈ z0.data.toList, digC x = true := by
                rw [hzl]; intro x hx; exact HDG2.out.1 x (trimR_mem _ _ hx)
              have hzz : z0.size ≤ 400 := by
                rw [Lib.size_eq, hzl]
                have h := HDG2.out.2
                rw [Lib.size_eq] at h
                exact Nat.le_trans (trimR_len _ _) h
              have HRD2 := Lib.hid (fun w => read_any w re im 0 4607182418800017408 _ 0 1 z0 HN1.out.1 HN1.out.2 (by decide) rep0 rep1 (by decide) hzd hzz)
              have HZ0 := Lib.hid hzz
              clear hz0' hzl hzd hzz
              go_wp2_with fail
              (with_reducible refine (HTR.out _).mono ?_)
              rintro e w7 ⟨rfl, hw⟩
              obtain rfl := hw.symm
              clear hw
              go_wp2_with fail
              (with_reducible refine (HRD2.out _).mono ?_)
              rintro e w7 ⟨re2, im2, rfl, h1, h2, rfl⟩
              rw [show 0 + 1 * z0.size = z0.size by omega, Lib.size_eq] at h2
              have HSG := Lib.hid (fun w => signed_any w re2 im2 _ z0.data.toList.length false (num_pos h1 h2 (by rw [← Lib.size_eq]; have := HZ0.out; omega)))
              simp only [Bool.false_eq_true, if_false, if_true] at HSG HV0
              rw [← HV0.out] at HSG
              clear h1 h2
              obtain ⟨vm, vs, vb, hv⟩ := ans_cases HV.out
              rw [hv] at HSG
              have HVT := Lib.hid hv
              clear hv
              go_wp2_with fail
              refine wp_label ?_
              go_wp2_with fail
              (with_reducible refine (HSG.out _).mono ?_)
              rintro e w8 ⟨rfl, hb8⟩
              have HB8 := Lib.hid (HB6.out.trans (hb8.mono HB6.out.size))
              obtain ⟨q0, q1, q2, q3, q4⟩ := HD6.out.below hb8
              clear hb8
              go_wp2_with fail
              repeat rw [Exit.twoX_ret]
              exact bodyPost_ret (v := .tuple #[.agg #[.int .i64 vm, .int .i64 vs], .bool vb]) (by simp [results, Tryz.results62, go_sem, q0, q1, q2]) rfl ⟨by rw [HVT.out], (HB8.out.setCell (Nat.le_refl _) _).setCell (Nat.le_refl _) _⟩
            · have HV0 := Lib.hid (show V = overV by
                rw [HV.out, SGN.out.1, bodyD_none3 (by rw [← HRW.out.1]; exact HR0.out) (by rw [← HRW.out.2]; exact HCR.out) (.inr (by rw [← HRW2.out.2]; exact hr3))]; rfl)
              have s3 : ¬ rest2.toList = [] := by rw [Lib.toList_data]; exact hr3
              have s4 : rest2.toList.isEmpty = false := by rw [Lib.toList_data]; simpa using hr3
              clear hr3
              go_wp2_with fail
              refine wp_goto ?_
              exact .inl ⟨rfl, ex_u24 _ _ (by kernel_rfl) _ ⟨HD6.out, HB6.out, HV0.out⟩⟩
        · have t0 : (((rest[0]).toNat : Int) == 46) = false := by rw [hc0]; simpa using (show ¬ (c0.toNat : Int) = 46 by omega)
          have t1 : (((rest[0]).toNat : Int) != 46) = true := by rw [hc0]; simpa using (show ¬ (c0.toNat : Int) = 46 by omega)
          have HV0 := Lib.hid (show V = overV by
            rw [HV.out, SGN.out.1, bodyD_none2 (by rw [← HRW.out.1]; exact HR0.out) (by rw [← HRW.out.2]; exact HCR.out) (fun e => h46 (by rw [e]; rfl))]; rfl)
          clear hc0 h46
          go_wp2_with fail
          refine wp_goto ?_
          exact .inl ⟨rfl, ex_u24 _ _ (by kernel_rfl) _ ⟨HD4.out, HB4.out, HV0.out⟩⟩
end Go.Proofs.YtecomfhbdonkbaaGreatDoor
