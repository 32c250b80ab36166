/- Package dec: short, made, decimal, signed, of, is: at any number on its way. -/
import Derived.Test.YtecomfhbdonkbaaGreatDoorEb
import Derived.Below
namespace Go.Proofs.YtecomfhbdonkbaaGreatDoor
open Go.RowKit Flo
set_option maxRecDepth 100000
set_option linter.unusedVariables false
set_option linter.unusedSimpArgs false

/-- the words are the number n with k digits behind the point; where its digits are too many they are too many. -/
def Num (re im : Nat) (n : Int) (k : Nat) : Prop := Rep im (k : Int) ∧ k ≤ 1000000 ∧ ((n.natAbs < 2 ^ 53 ∧ Rep re n) ∨ (2 ^ 53 ≤ n.natAbs ∧ ∃ s, Big (2 ^ 53) s re))

theorem short_big (w : World) (re im k : Nat) (s : Bool) (hr : Big (2 ^ 53) s re) (hi : Rep im (k : Int)) :
    Calls Tryz.prog 134 #[.complex .f64 re im] w fun e w' => e = .returned (.complex .f64 re im) ∧ w = w' := by
  have hA := Lib.hid (fun w => abs_any re w hr.2)
  have e1 : (FloatKind.f64.format.order (re % 2 ^ 63) 4845873199050653696 == some .lt) = false := by
    rcases order_big_le (abs_big hr) rep_whole (by rw [p53]; decide) with h | h
    · show (Ieee.double.order _ _ == _) = _; rw [h]; rfl
    · show (Ieee.double.order _ _ == _) = _; rw [h]; rfl
  generalize re % 2 ^ 63 = ab at *
  obtain ⟨b, hb⟩ : ∃ b, b = (FloatKind.f64.format.order im 0 == some .gt) := ⟨_, rfl⟩
  have hb2 := hb.symm
  clear hb hr hi
  go_enter Tryz.func134, Tryz.ntmps134
  go_wp2_with fail
  refine wp_scope_jumps 0 (fun a' w' => False) (fun a _ => 0) rfl ?_ ?_
  · cases b
    · go_wp2_with fail
      refine wp_label ?_
      go_wp2_with fail
      simp only [Exit.jump]
      go_ret
      exact ⟨rfl, rfl⟩
    · go_wp2_with fail
      refine wp_label ?_
      go_wp2_with (go_at_call 135; refine (hA.out _).mono ?_; rintro e w' ⟨rfl, rfl⟩)
      simp only [Exit.jump]
      go_ret
      exact ⟨rfl, rfl⟩
  · rintro a wr h
    exact h.elim

/-- what short makes. -/
def shrt (n : Int) (k : Nat) : Int × Nat := if n.natAbs < 2 ^ 53 then nrm n k else (n, k)

theorem nrm_small : ∀ (k : Nat) (n : Int), n.natAbs < 2 ^ 53 → (nrm n k).1.natAbs < 2 ^ 53 ∧ (nrm n k).2 ≤ k
  | 0, n, h => ⟨h, Nat.le_refl _⟩
  | k + 1, n, h => by
    show (if n % 10 = 0 then nrm (n / 10) k else (n, k + 1)).1.natAbs < _ ∧ (if n % 10 = 0 then nrm (n / 10) k else (n, k + 1)).2 ≤ _
    split
    · have := nrm_small k (n / 10) (nat_div10 h)
      exact ⟨this.1, by omega⟩
    · exact ⟨h, Nat.le_refl _⟩

theorem short_num (w : World) (re im : Nat) (n : Int) (k : Nat) (h : Num re im n k) :
    Calls Tryz.prog 134 #[.complex .f64 re im] w fun e w' => ∃ r i, e = .returned (.complex .f64 r i) ∧ Num r i (shrt n k).1 (shrt n k).2 ∧ w = w' := by
  obtain ⟨hi, hk, ⟨h1, h2⟩ | ⟨h1, s, h2⟩⟩ := h
  · have hs : shrt n k = nrm n k := if_pos h1
    rw [hs]
    refine (short_any w re im n k h2 hi h1 hk).mono ?_
    rintro e w' ⟨r, i, rfl, hr, hi', rfl⟩
    have := nrm_small k n h1
    exact ⟨r, i, rfl, ⟨hi', by omega, .inl ⟨this.1, hr⟩⟩, rfl⟩
  · have hs : shrt n k = (n, k) := if_neg (by omega)
    rw [hs]
    refine (short_big w re im k s h2 hi).mono ?_
    rintro e w' ⟨rfl, rfl⟩
    exact ⟨re, im, rfl, ⟨hi, hk, .inr ⟨h1, s, h2⟩⟩, rfl⟩

/-- what decimal answers. -/
def fitsL (p : Int × Nat) : Bool := decide (p.1.natAbs ≤ 999999999999999) && decide (p.2 ≤ 6)
def decV (n : Int) (k : Nat) : Value := if fitsL (shrt n k) then .tuple #[.agg #[.int .i64 (shrt n k).1, .int .i64 ((shrt n k).2 : Int)], .bool true] else .tuple #[.agg #[.int .i64 0, .int .i64 0], .bool false]

theorem run_toInt {x : Nat} {n : Int} (h : Rep x n) (hn : n.natAbs < 2 ^ 53) (src dst : TypeId) (hs : (Tryz.prog.underlying src).isSome = true) (hd : Tryz.prog.underlying dst = some (.int .i64)) (w : World) :
    Sem.run Tryz.prog (convert src dst (.float .f64 x)) w = .ok (.int .i64 n) w := by
  refine run_convert_float_int w src dst .f64 .i64 x n hs hd ?_
  unfold floatToIntVal
  have e : (FloatKind.f64.decode x).toInt .zero = some n := toInt_dt h.dt
  rw [e]
  rw [p53] at hn
  have hmin : IntKind.i64.min = -9223372036854775808 := by decide
  have hmax : IntKind.i64.max = 9223372036854775807 := by decide
  have hc : IntKind.i64.min ≤ n ∧ n ≤ IntKind.i64.max := by rw [hmin, hmax]; omega
  exact if_pos hc

theorem num_lt {re : Nat} {n : Int} (h : (n.natAbs < 2 ^ 53 ∧ Rep re n) ∨ (2 ^ 53 ≤ n.natAbs ∧ ∃ s, Big (2 ^ 53) s re)) : re < 2 ^ 64 := by
  rcases h with h | ⟨-, s, h⟩
  · exact h.2.lt
  · exact h.2

theorem abs_le {re : Nat} {n : Int} (h : (n.natAbs < 2 ^ 53 ∧ Rep re n) ∨ (2 ^ 53 ≤ n.natAbs ∧ ∃ s, Big (2 ^ 53) s re)) :
    (FloatKind.f64.format.order (re % 2 ^ 63) 4831355200913801208 == some .lt || FloatKind.f64.format.order (re % 2 ^ 63) 4831355200913801208 == some .eq) = decide (n.natAbs ≤ 999999999999999) := by
  rw [p53] at h
  rcases h with ⟨h1, h2⟩ | ⟨h1, s, h2⟩
  · have ha := abs_rep h2
    rcases Nat.lt_trichotomy n.natAbs 999999999999999 with h | h | h
    · rw [ord_lt ha rep_most (by omega), decide_eq_true (by omega)]; rfl
    · rw [ord_eq ha rep_most (by omega), decide_eq_true (by omega)]; rfl
    · rw [ord_gt ha rep_most (by omega), decide_eq_false (by omega)]; rfl
  · have : FloatKind.f64.format.order (re % 2 ^ 63) 4831355200913801208 = some .gt := order_big (abs_big h2) rep_most (by decide)
    rw [this, decide_eq_false (by omega)]; rfl
theorem im_le {im k : Nat} (h : Rep im (k : Int)) : (FloatKind.f64.format.order im 4618441417868443648 == some .lt || FloatKind.f64.format.order im 4618441417868443648 == some .eq) = decide (k ≤ 6) := by
  rcases Nat.lt_trichotomy k 6 with h1 | h1 | h1
  · rw [ord_lt h rep6 (by omega), decide_eq_true (by omega)]; rfl
  · rw [ord_eq h rep6 (by omega), decide_eq_true (by omega)]; rfl
  · rw [ord_gt h rep6 (by omega), decide_eq_false (by omega)]; rfl

set_option maxHeartbeats 1000000 in
theorem decimal_any (w : World) (re im : Nat) (n : Int) (k : Nat) (h : Num re im n k) :
    Calls Tryz.prog 113 #[.complex .f64 re im] w fun e w' => e = .returned (decV n k) ∧ Below w.heap.size w w' := by
  have hS := Lib.hid (fun w => short_num w re im n k h)
  obtain ⟨V, hV⟩ : ∃ V, V = decV n k := ⟨_, rfl⟩
  rw [← hV]
  have hV2 : V = if fitsL (shrt n k) then .tuple #[.agg #[.int .i64 (shrt n k).1, .int .i64 ((shrt n k).2 : Int)], .bool true] else .tuple #[.agg #[.int .i64 0, .int .i64 0], .bool false] := hV
  clear hV
  generalize shrt n k = p at hS hV2
  have HV := Lib.hid hV2
  clear hV2
  go_enter Tryz.func113, Tryz.ntmps113
  go_wp2_with fail
  refine (hS.out _).mono ?_
  rintro e w' ⟨r, i, rfl, hn, rfl⟩
  obtain ⟨hi, hk, hr⟩ := hn
  have hA := Lib.hid (fun w => abs_any r w (num_lt hr))
  have e1 := abs_le hr
  have e2 := im_le hi
  generalize r % 2 ^ 63 = ab at hA e1
  by_cases c1 : p.1.natAbs ≤ 999999999999999
  · rw [decide_eq_true c1] at e1
    by_cases c2 : p.2 ≤ 6
    · rw [decide_eq_true c2] at e2
      have hr2 : Rep r p.1 := by
        rcases hr with h | ⟨h, -⟩
        · exact h.2
        · rw [p53] at h; omega
      have t1 := fun w => run_toInt hr2 (by rw [p53]; omega) 86 3 (by kernel_rfl) Tryz.underlying3 w
      have t2 := fun w => run_toInt hi (by rw [p53]; omega) 86 3 (by kernel_rfl) Tryz.underlying3 w
      have HF := Lib.hid (show V = .tuple #[.agg #[.int .i64 p.1, .int .i64 (p.2 : Int)], .bool true] by rw [HV.out, if_pos (by simp [fitsL, c1, c2])])
      clear hr hr2 c1 c2 hi hk
      go_wp2_with (go_at_call 135; refine (hA.out _).mono ?_; rintro e w' ⟨rfl, rfl⟩)
      rw [HF.out]
      exact bodyPost_ret (v := .tuple #[.agg #[.int .i64 p.1, .int .i64 (p.2 : Int)], .bool true]) (by simp [results, Tryz.results113, go_sem]) rfl ⟨rfl, (Below.refl _ _).alloc (Nat.le_refl _) _⟩
    · rw [decide_eq_false c2] at e2
      have HF := Lib.hid (show V = .tuple #[.agg #[.int .i64 0, .int .i64 0], .bool false] by rw [HV.out, if_neg (by simp [fitsL]; omega)])
      clear hr c1 c2 hi hk
      go_wp2_with (go_at_call 135; refine (hA.out _).mono ?_; rintro e w' ⟨rfl, rfl⟩)
      rw [HF.out]
      exact bodyPost_ret (v := .tuple #[.agg #[.int .i64 0, .int .i64 0], .bool false]) (by simp [results, Tryz.results113, go_sem]) rfl ⟨rfl, (Below.refl _ _).alloc (Nat.le_refl _) _⟩
  · rw [decide_eq_false c1] at e1
    have HF := Lib.hid (show V = .tuple #[.agg #[.int .i64 0, .int .i64 0], .bool false] by rw [HV.out, if_neg (by simp [fitsL]; omega)])
    clear hr c1 hi hk e2
    go_wp2_with (go_at_call 135; refine (hA.out _).mono ?_; rintro e w' ⟨rfl, rfl⟩)
    rw [HF.out]
    exact bodyPost_ret (v := .tuple #[.agg #[.int .i64 0, .int .i64 0], .bool false]) (by simp [results, Tryz.results113, go_sem]) rfl ⟨rfl, (Below.refl _ _).alloc (Nat.le_refl _) _⟩

/-- two results: a decimal and whether there is one. -/
def decP (p : Int × Nat) : Value := if fitsL p then .tuple #[.agg #[.int .i64 p.1, .int .i64 (p.2 : Int)], .bool true] else .tuple #[.agg #[.int .i64 0, .int .i64 0], .bool false]
theorem decP_cases (p : Int × Nat) : ∃ (m s : Int) (b : Bool), decP p = .tuple #[.agg #[.int .i64 m, .int .i64 s], .bool b] := by
  unfold decP
  split
  · exact ⟨_, _, _, rfl⟩
  · exact ⟨_, _, _, rfl⟩
theorem decV_eq (n : Int) (k : Nat) : decV n k = decP (shrt n k) := rfl

theorem num_neg {re im : Nat} {n : Int} {k : Nat} (h : Num re im n k) : Num (re ^^^ 2 ^ 63) im (-n) k := by
  obtain ⟨h1, h2, ⟨h3, h4⟩ | ⟨h3, s, h4⟩⟩ := h
  · exact ⟨h1, h2, .inl ⟨by simpa using h3, neg_rep h4⟩⟩
  · exact ⟨h1, h2, .inr ⟨by simpa using h3, _, neg_big h4⟩⟩

theorem signed_any (w : World) (re im : Nat) (n : Int) (k : Nat) (b : Bool) (h : Num re im n k) :
    Calls Tryz.prog 85 #[.complex .f64 re im, .bool b] w fun e w' => e = .returned (decV (if b then -n else n) k) ∧ Below w.heap.size w w' := by
  cases b with
  | false =>
    have HD := Lib.hid (fun w => decimal_any w re im n k h)
    simp only [Bool.false_eq_true, if_false]
    obtain ⟨m, s, b, hv⟩ := decP_cases (shrt n k)
    rw [decV_eq] at HD ⊢
    rw [hv] at HD ⊢
    clear hv h
    go_enter Tryz.func85, Tryz.ntmps85
    go_wp2_with fail
    refine (HD.out _).mono ?_
    rintro e w' ⟨rfl, hb⟩
    have hz := hb.size
    simp only [World.size_alloc] at hz
    have hc := hb.cell (p := ⟨w.heap.size, 0, none⟩) (by simp)
    have hc2 := hb.cell (p := ⟨w.heap.size, 1, none⟩) (by simp)
    have hf := hb.frozen (p := ⟨w.heap.size, 0, none⟩) (by simp)
    have hf2 := hb.frozen (p := ⟨w.heap.size, 1, none⟩) (by simp)
    have HB := Lib.hid hb
    clear hb
    go_wp2_with fail
    exact bodyPost_ret (v := .tuple #[.agg #[.int .i64 m, .int .i64 s], .bool b]) (by simp [results, Tryz.results85, go_sem, hc, hc2, hz]) rfl
      ⟨rfl, ((((Below.refl _ _).alloc (Nat.le_refl _) _).trans (HB.out.mono (by simp))).setCell (Nat.le_refl _) _).setCell (Nat.le_refl _) _⟩
  | true =>
    have hng := fun w => run_neg re w
    have hN := num_neg h
    generalize re ^^^ 2 ^ 63 = nre at *
    have HD := Lib.hid (fun w => decimal_any w nre im (-n) k hN)
    simp only [if_true]
    obtain ⟨m, s, b, hv⟩ := decP_cases (shrt (-n) k)
    rw [decV_eq] at HD ⊢
    rw [hv] at HD ⊢
    clear hv h hN
    go_enter Tryz.func85, Tryz.ntmps85
    go_wp2_with fail
    refine (HD.out _).mono ?_
    rintro e w' ⟨rfl, hb⟩
    have hz := hb.size
    simp only [World.size_alloc] at hz
    have hc := hb.cell (p := ⟨w.heap.size, 0, none⟩) (by simp)
    have hc2 := hb.cell (p := ⟨w.heap.size, 1, none⟩) (by simp)
    have hf := hb.frozen (p := ⟨w.heap.size, 0, none⟩) (by simp)
    have hf2 := hb.frozen (p := ⟨w.heap.size, 1, none⟩) (by simp)
    have HB := Lib.hid hb
    clear hb
    go_wp2_with fail
    exact bodyPost_ret (v := .tuple #[.agg #[.int .i64 m, .int .i64 s], .bool b]) (by simp [results, Tryz.results85, go_sem, hc, hc2, hz]) rfl
      ⟨rfl, ((((Below.refl _ _).alloc (Nat.le_refl _) _).trans (HB.out.mono (by simp))).setCell (Nat.le_refl _) _).setCell (Nat.le_refl _) _⟩

/-- a decimal. -/
def GoodD (m s : Int) : Prop := -999999999999999 ≤ m ∧ m ≤ 999999999999999 ∧ 0 ≤ s ∧ s ≤ 6 ∧ (s = 0 ∨ m % 10 ≠ 0)

theorem is_any (w : World) (m s : Int) (h : GoodD m s) : Calls Tryz.prog 87 #[.agg #[.int .i64 m, .int .i64 s]] w fun e w' => e = .returned (.bool true) ∧ Below w.heap.size w w' := by
  obtain ⟨h1, h2, h3, h4, h5⟩ := h
  have hm : m.tmod 10 = 0 ↔ m % 10 = 0 := ⟨fun h => Int.emod_eq_zero_of_dvd (Int.dvd_of_tmod_eq_zero h), fun h => Int.tmod_eq_zero_of_dvd (Int.dvd_of_emod_eq_zero h)⟩
  by_cases h0 : s = 0
  · subst h0
    go_enter Tryz.func87, Tryz.ntmps87
    go_wp2
    go_ret
    exact ⟨rfl, (Below.refl _ _).alloc (Nat.le_refl _) _⟩
  · have h6 : ¬ m.tmod 10 = 0 := by
      rw [hm]
      rcases h5 with h | h
      · exact absurd h h0
      · exact h
    clear h5 hm
    have HT := Lib.hid (show (s == 0 || m.tmod 10 != 0) = true by simp [h6])
    go_enter Tryz.func87, Tryz.ntmps87
    go_wp2
    go_ret
    exact ⟨by show Ending.returned (Value.bool (s == 0 || m.tmod 10 != 0)) = _; rw [HT.out], (Below.refl _ _).alloc (Nat.le_refl _) _⟩

theorem rep_int (n : Int) (h : n.natAbs < 2 ^ 53) : Rep (floatOfInt .f64 n) n := by
  have := nearest_rep n (by
    by_cases h0 : n = 0
    · exact .inl h0
    · exact .inr (Ex.small (by omega) h))
  exact this

theorem of_any (w : World) (m s : Int) (h : GoodD m s) : Calls Tryz.prog 64 #[.agg #[.int .i64 m, .int .i64 s]] w fun e w' => ∃ re im, e = .returned (.complex .f64 re im) ∧ Rep re m ∧ Rep im s ∧ Below w.heap.size w w' := by
  have HI := Lib.hid (fun w => is_any w m s h)
  have HR := Lib.hid (rep_int m (by have := h.1; have := h.2.1; rw [p53]; omega))
  have HS := Lib.hid (rep_int s (by have := h.2.2.1; have := h.2.2.2.1; rw [p53]; omega))
  clear h
  go_enter Tryz.func64, Tryz.ntmps64
  go_wp2_with fail
  refine (HI.out _).mono ?_
  rintro e w' ⟨rfl, hb⟩
  have hz := hb.size
  simp only [World.size_alloc] at hz
  have hc := hb.cell (p := ⟨w.heap.size, 0, none⟩) (by simp)
  have hc2 := hb.cell (p := ⟨w.heap.size, 1, none⟩) (by simp)
  have HB := Lib.hid hb
  clear hb
  go_wp2_with fail
  go_ret
  exact ⟨_, _, rfl, HR.out, HS.out, ((Below.refl _ _).alloc (Nat.le_refl _) _).trans (HB.out.mono (by simp))⟩
end Go.Proofs.YtecomfhbdonkbaaGreatDoor
