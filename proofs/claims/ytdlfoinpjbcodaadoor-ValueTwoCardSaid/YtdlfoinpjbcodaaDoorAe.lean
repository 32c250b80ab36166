/- Package value: Truth, Equal, Less. -/
import Derived.Test.YtdlfoinpjbcodaaDoorAd
import Derived.Test.YtdlfoinpjbcodaaDoorRj
import Derived.Deep.RegionLaw
namespace Go.Proofs.YtdlfoinpjbcodaaDoor
open Go.RowKit Go.Shelf Flo
set_option maxRecDepth 100000
set_option linter.unusedVariables false
set_option linter.unusedSimpArgs false

theorem decimal_of (re im : Nat) (m s : Int) (hr : Rep re m) (hi : Rep im s) (hm : m.natAbs < 2 ^ 53) (hs : s.natAbs < 2 ^ 53) (w : World) :
    Calls Tryd.prog 24 #[.complex .f64 re im] w fun e w' => e = .returned (.agg #[.int .i64 m, .int .i64 s]) ∧ Below w.heap.size w w' := by
  have t1 := fun w => run_toInt hr hm 41 3 (by kernel_rfl) Tryd.underlying3 w
  have t2 := fun w => run_toInt hi hs 41 3 (by kernel_rfl) Tryd.underlying3 w
  clear hr hi hm hs
  go_enter Tryd.func24, Tryd.ntmps24
  go_wp2_with fail
  exact bodyPost_ret (v := .agg #[.int .i64 m, .int .i64 s]) (by simp [results, Tryd.results24, go_sem]) rfl ⟨rfl, (Below.refl _ _).alloc (Nat.le_refl _) _⟩

theorem wt_plain_small {t : Tm} (ht : t.Sm) {n : Nat} (h : wt t = .plain n) : n ≤ 200 := by
  unfold wt at h
  split at h
  · split at h
    · split at h
      · cases h
      · unfold wtNum at h; split at h <;> cases h
    · split at h
      · unfold wtNum at h; split at h <;> cases h
      · split at h
        · split at h
          · cases h
          · split at h <;> cases h
        · split at h
          · split at h
            · cases h; exact ht.s
            · cases h
          · cases h
  · cases h
theorem wt_num_good {t : Tm} {m : Int} {s : Nat} (h : wt t = .num m s) : GoodD m (s : Int) := by
  have key : ∀ o : Option (Int × Nat), (∀ p, o = some p → GoodD p.1 (p.2 : Int)) → wtNum o = .num m s → GoodD m (s : Int) := by
    intro o ho h
    cases o with
    | none => cases h
    | some p =>
      have := ho p rfl
      injection h with h1 h2
      rw [← h1, ← h2]
      exact this
  unfold wt at h
  split at h
  · split at h
    · split at h
      · cases h
      · exact key _ (fun p hp => decO_good hp) h
    · split at h
      · exact key _ (fun p hp => decO_good hp) h
      · split at h
        · split at h
          · cases h
          · split at h <;> cases h
        · split at h
          · split at h <;> cases h
          · cases h
  · cases h
/-- A weight is small. -/
theorem wt_small {t : Tm} (ht : t.Sm) : (wt t).re.natAbs < 2 ^ 53 ∧ (wt t).im.natAbs < 2 ^ 53 := by
  rw [p53]
  cases h : wt t with
  | num m s =>
    have := wt_num_good h
    show m.natAbs < _ ∧ ((s : Nat) : Int).natAbs < _
    have h1 := this.abs
    have h2 := this.2.2.2.1
    omega
  | tr b => cases b <;> exact ⟨by decide, by decide⟩
  | plain n =>
    have := wt_plain_small ht h
    show ((n : Nat) : Int).natAbs < _ ∧ (-2 : Int).natAbs < _
    omega
  | spoken => exact ⟨by decide, by decide⟩
  | strange => exact ⟨by decide, by decide⟩
  | node => exact ⟨by decide, by decide⟩
theorem rep_lt {r q : Nat} {n m : Int} (h : Rep r n) (h2 : Rep q m) : (FloatKind.f64.format.order r q == some .lt) = decide (n < m) := by
  rcases Int.lt_trichotomy n m with h1 | h1 | h1
  · rw [ord_lt h h2 h1, decide_eq_true (by omega)]; rfl
  · rw [ord_eq h h2 h1, decide_eq_false (by omega)]; rfl
  · rw [ord_gt h h2 h1, decide_eq_false (by omega)]; rfl
theorem rep_eq {r q : Nat} {n m : Int} (h : Rep r n) (h2 : Rep q m) : (FloatKind.f64.format.order r q == some .eq) = decide (n = m) := by
  rcases Int.lt_trichotomy n m with h1 | h1 | h1
  · rw [ord_lt h h2 h1, decide_eq_false (by omega)]; rfl
  · rw [ord_eq h h2 h1, decide_eq_true (by omega)]; rfl
  · rw [ord_gt h h2 h1, decide_eq_false (by omega)]; rfl
theorem truth_wt (t : Tm) : truthO t = if (wt t).im < -2 then none else some (decide ((wt t).re ≠ 0)) := by
  unfold truthO
  cases wt t with
  | num m s => show _ = if (s : Int) < -2 then _ else some (decide (m ≠ 0)); rw [if_neg (by omega)]
  | tr b => cases b <;> rfl
  | plain n =>
    show some (decide (n ≠ 0)) = some (decide (((n : Nat) : Int) ≠ 0))
    congr 1
    rw [Bool.eq_iff_iff, decide_eq_true_eq, decide_eq_true_eq]
    omega
  | _ => rfl
/-- What Truth answers. -/
def twoB : Option Bool → Value
  | none => .tuple #[.bool false, .bool false]
  | some b => .tuple #[.bool b, .bool true]
set_option maxHeartbeats 1000000 in
theorem truth_any (t : Tm) (ht : t.Sm) (w : World) : Calls Tryd.prog 8 #[t.val] w fun e w' => e = .returned (twoB (truthO t)) ∧ Below w.heap.size w w' := by
  have HW := Lib.hid (fun w => weigh_any t ht w)
  rw [truth_wt]
  generalize wt t = x at HW ⊢
  obtain ⟨V, hV⟩ : ∃ V, V = twoB (if x.im < -2 then none else some (decide (x.re ≠ 0))) := ⟨_, rfl⟩
  rw [← hV]
  have HV := Lib.hid hV
  clear hV
  have HB := Lib.hid ((Below.refl w.heap.size w).alloc (Nat.le_refl _) (.cells #[.int .i64 t.k, .string t.s, .string t.l, .string t.t] 23))
  unfold Tm.val
  unfold Tm.val at HW
  go_enter Tryd.func8, Tryd.ntmps8
  go_wp2_with fail
  refine (HW.out _).mono ?_
  rintro e w1 ⟨re, im, rfl, hw, hb⟩
  have HY := Lib.hid (HB.out.trans (hb.mono (by simp)))
  have e1 := rep_lt hw.2 repm2
  have e2 := rep_eq hw.1 rep0
  clear hw hb HB
  by_cases hc : x.im < -2
  · have HF := Lib.hid (show V = .tuple #[.bool false, .bool false] by rw [HV.out, if_pos hc]; rfl)
    rw [decide_eq_true hc] at e1
    clear hc e2
    go_wp2_with fail
    go_ret2
    exact ⟨HF.out.symm ▸ rfl, HY.out⟩
  · have HF := Lib.hid (show V = .tuple #[.bool (decide (x.re ≠ 0)), .bool true] by rw [HV.out, if_neg hc]; rfl)
    rw [decide_eq_false hc] at e1
    have e3 : decide (x.re ≠ 0) = !decide (x.re = 0) := by simp
    rw [e3] at HF
    generalize decide (x.re = 0) = d at e2 HF
    have e4 : (FloatKind.f64.format.order re 0 != some .eq) = !d := by rw [bne, e2]
    clear hc e3 e2
    generalize (!d) = d at e4 HF
    go_wp2_with fail
    go_ret2
    exact ⟨by rw [HF.out]; simp [e4], HY.out⟩
/-- Two weights: is both's a number? -/
def bothN (x y : Wt) : Bool := decide (0 ≤ min x.im y.im)
theorem bothN_num {x y : Wt} (h : bothN x y = true) : ∃ m s m2 s2, x = .num m s ∧ y = .num m2 s2 := by
  unfold bothN at h
  rw [decide_eq_true_eq] at h
  have h1 : 0 ≤ x.im := by omega
  have h2 : 0 ≤ y.im := by omega
  have key : ∀ x : Wt, 0 ≤ x.im → ∃ m s, x = .num m s := by
    intro x hx
    cases x with
    | num m s => exact ⟨m, s, rfl⟩
    | tr b => exact absurd (show (0 : Int) ≤ -1 from hx) (by decide)
    | plain n => exact absurd (show (0 : Int) ≤ -2 from hx) (by decide)
    | spoken => exact absurd (show (0 : Int) ≤ -3 from hx) (by decide)
    | strange => exact absurd (show (0 : Int) ≤ -4 from hx) (by decide)
    | node => exact absurd (show (0 : Int) ≤ -5 from hx) (by decide)
  obtain ⟨m, s, rfl⟩ := key x h1
  obtain ⟨m2, s2, rfl⟩ := key y h2
  exact ⟨_, _, _, _, rfl, rfl⟩
theorem equal_bool (a b : Tm) (w : World) : (Op.equalIn 10000 23 (.agg #[.int .i64 a.k, .string a.s, .string a.l, .string a.t]) (.agg #[.int .i64 b.k, .string b.s, .string b.l, .string b.t])).run Tryd.prog w = .ok (tmEq a b) w := by
  have e : tmEq a b = (a.k == b.k && (a.s.toList == b.s.toList && (a.l.toList == b.l.toList && a.t.toList == b.t.toList))) := by
    unfold tmEq Tm.sl Tm.ll Tm.tl
    simp only [Lib.toList_data]
    have d : ∀ x y : List UInt8, decide (x = y) = (x == y) := fun x y => by rw [Bool.eq_iff_iff, decide_eq_true_eq, beq_iff_eq]
    have d2 : ∀ x y : Int, decide (x = y) = (x == y) := fun x y => by rw [Bool.eq_iff_iff, decide_eq_true_eq, beq_iff_eq]
    rw [d, d, d, d2]
  rw [e]
  cases h1 : a.k == b.k <;> cases h2 : a.s.toList == b.s.toList <;> cases h3 : a.l.toList == b.l.toList <;> cases h4 : a.t.toList == b.t.toList
  all_goals go_simp
/-- A term in a box. -/
def TmB (w : World) (b : Nat) (t : Tm) : Prop := b < w.heap.size ∧ w.cell? ⟨b, 0, none⟩ = some (.int .i64 t.k) ∧ w.cell? ⟨b, 1, none⟩ = some (.string t.s) ∧ w.cell? ⟨b, 2, none⟩ = some (.string t.l) ∧ w.cell? ⟨b, 3, none⟩ = some (.string t.t)
theorem TmB.below {w w' : World} {b : Nat} {t : Tm} (h : TmB w b t) (hb : Below w.heap.size w w') : TmB w' b t := by
  obtain ⟨h0, h1, h2, h3, h4⟩ := h
  have c : ∀ j, w'.cell? ⟨b, j, none⟩ = w.cell? ⟨b, j, none⟩ := fun j => hb.cell (p := ⟨b, j, none⟩) h0
  exact ⟨Nat.lt_of_lt_of_le h0 hb.size, (c _).trans h1, (c _).trans h2, (c _).trans h3, (c _).trans h4⟩
theorem TmB.new (w : World) (t : Tm) (ty : TypeId) : TmB (w.alloc (.cells #[.int .i64 t.k, .string t.s, .string t.l, .string t.t] ty)) w.heap.size t := ⟨by simp, by simp, by simp, by simp, by simp⟩
/-- What stays while two terms are looked at. -/
def TwoT (w : World) (a b : Tm) (v : World) : Prop := Below w.heap.size w v ∧ TmB v w.heap.size a ∧ TmB v (w.heap.size + 1) b
theorem TwoT.below {w v v' : World} {a b : Tm} (h : TwoT w a b v) (hb : Below v.heap.size v v') : TwoT w a b v' := ⟨h.1.trans (hb.mono h.1.size), h.2.1.below hb, h.2.2.below hb⟩
theorem TwoT.new (w : World) (a b : Tm) (ty : TypeId) : TwoT w a b ((w.alloc (.cells #[.int .i64 a.k, .string a.s, .string a.l, .string a.t] ty)).alloc (.cells #[.int .i64 b.k, .string b.s, .string b.l, .string b.t] ty)) := by
  have h1 := TmB.new w a ty
  have b1 := (Below.refl w.heap.size w).alloc (Nat.le_refl _) (.cells #[.int .i64 a.k, .string a.s, .string a.l, .string a.t] ty)
  have z1 : (w.alloc (.cells #[.int .i64 a.k, .string a.s, .string a.l, .string a.t] ty)).heap.size = w.heap.size + 1 := by simp
  generalize w.alloc (.cells #[.int .i64 a.k, .string a.s, .string a.l, .string a.t] ty) = w1 at *
  have h2 := TmB.new w1 b ty
  have b2 := (Below.refl w1.heap.size w1).alloc (Nat.le_refl _) (.cells #[.int .i64 b.k, .string b.s, .string b.l, .string b.t] ty)
  rw [z1] at h2
  exact ⟨b1.trans (b2.mono (by omega)), h1.below b2, h2⟩
theorem below_drew15 (w : World) : Below w.heap.size w w.drew := (Below.refl _ _).drew
end Go.Proofs.YtdlfoinpjbcodaaDoor
