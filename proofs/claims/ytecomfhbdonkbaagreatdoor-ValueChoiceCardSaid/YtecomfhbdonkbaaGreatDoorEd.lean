/- math.Pow10 at 0 to 6, and what leans on it: lifted, level, sum. -/
import Derived.Test.YtecomfhbdonkbaaGreatDoorEc
namespace Go.Proofs.YtecomfhbdonkbaaGreatDoor
open Go.RowKit Flo
set_option maxRecDepth 100000
set_option linter.unusedVariables false
set_option linter.unusedSimpArgs false

/-- ten by itself, so often, as a word. -/
def powW : Nat → Nat
  | 0 => 4607182418800017408
  | 1 => 4621819117588971520
  | 2 => 4636737291354636288
  | 3 => 4652007308841189376
  | 4 => 4666723172467343360
  | 5 => 4681608360884174848
  | _ => 4696837146684686336
theorem powW_rep {k : Nat} (h : k ≤ 6) : Rep (powW k) ((10 ^ k : Nat) : Int) := by
  have : k = 0 ∨ k = 1 ∨ k = 2 ∨ k = 3 ∨ k = 4 ∨ k = 5 ∨ k = 6 := by omega
  rcases this with rfl | rfl | rfl | rfl | rfl | rfl | rfl
  · exact rep_lit 1 (by decide) (by decide) _ (by decide)
  · exact rep_lit 10 (by decide) (by decide) _ (by decide)
  · exact rep_lit 100 (by decide) (by decide) _ (by decide)
  · exact rep_lit 1000 (by decide) (by decide) _ (by decide)
  · exact rep_lit 10000 (by decide) (by decide) _ (by decide)
  · exact rep_lit 100000 (by decide) (by decide) _ (by decide)
  · exact rep_lit 1000000 (by decide) (by decide) _ (by decide)

/-- the tables of powers, as the text lays them. -/
def PowAt (w : World) : Prop := (2 < w.heap.size ∧ 3 < w.heap.size) ∧ w.cell? ⟨2, 0, none⟩ = some (.float .f64 4607182418800017408) ∧ ∀ k, k ≤ 6 → w.cell? ⟨3, k, none⟩ = some (.float .f64 (powW k))
theorem PowAt.below {w w' : World} (h : PowAt w) (hb : Below w.heap.size w w') : PowAt w' :=
  ⟨⟨Nat.lt_of_lt_of_le h.1.1 hb.size, Nat.lt_of_lt_of_le h.1.2 hb.size⟩, (hb.cell (p := ⟨2, 0, none⟩) h.1.1).trans h.2.1, fun k hk => (hb.cell (p := ⟨3, k, none⟩) h.1.2).trans (h.2.2 k hk)⟩

theorem pow10_0 (w : World) (h : PowAt w) : Calls Tryz.prog 114 #[.int .i64 0] w fun e w' => e = .returned (.float .f64 (powW 0)) ∧ ∃ d, w' = w.drewN d := by
  have c1 := h.2.1
  have c2 := h.2.2 0 (by decide)
  have hm : ∀ t w, Sem.run Tryz.prog (binOp .mul t (.float .f64 4607182418800017408) (.float .f64 (powW 0))) w = .ok (.float .f64 (powW 0)) w := fun t w =>
    run_float_arith (P := Tryz.prog) w .mul t .f64 4607182418800017408 (powW 0) (powW 0) (by
      have hr := powW_rep (k := 0) (by decide)
      exact mul_one_f hr (by decide) (Ex.small (by decide) (by decide)))
  generalize powW 0 = pw at *
  go_enter Tryz.func114, Tryz.ntmps114
  go_wp2_with fail
  go_quiet (fail)
  go_wp2_with fail
  go_ret
  exact ⟨rfl, _, rfl⟩
theorem pow10_1 (w : World) (h : PowAt w) : Calls Tryz.prog 114 #[.int .i64 1] w fun e w' => e = .returned (.float .f64 (powW 1)) ∧ ∃ d, w' = w.drewN d := by
  have c1 := h.2.1
  have c2 := h.2.2 1 (by decide)
  have hm : ∀ t w, Sem.run Tryz.prog (binOp .mul t (.float .f64 4607182418800017408) (.float .f64 (powW 1))) w = .ok (.float .f64 (powW 1)) w := fun t w =>
    run_float_arith (P := Tryz.prog) w .mul t .f64 4607182418800017408 (powW 1) (powW 1) (by
      have hr := powW_rep (k := 1) (by decide)
      exact mul_one_f hr (by decide) (Ex.small (by decide) (by decide)))
  generalize powW 1 = pw at *
  go_enter Tryz.func114, Tryz.ntmps114
  go_wp2_with fail
  go_quiet (fail)
  go_wp2_with fail
  go_ret
  exact ⟨rfl, _, rfl⟩
theorem pow10_2 (w : World) (h : PowAt w) : Calls Tryz.prog 114 #[.int .i64 2] w fun e w' => e = .returned (.float .f64 (powW 2)) ∧ ∃ d, w' = w.drewN d := by
  have c1 := h.2.1
  have c2 := h.2.2 2 (by decide)
  have hm : ∀ t w, Sem.run Tryz.prog (binOp .mul t (.float .f64 4607182418800017408) (.float .f64 (powW 2))) w = .ok (.float .f64 (powW 2)) w := fun t w =>
    run_float_arith (P := Tryz.prog) w .mul t .f64 4607182418800017408 (powW 2) (powW 2) (by
      have hr := powW_rep (k := 2) (by decide)
      exact mul_one_f hr (by decide) (Ex.small (by decide) (by decide)))
  generalize powW 2 = pw at *
  go_enter Tryz.func114, Tryz.ntmps114
  go_wp2_with fail
  go_quiet (fail)
  go_wp2_with fail
  go_ret
  exact ⟨rfl, _, rfl⟩
theorem pow10_3 (w : World) (h : PowAt w) : Calls Tryz.prog 114 #[.int .i64 3] w fun e w' => e = .returned (.float .f64 (powW 3)) ∧ ∃ d, w' = w.drewN d := by
  have c1 := h.2.1
  have c2 := h.2.2 3 (by decide)
  have hm : ∀ t w, Sem.run Tryz.prog (binOp .mul t (.float .f64 4607182418800017408) (.float .f64 (powW 3))) w = .ok (.float .f64 (powW 3)) w := fun t w =>
    run_float_arith (P := Tryz.prog) w .mul t .f64 4607182418800017408 (powW 3) (powW 3) (by
      have hr := powW_rep (k := 3) (by decide)
      exact mul_one_f hr (by decide) (Ex.small (by decide) (by decide)))
  generalize powW 3 = pw at *
  go_enter Tryz.func114, Tryz.ntmps114
  go_wp2_with fail
  go_quiet (fail)
  go_wp2_with fail
  go_ret
  exact ⟨rfl, _, rfl⟩
theorem pow10_4 (w : World) (h : PowAt w) : Calls Tryz.prog 114 #[.int .i64 4] w fun e w' => e = .returned (.float .f64 (powW 4)) ∧ ∃ d, w' = w.drewN d := by
  have c1 := h.2.1
  have c2 := h.2.2 4 (by decide)
  have hm : ∀ t w, Sem.run Tryz.prog (binOp .mul t (.float .f64 4607182418800017408) (.float .f64 (powW 4))) w = .ok (.float .f64 (powW 4)) w := fun t w =>
    run_float_arith (P := Tryz.prog) w .mul t .f64 4607182418800017408 (powW 4) (powW 4) (by
      have hr := powW_rep (k := 4) (by decide)
      exact mul_one_f hr (by decide) (Ex.small (by decide) (by decide)))
  generalize powW 4 = pw at *
  go_enter Tryz.func114, Tryz.ntmps114
  go_wp2_with fail
  go_quiet (fail)
  go_wp2_with fail
  go_ret
  exact ⟨rfl, _, rfl⟩
theorem pow10_5 (w : World) (h : PowAt w) : Calls Tryz.prog 114 #[.int .i64 5] w fun e w' => e = .returned (.float .f64 (powW 5)) ∧ ∃ d, w' = w.drewN d := by
  have c1 := h.2.1
  have c2 := h.2.2 5 (by decide)
  have hm : ∀ t w, Sem.run Tryz.prog (binOp .mul t (.float .f64 4607182418800017408) (.float .f64 (powW 5))) w = .ok (.float .f64 (powW 5)) w := fun t w =>
    run_float_arith (P := Tryz.prog) w .mul t .f64 4607182418800017408 (powW 5) (powW 5) (by
      have hr := powW_rep (k := 5) (by decide)
      exact mul_one_f hr (by decide) (Ex.small (by decide) (by decide)))
  generalize powW 5 = pw at *
  go_enter Tryz.func114, Tryz.ntmps114
  go_wp2_with fail
  go_quiet (fail)
  go_wp2_with fail
  go_ret
  exact ⟨rfl, _, rfl⟩
theorem pow10_6 (w : World) (h : PowAt w) : Calls Tryz.prog 114 #[.int .i64 6] w fun e w' => e = .returned (.float .f64 (powW 6)) ∧ ∃ d, w' = w.drewN d := by
  have c1 := h.2.1
  have c2 := h.2.2 6 (by decide)
  have hm : ∀ t w, Sem.run Tryz.prog (binOp .mul t (.float .f64 4607182418800017408) (.float .f64 (powW 6))) w = .ok (.float .f64 (powW 6)) w := fun t w =>
    run_float_arith (P := Tryz.prog) w .mul t .f64 4607182418800017408 (powW 6) (powW 6) (by
      have hr := powW_rep (k := 6) (by decide)
      exact mul_one_f hr (by decide) (Ex.small (by decide) (by decide)))
  generalize powW 6 = pw at *
  go_enter Tryz.func114, Tryz.ntmps114
  go_wp2_with fail
  go_quiet (fail)
  go_wp2_with fail
  go_ret
  exact ⟨rfl, _, rfl⟩

theorem drewN_below (w : World) (d : Nat) : Below w.heap.size w (w.drewN d) := ⟨rfl, rfl, rfl, Nat.le_refl _, fun _ _ => rfl⟩

theorem pow10_any (k : Nat) (hk : k ≤ 6) (w : World) (h : PowAt w) : Calls Tryz.prog 114 #[.int .i64 (k : Int)] w fun e w' => e = .returned (.float .f64 (powW k)) ∧ Below w.heap.size w w' := by
  have key : Calls Tryz.prog 114 #[.int .i64 (k : Int)] w fun e w' => e = .returned (.float .f64 (powW k)) ∧ ∃ d, w' = w.drewN d := by
    have : k = 0 ∨ k = 1 ∨ k = 2 ∨ k = 3 ∨ k = 4 ∨ k = 5 ∨ k = 6 := by omega
    rcases this with rfl | rfl | rfl | rfl | rfl | rfl | rfl
    · exact pow10_0 w h
    · exact pow10_1 w h
    · exact pow10_2 w h
    · exact pow10_3 w h
    · exact pow10_4 w h
    · exact pow10_5 w h
    · exact pow10_6 w h
  refine key.mono ?_
  rintro e w' ⟨rfl, d, rfl⟩
  exact ⟨rfl, drewN_below w d⟩

/-- a number led to more digits behind the point: told whole, or too great. -/
def Lft (re : Nat) (n : Int) : Prop := Rep re n ∨ (2 ^ 54 ≤ n.natAbs ∧ Big (2 ^ 54) (decide (n < 0)) re)

theorem p54 : (2 : Nat) ^ 54 = 18014398509481984 := by decide

theorem lift_num {re : Nat} {n : Int} {d : Nat} (h : Rep re n) (hn : n.natAbs ≤ 999999999999999) (hd : d ≤ 6) :
    ∃ r, Ieee.double.mul re (powW d) = some r ∧ Lft r (n * (10 ^ d : Nat)) ∧ (d = 0 → Rep r n) := by
  have hp := powW_rep hd
  by_cases hb : (n * (10 ^ d : Nat)).natAbs < 2 ^ 54
  · have hx : n * (10 ^ d : Nat) = 0 ∨ Ex (n * (10 ^ d : Nat)).natAbs := by
      by_cases h0 : n * (10 ^ d : Nat) = 0
      · exact .inl h0
      · right
        by_cases h53 : (n * (10 ^ d : Nat)).natAbs < 2 ^ 53
        · exact Ex.small (by omega) h53
        · have hd0 : d ≠ 0 := by
            intro e
            subst e
            rw [p53] at h53
            simp at h53
            omega
          obtain ⟨j, rfl⟩ : ∃ j, d = j + 1 := ⟨d - 1, by omega⟩
          have he : (n * (10 ^ (j + 1) : Nat)).natAbs = (n.natAbs * 10 ^ j * 5) * 2 ^ 1 := by
            rw [Int.natAbs_mul, Nat.pow_succ]
            simp only [Int.natAbs_natCast]
            rw [Nat.mul_assoc, Nat.mul_assoc]
          refine ⟨by omega, ?_, _, 1, he, ?_⟩
          · have := (Nat.log2_lt (show (n * (10 ^ (j + 1) : Nat)).natAbs ≠ 0 by omega) (k := 54)).2 hb
            omega
          · rw [he] at hb
            rw [p53, p54] at *
            omega
    obtain ⟨r, h1, h2⟩ := mul_rep h hp hx
    refine ⟨r, h1, .inl h2, fun e => ?_⟩
    subst e
    simpa using h2
  · have hb : 2 ^ 54 ≤ (n * (10 ^ d : Nat)).natAbs := by omega
    obtain ⟨r, h1, h2⟩ := mul_over (t := 54) (by decide) h hp hb
    refine ⟨r, h1, .inr ⟨hb, h2⟩, fun e => ?_⟩
    subst e
    rw [p54] at hb
    simp at hb
    omega

theorem lifted_any (w : World) (re im sc : Nat) (n : Int) (k S : Nat) (hr : Rep re n) (hi : Rep im (k : Int)) (hs : Rep sc (S : Int)) (hn : n.natAbs ≤ 999999999999999) (hk : k ≤ S) (hS : S ≤ 6) (hP : PowAt w) :
    Calls Tryz.prog 86 #[.complex .f64 re im, .float .f64 sc] w fun e w' => ∃ r, e = .returned (.complex .f64 r sc) ∧ Lft r (n * (10 ^ (S - k) : Nat)) ∧ (k = S → Rep r n) ∧ Below w.heap.size w w' := by
  obtain ⟨d, hd, hd2⟩ := sub_rep hs hi (by
    by_cases h : (S : Int) - k = 0
    · exact .inl h
    · exact .inr (Ex.small (by omega) (by rw [p53]; omega)))
  have e : ((S - k : Nat) : Int) = (S : Int) - k := by omega
  rw [← e] at hd2
  have t1 := fun t w => run_float_arith (P := Tryz.prog) w .sub t .f64 sc im d hd
  have t2 := fun w => run_toInt hd2 (by rw [p53]; omega) 86 3 (by kernel_rfl) Tryz.underlying3 w
  have HP := Lib.hid (pow10_any (S - k) (by omega) w hP)
  obtain ⟨r, h1, h2, h3⟩ := lift_num hr hn (show S - k ≤ 6 by omega)
  have t3 := fun t w => run_float_arith (P := Tryz.prog) w .mul t .f64 re (powW (S - k)) r h1
  have HR := Lib.hid (And.intro h2 (show k = S → Rep r n from fun e => h3 (by omega)))
  clear hr hi hs hn hk hS hP hd hd2 e h1 h2 h3
  generalize powW (S - k) = pw at *
  generalize hD : S - k = D at *
  clear hD
  go_enter Tryz.func86, Tryz.ntmps86
  go_wp2_with fail
  refine (HP.out).mono ?_
  rintro e w' ⟨rfl, hb⟩
  go_wp2_with fail
  go_ret
  exact ⟨_, rfl, HR.out.1, HR.out.2, hb⟩

theorem fmax {x y : Nat} {a b : Int} (hx : Rep x a) (hy : Rep y b) : ∃ m, (∀ (ts : Array TypeId) t w, Sem.run Tryz.prog (Builtin.max_ ts t #[.float .f64 x, .float .f64 y]) w = .ok (.float .f64 m) w) ∧ Rep m (max a b) := by
  have ho := ord hx hy
  rcases Int.lt_trichotomy a b with h | h | h
  · have h1 := ord_lt hx hy h
    refine ⟨y, fun ts t w => by simp [Builtin.max_, Builtin.max2, h1], ?_⟩
    rw [Int.max_eq_right (by omega)]; exact hy
  · have h1 := ord_eq hx hy h
    refine ⟨if (FloatKind.f64.decode x).neg then y else x, fun ts t w => by simp [Builtin.max_, Builtin.max2, h1], ?_⟩
    subst h
    rw [Int.max_self]
    split
    · exact hy
    · exact hx
  · have h1 := ord_gt hx hy h
    refine ⟨x, fun ts t w => by simp [Builtin.max_, Builtin.max2, h1], ?_⟩
    rw [Int.max_eq_left (by omega)]; exact hx

theorem level_any (w : World) (re im re2 im2 : Nat) (n m : Int) (k j : Nat) (hr : Rep re n) (hi : Rep im (k : Int)) (hr2 : Rep re2 m) (hi2 : Rep im2 (j : Int))
    (hn : n.natAbs ≤ 999999999999999) (hm : m.natAbs ≤ 999999999999999) (hk : k ≤ 6) (hj : j ≤ 6) (hP : PowAt w) :
    Calls Tryz.prog 63 #[.complex .f64 re im, .complex .f64 re2 im2] w fun e w' => ∃ r r2 sc, e = .returned (.tuple #[.complex .f64 r sc, .complex .f64 r2 sc]) ∧
      Rep sc ((max k j : Nat) : Int) ∧ Lft r (n * (10 ^ (max k j - k) : Nat)) ∧ Lft r2 (m * (10 ^ (max k j - j) : Nat)) ∧ (k = max k j → Rep r n) ∧ (j = max k j → Rep r2 m) ∧ Below w.heap.size w w' := by
  obtain ⟨sc, t1, hs⟩ := fmax hi hi2
  have e : max (k : Int) (j : Int) = ((max k j : Nat) : Int) := by omega
  rw [e] at hs
  have hmx : k ≤ max k j ∧ j ≤ max k j ∧ max k j ≤ 6 := by omega
  have HS := Lib.hid hs
  generalize max k j = S at *
  have HA := Lib.hid (fun w hP => lifted_any w re im sc n k S hr hi hs hn hmx.1 hmx.2.2 hP)
  have HC := Lib.hid (fun w hP => lifted_any w re2 im2 sc m j S hr2 hi2 hs hm hmx.2.1 hmx.2.2 hP)
  clear hr hi hr2 hi2 hn hm hk hj hs e hmx
  go_enter Tryz.func63, Tryz.ntmps63
  go_wp2_with fail
  refine (HA.out w hP).mono ?_
  rintro e w1 ⟨r, rfl, h1, h2, hb⟩
  have HL := Lib.hid (And.intro h1 h2)
  have hP1 := hP.below hb
  clear h1 h2
  go_wp2_with fail
  refine (HC.out w1 hP1).mono ?_
  rintro e w2 ⟨r2, rfl, h1, h2, hb2⟩
  have HL2 := Lib.hid (And.intro h1 h2)
  clear h1 h2
  go_wp2_with fail
  go_ret2
  exact ⟨_, _, _, rfl, HS.out, HL.out.1, HL2.out.1, HL.out.2, HL2.out.2, hb.trans (hb2.mono hb.size)⟩

theorem big54 {s : Bool} {w : Nat} (h : Big (2 ^ 54) s w) : Big (2 ^ 53) s w := h.mono (by rw [p53, p54]; decide)

/-- the sum of two that are led to the same place, one of which is as it was. -/
theorem sum_num {x y : Nat} {a b : Int} (hx : Lft x a) (hy : Lft y b) (h : (Rep x a ∧ a.natAbs ≤ 999999999999999) ∨ (Rep y b ∧ b.natAbs ≤ 999999999999999)) :
    ∃ r, Ieee.double.add x y = some r ∧ (((a + b).natAbs < 2 ^ 53 ∧ Rep r (a + b)) ∨ (2 ^ 53 ≤ (a + b).natAbs ∧ ∃ s, Big (2 ^ 53) s r)) := by
  have both : ∀ {x y : Nat} {a b : Int}, Rep x a → Rep y b → ∃ r, Ieee.double.add x y = some r ∧ (((a + b).natAbs < 2 ^ 53 ∧ Rep r (a + b)) ∨ (2 ^ 53 ≤ (a + b).natAbs ∧ ∃ s, Big (2 ^ 53) s r)) := by
    intro x y a b hx hy
    by_cases hb : (a + b).natAbs < 2 ^ 53
    · obtain ⟨r, h1, h2⟩ := add_rep hx hy (by
        by_cases h0 : a + b = 0
        · exact .inl h0
        · exact .inr (Ex.small (by omega) hb))
      exact ⟨r, h1, .inl ⟨hb, h2⟩⟩
    · obtain ⟨r, h1, h2⟩ := add_over (t := 53) (by decide) hx hy (by omega)
      exact ⟨r, h1, .inr ⟨by omega, _, h2⟩⟩
  have one : ∀ {x y : Nat} {a b : Int}, 2 ^ 54 ≤ a.natAbs → Big (2 ^ 54) (decide (a < 0)) x → Rep y b → b.natAbs ≤ 999999999999999 →
      ∃ r, Ieee.double.add x y = some r ∧ (((a + b).natAbs < 2 ^ 53 ∧ Rep r (a + b)) ∨ (2 ^ 53 ≤ (a + b).natAbs ∧ ∃ s, Big (2 ^ 53) s r)) := by
    intro x y a b ha hx hy hb
    obtain ⟨r, h1, h2⟩ := add_big (t := 53) (C := 999999999999999) (by decide) hx hy (by split <;> omega) (by rw [p54]; decide) (by rw [p53, p54]; decide)
    refine ⟨r, h1, .inr ⟨?_, _, h2⟩⟩
    rw [p54] at ha
    rw [p53]
    omega
  rcases hx with hx | ⟨hx1, hx2⟩
  · rcases hy with hy | ⟨hy1, hy2⟩
    · exact both hx hy
    · have h9 : Rep x a ∧ a.natAbs ≤ 999999999999999 := by
        rcases h with h | ⟨-, h⟩
        · exact h
        · rw [p54] at hy1; omega
      obtain ⟨r, h1, h2⟩ := one hy1 hy2 h9.1 h9.2
      rw [add_comm_f, Int.add_comm]
      exact ⟨r, h1, h2⟩
  · have h9 : Rep y b ∧ b.natAbs ≤ 999999999999999 := by
      rcases h with ⟨-, h⟩ | h
      · rw [p54] at hx1; omega
      · exact h
    exact one hx1 hx2 h9.1 h9.2

theorem sum_any (w : World) (re im re2 im2 : Nat) (n m : Int) (k j : Nat) (hr : Rep re n) (hi : Rep im (k : Int)) (hr2 : Rep re2 m) (hi2 : Rep im2 (j : Int))
    (hn : n.natAbs ≤ 999999999999999) (hm : m.natAbs ≤ 999999999999999) (hk : k ≤ 6) (hj : j ≤ 6) (hP : PowAt w) :
    Calls Tryz.prog 140 #[.complex .f64 re im, .complex .f64 re2 im2] w fun e w' => ∃ r i, e = .returned (.complex .f64 r i) ∧
      Num r i (n * (10 ^ (max k j - k) : Nat) + m * (10 ^ (max k j - j) : Nat)) (max k j) ∧ Below w.heap.size w w' := by
  have HL := Lib.hid (level_any w re im re2 im2 n m k j hr hi hr2 hi2 hn hm hk hj hP)
  have HN := Lib.hid (And.intro hn hm)
  have HM := Lib.hid (show max k j ≤ 6 ∧ (k = max k j ∨ j = max k j) by omega)
  clear hr hi hr2 hi2 hn hm hk hj
  go_enter Tryz.func140, Tryz.ntmps140
  go_wp2_with fail
  refine (HL.out).mono ?_
  rintro e w1 ⟨r, r2, sc, rfl, hs, h1, h2, h3, h4, hb⟩
  obtain ⟨z, hz1, hz2⟩ := sum_num h1 h2 (by
    rcases HM.out.2 with h | h
    · left
      refine ⟨?_, ?_⟩
      · have := h3 h
        rw [show max k j - k = 0 by omega]
        simpa using this
      · rw [show max k j - k = 0 by omega]
        simpa using HN.out.1
    · right
      refine ⟨?_, ?_⟩
      · have := h4 h
        rw [show max k j - j = 0 by omega]
        simpa using this
      · rw [show max k j - j = 0 by omega]
        simpa using HN.out.2)
  obtain ⟨i, hi1, hi2⟩ := add_rep hs rep0 (by
    by_cases h0 : ((max k j : Nat) : Int) + 0 = 0
    · exact .inl h0
    · exact .inr (Ex.small (by omega) (by have := HM.out.1; rw [p53]; omega)))
  rw [Int.add_zero] at hi2
  have t1 := fun t w => run_complex_sum (P := Tryz.prog) w .add (.inl rfl) t .f64 r sc r2 0 z i (by
    have e1 : floatBits .add .f64 r r2 = some z := hz1
    have e2 : floatBits .add .f64 sc 0 = some i := hi1
    simp [cSumBits, e1, e2])
  have HZ := Lib.hid (show Num z i (n * (10 ^ (max k j - k) : Nat) + m * (10 ^ (max k j - j) : Nat)) (max k j) from ⟨hi2, by have := HM.out.1; omega, hz2⟩)
  clear hs h1 h2 h3 h4 hz1 hz2 hi1 hi2
  go_wp2_with fail
  go_ret
  exact ⟨_, _, rfl, HZ.out, hb⟩
end Go.Proofs.YtecomfhbdonkbaaGreatDoor
