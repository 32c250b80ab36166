/- DecKnown: its tables, plainly. -/
import Derived.Test.YtodhklapikfpoaaDoorVj
import Derived.Test.YtodhklapikfpoaaDoorPs
namespace Go.Proofs.YtodhklapikfpoaaDoor
open Go.RowKit Go.Shelf Flo
set_option maxRecDepth 100000
set_option linter.unusedVariables false
set_option linter.unusedSimpArgs false

/-- how many digits, by so many steps. -/
def nDf : Nat → Nat → Nat
  | 0, _ => 1
  | f + 1, u => if u < 10 then 1 else nDf f (u / 10) + 1
theorem nDf_eq : ∀ (f u : Nat), u < 10 ^ (f + 1) → nDf f u = Lib.nDigits u
  | 0, u, h => by rw [Lib.nDigits_small (by simpa using h)]; rfl
  | f + 1, u, h => by
    by_cases h1 : u < 10
    · rw [Lib.nDigits_small h1]; exact if_pos h1
    · rw [Lib.nDigits_big h1]
      show (if u < 10 then 1 else nDf f (u / 10) + 1) = _
      rw [if_neg h1, nDf_eq f (u / 10) (by rw [Nat.pow_succ] at h; omega)]
def absF (n s : Nat) : List UInt8 :=
  (fixL (max (s + 1) (nDf 15 n)) n).take (max (s + 1) (nDf 15 n) - s) ++ (if s = 0 then [] else 46 :: (fixL (max (s + 1) (nDf 15 n)) n).drop (max (s + 1) (nDf 15 n) - s))
def printF (m : Int) (s : Nat) : List UInt8 := if m < 0 then 45 :: absF m.natAbs s else absF m.natAbs s
theorem printF_eq (m : Int) (s : Nat) (h : m.natAbs ≤ 999999999999999) : printF m s = printL m s := by
  have e : nDf 15 m.natAbs = Lib.nDigits m.natAbs := nDf_eq 15 _ (Nat.lt_of_le_of_lt h (by decide))
  unfold printF printL absF absP padL lenD
  rw [e]

def goodB (m : Int) (s : Nat) : Bool := decide (-999999999999999 ≤ m) && decide (m ≤ 999999999999999) && decide (s ≤ 6) && (decide (s = 0) || decide (m % 10 ≠ 0))
theorem good_of {m : Int} {s : Nat} (h : goodB m s = true) : GoodD m (s : Int) := by
  unfold goodB at h
  simp only [Bool.and_eq_true, Bool.or_eq_true, decide_eq_true_eq] at h
  exact ⟨h.1.1.1, h.1.1.2, by omega, by omega, by omega⟩

def kX : List (Int × Nat) := [(1, 1), (5, 1), (999999999999999, 0), (999999999999999, 1), (1, 3), (-7, 0), (1000000, 0), (999999999, 0), (1, 6), (125, 1)]
def kY : List (Int × Nat) := [(2, 1), (-5, 1), (1, 0), (1, 1), (1, 3), (-7, 0), (1000000, 0), (1000001, 0), (1, 1), (8, 0)]
def kS1 : List (List UInt8) := [[48, 46, 51], [48], [], [49, 48, 48, 48, 48, 48, 48, 48, 48, 48, 48, 48, 48, 48, 48], [48, 46, 48, 48, 50], [45, 49, 52], [50, 48, 48, 48, 48, 48, 48], [49, 48, 48, 49, 48, 48, 48, 48, 48, 48], [48, 46, 49, 48, 48, 48, 48, 49], [50, 48, 46, 53]]
def kS2 : List (List UInt8) := [[48, 46, 48, 50], [45, 48, 46, 50, 53], [57, 57, 57, 57, 57, 57, 57, 57, 57, 57, 57, 57, 57, 57, 57], [57, 57, 57, 57, 57, 57, 57, 57, 57, 57, 57, 57, 57, 46, 57, 57], [48, 46, 48, 48, 48, 48, 48, 49], [52, 57], [49, 48, 48, 48, 48, 48, 48, 48, 48, 48, 48, 48, 48], [], [], [49, 48, 48]]
def kS3 : List (List UInt8) := [[48, 46, 48, 51, 51, 51, 51, 51], [48, 46, 49, 54, 54, 54, 54, 54], [51, 51, 51, 51, 51, 51, 51, 51, 51, 51, 51, 51, 51, 51, 51], [51, 51, 51, 51, 51, 51, 51, 51, 51, 51, 51, 51, 51, 51, 46, 51], [48, 46, 48, 48, 48, 51, 51, 51], [45, 50, 46, 51, 51, 51, 51, 51, 51], [51, 51, 51, 51, 51, 51, 46, 51, 51, 51, 51, 51, 51], [51, 51, 51, 51, 51, 51, 51, 51, 51], [48], [52, 46, 49, 54, 54, 54, 54, 54]]
def xAt (k : Nat) : Int × Nat := kX.getD k (0, 0)
def yAt (k : Nat) : Int × Nat := kY.getD k (0, 0)
def s1At (k : Nat) : List UInt8 := kS1.getD k []
def s2At (k : Nat) : List UInt8 := kS2.getD k []
def s3At (k : Nat) : List UInt8 := kS3.getD k []
def sumK (k : Nat) : Int × Nat := nrm (sixI (xAt k).1 (xAt k).2 + sixI (yAt k).1 (yAt k).2) 6
def mulK (k : Nat) : Int × Nat := nrm ((xAt k).1 * (yAt k).1) ((xAt k).2 + (yAt k).2)
def divK (k : Nat) : Int × Nat := nrm (sgnI (decide ((xAt k).1 < 0)) (divQ (xAt k).1 (xAt k).2 3)) 6
def tellB (p : Int × Nat) (s : List UInt8) : Bool := if fitsL p then goodB p.1 p.2 && (printF p.1 p.2 == s) && !(s == []) else s == []
theorem known_table : ((List.range 10).all fun k => goodB (xAt k).1 (xAt k).2 && goodB (yAt k).1 (yAt k).2 && tellB (sumK k) (s1At k) && tellB (mulK k) (s2At k) && tellB (divK k) (s3At k) && fitsL (divK k) && (fitsL (sumK k) || fitsL (mulK k))) = true := by decide +kernel

/-- what an answer is, and what it prints. -/
theorem tell_of {p : Int × Nat} {s : List UInt8} (h : tellB p s = true) :
    ∃ (m c : Int) (b : Bool), decP p = .tuple #[.agg #[.int .i64 m, .int .i64 c], .bool b] ∧ b = fitsL p ∧ (b = true → GoodD m c ∧ printL m c.toNat = s ∧ s ≠ []) ∧ (b = false → s = []) := by
  unfold tellB at h
  by_cases hf : fitsL p = true
  · rw [if_pos hf] at h
    simp only [Bool.and_eq_true, Bool.not_eq_true', beq_iff_eq, beq_eq_false_iff_ne] at h
    obtain ⟨⟨h1, h2⟩, h3⟩ := h
    have g := good_of h1
    refine ⟨p.1, (p.2 : Int), true, by unfold decP; rw [if_pos hf], hf.symm, fun _ => ⟨g, ?_, h3⟩, fun h => by cases h⟩
    rw [Int.toNat_natCast, ← printF_eq _ _ g.abs, h2]
  · rw [if_neg hf] at h
    refine ⟨0, 0, false, (by unfold decP; rw [if_neg hf]), (by simpa using hf), (fun h => by cases h), (fun _ => by simpa using h)⟩

theorem of_read (s : ByteArray) (b : Bool) (n c : Nat) (m : Int) (k : Nat) (w : World) (hz : s.size ≤ 400) (h1 : (signD s.data.toList).1 = b) (h2 : bodyD (signD s.data.toList).2 = some (n, c))
    (h3 : decV (if b then -(n : Int) else (n : Int)) c = .tuple #[.agg #[.int .i64 m, .int .i64 (k : Int)], .bool true]) :
    Calls Tryd.prog 16 #[.string s] w fun e w' => e = .returned (.agg #[.int .i64 m, .int .i64 (k : Int)]) ∧ Below w.heap.size w w' := by
  have HP := Lib.hid (fun w => parse_any s w hz)
  rw [h1, h2] at HP
  have HP2 : Hid (∀ w, Calls Tryd.prog 18 #[.string s] w fun e w' => e = .returned (.tuple #[.agg #[.int .i64 m, .int .i64 (k : Int)], .bool true]) ∧ Below w.heap.size w w') := Lib.hid (fun w => by
    have := HP.out w
    rw [show ansD b (some (n, c)) = decV (if b then -(n : Int) else (n : Int)) c from rfl, h3] at this
    exact this)
  clear HP h1 h2 h3
  have HD := Lib.hid (DecB.new w 0 0 24)
  have HB := Lib.hid ((Below.refl w.heap.size w).alloc (Nat.le_refl _) (.cells #[.int .i64 0, .int .i64 0] 24))
  go_enter Tryd.func16, Tryd.ntmps16
  go_upto_region 1 with fail
  generalize World.alloc w _ = w1 at HD HB ⊢
  go_wp2_with fail
  (with_reducible refine (HP2.out _).mono ?_)
  rintro e w2 ⟨rfl, hb⟩
  have HD2 := Lib.hid (HD.out.below hb)
  have HB2 := Lib.hid (HB.out.trans (hb.mono HB.out.size))
  clear hb
  have hal := (Below.refl w2.heap.size w2).alloc (Nat.le_refl _) (.cells #[.int .i64 m, .int .i64 (k : Int)] 24)
  have HD3 := Lib.hid (HD2.out.below hal)
  have HN := Lib.hid (DecB.new w2 m k 24)
  have HB3 := Lib.hid (HB2.out.trans (hal.mono HB2.out.size))
  clear hal
  go_upto_region 2 with fail
  generalize World.alloc w2 _ = w3 at HD3 HN HB3 ⊢
  obtain ⟨x0, x1, x2, x3, x4⟩ := HD3.out
  obtain ⟨y0, y1, y2, -, -⟩ := HN.out
  go_wp2_with fail
  exact bodyPost_ret (v := .agg #[.int .i64 m, .int .i64 (k : Int)]) (by simp [results, Tryd.results16, go_sem, x0, x1, x2]) rfl ⟨rfl, (HB3.out.setCell (by simp) _).setCell (by simp) _⟩
end Go.Proofs.YtodhklapikfpoaaDoor
