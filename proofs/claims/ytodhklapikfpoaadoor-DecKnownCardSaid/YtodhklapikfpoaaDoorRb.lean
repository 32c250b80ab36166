/- triadref13: Parse. -/
import Derived.Test.YtodhklapikfpoaaDoorRa
import Derived.Deep.CutBlock
import Derived.Deep.DeepCutAuto
namespace Go.Proofs.YtodhklapikfpoaaDoor
open Go.RowKit Go.Shelf Flo
set_option maxRecDepth 100000
set_option linter.unusedVariables false
set_option linter.unusedSimpArgs false

def signR (l : List UInt8) : Bool × List UInt8 := match l with
  | [] => (false, [])
  | c :: r => if c = 43 ∨ c = 45 then (decide (c = 45), r) else (false, c :: r)
theorem sign_same (l : List UInt8) : signR l = signD l := by
  unfold signR signD Lib.trimPrefix Lib.hasPrefix
  cases l with
  | nil => simp
  | cons c r =>
    by_cases h1 : c = 45
    · subst h1; simp
    · by_cases h2 : c = 43
      · subst h2; simp
      · have h1' : ¬ (45 : UInt8) = c := Ne.symm h1
        have h2' : ¬ (43 : UInt8) = c := Ne.symm h2
        simp [h1, h2, h1', h2']
def dotN (c : UInt8) : Bool := c != 46
/-- the digits ahead of the point, and those behind it, of which noughts at the end are gone. -/
def tailR (whole part : List UInt8) : Option (Nat × Nat) :=
  match digR 0 whole with
  | none => none
  | some v => if whole = [] then none else
    if 6 < part.length ∧ part.all digC = true then none else
    if part = [] then some (v, 0) else
    match digR v part with
    | none => none
    | some u => some (u, part.length)
/-- the digits, and how many of them stand behind the point, as triadref13 reads them. -/
def bodyR (r : List UInt8) : Option (Nat × Nat) :=
  match r.dropWhile dotN with
  | [] => tailR (r.takeWhile dotN) []
  | _ :: q => if q = [] then none else tailR (r.takeWhile dotN) (Lib.trimRightB q 48)
def ansR (b : Bool) : Option (Nat × Nat) → Value
  | none => overV
  | some p => decP (nrm (if b then -(p.1 : Int) else (p.1 : Int)) p.2)

theorem ansR_cases {V : Value} {b : Bool} {o : Option (Nat × Nat)} (h : V = ansR b o) : ∃ (m s : Int) (q : Bool), V = .tuple #[.agg #[.int .i64 m, .int .i64 s], .bool q] := by
  subst h
  cases o with
  | none => exact ⟨_, _, _, rfl⟩
  | some p => exact decP_cases _
theorem digR_lt : ∀ {l : List UInt8} {n v : Nat}, n < 1000000000000000 → digR n l = some v → v < 1000000000000000
  | [], n, v, hn, h => by cases h; exact hn
  | c :: r, n, v, hn, h => by
    unfold digR at h
    split at h
    · split at h
      · cases h
      · exact digR_lt (by omega) h
    · cases h
theorem digR_bad : ∀ {l : List UInt8} {n : Nat}, l.all digC = false → digR n l = none
  | [], n, h => by cases h
  | c :: r, n, h => by
    unfold digR
    split
    · rename_i hc
      split
      · rfl
      · exact digR_bad (by rw [List.all_cons, hc] at h; simpa using h)
    · rfl
theorem wrap_neg {u : Nat} (h : Under15 u) : wrap64 (-(u : Int)) = -(u : Int) := by
  unfold Under15 at h
  unfold wrap64; omega
def strSize (v : Value) : Nat := match v with
  | .string s => s.size
  | _ => 0
theorem trimR_snoc (l : List UInt8) (c : UInt8) : Lib.trimRightB (l ++ [c]) 48 = if c = 48 then Lib.trimRightB l 48 else l ++ [c] := by
  unfold Lib.trimRightB
  rw [List.reverse_append, List.reverse_singleton, List.singleton_append, List.dropWhile_cons]
  by_cases h : c = 48
  · subst h; simp
  · simp [h]
theorem last_split (z : ByteArray) (h : 0 < z.size) : z.data.toList = (z.extract 0 (z.size - 1)).data.toList ++ [z[z.size - 1]] := by
  rw [ba_extract _ _ (by omega)]
  have e : z[z.size - 1] = z.data.toList[z.size - 1]'(by simp; omega) := rfl
  rw [e, ← List.take_succ_eq_append_getElem, List.take_of_length_le (by simp; omega)]
theorem take_stop {p : UInt8 → Bool} {l : List UInt8} {j : Nat} (h : (l.take j).all p = true) (h2 : l.drop j = [] ∨ ∃ c r, l.drop j = c :: r ∧ p c = false) : l.take j = l.takeWhile p := by
  conv => rhs; rw [← List.take_append_drop j l]
  rw [List.takeWhile_append_of_pos (fun x hx => List.all_eq_true.1 h x hx)]
  rcases h2 with h2 | ⟨c, r, h2, hc⟩
  · rw [h2]; simp
  · rw [h2, List.takeWhile_cons, hc]; simp
theorem drop_stop {p : UInt8 → Bool} {l : List UInt8} {j : Nat} (h : (l.take j).all p = true) (h2 : l.drop j = [] ∨ ∃ c r, l.drop j = c :: r ∧ p c = false) : l.dropWhile p = l.drop j := by
  conv => lhs; rw [← List.take_append_drop j l]
  rw [List.dropWhile_append_of_pos (fun x hx => List.all_eq_true.1 h x hx)]
  rcases h2 with h2 | ⟨c, r, h2, hc⟩
  · rw [h2]; simp
  · rw [h2, List.dropWhile_cons, hc]; simp
theorem sign_len (l : List UInt8) : (signR l).2.length ≤ l.length := by
  unfold signR
  cases l with
  | nil => exact Nat.le_refl _
  | cons c r => simp only; split <;> simp

end Go.Proofs.YtodhklapikfpoaaDoor
