/- Package value, plain: what terms weigh, what expressions are. -/
import Derived.Test.YtecomfhbdonkbaaGreatDoorTa
import Derived.Test.YtecomfhbdonkbaaGreatDoorKs
import Derived.Test.YtecomfhbdonkbaaGreatDoorPp
import Derived.Lib.IndexMore
namespace Go.Proofs.YtecomfhbdonkbaaGreatDoor
open Go.RowKit Go.Shelf Flo
set_option maxRecDepth 100000
set_option linter.unusedVariables false
set_option linter.unusedSimpArgs false

def xIntL : List UInt8 := [104, 116, 116, 112, 58, 47, 47, 119, 119, 119, 46, 119, 51, 46, 111, 114, 103, 47, 50, 48, 48, 49, 47, 88, 77, 76, 83, 99, 104, 101, 109, 97, 35, 105, 110, 116, 101, 103, 101, 114]
def xDecL : List UInt8 := [104, 116, 116, 112, 58, 47, 47, 119, 119, 119, 46, 119, 51, 46, 111, 114, 103, 47, 50, 48, 48, 49, 47, 88, 77, 76, 83, 99, 104, 101, 109, 97, 35, 100, 101, 99, 105, 109, 97, 108]
def xBoolL : List UInt8 := [104, 116, 116, 112, 58, 47, 47, 119, 119, 119, 46, 119, 51, 46, 111, 114, 103, 47, 50, 48, 48, 49, 47, 88, 77, 76, 83, 99, 104, 101, 109, 97, 35, 98, 111, 111, 108, 101, 97, 110]
def xStrL : List UInt8 := [104, 116, 116, 112, 58, 47, 47, 119, 119, 119, 46, 119, 51, 46, 111, 114, 103, 47, 50, 48, 48, 49, 47, 88, 77, 76, 83, 99, 104, 101, 109, 97, 35, 115, 116, 114, 105, 110, 103]
def rLangL : List UInt8 := [104, 116, 116, 112, 58, 47, 47, 119, 119, 119, 46, 119, 51, 46, 111, 114, 103, 47, 49, 57, 57, 57, 47, 48, 50, 47, 50, 50, 45, 114, 100, 102, 45, 115, 121, 110, 116, 97, 120, 45, 110, 115, 35, 108, 97, 110, 103, 83, 116, 114, 105, 110, 103]
def trueL : List UInt8 := [116, 114, 117, 101]
def falseL : List UInt8 := [102, 97, 108, 115, 101]
/-- how many digits, by so many steps. -/
def nDf : Nat → Nat → Nat
  | 0, _ => 1
  | f + 1, u => if u < 10 then 1 else nDf f (u / 10) + 1
theorem nDf_eq : ∀ (f u : Nat), u < 10 ^ (f + 1) → nDf f u = Lib.nDigits u
  | 0, u, h => by rw [Lib.nDigits_small (by simpa using h)]; rfl
  | f + 1, u, h => by
    by_cases h1 : u < 10
    · rw [Lib.nDigits_small h1]; exact if_pos h1
    · rw [Lib.nDigits_big h1]
      show (if u < 10 then 1 else nDf f (u / 10) + 1) = _
      rw [if_neg h1, nDf_eq f (u / 10) (by rw [Nat.pow_succ] at h; omega)]
def absF (n s : Nat) : List UInt8 :=
  (fixL (max (s + 1) (nDf 15 n)) n).take (max (s + 1) (nDf 15 n) - s) ++ (if s = 0 then [] else 46 :: (fixL (max (s + 1) (nDf 15 n)) n).drop (max (s + 1) (nDf 15 n) - s))
def printF (m : Int) (s : Nat) : List UInt8 := if m < 0 then 45 :: absF m.natAbs s else absF m.natAbs s
theorem printF_eq (m : Int) (s : Nat) (h : m.natAbs ≤ 999999999999999) : printF m s = printL m s := by
  have e : nDf 15 m.natAbs = Lib.nDigits m.natAbs := nDf_eq 15 _ (Nat.lt_of_le_of_lt h (by decide))
  unfold printF printL absF absP padL lenD
  rw [e]
/-- A whole number's digits. -/
theorem printF_nat (n : Nat) (h : n ≤ 999999999999999) : printF (n : Int) 0 = Lib.decDigits n := by
  rw [printF_eq _ _ (by omega)]
  have h1 : 1 ≤ Lib.nDigits n := by
    by_cases h2 : n < 10
    · rw [Lib.nDigits_small h2]; exact Nat.le_refl _
    · rw [Lib.nDigits_big h2]; omega
  have e : lenD n 0 = Lib.nDigits n := by unfold lenD; omega
  unfold printL absP
  rw [if_neg (by omega), if_pos rfl, Int.natAbs_natCast, List.append_nil, e, Nat.sub_zero]
  unfold padL
  rw [e, List.take_of_length_le (by rw [fixL_length]; exact Nat.le_refl _), ← fixL_dec (Lib.nDigits n) n (Nat.le_refl _), Nat.sub_self]
  rfl

/-- What dec.Parse reads. -/
def decO (l : List UInt8) : Option (Int × Nat) :=
  match bodyD (signD l).2 with
  | none => none
  | some p => if fitsL (shrt (if (signD l).1 then -(p.1 : Int) else (p.1 : Int)) p.2) then some (shrt (if (signD l).1 then -(p.1 : Int) else (p.1 : Int)) p.2) else none
def decOV : Option (Int × Nat) → Value
  | none => overV
  | some p => .tuple #[.agg #[.int .i64 p.1, .int .i64 (p.2 : Int)], .bool true]
theorem ansD_eq (l : List UInt8) : ansD (signD l).1 (bodyD (signD l).2) = decOV (decO l) := by
  unfold decO
  cases bodyD (signD l).2 with
  | none => rfl
  | some p =>
    show decV _ _ = _
    unfold decV
    dsimp only
    generalize shrt (if (signD l).1 = true then -(p.1 : Int) else (p.1 : Int)) p.2 = q
    by_cases hf : fitsL q = true
    · rw [if_pos hf, if_pos hf]; rfl
    · rw [if_neg hf, if_neg hf]; rfl
theorem nrm_last0 : ∀ (k : Nat) (n : Int), (nrm n k).2 = 0 ∨ ¬ (nrm n k).1 % 10 = 0
  | 0, n => .inl rfl
  | k + 1, n => by
    by_cases h : n % 10 = 0
    · rw [nrm_go (k + 1) (by omega) h]; exact nrm_last0 k (n / 10)
    · rw [nrm_stay _ _ h]; exact .inr h
theorem good_fits {p : Int × Nat} (h : fitsL p = true) (hl : p.2 = 0 ∨ ¬ p.1 % 10 = 0) : GoodD p.1 (p.2 : Int) := by
  unfold fitsL at h
  simp only [Bool.and_eq_true, decide_eq_true_eq] at h
  exact ⟨by omega, by omega, by omega, by omega, by omega⟩
theorem good_nrm {n : Int} {k : Nat} (h : fitsL (nrm n k) = true) : GoodD (nrm n k).1 ((nrm n k).2 : Int) := good_fits h (nrm_last0 k n)
theorem decO_good {l : List UInt8} {p : Int × Nat} (h : decO l = some p) : GoodD p.1 (p.2 : Int) := by
  unfold decO at h
  cases hb : bodyD (signD l).2 with
  | none => rw [hb] at h; cases h
  | some q =>
    rw [hb] at h
    dsimp only at h
    generalize hn : (if (signD l).1 = true then -(q.1 : Int) else (q.1 : Int)) = n at h
    by_cases hf : fitsL (shrt n q.2) = true
    · rw [if_pos hf] at h
      cases h
      unfold shrt at hf ⊢
      split at hf
      · rename_i hs
        rw [if_pos hs]
        exact good_nrm hf
      · rename_i hs
        rw [p53] at hs
        unfold fitsL at hf
        simp only [Bool.and_eq_true, decide_eq_true_eq] at hf
        omega
    · rw [if_neg hf] at h
      cases h

def mkT (k : Int) (s l t : List UInt8) : Tm := ⟨k, ⟨s.toArray⟩, ⟨l.toArray⟩, ⟨t.toArray⟩⟩
def Tm.sl (t : Tm) : List UInt8 := t.s.data.toList
def Tm.ll (t : Tm) : List UInt8 := t.l.data.toList
def Tm.tl (t : Tm) : List UInt8 := t.t.data.toList
def zeroT : Tm := ⟨0, ⟨#[]⟩, ⟨#[]⟩, ⟨#[]⟩⟩
def boolT (b : Bool) : Tm := mkT 3 (if b then trueL else falseL) [] xBoolL
def litT (s : List UInt8) : Tm := mkT 3 s [] []
/-- Its texts are small. -/
structure Tm.Sm (t : Tm) : Prop where
  k : -9223372036854775808 ≤ t.k ∧ t.k ≤ 9223372036854775807
  s : t.s.size ≤ 200
  l : t.l.size ≤ 200
  t : t.t.size ≤ 200

/-- A term's weight. -/
inductive Wt
  | num (m : Int) (s : Nat)
  | tr (b : Bool)
  | plain (n : Nat)
  | spoken
  | strange
  | node
def wtNum : Option (Int × Nat) → Wt
  | some p => .num p.1 p.2
  | none => .strange
def wt (t : Tm) : Wt :=
  if t.k = 3 then
    if t.tl = xIntL then (if t.sl.contains 46 then .strange else wtNum (decO t.sl))
    else if t.tl = xDecL then wtNum (decO t.sl)
    else if t.tl = xBoolL then (if t.sl = trueL then .tr true else if t.sl = falseL then .tr false else .strange)
    else if t.tl = [] then (if t.ll = [] then .plain t.s.size else .spoken)
    else .strange
  else .node
def truthO (t : Tm) : Option Bool :=
  match wt t with
  | .num m _ => some (decide (m ≠ 0))
  | .tr b => some b
  | .plain n => some (decide (n ≠ 0))
  | _ => none
def tmEq (a b : Tm) : Bool := decide (a.k = b.k) && (decide (a.sl = b.sl) && (decide (a.ll = b.ll) && decide (a.tl = b.tl)))
/-- Its kind, as a number below nought. -/
def Wt.im : Wt → Int
  | .num _ s => s
  | .tr _ => -1
  | .plain _ => -2
  | .spoken => -3
  | .strange => -4
  | .node => -5
def equalO (a b : Tm) : Bool × Bool :=
  match wt a, wt b with
  | .num m s, .num m2 s2 => (decide (sixI m s = sixI m2 s2), true)
  | x, y => (tmEq a b, tmEq a b || decide (min x.im y.im = -5) || (decide (x.im = y.im) && decide (min x.im y.im ≠ -4)))
def lessO (a b : Tm) : Option Bool :=
  match wt a, wt b with
  | .num m s, .num m2 s2 => some (decide (sixI m s < sixI m2 s2))
  | .tr x, .tr y => some (!x && y)
  | .plain _, .plain _ => some (Op.bytesLess a.sl b.sl)
  | _, _ => none
def numO (t : Tm) : Option (Int × Nat) := match wt t with
  | .num m s => some (m, s)
  | _ => none

def hasL (s t : List UInt8) : Bool := Lib.contains s t
def typeL (t : Tm) : List UInt8 := if t.tl = [] then (if t.ll = [] then xStrL else rLangL) else t.tl
def numeralT (p : Int × Nat) (kind : List UInt8) : Tm := mkT 3 (printF p.1 p.2) [] kind
def oneO (op : Int) (t : Tm) : Option Tm :=
  if op = 4 then (truthO t).map (fun b => boolT (!b))
  else if op = 14 then (numO t).map (fun p => numeralT (-p.1, p.2) t.tl)
  else if op = 16 then (if t.k = 3 ∨ t.k = 1 then some (litT t.sl) else none)
  else if op = 17 then (if t.k = 3 then some (litT t.ll) else none)
  else if op = 18 then (if t.k = 3 then some (mkT 1 (typeL t) [] []) else none)
  else if op = 20 then (if t.k = 3 then some (mkT 3 (printF (t.s.size : Int) 0) [] xIntL) else none)
  else if op = 21 then some (boolT (decide (t.k = 1)))
  else if op = 22 then some (boolT (decide (t.k = 2)))
  else if op = 23 then some (boolT (decide (t.k = 3)))
  else none
def sumP (op : Int) (p q : Int × Nat) : Int × Nat :=
  if op = 13 then nrm (p.1 * q.1) (p.2 + q.2)
  else if op = 12 then nrm (sixI p.1 p.2 + sixI (-q.1) q.2) 6
  else nrm (sixI p.1 p.2 + sixI q.1 q.2) 6
def reckonO (op : Int) (a b : Tm) : Option Tm :=
  match numO a, numO b with
  | some p, some q => if fitsL (sumP op p q) then some (numeralT (sumP op p q) (if a.tl = b.tl then a.tl else xDecL)) else none
  | _, _ => none
def lvl (t : Tm) : Int := match truthO t with
  | none => 1
  | some true => 2
  | some false => 0
def logicO (op : Int) (a b : Tm) : Option Tm :=
  if (if op = 2 then max (lvl a) (lvl b) else min (lvl a) (lvl b)) = 1 then none else some (boolT (decide ((if op = 2 then max (lvl a) (lvl b) else min (lvl a) (lvl b)) = 2)))
def twoO (op : Int) (a b : Tm) : Option Tm :=
  if op = 2 ∨ op = 3 then logicO op a b
  else if op = 5 then (if (equalO a b).2 then some (boolT (equalO a b).1) else none)
  else if op = 6 then (if (equalO a b).2 then some (boolT (!(equalO a b).1)) else none)
  else if op = 7 then (lessO a b).map boolT
  else if op = 9 then (lessO b a).map boolT
  else if op = 8 then (lessO a b).map (fun l => boolT (l || (equalO a b).1))
  else if op = 10 then (lessO b a).map (fun l => boolT (l || (equalO b a).1))
  else if op = 19 then (if a.k = 3 ∧ b.k = 3 then some (boolT (hasL a.sl b.sl)) else none)
  else if op = 24 then some (boolT (tmEq a b))
  else if op = 11 ∨ op = 12 ∨ op = 13 then reckonO op a b
  else none

/-- An expression. -/
inductive Exp
  | mk (op : Int) (t : Tm) (kids : List Exp)
def Exp.op : Exp → Int | .mk o _ _ => o
def Exp.tm : Exp → Tm | .mk _ t _ => t
def Exp.kids : Exp → List Exp | .mk _ _ l => l
abbrev Slt := List (List UInt8 × Tm)
def getO (s : Slt) (name : List UInt8) : Option Tm := (s.find? (fun p => p.1 == name)).map Prod.snd
def fitsO (op : Int) (n : Nat) : Bool :=
  if op = 26 then decide (0 < n)
  else if op = 25 then decide (n = 3)
  else if op = 1 then decide (n = 0)
  else if op = 4 ∨ op = 14 ∨ op = 15 ∨ op = 16 ∨ op = 17 ∨ op = 18 ∨ op = 20 ∨ op = 21 ∨ op = 22 ∨ op = 23 then decide (n = 1)
  else if (2 ≤ op ∧ op ≤ 13) ∨ op = 19 ∨ op = 24 then decide (n = 2)
  else false
def boundO (e : Exp) (s : Slt) : Option Tm := if e.op = 1 ∧ e.tm.k = 4 ∧ e.kids.length = 0 then some (boolT (getO s e.tm.sl).isSome) else none
def zeroE : Exp := .mk 0 zeroT []
def Exp.kid (e : Exp) (i : Nat) : Exp := e.kids.getD i zeroE
def firstO : List (Option Tm) → Option Tm
  | [] => none
  | some x :: _ => some x
  | none :: l => firstO l
/-- What an operator is, of what its Kids are: an error is nothing. -/
def opO (op : Int) (l : List (Option Tm)) : Option Tm :=
  if op = 26 then firstO l
  else if op = 25 then (match l with
    | [c, a, b] => (c.bind truthO).bind (fun t => if t then a else b)
    | _ => none)
  else match l with
    | [a] => a.bind (oneO op)
    | [a, b] => if op = 2 ∨ op = 3 then twoO op (a.getD zeroT) (b.getD zeroT) else a.bind (fun x => b.bind (fun y => twoO op x y))
    | _ => none
def evalO : Nat → Exp → Slt → Option Tm
  | 0, _, _ => none
  | n + 1, e, s =>
    if fitsO e.op e.kids.length then
      (if e.op = 1 then (if e.tm.k = 4 then getO s e.tm.sl else some e.tm)
      else if e.op = 15 then boundO (e.kid 0) s
      else opO e.op (e.kids.map (fun k => evalO n k s)))
    else none
end Go.Proofs.YtecomfhbdonkbaaGreatDoor
