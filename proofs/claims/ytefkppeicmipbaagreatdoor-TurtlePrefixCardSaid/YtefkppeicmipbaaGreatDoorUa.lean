/- Triples as text, plain: what package turtle reads. -/
import Derived.Test.YtefkppeicmipbaaGreatDoorLa
import Derived.Test.YtefkppeicmipbaaGreatDoorKa
import Derived.Test.YtefkppeicmipbaaGreatDoorUc
import Derived.Lib.ItoaNum
namespace Go.Proofs.YtefkppeicmipbaaGreatDoor
open Go.RowKit
set_option maxRecDepth 100000
set_option linter.unusedVariables false
set_option linter.unusedSimpArgs false
def nobT : ByteArray := ⟨#[]⟩
/-- A document on its way: the tokens that are left, the base, the prefixes (the last one first), how many blanks, how deep, the triples, the error. -/
structure St where
  rest : List Tok
  base : ByteArray
  pre : List (List UInt8 × ByteArray)
  n : Int
  deep : Int
  told : List Tri3
  e : Int
def sg (l : List UInt8) : Tok := (9, l)
def wd (l : List UInt8) : Tok := (8, l)
def lg (l : List UInt8) : Tok := (6, l)
def St.fail (x : Int) (s : St) : St := if s.e = 0 then { s with rest := [], told := [], e := x } else s
def St.peek (s : St) : Tok := s.rest.headD (0, [])
def St.next (s : St) : St := { s with rest := s.rest.tail }
def St.take (l : List UInt8) (s : St) : St := if s.peek = sg l then s.next else s
def St.need (l : List UInt8) (s : St) : St := if s.peek = sg l then s.next else s.fail 6
def St.many (s : St) : St := if s.told.length = 300 then s.fail 4 else s
def St.wrong (x : Int) (s : St) : St := if x ≠ 0 then s.fail x else s
def St.put (x : Tri3) (s : St) : St := if s.e = 0 then { s with told := s.told ++ [x] } else s
/-- term.Fits, reckoned. -/
def barK (x : Tm) : Bool := x.l.data.toList.isEmpty && x.t.data.toList.isEmpty
def refK (s : ByteArray) : Bool := !s.data.toList.isEmpty && s.data.toList.all sgn
def labK (s : ByteArray) : Bool := !s.data.toList.isEmpty && decide (s.size ≤ 20) && s.data.toList.all wrd
def tagK (x : Tm) : Bool := if x.l.data.toList.isEmpty then x.t.data.toList.isEmpty || refK x.t else if x.t.data.toList.isEmpty then lanB x.l else false
def chkK (x : Tm) : Int :=
  if x.k < 1 ∨ 3 < x.k then 3
  else if 60 < x.s.size ∨ 60 < x.t.size ∨ 8 < x.l.size then 5
  else if x.k = 1 then (if barK x && refK x.s then 0 else 1)
  else if x.k = 2 then (if barK x && labK x.s then 0 else 1)
  else (if tagK x then 0 else 1)
def fitsK (x y z : Tm) : Int := if chkK x ≠ 0 then chkK x else if chkK y ≠ 0 then chkK y else if chkK z ≠ 0 then chkK z else if x.k = 3 ∨ y.k ≠ 1 then 3 else 0
theorem chk_eq (x : Tm) : checkOf x = chkK x := by
  unfold checkOf chkK barB barK tagB tagK labB labK refB refK
  simp only [Lib.toList_data]
theorem fits_eq (x y z : Tm) : fitsT x y z = fitsK x y z := by
  unfold fitsT fitsK
  simp only [chk_eq]
def St.tell (x y z : Tm) (s : St) : St := (s.many.wrong (fitsK x y z)).put (x, y, z)
def blankT (lab : ByteArray) (n : Int) : Tm := ⟨2, lab ++ bl (Lib.itoa n), nobT, nobT⟩
def St.fresh (s : St) : St := { s with n := wrap64 (s.n + 1) }
def St.down (s : St) : St := if 10 < wrap64 (s.deep + 1) then ({ s with deep := wrap64 (s.deep + 1) }).fail 10 else { s with deep := wrap64 (s.deep + 1) }
def St.up (s : St) : St := { s with deep := wrap64 (s.deep - 1) }
def named (b : ByteArray) : Tm := ⟨1, b, nobT, nobT⟩
def typed (b t : ByteArray) : Tm := ⟨3, b, nobT, t⟩
def resB (b : ByteArray) (r : List UInt8) : ByteArray := bl (resolveL (splitL b.data.toList) (splitL r))
/-- The place behind the first ':'. -/
def colonN (l : List UInt8) : Nat := if 58 ∈ l then (l.takeWhile (fun c => c != 58)).length + 1 else 0
def lookP (k : List UInt8) : List (List UInt8 × ByteArray) → Option ByteArray
  | [] => none
  | (a, b) :: r => if a = k then some b else lookP k r
/-- What an IRI's token tells. -/
def refT (t : Tok) (s : St) : ByteArray := if t.1 = 1 then resB s.base t.2 else if t.1 = 2 then (lookP (t.2.take (colonN t.2)) s.pre).getD nobT ++ bl (t.2.drop (colonN t.2)) else nobT
def refS (t : Tok) (s : St) : St := if t.1 = 1 then s else if t.1 = 2 then (if (lookP (t.2.take (colonN t.2)) s.pre).isSome then s else s.fail 11) else s.fail 6
def xIntB : ByteArray := bl [104, 116, 116, 112, 58, 47, 47, 119, 119, 119, 46, 119, 51, 46, 111, 114, 103, 47, 50, 48, 48, 49, 47, 88, 77, 76, 83, 99, 104, 101, 109, 97, 35, 105, 110, 116, 101, 103, 101, 114]
def xDecB : ByteArray := bl [104, 116, 116, 112, 58, 47, 47, 119, 119, 119, 46, 119, 51, 46, 111, 114, 103, 47, 50, 48, 48, 49, 47, 88, 77, 76, 83, 99, 104, 101, 109, 97, 35, 100, 101, 99, 105, 109, 97, 108]
def xBoolB : ByteArray := bl [104, 116, 116, 112, 58, 47, 47, 119, 119, 119, 46, 119, 51, 46, 111, 114, 103, 47, 50, 48, 48, 49, 47, 88, 77, 76, 83, 99, 104, 101, 109, 97, 35, 98, 111, 111, 108, 101, 97, 110]
def rdfL : List UInt8 := [104, 116, 116, 112, 58, 47, 47, 119, 119, 119, 46, 119, 51, 46, 111, 114, 103, 47, 49, 57, 57, 57, 47, 48, 50, 47, 50, 50, 45, 114, 100, 102, 45, 115, 121, 110, 116, 97, 120, 45, 110, 115, 35]
def rTypeB : ByteArray := bl (rdfL ++ [116, 121, 112, 101])
def rFirstB : ByteArray := bl (rdfL ++ [102, 105, 114, 115, 116])
def rRestB : ByteArray := bl (rdfL ++ [114, 101, 115, 116])
def rNilB : ByteArray := bl (rdfL ++ [110, 105, 108])
/-- A number behind its sign. -/
def numT (m : List UInt8) (t : Tok) : Tm := typed (bl m ++ bl t.2) (if 46 ∈ t.2 then xDecB else xIntB)
def numS (t : Tok) (s : St) : St := if t.1 = 7 then s else s.fail 6
/-- A text with its language or type. -/
def litT (l : List UInt8) (s : St) : Tm := if s.peek.1 = 6 then ⟨3, bl l, bl s.peek.2, nobT⟩ else if s.peek = sg [94, 94] then typed (bl l) (refT s.next.peek s.next.next) else typed (bl l) nobT
def litS (s : St) : St := if s.peek.1 = 6 then s.next else if s.peek = sg [94, 94] then refS s.next.peek s.next.next else s
def predT (s : St) : Tm := named (if s.peek = wd [97] then rTypeB else refT s.peek s.next)
def predS (s : St) : St := if s.peek = wd [97] then s.next else refS s.peek s.next
def trueT : Tok := wd [116, 114, 117, 101]
def falseT : Tok := wd [102, 97, 108, 115, 101]
/-- Past signs. -/
def skipN (l : List UInt8) : List Tok → List Tok
  | [] => []
  | t :: r => if t = sg l then skipN l r else t :: r
def St.skip (l : List UInt8) (s : St) : St := { s with rest := skipN l s.rest }
def St.ends (s : St) : Bool := decide (s.peek = sg [46] ∨ s.peek = sg [93])
def linkT (b : Tm) : Option Tm → Tm → Tm
  | none, _ => b
  | some _, f => f
def linkS (b : Tm) : Option Tm → St → St
  | none, s => s
  | some l, s => s.tell l (named rRestB) b
mutual
def objP (lab : ByteArray) : Nat → St → Tm × St
  | 0, s => (⟨0, nobT, nobT, nobT⟩, s)
  | n + 1, s =>
    if s.peek = sg [91] then (match brkP lab n s.next.down with | (b, s') => (b, s'.up))
    else if s.peek.1 = 5 then (litT s.peek.2 s.next, litS s.next)
    else if s.peek = trueT ∨ s.peek = falseT then (typed (bl s.peek.2) xBoolB, s.next)
    else if s.peek.1 = 7 then (numT [] s.peek, s.next)
    else if s.peek = sg [45] then (numT [45] s.next.peek, numS s.next.peek s.next.next)
    else if s.peek = sg [43] then (numT [] s.next.peek, numS s.next.peek s.next.next)
    else nodeP lab n s.peek s.next
/-- A node, of which t is the first token. -/
def nodeP (lab : ByteArray) : Nat → Tok → St → Tm × St
  | 0, _, s => (⟨0, nobT, nobT, nobT⟩, s)
  | n + 1, t, s =>
    if t.1 = 3 then (⟨2, bl t.2, nobT, nobT⟩, s)
    else if t = sg [40] then (match colP lab n ⟨0, nobT, nobT, nobT⟩ none s.down with | (b, s') => (b, s'.up))
    else (named (refT t s), refS t s)
/-- Behind a '['. -/
def brkP (lab : ByteArray) : Nat → St → Tm × St
  | 0, s => (⟨0, nobT, nobT, nobT⟩, s)
  | n + 1, s => if s.fresh.peek = sg [93] then (blankT lab s.fresh.n, s.fresh.next) else (blankT lab s.fresh.n, (verbP lab n (blankT lab s.fresh.n) s.fresh).need [93])
def verbP (lab : ByteArray) : Nat → Tm → St → St
  | 0, _, s => s
  | n + 1, b, s => match objsP lab n b (predT s) (predS s) with
    | (true, s') => if s'.ends then s' else verbP lab n b s'
    | (false, s') => s'
/-- The objects of a predicate; true: a ';' stood behind them. -/
def objsP (lab : ByteArray) : Nat → Tm → Tm → St → Bool × St
  | 0, _, _, s => (false, s)
  | n + 1, b, p, s => match objP lab n s with
    | (o, s0) => match s0.tell b p o with
      | s' => if s'.peek = sg [44] then objsP lab n b p s'.next else if s'.peek = sg [59] then (true, s'.next.skip [59]) else (false, s')
/-- A collection: its first blank so far, its last one if there is one. -/
def colP (lab : ByteArray) : Nat → Tm → Option Tm → St → Tm × St
  | 0, f, _, s => (f, s)
  | n + 1, f, l, s =>
    if s.e = 0 ∧ s.peek ≠ sg [41] then (match objP lab n s with
      | (o, s') => match blankT lab s'.fresh.n with
        | b => colP lab n (linkT b l f) (some b) ((linkS b l s'.fresh).tell b (named rFirstB) o))
    else match (if s.e = 0 then s.next else s) with
      | s' => (linkT (named rNilB) l f, linkS (named rNilB) l s')
end
/-- '@prefix', behind it. -/
def resdS (s : St) : St := if s.peek.1 = 1 then s else s.fail 6
def resdT (s : St) : ByteArray := refT (resdS s).peek (resdS s).next
def resdE (s : St) : St := refS (resdS s).peek (resdS s).next
def colonEnd (t : Tok) : Bool := decide (t.1 = 2) && Lib.hasSuffix t.2 [58]
def bindP (s : St) : St :=
  match (if colonEnd s.peek then s.next else s.next.fail 6) with
  | s1 => { resdE s1 with pre := (s.peek.2, resdT s1) :: (resdE s1).pre }
/-- A statement, up to its '.'. -/
def stmtP (lab : ByteArray) (n : Nat) (s : St) : St :=
  if s.peek = lg [112, 114, 101, 102, 105, 120] then bindP s.next
  else if s.peek = lg [98, 97, 115, 101] then { resdE s.next with base := resdT s.next }
  else if s.peek = sg [91] then (match brkP lab n s.next.down with
    | (b, s') => if s'.up.peek = sg [46] then s'.up else verbP lab n b s'.up)
  else match nodeP lab n s.peek s.next with
    | (b, s') => verbP lab n b s'
def docP (lab : ByteArray) (m : Nat) : Nat → St → St
  | 0, s => s
  | n + 1, s => match s.rest with
    | [] => s
    | _ :: _ => docP lab m n ((stmtP lab m s).need [46])
/-- The whole of it: the triples and the error. -/
def turtleL (base label : ByteArray) (l : List UInt8) : List Tri3 × Int := match tokensL l with
  | (k, e) => if e ≠ 0 then ([], e) else match docP label (6 * k.length + 12) (k.length + 1) ⟨k, base, [], 0, 0, [], 0⟩ with
    | s => (s.told, s.e)
end Go.Proofs.YtefkppeicmipbaaGreatDoor
