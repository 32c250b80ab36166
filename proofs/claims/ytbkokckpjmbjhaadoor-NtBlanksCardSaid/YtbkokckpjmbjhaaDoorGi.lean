/- PgDiff; PgChg -/
import Derived.Test.YtbkokckpjmbjhaaDoorGh
namespace Go.Proofs.YtbkokckpjmbjhaaDoor
open Go.RowKit Go.Maps
set_option maxRecDepth 100000
/-- Does page k differ from what it was at Begin? -/
def rowDiff (S W : Stt) (k : Nat) : Bool := (S.next.getD k 0 != W.next.getD k 0) || (k == 0 && S.root != W.root)
def putDiff (A : Ab) (t : Tx) (k : Nat) : Bool := match t.f k with
  | none => false
  | some b => A.fault (401 + k) != 0 || !(b == storedOf A k)
def diffOf (A : Ab) (S : Stt) (t : Tx) (k : Nat) : Bool := rowDiff S t.was k || putDiff A t k
section
variable {w : World} {P Q : Nat → Prop} {r p : Nat} {A : Ab} {S : Stt} {t : Tx}
end
end Go.Proofs.YtbkokckpjmbjhaaDoor
namespace Go.Proofs.YtbkokckpjmbjhaaDoor
open Go.RowKit Go.Maps
set_option maxRecDepth 100000
/-- What a page is written as. -/
def wantOf (S : Stt) (t : Tx) (k : Nat) : List UInt8 := match t.f k with
  | some b => b
  | none => ownOf S k
theorem wantOf_length {S : Stt} {t : Tx} (k : Nat) (h : AllLong (some t)) : (wantOf S t k).length = 504 := by
  unfold wantOf
  cases hf : t.f k with
  | none => exact ownOf_length S k
  | some b => exact h k b hf
/-- The pages that differ, of the first k. -/
def chgTo (A : Ab) (S : Stt) (t : Tx) (k : Nat) : Pages := ((List.range k).filter (diffOf A S t)).map fun i => ((401 + i : Nat), wantOf S t i)
theorem chgTo_succ (A : Ab) (S : Stt) (t : Tx) (k : Nat) : chgTo A S t (k + 1) = chgTo A S t k ++ if diffOf A S t k then [(((401 + k : Nat) : Int), wantOf S t k)] else [] := by
  unfold chgTo
  rw [List.range_succ, List.filter_append, List.map_append]
  congr 1
  cases h : diffOf A S t k <;> simp [List.filter, h]
theorem chgTo_length (A : Ab) (S : Stt) (t : Tx) (k : Nat) : (chgTo A S t k).length ≤ k := by
  unfold chgTo
  rw [List.length_map]
  exact Nat.le_trans (List.length_filter_le _ _) (by simp)
section
variable {w : World} {P Q : Nat → Prop} {r p : Nat} {A : Ab} {S : Stt} {t : Tx}
end
end Go.Proofs.YtbkokckpjmbjhaaDoor
