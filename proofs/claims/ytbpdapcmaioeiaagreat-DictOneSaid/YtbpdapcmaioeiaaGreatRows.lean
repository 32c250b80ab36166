/-
  No cell of these rows narrows 'for every input' (looked for: loops, veiled, ifaces, maps, wideKeys, modest, calm, conditions, laid).
  DERIVED. THE GIVEN ROWS OF THIS SEAT. 4 by the template 'for every input the law returns true; each argument reads behind the call as it read before'; 0 by the template 'total and deterministic' (their statements: YtbpdapcmaioeiaaGreatTotals.lean).
  GIVEN WITH THE SEED: the statements are not yours to turn. If you find one false, say at which input.
  Laid BY PROGRAM, IN A SANDBOX (cutbox-rows.mjs): the forced cells as the released guide's own fill.sh prints them over the translation bc37e6d01089bad2… (all of the seat's roots in one cut). By AI agents, Wed Nov 11 2026. No macro, syntax, notation, axiom, sorry.
-/
import Derived.Test.YtbpdapcmaioeiaaGreatChecked
import GoSem.Claim
import GoSem.ClaimJoined
import GoSem.ClaimMapViews
import Derived.JoinedTies
import Derived.KernelRfl
namespace Go.Proofs.YtbpdapcmaioeiaaGreat
/- THE CELL 'sum', in the pinned program and in every row, IS THE sha256 OF THE DUMP (.gsa) THAT YtbpdapcmaioeiaaGreatProg.lean LOADS. Nothing in Lean hashes anything: it is a label: what it is worth is what the hold of that sum in a sandbox is worth. -/
noncomputable def Tryz.pinned : Pinned := { name := "ytbpdapcmaioeiaagreat", sum := "bc37e6d01089bad21f7bf9b85c2da9551a22a8230d75229756bf6bf24db7e12b", checked := Tryz.checked }
namespace Rows
def none {H : Type} : Left H := { results := [], args := [] }

/-- 'triadlaw5.BtreeKept': WHATEVER THE INPUT: true; the input reads as it did. -/
def btreeKeptSpec : ChangeSpec := { name := "btreeKept", fn := fun _ => fun
  | [d1, d2] => { results := [.lit (.bool true)], args := [d1, d2] }
  | _ => none }
def btreeKeptRow : OpenClaim := { program := "ytbpdapcmaioeiaagreat", sum := "bc37e6d01089bad21f7bf9b85c2da9551a22a8230d75229756bf6bf24db7e12b", func := "triad/triadlaw5.BtreeKept", spec := "btreeKept", unfollowed := true, recurses := true, apart := false }
def BtreeKeptSaid : Prop := btreeKeptRow.holds Tryz.pinned (OpenSpec.ofChange btreeKeptSpec)

/-- ITS FALSE NEIGHBOUR: 'it returns false'. Refute it at one input. -/
def btreeKeptWrong : ChangeSpec := { name := "btreeKept", fn := fun _ => fun
  | [d1, d2] => { results := [.lit (.bool false)], args := [d1, d2] }
  | _ => none }
def BtreeKeptWrongFalsely : Prop := btreeKeptRow.holds Tryz.pinned (OpenSpec.ofChange btreeKeptWrong)

/-- 'triadlaw7.DictPlays': WHATEVER THE INPUT: true; the input reads as it did. -/
def dictPlaysSpec : ChangeSpec := { name := "dictPlays", fn := fun _ => fun
  | [d1, d2, d3] => { results := [.lit (.bool true)], args := [d1, d2, d3] }
  | _ => none }
def dictPlaysRow : OpenClaim := { program := "ytbpdapcmaioeiaagreat", sum := "bc37e6d01089bad21f7bf9b85c2da9551a22a8230d75229756bf6bf24db7e12b", func := "triad/triadlaw7.DictPlays", spec := "dictPlays", inPlace := ["internal/bytealg.IndexByteString"], unfollowed := true, recurses := true, apart := false }
def DictPlaysSaid : Prop := dictPlaysRow.holds Tryz.pinned (OpenSpec.ofChange dictPlaysSpec)

/-- ITS FALSE NEIGHBOUR: 'it returns false'. Refute it at one input. -/
def dictPlaysWrong : ChangeSpec := { name := "dictPlays", fn := fun _ => fun
  | [d1, d2, d3] => { results := [.lit (.bool false)], args := [d1, d2, d3] }
  | _ => none }
def DictPlaysWrongFalsely : Prop := dictPlaysRow.holds Tryz.pinned (OpenSpec.ofChange dictPlaysWrong)

/-- 'triadlaw7.DictOne': WHATEVER THE INPUT: true; the input reads as it did. -/
def dictOneSpec : ChangeSpec := { name := "dictOne", fn := fun _ => fun
  | [d1, d2] => { results := [.lit (.bool true)], args := [d1, d2] }
  | _ => none }
def dictOneRow : OpenClaim := { program := "ytbpdapcmaioeiaagreat", sum := "bc37e6d01089bad21f7bf9b85c2da9551a22a8230d75229756bf6bf24db7e12b", func := "triad/triadlaw7.DictOne", spec := "dictOne", inPlace := ["internal/bytealg.IndexByteString"], unfollowed := true, recurses := true, apart := false }
def DictOneSaid : Prop := dictOneRow.holds Tryz.pinned (OpenSpec.ofChange dictOneSpec)

/-- ITS FALSE NEIGHBOUR: 'it returns false'. Refute it at one input. -/
def dictOneWrong : ChangeSpec := { name := "dictOne", fn := fun _ => fun
  | [d1, d2] => { results := [.lit (.bool false)], args := [d1, d2] }
  | _ => none }
def DictOneWrongFalsely : Prop := dictOneRow.holds Tryz.pinned (OpenSpec.ofChange dictOneWrong)

/-- 'triadlaw7.DictKept': WHATEVER THE INPUT: true; the input reads as it did. -/
def dictKeptSpec : ChangeSpec := { name := "dictKept", fn := fun _ => fun
  | [d] => { results := [.lit (.bool true)], args := [d] }
  | _ => none }
def dictKeptRow : OpenClaim := { program := "ytbpdapcmaioeiaagreat", sum := "bc37e6d01089bad21f7bf9b85c2da9551a22a8230d75229756bf6bf24db7e12b", func := "triad/triadlaw7.DictKept", spec := "dictKept", inPlace := ["internal/bytealg.IndexByteString"], unfollowed := true, recurses := true, apart := false }
def DictKeptSaid : Prop := dictKeptRow.holds Tryz.pinned (OpenSpec.ofChange dictKeptSpec)

/-- ITS FALSE NEIGHBOUR: 'it returns false'. Refute it at one input. -/
def dictKeptWrong : ChangeSpec := { name := "dictKept", fn := fun _ => fun
  | [d] => { results := [.lit (.bool false)], args := [d] }
  | _ => none }
def DictKeptWrongFalsely : Prop := dictKeptRow.holds Tryz.pinned (OpenSpec.ofChange dictKeptWrong)

/- THE SECOND FORM. 'bulk': how many values and letters a reading holds, each counted each time it is reached (what is shared counts as often as it is met; a slice's spare places count too). A statement '..UptoSaid' is the law's where the arguments, and the package variables that the reading takes, are together of bulk at most 1048576: NARROWER than '..Said'. Prove '..Said' where nothing that the law and all that it calls make is longer than what came in: it says more and counts as full. Else prove '..UptoSaid'. A law counts once. -/
mutual
def uptoBulk {H : Type} : DataW H → Nat
  | .lit (.string bytes) => bytes.length + 1
  | .lit _ => 1
  | .nil => 1
  | .ptr d => uptoBulk d + 1
  | .slice elems spare => uptoBulkAll elems + uptoBulkAll spare + 1
  | .agg parts => uptoBulkAll parts + 1
  | .iface _ d => uptoBulk d + 1
  | .map entries => uptoBulkEntries entries + 1
  | .held _ => 1
def uptoBulkAll {H : Type} : List (DataW H) → Nat
  | [] => 0
  | d :: r => uptoBulk d + uptoBulkAll r
def uptoBulkEntries {H : Type} : List (Lit × DataW H) → Nat
  | [] => 0
  | x :: r => uptoBulkEntry x + uptoBulkEntries r
def uptoBulkEntry {H : Type} : Lit × DataW H → Nat
  | (.string bytes, d) => bytes.length + uptoBulk d + 1
  | (_, d) => uptoBulk d + 1
 end
def uptoSmall : (H : Type) → List (DataW H) → Bool := fun _ ds => decide (uptoBulkAll ds ≤ 1048576)
def OpenSpec.upto (s : _root_.Go.ChangeSpec) : _root_.Go.OpenSpec := { _root_.Go.OpenSpec.ofChange s with cond := some uptoSmall }

/-- 'triadlaw5.BtreeKept', WHERE WHAT IT READS IS OF BULK AT MOST 1048576: true; the input reads as it did. -/
def btreeKeptUptoRow : OpenClaim := { program := "ytbpdapcmaioeiaagreat", sum := "bc37e6d01089bad21f7bf9b85c2da9551a22a8230d75229756bf6bf24db7e12b", func := "triad/triadlaw5.BtreeKept", spec := "btreeKept", unfollowed := true, recurses := true, apart := false, narrowed := true }
def BtreeKeptUptoSaid : Prop := btreeKeptUptoRow.holds Tryz.pinned (OpenSpec.upto btreeKeptSpec)

/-- 'triadlaw7.DictPlays', WHERE WHAT IT READS IS OF BULK AT MOST 1048576: true; the input reads as it did. -/
def dictPlaysUptoRow : OpenClaim := { program := "ytbpdapcmaioeiaagreat", sum := "bc37e6d01089bad21f7bf9b85c2da9551a22a8230d75229756bf6bf24db7e12b", func := "triad/triadlaw7.DictPlays", spec := "dictPlays", inPlace := ["internal/bytealg.IndexByteString"], unfollowed := true, recurses := true, apart := false, narrowed := true }
def DictPlaysUptoSaid : Prop := dictPlaysUptoRow.holds Tryz.pinned (OpenSpec.upto dictPlaysSpec)

/-- 'triadlaw7.DictOne', WHERE WHAT IT READS IS OF BULK AT MOST 1048576: true; the input reads as it did. -/
def dictOneUptoRow : OpenClaim := { program := "ytbpdapcmaioeiaagreat", sum := "bc37e6d01089bad21f7bf9b85c2da9551a22a8230d75229756bf6bf24db7e12b", func := "triad/triadlaw7.DictOne", spec := "dictOne", inPlace := ["internal/bytealg.IndexByteString"], unfollowed := true, recurses := true, apart := false, narrowed := true }
def DictOneUptoSaid : Prop := dictOneUptoRow.holds Tryz.pinned (OpenSpec.upto dictOneSpec)

/-- 'triadlaw7.DictKept', WHERE WHAT IT READS IS OF BULK AT MOST 1048576: true; the input reads as it did. -/
def dictKeptUptoRow : OpenClaim := { program := "ytbpdapcmaioeiaagreat", sum := "bc37e6d01089bad21f7bf9b85c2da9551a22a8230d75229756bf6bf24db7e12b", func := "triad/triadlaw7.DictKept", spec := "dictKept", inPlace := ["internal/bytealg.IndexByteString"], unfollowed := true, recurses := true, apart := false, narrowed := true }
def DictKeptUptoSaid : Prop := dictKeptUptoRow.holds Tryz.pinned (OpenSpec.upto dictKeptSpec)

end Rows
end Go.Proofs.YtbpdapcmaioeiaaGreat
