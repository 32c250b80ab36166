/-
  No cell of these rows narrows 'for every input' (looked for: loops, veiled, ifaces, maps, wideKeys, modest, calm, conditions, laid).
  DERIVED. THE GIVEN ROWS OF THIS SEAT. 7 by the template 'for every input the law returns true; each argument reads behind the call as it read before'; 0 by the template 'total and deterministic' (their statements: YtpoacgnncinmiaaTotals.lean).
  GIVEN WITH THE SEED: the statements are not yours to turn. If you find one false, say at which input.
  Laid BY PROGRAM, IN A SANDBOX (cutbox-rows.mjs): the forced cells as the released guide's own fill.sh prints them over the translation cdea87482ed50837… (all of the seat's roots in one cut). By AI agents, Wed Nov 11 2026. No macro, syntax, notation, axiom, sorry.
-/
import Derived.Test.YtpoacgnncinmiaaChecked
import GoSem.Claim
import GoSem.ClaimJoined
import GoSem.ClaimMapViews
import Derived.JoinedTies
import Derived.KernelRfl
namespace Go.Proofs.Ytpoacgnncinmiaa
/- THE CELL 'sum', in the pinned program and in every row, IS THE sha256 OF THE DUMP (.gsa) THAT YtpoacgnncinmiaaProg.lean LOADS. Nothing in Lean hashes anything: it is a label: what it is worth is what the hold of that sum in a sandbox is worth. -/
noncomputable def Try.pinned : Pinned := { name := "ytpoacgnncinmiaa", sum := "cdea87482ed508379b6b0dade2d1cc1306e9e6de0d98365b9c025515d040f4c0", checked := Try.checked }
namespace Rows
def none {H : Type} : Left H := { results := [], args := [] }

/-- 'triadlaw6.TermChecks': WHATEVER THE INPUT: true; the input reads as it did. -/
def termChecksSpec : ChangeSpec := { name := "termChecks", fn := fun _ => fun
  | [d1, d2, d3, d4] => { results := [.lit (.bool true)], args := [d1, d2, d3, d4] }
  | _ => none }
def termChecksRow : OpenClaim := { program := "ytpoacgnncinmiaa", sum := "cdea87482ed508379b6b0dade2d1cc1306e9e6de0d98365b9c025515d040f4c0", func := "triad/triadlaw6.TermChecks", spec := "termChecks", inPlace := ["internal/bytealg.IndexByteString"], unfollowed := true, recurses := true, apart := false }
def TermChecksSaid : Prop := termChecksRow.holds Try.pinned (OpenSpec.ofChange termChecksSpec)

/-- ITS FALSE NEIGHBOUR: 'it returns false'. Refute it at one input. -/
def termChecksWrong : ChangeSpec := { name := "termChecks", fn := fun _ => fun
  | [d1, d2, d3, d4] => { results := [.lit (.bool false)], args := [d1, d2, d3, d4] }
  | _ => none }
def TermChecksWrongFalsely : Prop := termChecksRow.holds Try.pinned (OpenSpec.ofChange termChecksWrong)

/-- 'triadlaw6.TermBytes': WHATEVER THE INPUT: true; the input reads as it did. -/
def termBytesSpec : ChangeSpec := { name := "termBytes", fn := fun _ => fun
  | [d1, d2, d3, d4, d5] => { results := [.lit (.bool true)], args := [d1, d2, d3, d4, d5] }
  | _ => none }
def termBytesRow : OpenClaim := { program := "ytpoacgnncinmiaa", sum := "cdea87482ed508379b6b0dade2d1cc1306e9e6de0d98365b9c025515d040f4c0", func := "triad/triadlaw6.TermBytes", spec := "termBytes", inPlace := ["internal/bytealg.IndexByteString"], unfollowed := true, recurses := true, apart := false }
def TermBytesSaid : Prop := termBytesRow.holds Try.pinned (OpenSpec.ofChange termBytesSpec)

/-- ITS FALSE NEIGHBOUR: 'it returns false'. Refute it at one input. -/
def termBytesWrong : ChangeSpec := { name := "termBytes", fn := fun _ => fun
  | [d1, d2, d3, d4, d5] => { results := [.lit (.bool false)], args := [d1, d2, d3, d4, d5] }
  | _ => none }
def TermBytesWrongFalsely : Prop := termBytesRow.holds Try.pinned (OpenSpec.ofChange termBytesWrong)

/-- 'triadlaw6.TermCompares': WHATEVER THE INPUT: true; the input reads as it did. -/
def termComparesSpec : ChangeSpec := { name := "termCompares", fn := fun _ => fun
  | [d1, d2, d3] => { results := [.lit (.bool true)], args := [d1, d2, d3] }
  | _ => none }
def termComparesRow : OpenClaim := { program := "ytpoacgnncinmiaa", sum := "cdea87482ed508379b6b0dade2d1cc1306e9e6de0d98365b9c025515d040f4c0", func := "triad/triadlaw6.TermCompares", spec := "termCompares", apart := false }
def TermComparesSaid : Prop := termComparesRow.holds Try.pinned (OpenSpec.ofChange termComparesSpec)

/-- ITS FALSE NEIGHBOUR: 'it returns false'. Refute it at one input. -/
def termComparesWrong : ChangeSpec := { name := "termCompares", fn := fun _ => fun
  | [d1, d2, d3] => { results := [.lit (.bool false)], args := [d1, d2, d3] }
  | _ => none }
def TermComparesWrongFalsely : Prop := termComparesRow.holds Try.pinned (OpenSpec.ofChange termComparesWrong)

/-- 'triadlaw6.TermTexts': WHATEVER THE INPUT: true; the input reads as it did. -/
def termTextsSpec : ChangeSpec := { name := "termTexts", fn := fun _ => fun
  | [d1, d2] => { results := [.lit (.bool true)], args := [d1, d2] }
  | _ => none }
def termTextsRow : OpenClaim := { program := "ytpoacgnncinmiaa", sum := "cdea87482ed508379b6b0dade2d1cc1306e9e6de0d98365b9c025515d040f4c0", func := "triad/triadlaw6.TermTexts", spec := "termTexts", apart := false }
def TermTextsSaid : Prop := termTextsRow.holds Try.pinned (OpenSpec.ofChange termTextsSpec)

/-- ITS FALSE NEIGHBOUR: 'it returns false'. Refute it at one input. -/
def termTextsWrong : ChangeSpec := { name := "termTexts", fn := fun _ => fun
  | [d1, d2] => { results := [.lit (.bool false)], args := [d1, d2] }
  | _ => none }
def TermTextsWrongFalsely : Prop := termTextsRow.holds Try.pinned (OpenSpec.ofChange termTextsWrong)

/-- 'triadlaw6.TermFits': WHATEVER THE INPUT: true; the input reads as it did. -/
def termFitsSpec : ChangeSpec := { name := "termFits", fn := fun _ => fun
  | [d1, d2, d3, d4] => { results := [.lit (.bool true)], args := [d1, d2, d3, d4] }
  | _ => none }
def termFitsRow : OpenClaim := { program := "ytpoacgnncinmiaa", sum := "cdea87482ed508379b6b0dade2d1cc1306e9e6de0d98365b9c025515d040f4c0", func := "triad/triadlaw6.TermFits", spec := "termFits", inPlace := ["internal/bytealg.IndexByteString"], unfollowed := true, recurses := true, apart := false }
def TermFitsSaid : Prop := termFitsRow.holds Try.pinned (OpenSpec.ofChange termFitsSpec)

/-- ITS FALSE NEIGHBOUR: 'it returns false'. Refute it at one input. -/
def termFitsWrong : ChangeSpec := { name := "termFits", fn := fun _ => fun
  | [d1, d2, d3, d4] => { results := [.lit (.bool false)], args := [d1, d2, d3, d4] }
  | _ => none }
def TermFitsWrongFalsely : Prop := termFitsRow.holds Try.pinned (OpenSpec.ofChange termFitsWrong)

/-- 'triadlaw6.TermEscapes': WHATEVER THE INPUT: true; the input reads as it did. -/
def termEscapesSpec : ChangeSpec := { name := "termEscapes", fn := fun _ => fun
  | [d1, d2] => { results := [.lit (.bool true)], args := [d1, d2] }
  | _ => none }
def termEscapesRow : OpenClaim := { program := "ytpoacgnncinmiaa", sum := "cdea87482ed508379b6b0dade2d1cc1306e9e6de0d98365b9c025515d040f4c0", func := "triad/triadlaw6.TermEscapes", spec := "termEscapes", apart := false }
def TermEscapesSaid : Prop := termEscapesRow.holds Try.pinned (OpenSpec.ofChange termEscapesSpec)

/-- ITS FALSE NEIGHBOUR: 'it returns false'. Refute it at one input. -/
def termEscapesWrong : ChangeSpec := { name := "termEscapes", fn := fun _ => fun
  | [d1, d2] => { results := [.lit (.bool false)], args := [d1, d2] }
  | _ => none }
def TermEscapesWrongFalsely : Prop := termEscapesRow.holds Try.pinned (OpenSpec.ofChange termEscapesWrong)

/-- 'triadlaw6.TermKinds': WHATEVER THE INPUT: true; the input reads as it did. -/
def termKindsSpec : ChangeSpec := { name := "termKinds", fn := fun _ => fun
  | [d1, d2] => { results := [.lit (.bool true)], args := [d1, d2] }
  | _ => none }
def termKindsRow : OpenClaim := { program := "ytpoacgnncinmiaa", sum := "cdea87482ed508379b6b0dade2d1cc1306e9e6de0d98365b9c025515d040f4c0", func := "triad/triadlaw6.TermKinds", spec := "termKinds", apart := false }
def TermKindsSaid : Prop := termKindsRow.holds Try.pinned (OpenSpec.ofChange termKindsSpec)

/-- ITS FALSE NEIGHBOUR: 'it returns false'. Refute it at one input. -/
def termKindsWrong : ChangeSpec := { name := "termKinds", fn := fun _ => fun
  | [d1, d2] => { results := [.lit (.bool false)], args := [d1, d2] }
  | _ => none }
def TermKindsWrongFalsely : Prop := termKindsRow.holds Try.pinned (OpenSpec.ofChange termKindsWrong)

/- THE SECOND FORM. 'bulk': how many values and letters a reading holds, each counted each time it is reached (what is shared counts as often as it is met; a slice's spare places count too). A statement '..UptoSaid' is the law's where the arguments, and the package variables that the reading takes, are together of bulk at most 1048576: NARROWER than '..Said'. Prove '..Said' where nothing that the law and all that it calls make is longer than what came in: it says more and counts as full. Else prove '..UptoSaid'. A law counts once. -/
mutual
def uptoBulk {H : Type} : DataW H → Nat
  | .lit (.string bytes) => bytes.length + 1
  | .lit _ => 1
  | .nil => 1
  | .ptr d => uptoBulk d + 1
  | .slice elems spare => uptoBulkAll elems + uptoBulkAll spare + 1
  | .agg parts => uptoBulkAll parts + 1
  | .iface _ d => uptoBulk d + 1
  | .map entries => uptoBulkEntries entries + 1
  | .held _ => 1
def uptoBulkAll {H : Type} : List (DataW H) → Nat
  | [] => 0
  | d :: r => uptoBulk d + uptoBulkAll r
def uptoBulkEntries {H : Type} : List (Lit × DataW H) → Nat
  | [] => 0
  | x :: r => uptoBulkEntry x + uptoBulkEntries r
def uptoBulkEntry {H : Type} : Lit × DataW H → Nat
  | (.string bytes, d) => bytes.length + uptoBulk d + 1
  | (_, d) => uptoBulk d + 1
 end
def uptoSmall : (H : Type) → List (DataW H) → Bool := fun _ ds => decide (uptoBulkAll ds ≤ 1048576)
def OpenSpec.upto (s : _root_.Go.ChangeSpec) : _root_.Go.OpenSpec := { _root_.Go.OpenSpec.ofChange s with cond := some uptoSmall }

/-- 'triadlaw6.TermChecks', WHERE WHAT IT READS IS OF BULK AT MOST 1048576: true; the input reads as it did. -/
def termChecksUptoRow : OpenClaim := { program := "ytpoacgnncinmiaa", sum := "cdea87482ed508379b6b0dade2d1cc1306e9e6de0d98365b9c025515d040f4c0", func := "triad/triadlaw6.TermChecks", spec := "termChecks", inPlace := ["internal/bytealg.IndexByteString"], unfollowed := true, recurses := true, apart := false, narrowed := true }
def TermChecksUptoSaid : Prop := termChecksUptoRow.holds Try.pinned (OpenSpec.upto termChecksSpec)

/-- 'triadlaw6.TermBytes', WHERE WHAT IT READS IS OF BULK AT MOST 1048576: true; the input reads as it did. -/
def termBytesUptoRow : OpenClaim := { program := "ytpoacgnncinmiaa", sum := "cdea87482ed508379b6b0dade2d1cc1306e9e6de0d98365b9c025515d040f4c0", func := "triad/triadlaw6.TermBytes", spec := "termBytes", inPlace := ["internal/bytealg.IndexByteString"], unfollowed := true, recurses := true, apart := false, narrowed := true }
def TermBytesUptoSaid : Prop := termBytesUptoRow.holds Try.pinned (OpenSpec.upto termBytesSpec)

/-- 'triadlaw6.TermCompares', WHERE WHAT IT READS IS OF BULK AT MOST 1048576: true; the input reads as it did. -/
def termComparesUptoRow : OpenClaim := { program := "ytpoacgnncinmiaa", sum := "cdea87482ed508379b6b0dade2d1cc1306e9e6de0d98365b9c025515d040f4c0", func := "triad/triadlaw6.TermCompares", spec := "termCompares", apart := false, narrowed := true }
def TermComparesUptoSaid : Prop := termComparesUptoRow.holds Try.pinned (OpenSpec.upto termComparesSpec)

/-- 'triadlaw6.TermTexts', WHERE WHAT IT READS IS OF BULK AT MOST 1048576: true; the input reads as it did. -/
def termTextsUptoRow : OpenClaim := { program := "ytpoacgnncinmiaa", sum := "cdea87482ed508379b6b0dade2d1cc1306e9e6de0d98365b9c025515d040f4c0", func := "triad/triadlaw6.TermTexts", spec := "termTexts", apart := false, narrowed := true }
def TermTextsUptoSaid : Prop := termTextsUptoRow.holds Try.pinned (OpenSpec.upto termTextsSpec)

/-- 'triadlaw6.TermFits', WHERE WHAT IT READS IS OF BULK AT MOST 1048576: true; the input reads as it did. -/
def termFitsUptoRow : OpenClaim := { program := "ytpoacgnncinmiaa", sum := "cdea87482ed508379b6b0dade2d1cc1306e9e6de0d98365b9c025515d040f4c0", func := "triad/triadlaw6.TermFits", spec := "termFits", inPlace := ["internal/bytealg.IndexByteString"], unfollowed := true, recurses := true, apart := false, narrowed := true }
def TermFitsUptoSaid : Prop := termFitsUptoRow.holds Try.pinned (OpenSpec.upto termFitsSpec)

/-- 'triadlaw6.TermEscapes', WHERE WHAT IT READS IS OF BULK AT MOST 1048576: true; the input reads as it did. -/
def termEscapesUptoRow : OpenClaim := { program := "ytpoacgnncinmiaa", sum := "cdea87482ed508379b6b0dade2d1cc1306e9e6de0d98365b9c025515d040f4c0", func := "triad/triadlaw6.TermEscapes", spec := "termEscapes", apart := false, narrowed := true }
def TermEscapesUptoSaid : Prop := termEscapesUptoRow.holds Try.pinned (OpenSpec.upto termEscapesSpec)

/-- 'triadlaw6.TermKinds', WHERE WHAT IT READS IS OF BULK AT MOST 1048576: true; the input reads as it did. -/
def termKindsUptoRow : OpenClaim := { program := "ytpoacgnncinmiaa", sum := "cdea87482ed508379b6b0dade2d1cc1306e9e6de0d98365b9c025515d040f4c0", func := "triad/triadlaw6.TermKinds", spec := "termKinds", apart := false, narrowed := true }
def TermKindsUptoSaid : Prop := termKindsUptoRow.holds Try.pinned (OpenSpec.upto termKindsSpec)

end Rows
end Go.Proofs.Ytpoacgnncinmiaa
