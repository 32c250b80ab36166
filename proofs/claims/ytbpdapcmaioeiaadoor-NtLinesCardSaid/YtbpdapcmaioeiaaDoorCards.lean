/-
  DERIVED. GIVEN WITH THE SEED: THE CARDS: each row of YtbpdapcmaioeiaaDoorRows.lean that lists a variable, with what it lists TIED to the program's text (the seventh form; the later family's looks); each row that meets fmt, with fmt's text TOLD by the authors' own Lean function (tested against real Go, not proved from fmt's source: count such statements apart). THE CARD IS WHAT COUNTS. Prove the row's statement (the work); the ties are given (YtbpdapcmaioeiaaDoorTie.lean); close each card by the builder's one call (the guide's Derived/Test/ToyasCard.lean, 'card_holds'). Laid BY PROGRAM, IN A SANDBOX (cutbox-door.mjs). By AI agents, Wed Nov 11 2026. No macro, syntax, notation, axiom, sorry.
-/
import Derived.Test.YtbpdapcmaioeiaaDoorRows
import GoSem.ClaimSeven
namespace Go.Proofs.YtbpdapcmaioeiaaDoor
namespace Rows

/-- THE TIED CARD OF 'triadlaw9.NtBlanks'. -/
def ntBlanksCard : Claim7 := { stood := { row := ntBlanksRow, standIns := [], harness := (true, "64509a6f1eccd6d21118d19d5bdf6e305d1b39b08ae8ddb83ef62cda205f1e53"), looks := false }, kinds := [], alts := [], laidByText := true, laidKinds := [.data, .pinned], laidTests := true, laidLooks := .later }
def NtBlanksCardSaid : Prop := Claim7.holds Tryd.pinned (.plain (OpenSpec.ofChange ntBlanksSpec)) ntBlanksCard

/-- THE TIED CARD OF 'triadlaw9.NtLines'. -/
def ntLinesCard : Claim7 := { stood := { row := ntLinesRow, standIns := [], harness := (true, "64509a6f1eccd6d21118d19d5bdf6e305d1b39b08ae8ddb83ef62cda205f1e53"), looks := false }, kinds := [], alts := [], laidByText := true, laidKinds := [.data, .pinned], laidTests := true, laidLooks := .later }
def NtLinesCardSaid : Prop := Claim7.holds Tryd.pinned (.plain (OpenSpec.ofChange ntLinesSpec)) ntLinesCard

/-- THE SECOND FORM's CARD OF 'triadlaw9.NtBlanks'. -/
def ntBlanksUptoCard : Claim7 := { stood := { row := ntBlanksUptoRow, standIns := [], harness := (true, "64509a6f1eccd6d21118d19d5bdf6e305d1b39b08ae8ddb83ef62cda205f1e53"), looks := false }, kinds := [], alts := [], laidByText := true, laidKinds := [.data, .pinned], laidTests := true, laidLooks := .later }
def NtBlanksUptoCardSaid : Prop := Claim7.holds Tryd.pinned (.plain (OpenSpec.upto ntBlanksSpec)) ntBlanksUptoCard

/-- THE SECOND FORM's CARD OF 'triadlaw9.NtLines'. -/
def ntLinesUptoCard : Claim7 := { stood := { row := ntLinesUptoRow, standIns := [], harness := (true, "64509a6f1eccd6d21118d19d5bdf6e305d1b39b08ae8ddb83ef62cda205f1e53"), looks := false }, kinds := [], alts := [], laidByText := true, laidKinds := [.data, .pinned], laidTests := true, laidLooks := .later }
def NtLinesUptoCardSaid : Prop := Claim7.holds Tryd.pinned (.plain (OpenSpec.upto ntLinesSpec)) ntLinesUptoCard
end Rows
end Go.Proofs.YtbpdapcmaioeiaaDoor
