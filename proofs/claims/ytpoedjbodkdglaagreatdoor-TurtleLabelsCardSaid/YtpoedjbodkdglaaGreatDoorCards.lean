/-
  DERIVED. GIVEN WITH THE SEED: THE CARDS: each row of YtpoedjbodkdglaaGreatDoorRows.lean that lists a variable, with what it lists TIED to the program's text (the seventh form; the later family's looks); each row that meets fmt, with fmt's text TOLD by the authors' own Lean function (tested against real Go, not proved from fmt's source: count such statements apart). THE CARD IS WHAT COUNTS. Prove the row's statement (the work); the ties are given (YtpoedjbodkdglaaGreatDoorTie.lean); close each card by the builder's one call (the guide's Derived/Test/ToyasCard.lean, 'card_holds'). Laid BY PROGRAM, IN A SANDBOX (cutbox-door.mjs). By AI agents, Wed Nov 11 2026. No macro, syntax, notation, axiom, sorry.
-/
import Derived.Test.YtpoedjbodkdglaaGreatDoorRows
import GoSem.ClaimSeven
namespace Go.Proofs.YtpoedjbodkdglaaGreatDoor
namespace Rows

/-- THE TIED CARD OF 'triadlaw12.TurtleShort'. -/
def turtleShortCard : Claim7 := { stood := { row := turtleShortRow, standIns := [], harness := (true, "607bd1c461324712ac32b2c73a8360409224034dd5953235ecd40a686adfd3a7"), looks := false }, kinds := [], alts := [], laidByText := true, laidKinds := [.data, .data, .data, .data, .data, .pinned], laidTests := true, laidLooks := .later }
def TurtleShortCardSaid : Prop := Claim7.holds Tryz.pinned (.plain (OpenSpec.ofChange turtleShortSpec)) turtleShortCard

/-- THE TIED CARD OF 'triadlaw12.TurtleLists'. -/
def turtleListsCard : Claim7 := { stood := { row := turtleListsRow, standIns := [], harness := (true, "607bd1c461324712ac32b2c73a8360409224034dd5953235ecd40a686adfd3a7"), looks := false }, kinds := [], alts := [], laidByText := true, laidKinds := [.data, .data, .data, .data, .data, .pinned], laidTests := true, laidLooks := .later }
def TurtleListsCardSaid : Prop := Claim7.holds Tryz.pinned (.plain (OpenSpec.ofChange turtleListsSpec)) turtleListsCard

/-- THE TIED CARD OF 'triadlaw12.TurtleDeep'. -/
def turtleDeepCard : Claim7 := { stood := { row := turtleDeepRow, standIns := [], harness := (true, "607bd1c461324712ac32b2c73a8360409224034dd5953235ecd40a686adfd3a7"), looks := false }, kinds := [], alts := [], laidByText := true, laidKinds := [.data, .data, .data, .data, .data, .pinned], laidTests := true, laidLooks := .later }
def TurtleDeepCardSaid : Prop := Claim7.holds Tryz.pinned (.plain (OpenSpec.ofChange turtleDeepSpec)) turtleDeepCard

/-- THE TIED CARD OF 'triadlaw12.TurtlePrefix'. -/
def turtlePrefixCard : Claim7 := { stood := { row := turtlePrefixRow, standIns := [], harness := (true, "607bd1c461324712ac32b2c73a8360409224034dd5953235ecd40a686adfd3a7"), looks := false }, kinds := [], alts := [], laidByText := true, laidKinds := [.data, .data, .data, .data, .data, .pinned], laidTests := true, laidLooks := .later }
def TurtlePrefixCardSaid : Prop := Claim7.holds Tryz.pinned (.plain (OpenSpec.ofChange turtlePrefixSpec)) turtlePrefixCard

/-- THE TIED CARD OF 'triadlaw12.TurtleKnown'. -/
def turtleKnownCard : Claim7 := { stood := { row := turtleKnownRow, standIns := [], harness := (true, "607bd1c461324712ac32b2c73a8360409224034dd5953235ecd40a686adfd3a7"), looks := false }, kinds := [], alts := [], laidByText := true, laidKinds := [.data, .data, .data, .data, .data, .pinned], laidTests := true, laidLooks := .later }
def TurtleKnownCardSaid : Prop := Claim7.holds Tryz.pinned (.plain (OpenSpec.ofChange turtleKnownSpec)) turtleKnownCard

/-- THE TIED CARD OF 'triadlaw12.TurtleLabels'. -/
def turtleLabelsCard : Claim7 := { stood := { row := turtleLabelsRow, standIns := [], harness := (true, "607bd1c461324712ac32b2c73a8360409224034dd5953235ecd40a686adfd3a7"), looks := false }, kinds := [], alts := [], laidByText := true, laidKinds := [.data, .data, .data, .data, .data, .pinned], laidTests := true, laidLooks := .later }
def TurtleLabelsCardSaid : Prop := Claim7.holds Tryz.pinned (.plain (OpenSpec.ofChange turtleLabelsSpec)) turtleLabelsCard

/-- THE SECOND FORM's CARD OF 'triadlaw12.TurtleShort'. -/
def turtleShortUptoCard : Claim7 := { stood := { row := turtleShortUptoRow, standIns := [], harness := (true, "607bd1c461324712ac32b2c73a8360409224034dd5953235ecd40a686adfd3a7"), looks := false }, kinds := [], alts := [], laidByText := true, laidKinds := [.data, .data, .data, .data, .data, .pinned], laidTests := true, laidLooks := .later }
def TurtleShortUptoCardSaid : Prop := Claim7.holds Tryz.pinned (.plain (OpenSpec.upto turtleShortSpec)) turtleShortUptoCard

/-- THE SECOND FORM's CARD OF 'triadlaw12.TurtleLists'. -/
def turtleListsUptoCard : Claim7 := { stood := { row := turtleListsUptoRow, standIns := [], harness := (true, "607bd1c461324712ac32b2c73a8360409224034dd5953235ecd40a686adfd3a7"), looks := false }, kinds := [], alts := [], laidByText := true, laidKinds := [.data, .data, .data, .data, .data, .pinned], laidTests := true, laidLooks := .later }
def TurtleListsUptoCardSaid : Prop := Claim7.holds Tryz.pinned (.plain (OpenSpec.upto turtleListsSpec)) turtleListsUptoCard

/-- THE SECOND FORM's CARD OF 'triadlaw12.TurtleDeep'. -/
def turtleDeepUptoCard : Claim7 := { stood := { row := turtleDeepUptoRow, standIns := [], harness := (true, "607bd1c461324712ac32b2c73a8360409224034dd5953235ecd40a686adfd3a7"), looks := false }, kinds := [], alts := [], laidByText := true, laidKinds := [.data, .data, .data, .data, .data, .pinned], laidTests := true, laidLooks := .later }
def TurtleDeepUptoCardSaid : Prop := Claim7.holds Tryz.pinned (.plain (OpenSpec.upto turtleDeepSpec)) turtleDeepUptoCard

/-- THE SECOND FORM's CARD OF 'triadlaw12.TurtlePrefix'. -/
def turtlePrefixUptoCard : Claim7 := { stood := { row := turtlePrefixUptoRow, standIns := [], harness := (true, "607bd1c461324712ac32b2c73a8360409224034dd5953235ecd40a686adfd3a7"), looks := false }, kinds := [], alts := [], laidByText := true, laidKinds := [.data, .data, .data, .data, .data, .pinned], laidTests := true, laidLooks := .later }
def TurtlePrefixUptoCardSaid : Prop := Claim7.holds Tryz.pinned (.plain (OpenSpec.upto turtlePrefixSpec)) turtlePrefixUptoCard

/-- THE SECOND FORM's CARD OF 'triadlaw12.TurtleKnown'. -/
def turtleKnownUptoCard : Claim7 := { stood := { row := turtleKnownUptoRow, standIns := [], harness := (true, "607bd1c461324712ac32b2c73a8360409224034dd5953235ecd40a686adfd3a7"), looks := false }, kinds := [], alts := [], laidByText := true, laidKinds := [.data, .data, .data, .data, .data, .pinned], laidTests := true, laidLooks := .later }
def TurtleKnownUptoCardSaid : Prop := Claim7.holds Tryz.pinned (.plain (OpenSpec.upto turtleKnownSpec)) turtleKnownUptoCard

/-- THE SECOND FORM's CARD OF 'triadlaw12.TurtleLabels'. -/
def turtleLabelsUptoCard : Claim7 := { stood := { row := turtleLabelsUptoRow, standIns := [], harness := (true, "607bd1c461324712ac32b2c73a8360409224034dd5953235ecd40a686adfd3a7"), looks := false }, kinds := [], alts := [], laidByText := true, laidKinds := [.data, .data, .data, .data, .data, .pinned], laidTests := true, laidLooks := .later }
def TurtleLabelsUptoCardSaid : Prop := Claim7.holds Tryz.pinned (.plain (OpenSpec.upto turtleLabelsSpec)) turtleLabelsUptoCard
end Rows
end Go.Proofs.YtpoedjbodkdglaaGreatDoor
