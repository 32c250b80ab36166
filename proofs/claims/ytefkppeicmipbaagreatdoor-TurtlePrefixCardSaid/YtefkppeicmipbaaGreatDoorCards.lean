/-
  DERIVED. GIVEN WITH THE SEED: THE CARDS: each row of YtefkppeicmipbaaGreatDoorRows.lean that lists a variable, with what it lists TIED to the program's text (the seventh form; the later family's looks); each row that meets fmt, with fmt's text TOLD by the authors' own Lean function (tested against real Go, not proved from fmt's source: count such statements apart). THE CARD IS WHAT COUNTS. Prove the row's statement (the work); the ties are given (YtefkppeicmipbaaGreatDoorTie.lean); close each card by the builder's one call (the guide's Derived/Test/ToyasCard.lean, 'card_holds'). Laid BY PROGRAM, IN A SANDBOX (cutbox-door.mjs). By AI agents, Wed Nov 11 2026. No macro, syntax, notation, axiom, sorry.
-/
import Derived.Test.YtefkppeicmipbaaGreatDoorRows
import GoSem.ClaimSeven
namespace Go.Proofs.YtefkppeicmipbaaGreatDoor
namespace Rows

/-- THE TIED CARD OF 'triadlaw12.TurtleShort'. -/
def turtleShortCard : Claim7 := { stood := { row := turtleShortRow, standIns := [], harness := (true, "97fb80fb58f5a2c6552b242c93f7167334d03c4721052e905359cf0c845210ad"), looks := false }, kinds := [], alts := [], laidByText := true, laidKinds := [.data, .data, .data, .data, .data, .pinned], laidTests := true, laidLooks := .later }
def TurtleShortCardSaid : Prop := Claim7.holds Tryz.pinned (.plain (OpenSpec.ofChange turtleShortSpec)) turtleShortCard

/-- THE TIED CARD OF 'triadlaw12.TurtlePrefix'. -/
def turtlePrefixCard : Claim7 := { stood := { row := turtlePrefixRow, standIns := [], harness := (true, "97fb80fb58f5a2c6552b242c93f7167334d03c4721052e905359cf0c845210ad"), looks := false }, kinds := [], alts := [], laidByText := true, laidKinds := [.data, .data, .data, .data, .data, .pinned], laidTests := true, laidLooks := .later }
def TurtlePrefixCardSaid : Prop := Claim7.holds Tryz.pinned (.plain (OpenSpec.ofChange turtlePrefixSpec)) turtlePrefixCard

/-- THE SECOND FORM's CARD OF 'triadlaw12.TurtleShort'. -/
def turtleShortUptoCard : Claim7 := { stood := { row := turtleShortUptoRow, standIns := [], harness := (true, "97fb80fb58f5a2c6552b242c93f7167334d03c4721052e905359cf0c845210ad"), looks := false }, kinds := [], alts := [], laidByText := true, laidKinds := [.data, .data, .data, .data, .data, .pinned], laidTests := true, laidLooks := .later }
def TurtleShortUptoCardSaid : Prop := Claim7.holds Tryz.pinned (.plain (OpenSpec.upto turtleShortSpec)) turtleShortUptoCard

/-- THE SECOND FORM's CARD OF 'triadlaw12.TurtlePrefix'. -/
def turtlePrefixUptoCard : Claim7 := { stood := { row := turtlePrefixUptoRow, standIns := [], harness := (true, "97fb80fb58f5a2c6552b242c93f7167334d03c4721052e905359cf0c845210ad"), looks := false }, kinds := [], alts := [], laidByText := true, laidKinds := [.data, .data, .data, .data, .data, .pinned], laidTests := true, laidLooks := .later }
def TurtlePrefixUptoCardSaid : Prop := Claim7.holds Tryz.pinned (.plain (OpenSpec.upto turtlePrefixSpec)) turtlePrefixUptoCard
end Rows
end Go.Proofs.YtefkppeicmipbaaGreatDoor
