/-
  DERIVED. GIVEN WITH THE SEED: THE CARDS: each row of YtodhklapikfpoaaDoorRows.lean that lists a variable, with what it lists TIED to the program's text (the seventh form; the later family's looks); each row that meets fmt, with fmt's text TOLD by the authors' own Lean function (tested against real Go, not proved from fmt's source: count such statements apart). THE CARD IS WHAT COUNTS. Prove the row's statement (the work); the ties are given (YtodhklapikfpoaaDoorTie.lean); close each card by the builder's one call (the guide's Derived/Test/ToyasCard.lean, 'card_holds'). Laid BY PROGRAM, IN A SANDBOX (cutbox-door.mjs). By AI agents, Wed Nov 11 2026. No macro, syntax, notation, axiom, sorry.
-/
import Derived.Test.YtodhklapikfpoaaDoorRows
import GoSem.ClaimSeven
namespace Go.Proofs.YtodhklapikfpoaaDoor
namespace Rows

/-- THE TIED CARD OF 'triadlaw13.DecMuls'. -/
def decMulsCard : Claim7 := { stood := { row := decMulsRow, standIns := [], harness := (true, "9bf11d01572b4e392391f852ec46945460e432b9d3fde9045fdead6744c0a9e5"), looks := false }, kinds := [], alts := [], laidByText := true, laidKinds := [.data, .pinned], laidTests := true, laidLooks := .later }
def DecMulsCardSaid : Prop := Claim7.holds Tryd.pinned (.plain (OpenSpec.ofChange decMulsSpec)) decMulsCard

/-- THE TIED CARD OF 'triadlaw13.DecDivs'. -/
def decDivsCard : Claim7 := { stood := { row := decDivsRow, standIns := [], harness := (true, "9bf11d01572b4e392391f852ec46945460e432b9d3fde9045fdead6744c0a9e5"), looks := false }, kinds := [], alts := [], laidByText := true, laidKinds := [.data, .data, .data, .data, .pinned], laidTests := true, laidLooks := .later }
def DecDivsCardSaid : Prop := Claim7.holds Tryd.pinned (.plain (OpenSpec.ofChange decDivsSpec)) decDivsCard

/-- THE TIED CARD OF 'triadlaw13.DecKnown'. -/
def decKnownCard : Claim7 := { stood := { row := decKnownRow, standIns := [], harness := (true, "9bf11d01572b4e392391f852ec46945460e432b9d3fde9045fdead6744c0a9e5"), looks := false }, kinds := [], alts := [], laidByText := true, laidKinds := [.data, .data, .data, .data, .data, .data, .data, .pinned], laidTests := true, laidLooks := .later }
def DecKnownCardSaid : Prop := Claim7.holds Tryd.pinned (.plain (OpenSpec.ofChange decKnownSpec)) decKnownCard

/-- THE SECOND FORM's CARD OF 'triadlaw13.DecMuls'. -/
def decMulsUptoCard : Claim7 := { stood := { row := decMulsUptoRow, standIns := [], harness := (true, "9bf11d01572b4e392391f852ec46945460e432b9d3fde9045fdead6744c0a9e5"), looks := false }, kinds := [], alts := [], laidByText := true, laidKinds := [.data, .pinned], laidTests := true, laidLooks := .later }
def DecMulsUptoCardSaid : Prop := Claim7.holds Tryd.pinned (.plain (OpenSpec.upto decMulsSpec)) decMulsUptoCard

/-- THE SECOND FORM's CARD OF 'triadlaw13.DecDivs'. -/
def decDivsUptoCard : Claim7 := { stood := { row := decDivsUptoRow, standIns := [], harness := (true, "9bf11d01572b4e392391f852ec46945460e432b9d3fde9045fdead6744c0a9e5"), looks := false }, kinds := [], alts := [], laidByText := true, laidKinds := [.data, .data, .data, .data, .pinned], laidTests := true, laidLooks := .later }
def DecDivsUptoCardSaid : Prop := Claim7.holds Tryd.pinned (.plain (OpenSpec.upto decDivsSpec)) decDivsUptoCard

/-- THE SECOND FORM's CARD OF 'triadlaw13.DecKnown'. -/
def decKnownUptoCard : Claim7 := { stood := { row := decKnownUptoRow, standIns := [], harness := (true, "9bf11d01572b4e392391f852ec46945460e432b9d3fde9045fdead6744c0a9e5"), looks := false }, kinds := [], alts := [], laidByText := true, laidKinds := [.data, .data, .data, .data, .data, .data, .data, .pinned], laidTests := true, laidLooks := .later }
def DecKnownUptoCardSaid : Prop := Claim7.holds Tryd.pinned (.plain (OpenSpec.upto decKnownSpec)) decKnownUptoCard
end Rows
end Go.Proofs.YtodhklapikfpoaaDoor
