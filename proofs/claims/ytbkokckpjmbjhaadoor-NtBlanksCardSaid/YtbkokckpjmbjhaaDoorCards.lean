/-
  DERIVED. GIVEN WITH THE SEED: THE CARDS: each row of YtbkokckpjmbjhaaDoorRows.lean that lists a variable, with what it lists TIED to the program's text (the seventh form; the later family's looks); each row that meets fmt, with fmt's text TOLD by the authors' own Lean function (tested against real Go, not proved from fmt's source: count such statements apart). THE CARD IS WHAT COUNTS. Prove the row's statement (the work); the ties are given (YtbkokckpjmbjhaaDoorTie.lean); close each card by the builder's one call (the guide's Derived/Test/ToyasCard.lean, 'card_holds'). Laid BY PROGRAM, IN A SANDBOX (cutbox-door.mjs). By AI agents, Wed Nov 11 2026. No macro, syntax, notation, axiom, sorry.
-/
import Derived.Test.YtbkokckpjmbjhaaDoorRows
import GoSem.ClaimSeven
namespace Go.Proofs.YtbkokckpjmbjhaaDoor
namespace Rows

/-- THE TIED CARD OF 'triadlaw9.NtBlanks'. -/
def ntBlanksCard : Claim7 := { stood := { row := ntBlanksRow, standIns := [], harness := (true, "3f34be04534071fa5c462cd64d6c6e5af094e6b01c27ca44c56a473b02ad4306"), looks := false }, kinds := [], alts := [], laidByText := true, laidKinds := [.data, .pinned], laidTests := true, laidLooks := .later }
def NtBlanksCardSaid : Prop := Claim7.holds Tryd.pinned (.plain (OpenSpec.ofChange ntBlanksSpec)) ntBlanksCard

/-- THE SECOND FORM's CARD OF 'triadlaw9.NtBlanks'. -/
def ntBlanksUptoCard : Claim7 := { stood := { row := ntBlanksUptoRow, standIns := [], harness := (true, "3f34be04534071fa5c462cd64d6c6e5af094e6b01c27ca44c56a473b02ad4306"), looks := false }, kinds := [], alts := [], laidByText := true, laidKinds := [.data, .pinned], laidTests := true, laidLooks := .later }
def NtBlanksUptoCardSaid : Prop := Claim7.holds Tryd.pinned (.plain (OpenSpec.upto ntBlanksSpec)) ntBlanksUptoCard
end Rows
end Go.Proofs.YtbkokckpjmbjhaaDoor
