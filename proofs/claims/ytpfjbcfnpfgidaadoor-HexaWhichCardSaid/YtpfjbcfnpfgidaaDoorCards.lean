/-
  DERIVED. GIVEN WITH THE SEED: THE CARDS: each row of YtpfjbcfnpfgidaaDoorRows.lean that lists a variable, with what it lists TIED to the program's text (the seventh form; the later family's looks); each row that meets fmt, with fmt's text TOLD by the authors' own Lean function (tested against real Go, not proved from fmt's source: count such statements apart). THE CARD IS WHAT COUNTS. Prove the row's statement (the work); the ties are given (YtpfjbcfnpfgidaaDoorTie.lean); close each card by the builder's one call (the guide's Derived/Test/ToyasCard.lean, 'card_holds'). Laid BY PROGRAM, IN A SANDBOX (cutbox-door.mjs). By AI agents, Wed Nov 11 2026. No macro, syntax, notation, axiom, sorry.
-/
import Derived.Test.YtpfjbcfnpfgidaaDoorRows
import GoSem.ClaimSeven
namespace Go.Proofs.YtpfjbcfnpfgidaaDoor
namespace Rows

/-- THE TIED CARD OF 'triadlaw8.HexaWhich'. -/
def hexaWhichCard : Claim7 := { stood := { row := hexaWhichRow, standIns := [], harness := (true, "aa33261138f4a465e3267f7e41b7facdb840072c875b2a79f824f0692a8a3b5a"), looks := false }, kinds := [], alts := [], laidByText := true, laidKinds := [.wider], laidTests := true, laidLooks := .later }
def HexaWhichCardSaid : Prop := Claim7.holds Tryd.pinned (.plain (OpenSpec.ofChange hexaWhichSpec)) hexaWhichCard

/-- THE SECOND FORM's CARD OF 'triadlaw8.HexaWhich'. -/
def hexaWhichUptoCard : Claim7 := { stood := { row := hexaWhichUptoRow, standIns := [], harness := (true, "aa33261138f4a465e3267f7e41b7facdb840072c875b2a79f824f0692a8a3b5a"), looks := false }, kinds := [], alts := [], laidByText := true, laidKinds := [.wider], laidTests := true, laidLooks := .later }
def HexaWhichUptoCardSaid : Prop := Claim7.holds Tryd.pinned (.plain (OpenSpec.upto hexaWhichSpec)) hexaWhichUptoCard
end Rows
end Go.Proofs.YtpfjbcfnpfgidaaDoor
