/-
  DERIVED. GIVEN WITH THE SEED: THE CARDS: each row of YtmiklffjffdkgaaGreatDoorRows.lean that lists a variable, with what it lists TIED to the program's text (the seventh form; the later family's looks); each row that meets fmt, with fmt's text TOLD by the authors' own Lean function (tested against real Go, not proved from fmt's source: count such statements apart). THE CARD IS WHAT COUNTS. Prove the row's statement (the work); the ties are given (YtmiklffjffdkgaaGreatDoorTie.lean); close each card by the builder's one call (the guide's Derived/Test/ToyasCard.lean, 'card_holds'). Laid BY PROGRAM, IN A SANDBOX (cutbox-door.mjs). By AI agents, Wed Nov 11 2026. No macro, syntax, notation, axiom, sorry.
-/
import Derived.Test.YtmiklffjffdkgaaGreatDoorRows
import GoSem.ClaimSeven
namespace Go.Proofs.YtmiklffjffdkgaaGreatDoor
namespace Rows

/-- THE TIED CARD OF 'cubitlaw5.RoundSays'. -/
def roundSaysCard : Claim7 := { stood := { row := roundSaysRow, standIns := [], harness := (true, "ea24ebc1a24ad1022424960c9a57ae646231a82b09f43e33436317098fd7d1d0"), looks := false }, kinds := [], alts := [], laidByText := true, laidKinds := [.data, .pinned], laidTests := true, laidLooks := .later }
def RoundSaysCardSaid : Prop := Claim7.holds Tryz.pinned (.plain (OpenSpec.ofChange roundSaysSpec)) roundSaysCard

/-- THE SECOND FORM's CARD OF 'cubitlaw5.RoundSays'. -/
def roundSaysUptoCard : Claim7 := { stood := { row := roundSaysUptoRow, standIns := [], harness := (true, "ea24ebc1a24ad1022424960c9a57ae646231a82b09f43e33436317098fd7d1d0"), looks := false }, kinds := [], alts := [], laidByText := true, laidKinds := [.data, .pinned], laidTests := true, laidLooks := .later }
def RoundSaysUptoCardSaid : Prop := Claim7.holds Tryz.pinned (.plain (OpenSpec.upto roundSaysSpec)) roundSaysUptoCard
end Rows
end Go.Proofs.YtmiklffjffdkgaaGreatDoor
