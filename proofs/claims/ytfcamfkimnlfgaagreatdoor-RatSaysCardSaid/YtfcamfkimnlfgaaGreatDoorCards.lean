/-
  DERIVED. GIVEN WITH THE SEED: THE CARDS: each row of YtfcamfkimnlfgaaGreatDoorRows.lean that lists a variable, with what it lists TIED to the program's text (the seventh form; the later family's looks); each row that meets fmt, with fmt's text TOLD by the authors' own Lean function (tested against real Go, not proved from fmt's source: count such statements apart). THE CARD IS WHAT COUNTS. Prove the row's statement (the work); the ties are given (YtfcamfkimnlfgaaGreatDoorTie.lean); close each card by the builder's one call (the guide's Derived/Test/ToyasCard.lean, 'card_holds'). Laid BY PROGRAM, IN A SANDBOX (cutbox-door.mjs). By AI agents, Wed Nov 11 2026. No macro, syntax, notation, axiom, sorry.
-/
import Derived.Test.YtfcamfkimnlfgaaGreatDoorRows
import GoSem.ClaimSeven
namespace Go.Proofs.YtfcamfkimnlfgaaGreatDoor
namespace Rows

/-- THE TIED CARD OF 'cubitlaw3.RatSays'. -/
def ratSaysCard : Claim7 := { stood := { row := ratSaysRow, standIns := [], harness := (true, "bcfb2c82a0420e828614a7cda1e6db169f3bd40462eca5e315881cf8c4e60460"), looks := false }, kinds := [], alts := [], laidByText := true, laidKinds := [.data, .pinned], laidTests := true, laidLooks := .later }
def RatSaysCardSaid : Prop := Claim7.holds Tryz.pinned (.plain (OpenSpec.ofChange ratSaysSpec)) ratSaysCard

/-- THE TIED CARD OF 'cubitlaw4.DecSays'. -/
def decSaysCard : Claim7 := { stood := { row := decSaysRow, standIns := [], harness := (true, "bcfb2c82a0420e828614a7cda1e6db169f3bd40462eca5e315881cf8c4e60460"), looks := false }, kinds := [], alts := [], laidByText := true, laidKinds := [.data, .pinned], laidTests := true, laidLooks := .later }
def DecSaysCardSaid : Prop := Claim7.holds Tryz.pinned (.plain (OpenSpec.ofChange decSaysSpec)) decSaysCard

/-- THE TIED CARD OF 'cubitlaw5.RoundSays'. -/
def roundSaysCard : Claim7 := { stood := { row := roundSaysRow, standIns := [], harness := (true, "bcfb2c82a0420e828614a7cda1e6db169f3bd40462eca5e315881cf8c4e60460"), looks := false }, kinds := [], alts := [], laidByText := true, laidKinds := [.data, .pinned], laidTests := true, laidLooks := .later }
def RoundSaysCardSaid : Prop := Claim7.holds Tryz.pinned (.plain (OpenSpec.ofChange roundSaysSpec)) roundSaysCard

/-- THE SECOND FORM's CARD OF 'cubitlaw3.RatSays'. -/
def ratSaysUptoCard : Claim7 := { stood := { row := ratSaysUptoRow, standIns := [], harness := (true, "bcfb2c82a0420e828614a7cda1e6db169f3bd40462eca5e315881cf8c4e60460"), looks := false }, kinds := [], alts := [], laidByText := true, laidKinds := [.data, .pinned], laidTests := true, laidLooks := .later }
def RatSaysUptoCardSaid : Prop := Claim7.holds Tryz.pinned (.plain (OpenSpec.upto ratSaysSpec)) ratSaysUptoCard

/-- THE SECOND FORM's CARD OF 'cubitlaw4.DecSays'. -/
def decSaysUptoCard : Claim7 := { stood := { row := decSaysUptoRow, standIns := [], harness := (true, "bcfb2c82a0420e828614a7cda1e6db169f3bd40462eca5e315881cf8c4e60460"), looks := false }, kinds := [], alts := [], laidByText := true, laidKinds := [.data, .pinned], laidTests := true, laidLooks := .later }
def DecSaysUptoCardSaid : Prop := Claim7.holds Tryz.pinned (.plain (OpenSpec.upto decSaysSpec)) decSaysUptoCard

/-- THE SECOND FORM's CARD OF 'cubitlaw5.RoundSays'. -/
def roundSaysUptoCard : Claim7 := { stood := { row := roundSaysUptoRow, standIns := [], harness := (true, "bcfb2c82a0420e828614a7cda1e6db169f3bd40462eca5e315881cf8c4e60460"), looks := false }, kinds := [], alts := [], laidByText := true, laidKinds := [.data, .pinned], laidTests := true, laidLooks := .later }
def RoundSaysUptoCardSaid : Prop := Claim7.holds Tryz.pinned (.plain (OpenSpec.upto roundSaysSpec)) roundSaysUptoCard
end Rows
end Go.Proofs.YtfcamfkimnlfgaaGreatDoor
