/-
  DERIVED. GIVEN WITH THE SEED: THE CARDS: each row of YteieelgdiccppabDoorRows.lean that lists a variable, with what it lists TIED to the program's text (the seventh form; the later family's looks); each row that meets fmt, with fmt's text TOLD by the authors' own Lean function (tested against real Go, not proved from fmt's source: count such statements apart). THE CARD IS WHAT COUNTS. Prove the row's statement (the work); the ties are given (YteieelgdiccppabDoorTie.lean); close each card by the builder's one call (the guide's Derived/Test/ToyasCard.lean, 'card_holds'). Laid BY PROGRAM, IN A SANDBOX (cutbox-door.mjs). By AI agents, Wed Nov 11 2026. No macro, syntax, notation, axiom, sorry.
-/
import Derived.Test.YteieelgdiccppabDoorRows
import GoSem.ClaimSeven
namespace Go.Proofs.YteieelgdiccppabDoor
namespace Rows

/-- THE TIED CARD OF 'cubitlaw5.RoundSteps'. -/
def roundStepsCard : Claim7 := { stood := { row := roundStepsRow, standIns := [], harness := (true, "d8e7a96b80019a95b28e0ad3a1eab2cc746b84f819180ccb5f33a1c508c1c27e"), looks := false }, kinds := [], alts := [], laidByText := true, laidKinds := [.data, .pinned], laidTests := true, laidLooks := .later }
def RoundStepsCardSaid : Prop := Claim7.holds Tryd.pinned (.plain (OpenSpec.ofChange roundStepsSpec)) roundStepsCard

/-- THE TIED CARD OF 'cubitlaw5.RoundDigits'. -/
def roundDigitsCard : Claim7 := { stood := { row := roundDigitsRow, standIns := [], harness := (true, "d8e7a96b80019a95b28e0ad3a1eab2cc746b84f819180ccb5f33a1c508c1c27e"), looks := false }, kinds := [], alts := [], laidByText := true, laidKinds := [.data, .pinned], laidTests := true, laidLooks := .later }
def RoundDigitsCardSaid : Prop := Claim7.holds Tryd.pinned (.plain (OpenSpec.ofChange roundDigitsSpec)) roundDigitsCard

/-- THE SECOND FORM's CARD OF 'cubitlaw5.RoundSteps'. -/
def roundStepsUptoCard : Claim7 := { stood := { row := roundStepsUptoRow, standIns := [], harness := (true, "d8e7a96b80019a95b28e0ad3a1eab2cc746b84f819180ccb5f33a1c508c1c27e"), looks := false }, kinds := [], alts := [], laidByText := true, laidKinds := [.data, .pinned], laidTests := true, laidLooks := .later }
def RoundStepsUptoCardSaid : Prop := Claim7.holds Tryd.pinned (.plain (OpenSpec.upto roundStepsSpec)) roundStepsUptoCard

/-- THE SECOND FORM's CARD OF 'cubitlaw5.RoundDigits'. -/
def roundDigitsUptoCard : Claim7 := { stood := { row := roundDigitsUptoRow, standIns := [], harness := (true, "d8e7a96b80019a95b28e0ad3a1eab2cc746b84f819180ccb5f33a1c508c1c27e"), looks := false }, kinds := [], alts := [], laidByText := true, laidKinds := [.data, .pinned], laidTests := true, laidLooks := .later }
def RoundDigitsUptoCardSaid : Prop := Claim7.holds Tryd.pinned (.plain (OpenSpec.upto roundDigitsSpec)) roundDigitsUptoCard
end Rows
end Go.Proofs.YteieelgdiccppabDoor
