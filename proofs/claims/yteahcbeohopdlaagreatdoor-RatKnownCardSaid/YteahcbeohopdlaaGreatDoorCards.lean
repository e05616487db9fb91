/-
  DERIVED. GIVEN WITH THE SEED: THE CARDS: each row of YteahcbeohopdlaaGreatDoorRows.lean that lists a variable, with what it lists TIED to the program's text (the seventh form; the later family's looks); each row that meets fmt, with fmt's text TOLD by the authors' own Lean function (tested against real Go, not proved from fmt's source: count such statements apart). THE CARD IS WHAT COUNTS. Prove the row's statement (the work); the ties are given (YteahcbeohopdlaaGreatDoorTie.lean); close each card by the builder's one call (the guide's Derived/Test/ToyasCard.lean, 'card_holds'). Laid BY PROGRAM, IN A SANDBOX (cutbox-door.mjs). By AI agents, Wed Nov 11 2026. No macro, syntax, notation, axiom, sorry.
-/
import Derived.Test.YteahcbeohopdlaaGreatDoorRows
import GoSem.ClaimSeven
namespace Go.Proofs.YteahcbeohopdlaaGreatDoor
namespace Rows

/-- THE TIED CARD OF 'cubitlaw3.RatKnown'. -/
def ratKnownCard : Claim7 := { stood := { row := ratKnownRow, standIns := [], harness := (true, "90aa930f403bbb2de236c673b3bbfb8e031e3b345ef411ba815037e13d44f99c"), looks := false }, kinds := [], alts := [], laidByText := true, laidKinds := [.data, .pinned], laidTests := true, laidLooks := .later }
def RatKnownCardSaid : Prop := Claim7.holds Tryz.pinned (.plain (OpenSpec.ofChange ratKnownSpec)) ratKnownCard

/-- THE TIED CARD OF 'cubitlaw3.RatSays'. -/
def ratSaysCard : Claim7 := { stood := { row := ratSaysRow, standIns := [], harness := (true, "90aa930f403bbb2de236c673b3bbfb8e031e3b345ef411ba815037e13d44f99c"), looks := false }, kinds := [], alts := [], laidByText := true, laidKinds := [.data, .pinned], laidTests := true, laidLooks := .later }
def RatSaysCardSaid : Prop := Claim7.holds Tryz.pinned (.plain (OpenSpec.ofChange ratSaysSpec)) ratSaysCard

/-- THE TIED CARD OF 'cubitlaw4.DecSays'. -/
def decSaysCard : Claim7 := { stood := { row := decSaysRow, standIns := [], harness := (true, "90aa930f403bbb2de236c673b3bbfb8e031e3b345ef411ba815037e13d44f99c"), looks := false }, kinds := [], alts := [], laidByText := true, laidKinds := [.data, .pinned], laidTests := true, laidLooks := .later }
def DecSaysCardSaid : Prop := Claim7.holds Tryz.pinned (.plain (OpenSpec.ofChange decSaysSpec)) decSaysCard

/-- THE TIED CARD OF 'cubitlaw5.RoundSays'. -/
def roundSaysCard : Claim7 := { stood := { row := roundSaysRow, standIns := [], harness := (true, "90aa930f403bbb2de236c673b3bbfb8e031e3b345ef411ba815037e13d44f99c"), looks := false }, kinds := [], alts := [], laidByText := true, laidKinds := [.data, .pinned], laidTests := true, laidLooks := .later }
def RoundSaysCardSaid : Prop := Claim7.holds Tryz.pinned (.plain (OpenSpec.ofChange roundSaysSpec)) roundSaysCard

/-- THE SECOND FORM's CARD OF 'cubitlaw3.RatKnown'. -/
def ratKnownUptoCard : Claim7 := { stood := { row := ratKnownUptoRow, standIns := [], harness := (true, "90aa930f403bbb2de236c673b3bbfb8e031e3b345ef411ba815037e13d44f99c"), looks := false }, kinds := [], alts := [], laidByText := true, laidKinds := [.data, .pinned], laidTests := true, laidLooks := .later }
def RatKnownUptoCardSaid : Prop := Claim7.holds Tryz.pinned (.plain (OpenSpec.upto ratKnownSpec)) ratKnownUptoCard

/-- THE SECOND FORM's CARD OF 'cubitlaw3.RatSays'. -/
def ratSaysUptoCard : Claim7 := { stood := { row := ratSaysUptoRow, standIns := [], harness := (true, "90aa930f403bbb2de236c673b3bbfb8e031e3b345ef411ba815037e13d44f99c"), looks := false }, kinds := [], alts := [], laidByText := true, laidKinds := [.data, .pinned], laidTests := true, laidLooks := .later }
def RatSaysUptoCardSaid : Prop := Claim7.holds Tryz.pinned (.plain (OpenSpec.upto ratSaysSpec)) ratSaysUptoCard

/-- THE SECOND FORM's CARD OF 'cubitlaw4.DecSays'. -/
def decSaysUptoCard : Claim7 := { stood := { row := decSaysUptoRow, standIns := [], harness := (true, "90aa930f403bbb2de236c673b3bbfb8e031e3b345ef411ba815037e13d44f99c"), looks := false }, kinds := [], alts := [], laidByText := true, laidKinds := [.data, .pinned], laidTests := true, laidLooks := .later }
def DecSaysUptoCardSaid : Prop := Claim7.holds Tryz.pinned (.plain (OpenSpec.upto decSaysSpec)) decSaysUptoCard

/-- THE SECOND FORM's CARD OF 'cubitlaw5.RoundSays'. -/
def roundSaysUptoCard : Claim7 := { stood := { row := roundSaysUptoRow, standIns := [], harness := (true, "90aa930f403bbb2de236c673b3bbfb8e031e3b345ef411ba815037e13d44f99c"), looks := false }, kinds := [], alts := [], laidByText := true, laidKinds := [.data, .pinned], laidTests := true, laidLooks := .later }
def RoundSaysUptoCardSaid : Prop := Claim7.holds Tryz.pinned (.plain (OpenSpec.upto roundSaysSpec)) roundSaysUptoCard
end Rows
end Go.Proofs.YteahcbeohopdlaaGreatDoor
