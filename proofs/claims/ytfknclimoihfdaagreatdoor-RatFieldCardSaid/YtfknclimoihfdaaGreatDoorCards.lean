/-
  DERIVED. GIVEN WITH THE SEED: THE CARDS: each row of YtfknclimoihfdaaGreatDoorRows.lean that lists a variable, with what it lists TIED to the program's text (the seventh form; the later family's looks); each row that meets fmt, with fmt's text TOLD by the authors' own Lean function (tested against real Go, not proved from fmt's source: count such statements apart). THE CARD IS WHAT COUNTS. Prove the row's statement (the work); the ties are given (YtfknclimoihfdaaGreatDoorTie.lean); close each card by the builder's one call (the guide's Derived/Test/ToyasCard.lean, 'card_holds'). Laid BY PROGRAM, IN A SANDBOX (cutbox-door.mjs). By AI agents, Wed Nov 11 2026. No macro, syntax, notation, axiom, sorry.
-/
import Derived.Test.YtfknclimoihfdaaGreatDoorRows
import GoSem.ClaimSeven
namespace Go.Proofs.YtfknclimoihfdaaGreatDoor
namespace Rows

/-- THE TIED CARD OF 'cubitlaw3.RatKnown'. -/
def ratKnownCard : Claim7 := { stood := { row := ratKnownRow, standIns := [], harness := (true, "f148ec163ea1807b42b0008ea0a743f9012550745ac1035fbe830478333798aa"), looks := false }, kinds := [], alts := [], laidByText := true, laidKinds := [.data, .pinned], laidTests := true, laidLooks := .later }
def RatKnownCardSaid : Prop := Claim7.holds Tryz.pinned (.plain (OpenSpec.ofChange ratKnownSpec)) ratKnownCard

/-- THE TIED CARD OF 'cubitlaw3.RatSays'. -/
def ratSaysCard : Claim7 := { stood := { row := ratSaysRow, standIns := [], harness := (true, "f148ec163ea1807b42b0008ea0a743f9012550745ac1035fbe830478333798aa"), looks := false }, kinds := [], alts := [], laidByText := true, laidKinds := [.data, .pinned], laidTests := true, laidLooks := .later }
def RatSaysCardSaid : Prop := Claim7.holds Tryz.pinned (.plain (OpenSpec.ofChange ratSaysSpec)) ratSaysCard

/-- THE TIED CARD OF 'cubitlaw3.RatField'. -/
def ratFieldCard : Claim7 := { stood := { row := ratFieldRow, standIns := [], harness := (true, "f148ec163ea1807b42b0008ea0a743f9012550745ac1035fbe830478333798aa"), looks := false }, kinds := [], alts := [], laidByText := true, laidKinds := [.data, .pinned], laidTests := true, laidLooks := .later }
def RatFieldCardSaid : Prop := Claim7.holds Tryz.pinned (.plain (OpenSpec.ofChange ratFieldSpec)) ratFieldCard

/-- THE SECOND FORM's CARD OF 'cubitlaw3.RatKnown'. -/
def ratKnownUptoCard : Claim7 := { stood := { row := ratKnownUptoRow, standIns := [], harness := (true, "f148ec163ea1807b42b0008ea0a743f9012550745ac1035fbe830478333798aa"), looks := false }, kinds := [], alts := [], laidByText := true, laidKinds := [.data, .pinned], laidTests := true, laidLooks := .later }
def RatKnownUptoCardSaid : Prop := Claim7.holds Tryz.pinned (.plain (OpenSpec.upto ratKnownSpec)) ratKnownUptoCard

/-- THE SECOND FORM's CARD OF 'cubitlaw3.RatSays'. -/
def ratSaysUptoCard : Claim7 := { stood := { row := ratSaysUptoRow, standIns := [], harness := (true, "f148ec163ea1807b42b0008ea0a743f9012550745ac1035fbe830478333798aa"), looks := false }, kinds := [], alts := [], laidByText := true, laidKinds := [.data, .pinned], laidTests := true, laidLooks := .later }
def RatSaysUptoCardSaid : Prop := Claim7.holds Tryz.pinned (.plain (OpenSpec.upto ratSaysSpec)) ratSaysUptoCard

/-- THE SECOND FORM's CARD OF 'cubitlaw3.RatField'. -/
def ratFieldUptoCard : Claim7 := { stood := { row := ratFieldUptoRow, standIns := [], harness := (true, "f148ec163ea1807b42b0008ea0a743f9012550745ac1035fbe830478333798aa"), looks := false }, kinds := [], alts := [], laidByText := true, laidKinds := [.data, .pinned], laidTests := true, laidLooks := .later }
def RatFieldUptoCardSaid : Prop := Claim7.holds Tryz.pinned (.plain (OpenSpec.upto ratFieldSpec)) ratFieldUptoCard
end Rows
end Go.Proofs.YtfknclimoihfdaaGreatDoor
