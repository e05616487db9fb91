/-
  DERIVED. GIVEN WITH THE SEED: THE CARDS: each row of YthdpojkeceoiiaaGreatDoorRows.lean that lists a variable, with what it lists TIED to the program's text (the seventh form; the later family's looks); each row that meets fmt, with fmt's text TOLD by the authors' own Lean function (tested against real Go, not proved from fmt's source: count such statements apart). THE CARD IS WHAT COUNTS. Prove the row's statement (the work); the ties are given (YthdpojkeceoiiaaGreatDoorTie.lean); close each card by the builder's one call (the guide's Derived/Test/ToyasCard.lean, 'card_holds'). Laid BY PROGRAM, IN A SANDBOX (cutbox-door.mjs). By AI agents, Wed Nov 11 2026. No macro, syntax, notation, axiom, sorry.
-/
import Derived.Test.YthdpojkeceoiiaaGreatDoorRows
import GoSem.ClaimSeven
namespace Go.Proofs.YthdpojkeceoiiaaGreatDoor
namespace Rows

/-- THE TIED CARD OF 'cubitlaw10.UnitKnown'. -/
def unitKnownCard : Claim7 := { stood := { row := unitKnownRow, standIns := [], harness := (true, "8e4e5af564b008e0488f1501ec40a6d54a2c4830a2e58723de367c6793a3771b"), looks := false }, kinds := [], alts := [], laidByText := true, laidKinds := [.data, .data, .data, .data, .pinned], laidTests := true, laidLooks := .later }
def UnitKnownCardSaid : Prop := Claim7.holds Tryz.pinned (.plain (OpenSpec.ofChange unitKnownSpec)) unitKnownCard

/-- THE TIED CARD OF 'cubitlaw10.UnitSays'. -/
def unitSaysCard : Claim7 := { stood := { row := unitSaysRow, standIns := [], harness := (true, "8e4e5af564b008e0488f1501ec40a6d54a2c4830a2e58723de367c6793a3771b"), looks := false }, kinds := [], alts := [], laidByText := true, laidKinds := [.data, .data, .data, .data, .pinned], laidTests := true, laidLooks := .later }
def UnitSaysCardSaid : Prop := Claim7.holds Tryz.pinned (.plain (OpenSpec.ofChange unitSaysSpec)) unitSaysCard

/-- THE TIED CARD OF 'cubitlaw10.UnitBack'. -/
def unitBackCard : Claim7 := { stood := { row := unitBackRow, standIns := [], harness := (true, "8e4e5af564b008e0488f1501ec40a6d54a2c4830a2e58723de367c6793a3771b"), looks := false }, kinds := [], alts := [], laidByText := true, laidKinds := [.data, .data, .data, .data, .pinned], laidTests := true, laidLooks := .later }
def UnitBackCardSaid : Prop := Claim7.holds Tryz.pinned (.plain (OpenSpec.ofChange unitBackSpec)) unitBackCard

/-- THE TIED CARD OF 'cubitlaw10.UnitOrder'. -/
def unitOrderCard : Claim7 := { stood := { row := unitOrderRow, standIns := [], harness := (true, "8e4e5af564b008e0488f1501ec40a6d54a2c4830a2e58723de367c6793a3771b"), looks := false }, kinds := [], alts := [], laidByText := true, laidKinds := [.data, .data, .data, .data, .pinned], laidTests := true, laidLooks := .later }
def UnitOrderCardSaid : Prop := Claim7.holds Tryz.pinned (.plain (OpenSpec.ofChange unitOrderSpec)) unitOrderCard

/-- THE SECOND FORM's CARD OF 'cubitlaw10.UnitKnown'. -/
def unitKnownUptoCard : Claim7 := { stood := { row := unitKnownUptoRow, standIns := [], harness := (true, "8e4e5af564b008e0488f1501ec40a6d54a2c4830a2e58723de367c6793a3771b"), looks := false }, kinds := [], alts := [], laidByText := true, laidKinds := [.data, .data, .data, .data, .pinned], laidTests := true, laidLooks := .later }
def UnitKnownUptoCardSaid : Prop := Claim7.holds Tryz.pinned (.plain (OpenSpec.upto unitKnownSpec)) unitKnownUptoCard

/-- THE SECOND FORM's CARD OF 'cubitlaw10.UnitSays'. -/
def unitSaysUptoCard : Claim7 := { stood := { row := unitSaysUptoRow, standIns := [], harness := (true, "8e4e5af564b008e0488f1501ec40a6d54a2c4830a2e58723de367c6793a3771b"), looks := false }, kinds := [], alts := [], laidByText := true, laidKinds := [.data, .data, .data, .data, .pinned], laidTests := true, laidLooks := .later }
def UnitSaysUptoCardSaid : Prop := Claim7.holds Tryz.pinned (.plain (OpenSpec.upto unitSaysSpec)) unitSaysUptoCard

/-- THE SECOND FORM's CARD OF 'cubitlaw10.UnitBack'. -/
def unitBackUptoCard : Claim7 := { stood := { row := unitBackUptoRow, standIns := [], harness := (true, "8e4e5af564b008e0488f1501ec40a6d54a2c4830a2e58723de367c6793a3771b"), looks := false }, kinds := [], alts := [], laidByText := true, laidKinds := [.data, .data, .data, .data, .pinned], laidTests := true, laidLooks := .later }
def UnitBackUptoCardSaid : Prop := Claim7.holds Tryz.pinned (.plain (OpenSpec.upto unitBackSpec)) unitBackUptoCard

/-- THE SECOND FORM's CARD OF 'cubitlaw10.UnitOrder'. -/
def unitOrderUptoCard : Claim7 := { stood := { row := unitOrderUptoRow, standIns := [], harness := (true, "8e4e5af564b008e0488f1501ec40a6d54a2c4830a2e58723de367c6793a3771b"), looks := false }, kinds := [], alts := [], laidByText := true, laidKinds := [.data, .data, .data, .data, .pinned], laidTests := true, laidLooks := .later }
def UnitOrderUptoCardSaid : Prop := Claim7.holds Tryz.pinned (.plain (OpenSpec.upto unitOrderSpec)) unitOrderUptoCard
end Rows
end Go.Proofs.YthdpojkeceoiiaaGreatDoor
