/-
  DERIVED. GIVEN WITH THE SEED: THE CARDS: each row of YtfknclimoihfdaaDoorRows.lean that lists a variable, with what it lists TIED to the program's text (the seventh form; the later family's looks); each row that meets fmt, with fmt's text TOLD by the authors' own Lean function (tested against real Go, not proved from fmt's source: count such statements apart). THE CARD IS WHAT COUNTS. Prove the row's statement (the work); the ties are given (YtfknclimoihfdaaDoorTie.lean); close each card by the builder's one call (the guide's Derived/Test/ToyasCard.lean, 'card_holds'). Laid BY PROGRAM, IN A SANDBOX (cutbox-door.mjs). By AI agents, Wed Nov 11 2026. No macro, syntax, notation, axiom, sorry.
-/
import Derived.Test.YtfknclimoihfdaaDoorRows
import GoSem.ClaimSeven
namespace Go.Proofs.YtfknclimoihfdaaDoor
namespace Rows

/-- THE TIED CARD OF 'cubitlaw1.NatKnown'. -/
def natKnownCard : Claim7 := { stood := { row := natKnownRow, standIns := [], harness := (true, "d15f3f103e5294ec782bb88eb6d173f9d4cece6e309b8ced9b957733623a89ad"), looks := false }, kinds := [], alts := [], laidByText := true, laidKinds := [.data, .pinned], laidTests := true, laidLooks := .later }
def NatKnownCardSaid : Prop := Claim7.holds Tryd.pinned (.plain (OpenSpec.ofChange natKnownSpec)) natKnownCard

/-- THE TIED CARD OF 'cubitlaw1.NatSays'. -/
def natSaysCard : Claim7 := { stood := { row := natSaysRow, standIns := [], harness := (true, "d15f3f103e5294ec782bb88eb6d173f9d4cece6e309b8ced9b957733623a89ad"), looks := false }, kinds := [], alts := [], laidByText := true, laidKinds := [.data, .pinned], laidTests := true, laidLooks := .later }
def NatSaysCardSaid : Prop := Claim7.holds Tryd.pinned (.plain (OpenSpec.ofChange natSaysSpec)) natSaysCard

/-- THE TIED CARD OF 'cubitlaw2.NumKnown'. -/
def numKnownCard : Claim7 := { stood := { row := numKnownRow, standIns := [], harness := (true, "d15f3f103e5294ec782bb88eb6d173f9d4cece6e309b8ced9b957733623a89ad"), looks := false }, kinds := [], alts := [], laidByText := true, laidKinds := [.data, .pinned], laidTests := true, laidLooks := .later }
def NumKnownCardSaid : Prop := Claim7.holds Tryd.pinned (.plain (OpenSpec.ofChange numKnownSpec)) numKnownCard

/-- THE TIED CARD OF 'cubitlaw2.NumSays'. -/
def numSaysCard : Claim7 := { stood := { row := numSaysRow, standIns := [], harness := (true, "d15f3f103e5294ec782bb88eb6d173f9d4cece6e309b8ced9b957733623a89ad"), looks := false }, kinds := [], alts := [], laidByText := true, laidKinds := [.data, .pinned], laidTests := true, laidLooks := .later }
def NumSaysCardSaid : Prop := Claim7.holds Tryd.pinned (.plain (OpenSpec.ofChange numSaysSpec)) numSaysCard

/-- THE TIED CARD OF 'cubitlaw3.RatFloor'. -/
def ratFloorCard : Claim7 := { stood := { row := ratFloorRow, standIns := [], harness := (true, "d15f3f103e5294ec782bb88eb6d173f9d4cece6e309b8ced9b957733623a89ad"), looks := false }, kinds := [], alts := [], laidByText := true, laidKinds := [.data, .pinned], laidTests := true, laidLooks := .later }
def RatFloorCardSaid : Prop := Claim7.holds Tryd.pinned (.plain (OpenSpec.ofChange ratFloorSpec)) ratFloorCard

/-- THE TIED CARD OF 'cubitlaw3.RatOrder'. -/
def ratOrderCard : Claim7 := { stood := { row := ratOrderRow, standIns := [], harness := (true, "d15f3f103e5294ec782bb88eb6d173f9d4cece6e309b8ced9b957733623a89ad"), looks := false }, kinds := [], alts := [], laidByText := true, laidKinds := [.data, .pinned], laidTests := true, laidLooks := .later }
def RatOrderCardSaid : Prop := Claim7.holds Tryd.pinned (.plain (OpenSpec.ofChange ratOrderSpec)) ratOrderCard

/-- THE TIED CARD OF 'cubitlaw3.RatLowest'. -/
def ratLowestCard : Claim7 := { stood := { row := ratLowestRow, standIns := [], harness := (true, "d15f3f103e5294ec782bb88eb6d173f9d4cece6e309b8ced9b957733623a89ad"), looks := false }, kinds := [], alts := [], laidByText := true, laidKinds := [.data, .pinned], laidTests := true, laidLooks := .later }
def RatLowestCardSaid : Prop := Claim7.holds Tryd.pinned (.plain (OpenSpec.ofChange ratLowestSpec)) ratLowestCard

/-- THE SECOND FORM's CARD OF 'cubitlaw1.NatKnown'. -/
def natKnownUptoCard : Claim7 := { stood := { row := natKnownUptoRow, standIns := [], harness := (true, "d15f3f103e5294ec782bb88eb6d173f9d4cece6e309b8ced9b957733623a89ad"), looks := false }, kinds := [], alts := [], laidByText := true, laidKinds := [.data, .pinned], laidTests := true, laidLooks := .later }
def NatKnownUptoCardSaid : Prop := Claim7.holds Tryd.pinned (.plain (OpenSpec.upto natKnownSpec)) natKnownUptoCard

/-- THE SECOND FORM's CARD OF 'cubitlaw1.NatSays'. -/
def natSaysUptoCard : Claim7 := { stood := { row := natSaysUptoRow, standIns := [], harness := (true, "d15f3f103e5294ec782bb88eb6d173f9d4cece6e309b8ced9b957733623a89ad"), looks := false }, kinds := [], alts := [], laidByText := true, laidKinds := [.data, .pinned], laidTests := true, laidLooks := .later }
def NatSaysUptoCardSaid : Prop := Claim7.holds Tryd.pinned (.plain (OpenSpec.upto natSaysSpec)) natSaysUptoCard

/-- THE SECOND FORM's CARD OF 'cubitlaw2.NumKnown'. -/
def numKnownUptoCard : Claim7 := { stood := { row := numKnownUptoRow, standIns := [], harness := (true, "d15f3f103e5294ec782bb88eb6d173f9d4cece6e309b8ced9b957733623a89ad"), looks := false }, kinds := [], alts := [], laidByText := true, laidKinds := [.data, .pinned], laidTests := true, laidLooks := .later }
def NumKnownUptoCardSaid : Prop := Claim7.holds Tryd.pinned (.plain (OpenSpec.upto numKnownSpec)) numKnownUptoCard

/-- THE SECOND FORM's CARD OF 'cubitlaw2.NumSays'. -/
def numSaysUptoCard : Claim7 := { stood := { row := numSaysUptoRow, standIns := [], harness := (true, "d15f3f103e5294ec782bb88eb6d173f9d4cece6e309b8ced9b957733623a89ad"), looks := false }, kinds := [], alts := [], laidByText := true, laidKinds := [.data, .pinned], laidTests := true, laidLooks := .later }
def NumSaysUptoCardSaid : Prop := Claim7.holds Tryd.pinned (.plain (OpenSpec.upto numSaysSpec)) numSaysUptoCard

/-- THE SECOND FORM's CARD OF 'cubitlaw3.RatFloor'. -/
def ratFloorUptoCard : Claim7 := { stood := { row := ratFloorUptoRow, standIns := [], harness := (true, "d15f3f103e5294ec782bb88eb6d173f9d4cece6e309b8ced9b957733623a89ad"), looks := false }, kinds := [], alts := [], laidByText := true, laidKinds := [.data, .pinned], laidTests := true, laidLooks := .later }
def RatFloorUptoCardSaid : Prop := Claim7.holds Tryd.pinned (.plain (OpenSpec.upto ratFloorSpec)) ratFloorUptoCard

/-- THE SECOND FORM's CARD OF 'cubitlaw3.RatOrder'. -/
def ratOrderUptoCard : Claim7 := { stood := { row := ratOrderUptoRow, standIns := [], harness := (true, "d15f3f103e5294ec782bb88eb6d173f9d4cece6e309b8ced9b957733623a89ad"), looks := false }, kinds := [], alts := [], laidByText := true, laidKinds := [.data, .pinned], laidTests := true, laidLooks := .later }
def RatOrderUptoCardSaid : Prop := Claim7.holds Tryd.pinned (.plain (OpenSpec.upto ratOrderSpec)) ratOrderUptoCard

/-- THE SECOND FORM's CARD OF 'cubitlaw3.RatLowest'. -/
def ratLowestUptoCard : Claim7 := { stood := { row := ratLowestUptoRow, standIns := [], harness := (true, "d15f3f103e5294ec782bb88eb6d173f9d4cece6e309b8ced9b957733623a89ad"), looks := false }, kinds := [], alts := [], laidByText := true, laidKinds := [.data, .pinned], laidTests := true, laidLooks := .later }
def RatLowestUptoCardSaid : Prop := Claim7.holds Tryd.pinned (.plain (OpenSpec.upto ratLowestSpec)) ratLowestUptoCard
end Rows
end Go.Proofs.YtfknclimoihfdaaDoor
