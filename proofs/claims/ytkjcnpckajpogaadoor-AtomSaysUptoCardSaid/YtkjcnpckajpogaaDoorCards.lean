/-
  DERIVED. GIVEN WITH THE SEED: THE CARDS: each row of YtkjcnpckajpogaaDoorRows.lean that lists a variable, with what it lists TIED to the program's text (the seventh form; the later family's looks); each row that meets fmt, with fmt's text TOLD by the authors' own Lean function (tested against real Go, not proved from fmt's source: count such statements apart). THE CARD IS WHAT COUNTS. Prove the row's statement (the work); the ties are given (YtkjcnpckajpogaaDoorTie.lean); close each card by the builder's one call (the guide's Derived/Test/ToyasCard.lean, 'card_holds'). Laid BY PROGRAM, IN A SANDBOX (cutbox-door.mjs). By AI agents, Wed Nov 11 2026. No macro, syntax, notation, axiom, sorry.
-/
import Derived.Test.YtkjcnpckajpogaaDoorRows
import GoSem.ClaimSeven
namespace Go.Proofs.YtkjcnpckajpogaaDoor
namespace Rows

/-- THE TIED CARD OF 'cubitlaw9.AtomKnown'. -/
def atomKnownCard : Claim7 := { stood := { row := atomKnownRow, standIns := [], harness := (true, "a0f094704de21ab2506e1102ef86b958c1e3f543c283768b48c38a0ad5c49072"), looks := false }, kinds := [], alts := [], laidByText := true, laidKinds := [.data, .data, .data, .data, .pinned], laidTests := true, laidLooks := .later }
def AtomKnownCardSaid : Prop := Claim7.holds Tryd.pinned (.plain (OpenSpec.ofChange atomKnownSpec)) atomKnownCard

/-- THE TIED CARD OF 'cubitlaw9.AtomSays'. -/
def atomSaysCard : Claim7 := { stood := { row := atomSaysRow, standIns := [], harness := (true, "a0f094704de21ab2506e1102ef86b958c1e3f543c283768b48c38a0ad5c49072"), looks := false }, kinds := [], alts := [], laidByText := true, laidKinds := [.data, .data, .data, .data, .pinned], laidTests := true, laidLooks := .later }
def AtomSaysCardSaid : Prop := Claim7.holds Tryd.pinned (.plain (OpenSpec.ofChange atomSaysSpec)) atomSaysCard

/-- THE TIED CARD OF 'cubitlaw9.AtomBack'. -/
def atomBackCard : Claim7 := { stood := { row := atomBackRow, standIns := [], harness := (true, "a0f094704de21ab2506e1102ef86b958c1e3f543c283768b48c38a0ad5c49072"), looks := false }, kinds := [], alts := [], laidByText := true, laidKinds := [.data, .data, .data, .data, .pinned], laidTests := true, laidLooks := .later }
def AtomBackCardSaid : Prop := Claim7.holds Tryd.pinned (.plain (OpenSpec.ofChange atomBackSpec)) atomBackCard

/-- THE TIED CARD OF 'cubitlaw9.AtomOrder'. -/
def atomOrderCard : Claim7 := { stood := { row := atomOrderRow, standIns := [], harness := (true, "a0f094704de21ab2506e1102ef86b958c1e3f543c283768b48c38a0ad5c49072"), looks := false }, kinds := [], alts := [], laidByText := true, laidKinds := [.data, .data, .data, .data, .pinned], laidTests := true, laidLooks := .later }
def AtomOrderCardSaid : Prop := Claim7.holds Tryd.pinned (.plain (OpenSpec.ofChange atomOrderSpec)) atomOrderCard

/-- THE SECOND FORM's CARD OF 'cubitlaw9.AtomKnown'. -/
def atomKnownUptoCard : Claim7 := { stood := { row := atomKnownUptoRow, standIns := [], harness := (true, "a0f094704de21ab2506e1102ef86b958c1e3f543c283768b48c38a0ad5c49072"), looks := false }, kinds := [], alts := [], laidByText := true, laidKinds := [.data, .data, .data, .data, .pinned], laidTests := true, laidLooks := .later }
def AtomKnownUptoCardSaid : Prop := Claim7.holds Tryd.pinned (.plain (OpenSpec.upto atomKnownSpec)) atomKnownUptoCard

/-- THE SECOND FORM's CARD OF 'cubitlaw9.AtomSays'. -/
def atomSaysUptoCard : Claim7 := { stood := { row := atomSaysUptoRow, standIns := [], harness := (true, "a0f094704de21ab2506e1102ef86b958c1e3f543c283768b48c38a0ad5c49072"), looks := false }, kinds := [], alts := [], laidByText := true, laidKinds := [.data, .data, .data, .data, .pinned], laidTests := true, laidLooks := .later }
def AtomSaysUptoCardSaid : Prop := Claim7.holds Tryd.pinned (.plain (OpenSpec.upto atomSaysSpec)) atomSaysUptoCard

/-- THE SECOND FORM's CARD OF 'cubitlaw9.AtomBack'. -/
def atomBackUptoCard : Claim7 := { stood := { row := atomBackUptoRow, standIns := [], harness := (true, "a0f094704de21ab2506e1102ef86b958c1e3f543c283768b48c38a0ad5c49072"), looks := false }, kinds := [], alts := [], laidByText := true, laidKinds := [.data, .data, .data, .data, .pinned], laidTests := true, laidLooks := .later }
def AtomBackUptoCardSaid : Prop := Claim7.holds Tryd.pinned (.plain (OpenSpec.upto atomBackSpec)) atomBackUptoCard

/-- THE SECOND FORM's CARD OF 'cubitlaw9.AtomOrder'. -/
def atomOrderUptoCard : Claim7 := { stood := { row := atomOrderUptoRow, standIns := [], harness := (true, "a0f094704de21ab2506e1102ef86b958c1e3f543c283768b48c38a0ad5c49072"), looks := false }, kinds := [], alts := [], laidByText := true, laidKinds := [.data, .data, .data, .data, .pinned], laidTests := true, laidLooks := .later }
def AtomOrderUptoCardSaid : Prop := Claim7.holds Tryd.pinned (.plain (OpenSpec.upto atomOrderSpec)) atomOrderUptoCard
end Rows
end Go.Proofs.YtkjcnpckajpogaaDoor
