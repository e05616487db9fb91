/-
  DERIVED. GIVEN WITH THE SEED: THE CARDS: each row of YtbmpbcnhgnmekaaDoorRows.lean that lists a variable, with what it lists TIED to the program's text (the seventh form; the later family's looks); each row that meets fmt, with fmt's text TOLD by the authors' own Lean function (tested against real Go, not proved from fmt's source: count such statements apart). THE CARD IS WHAT COUNTS. Prove the row's statement (the work); the ties are given (YtbmpbcnhgnmekaaDoorTie.lean); close each card by the builder's one call (the guide's Derived/Test/ToyasCard.lean, 'card_holds'). Laid BY PROGRAM, IN A SANDBOX (cutbox-door.mjs). By AI agents, Wed Nov 11 2026. No macro, syntax, notation, axiom, sorry.
-/
import Derived.Test.YtbmpbcnhgnmekaaDoorRows
import GoSem.ClaimSeven
namespace Go.Proofs.YtbmpbcnhgnmekaaDoor
namespace Rows

/-- THE TIED CARD OF 'cubitlaw7.RowsKnown'. -/
def rowsKnownCard : Claim7 := { stood := { row := rowsKnownRow, standIns := [], harness := (true, "231346171a55df6ce05cd8cb9eb12db2b206101f0a906b2ec87975e37dc75a15"), looks := false }, kinds := [], alts := [], laidByText := true, laidKinds := [.data, .pinned], laidTests := true, laidLooks := .later }
def RowsKnownCardSaid : Prop := Claim7.holds Tryd.pinned (.plain (OpenSpec.ofChange rowsKnownSpec)) rowsKnownCard

/-- THE TIED CARD OF 'cubitlaw7.RowsSays'. -/
def rowsSaysCard : Claim7 := { stood := { row := rowsSaysRow, standIns := [], harness := (true, "231346171a55df6ce05cd8cb9eb12db2b206101f0a906b2ec87975e37dc75a15"), looks := false }, kinds := [], alts := [], laidByText := true, laidKinds := [.data, .pinned], laidTests := true, laidLooks := .later }
def RowsSaysCardSaid : Prop := Claim7.holds Tryd.pinned (.plain (OpenSpec.ofChange rowsSaysSpec)) rowsSaysCard

/-- THE TIED CARD OF 'cubitlaw7.RowsBack'. -/
def rowsBackCard : Claim7 := { stood := { row := rowsBackRow, standIns := [], harness := (true, "231346171a55df6ce05cd8cb9eb12db2b206101f0a906b2ec87975e37dc75a15"), looks := false }, kinds := [], alts := [], laidByText := true, laidKinds := [.data, .pinned], laidTests := true, laidLooks := .later }
def RowsBackCardSaid : Prop := Claim7.holds Tryd.pinned (.plain (OpenSpec.ofChange rowsBackSpec)) rowsBackCard

/-- THE TIED CARD OF 'cubitlaw7.RowsApart'. -/
def rowsApartCard : Claim7 := { stood := { row := rowsApartRow, standIns := [], harness := (true, "231346171a55df6ce05cd8cb9eb12db2b206101f0a906b2ec87975e37dc75a15"), looks := false }, kinds := [], alts := [], laidByText := true, laidKinds := [.data, .pinned], laidTests := true, laidLooks := .later }
def RowsApartCardSaid : Prop := Claim7.holds Tryd.pinned (.plain (OpenSpec.ofChange rowsApartSpec)) rowsApartCard

/-- THE SECOND FORM's CARD OF 'cubitlaw7.RowsKnown'. -/
def rowsKnownUptoCard : Claim7 := { stood := { row := rowsKnownUptoRow, standIns := [], harness := (true, "231346171a55df6ce05cd8cb9eb12db2b206101f0a906b2ec87975e37dc75a15"), looks := false }, kinds := [], alts := [], laidByText := true, laidKinds := [.data, .pinned], laidTests := true, laidLooks := .later }
def RowsKnownUptoCardSaid : Prop := Claim7.holds Tryd.pinned (.plain (OpenSpec.upto rowsKnownSpec)) rowsKnownUptoCard

/-- THE SECOND FORM's CARD OF 'cubitlaw7.RowsSays'. -/
def rowsSaysUptoCard : Claim7 := { stood := { row := rowsSaysUptoRow, standIns := [], harness := (true, "231346171a55df6ce05cd8cb9eb12db2b206101f0a906b2ec87975e37dc75a15"), looks := false }, kinds := [], alts := [], laidByText := true, laidKinds := [.data, .pinned], laidTests := true, laidLooks := .later }
def RowsSaysUptoCardSaid : Prop := Claim7.holds Tryd.pinned (.plain (OpenSpec.upto rowsSaysSpec)) rowsSaysUptoCard

/-- THE SECOND FORM's CARD OF 'cubitlaw7.RowsBack'. -/
def rowsBackUptoCard : Claim7 := { stood := { row := rowsBackUptoRow, standIns := [], harness := (true, "231346171a55df6ce05cd8cb9eb12db2b206101f0a906b2ec87975e37dc75a15"), looks := false }, kinds := [], alts := [], laidByText := true, laidKinds := [.data, .pinned], laidTests := true, laidLooks := .later }
def RowsBackUptoCardSaid : Prop := Claim7.holds Tryd.pinned (.plain (OpenSpec.upto rowsBackSpec)) rowsBackUptoCard

/-- THE SECOND FORM's CARD OF 'cubitlaw7.RowsApart'. -/
def rowsApartUptoCard : Claim7 := { stood := { row := rowsApartUptoRow, standIns := [], harness := (true, "231346171a55df6ce05cd8cb9eb12db2b206101f0a906b2ec87975e37dc75a15"), looks := false }, kinds := [], alts := [], laidByText := true, laidKinds := [.data, .pinned], laidTests := true, laidLooks := .later }
def RowsApartUptoCardSaid : Prop := Claim7.holds Tryd.pinned (.plain (OpenSpec.upto rowsApartSpec)) rowsApartUptoCard
end Rows
end Go.Proofs.YtbmpbcnhgnmekaaDoor
