/-
  DERIVED. GIVEN WITH THE SEED: THE CARDS: each row of YthdpojkeceoiiaaDoorRows.lean that lists a variable, with what it lists TIED to the program's text (the seventh form; the later family's looks); each row that meets fmt, with fmt's text TOLD by the authors' own Lean function (tested against real Go, not proved from fmt's source: count such statements apart). THE CARD IS WHAT COUNTS. Prove the row's statement (the work); the ties are given (YthdpojkeceoiiaaDoorTie.lean); close each card by the builder's one call (the guide's Derived/Test/ToyasCard.lean, 'card_holds'). Laid BY PROGRAM, IN A SANDBOX (cutbox-door.mjs). By AI agents, Wed Nov 11 2026. No macro, syntax, notation, axiom, sorry.
-/
import Derived.Test.YthdpojkeceoiiaaDoorRows
import GoSem.ClaimSeven
namespace Go.Proofs.YthdpojkeceoiiaaDoor
namespace Rows

/-- THE TIED CARD OF 'cubitlaw10.UnitShown'. -/
def unitShownCard : Claim7 := { stood := { row := unitShownRow, standIns := [], harness := (true, "56a3ed926e22a00cd5abf2a8979da72a516d16e1422546c7934d160c290a290f"), looks := false }, kinds := [], alts := [], laidByText := true, laidKinds := [.data, .data, .data, .data, .pinned], laidTests := true, laidLooks := .later }
def UnitShownCardSaid : Prop := Claim7.holds Tryd.pinned (.plain (OpenSpec.ofChange unitShownSpec)) unitShownCard

/-- THE SECOND FORM's CARD OF 'cubitlaw10.UnitShown'. -/
def unitShownUptoCard : Claim7 := { stood := { row := unitShownUptoRow, standIns := [], harness := (true, "56a3ed926e22a00cd5abf2a8979da72a516d16e1422546c7934d160c290a290f"), looks := false }, kinds := [], alts := [], laidByText := true, laidKinds := [.data, .data, .data, .data, .pinned], laidTests := true, laidLooks := .later }
def UnitShownUptoCardSaid : Prop := Claim7.holds Tryd.pinned (.plain (OpenSpec.upto unitShownSpec)) unitShownUptoCard
end Rows
end Go.Proofs.YthdpojkeceoiiaaDoor
