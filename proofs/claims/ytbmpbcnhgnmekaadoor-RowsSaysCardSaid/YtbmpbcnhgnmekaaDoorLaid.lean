/- The opening of a slice of words that came in; the world in which the listed tables lie. No conditions. -/
import Derived.Test.YtbmpbcnhgnmekaaDoorCards
import Derived.Test.YtbmpbcnhgnmekaaDoorTie
import Derived.Test.YtbmpbcnhgnmekaaDoorNum
import Derived.ProofKit
import Derived.OpenShut
import Derived.Deep.DeepHandedRow
open Go.ChangeShapes Go.WideShapes Go.ChangeAt Go.RowKit
set_option maxRecDepth 100000
namespace Go.Proofs.YtbmpbcnhgnmekaaDoor
theorem own : ownKnob Tryd.prog.godebug = none := by kernel_rfl
theorem laidOut : laidOutB Tryd.prog = true := by kernel_rfl
/-- What the walk is told of a slice of words that came in. -/
def InWords (w : World) (a : Option Addr) (len cap : Nat) (ws : List Nat) : Prop := len = ws.length ∧ len ≤ cap ∧ Rd U32 w w.heap.size a ws ∧ Good32 ws
/-- The cells of a table's datum. -/
def cellsOfLits : List (DataW Unit) → List Value
  | [] => []
  | .lit (.int k n) :: l => .int k n :: cellsOfLits l
  | _ :: l => cellsOfLits l
def cellsOfTab : DataW Unit → List Value
  | .agg l => cellsOfLits l
  | _ => []
def rangesCells : List Value := ([128, 191, 160, 191, 128, 159, 144, 191, 128, 143, 0, 0, 0, 0, 0, 0, 0, 0, 0, 0, 0, 0, 0, 0, 0, 0, 0, 0, 0, 0, 0, 0] : List Int).map (Value.int .u8)
def layTab (cs : Array Value) : Obj → Obj
  | .cells _ t frozen => .cells cs t frozen
  | o => o
/-- A world in which the listed tables lie as the program's text lays them. -/
noncomputable def laidWorld (os : Os) : World :=
  { World.holding Tryd.prog os ⟨#[], #[], []⟩ with heap := ((World.holding Tryd.prog os ⟨#[], #[], []⟩).heap.modify 1 (layTab (cellsOfTab Go.Pinned.utf8First).toArray)).modify 2 (layTab rangesCells.toArray) }
end Go.Proofs.YtbmpbcnhgnmekaaDoor
