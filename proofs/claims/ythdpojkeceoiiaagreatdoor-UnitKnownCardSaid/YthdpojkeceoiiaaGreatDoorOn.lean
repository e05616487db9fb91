/- UnitKnown in the card's words. No conditions. -/
import Derived.Test.YthdpojkeceoiiaaGreatDoorOm
open Go.RowKit
set_option maxRecDepth 100000
namespace Go.Proofs.YthdpojkeceoiiaaGreatDoor
theorem uknown_all (w : World) : Calls Tryz.prog 3 #[] w (fun e w' => e = .returned (.bool true) ∧ Below w.heap.size w w') := uknown_any w
end Go.Proofs.YthdpojkeceoiiaaGreatDoor
