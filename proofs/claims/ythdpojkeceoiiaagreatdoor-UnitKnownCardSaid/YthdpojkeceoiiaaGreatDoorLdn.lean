/- bits.LeadingZeros32 of a word that is not 0: the shift that sets its highest bit. -/
import Derived.Test.YthdpojkeceoiiaaGreatDoorGOmc7
import Derived.Test.YthdpojkeceoiiaaGreatDoorLdz
import Derived.Lib.ItoaNum
open Go.RowKit
namespace Go.Proofs.YthdpojkeceoiiaaGreatDoor
theorem zeros_ret {a b : Int} (h : a = b) : Ending.returned (.int .i64 a) = .returned (.int .i64 b) := by rw [h]
end Go.Proofs.YthdpojkeceoiiaaGreatDoor
