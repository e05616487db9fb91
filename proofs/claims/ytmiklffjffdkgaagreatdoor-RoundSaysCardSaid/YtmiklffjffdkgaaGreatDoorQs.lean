/- strings.Cut at a slash. Conditions: a string of at most 100000 bytes. -/
import Derived.Test.YtmiklffjffdkgaaGreatDoorGRwbc13
import Derived.Lib.Bytealg
import Derived.Lib.IndexLaws
open Go.RowKit
set_option maxRecDepth 100000
namespace Go.Proofs.YtmiklffjffdkgaaGreatDoor
theorem ixbyte_any (s : ByteArray) (w : World) : Calls Tryz.prog 131 #[.string s, .int .u8 47] w fun e w' => e = .returned (.int .i64 (Lib.indexByte s.data.toList 47)) ∧ w = w' := by
  go_enter Tryz.func131, Tryz.ntmps131
  go_wp2_with fail
  rw [run_callFunc_extern Tryz.func132 (by kernel_rfl) (by kernel_rfl) (by kernel_rfl) (e := Extern.BytealgIndexByte.indexByte) (by kernel_rfl), Lib.run_indexByteString]
  simp only [Result.andThen]
  rw [Oper.upon_value]
  go_wp2
  go_ret
  exact ⟨rfl, rfl⟩
/-- What Cut leaves: what is ahead of the first slash and behind it. -/
def SlashR (w : World) (s : ByteArray) (e : Ending) (w' : World) : Prop :=
  ∃ (t u : ByteArray) (b : Bool), e = .returned (.tuple #[.string t, .string u, .bool b]) ∧ Hid ((b = true → s.data.toList = t.data.toList ++ 47 :: u.data.toList) ∧ (b = false → t = s) ∧ ¬ (47 : UInt8) ∈ t.data.toList) ∧ Hid (Below w.heap.size w w')
end Go.Proofs.YtmiklffjffdkgaaGreatDoor
