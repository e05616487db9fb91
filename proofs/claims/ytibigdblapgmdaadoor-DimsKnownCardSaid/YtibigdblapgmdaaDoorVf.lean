/- '==' on vectors of this program. No conditions. -/
import Derived.Test.YtibigdblapgmdaaDoorVe
import Derived.Test.YtibigdblapgmdaaDoorVb
open Go.RowKit
namespace Go.Proofs.YtibigdblapgmdaaDoor
theorem vsize (w : World) : (sizeOf 3).run Tryd.prog w = .ok 1 w := by kernel_rfl
theorem vdec (a b : V8) : (a.l == b.l) = decide (a = b) := by
  rw [Bool.eq_iff_iff, beq_iff_eq, decide_eq_true_iff]
  exact ⟨V8.ext_l, fun h => by rw [h]⟩
theorem veq_v (a b : V8) (w : World) : (binOp .eql 24 a.v b.v).run Tryd.prog w = .ok (.bool (decide (a = b))) w := by
  have h := veql (P := Tryd.prog) w 24 3 8 Tryd.underlying24 Tryd.underlying3 vsize a.l b.l rfl rfl
  rw [vdec] at h
  exact h
theorem vne_v (a b : V8) (w : World) : (binOp .neq 24 a.v b.v).run Tryd.prog w = .ok (.bool (!(decide (a = b)))) w := by
  have h := vneq (P := Tryd.prog) w 24 3 8 Tryd.underlying24 Tryd.underlying3 vsize a.l b.l rfl rfl
  rw [vdec] at h
  exact h
theorem veq_a (a b : V8) (w : World) : (binOp .eql 23 a.v b.v).run Tryd.prog w = .ok (.bool (decide (a = b))) w := by
  have h := veql (P := Tryd.prog) w 23 3 8 Tryd.underlying23 Tryd.underlying3 vsize a.l b.l rfl rfl
  rw [vdec] at h
  exact h
end Go.Proofs.YtibigdblapgmdaaDoor
