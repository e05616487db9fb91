/- RoundModes' walk. No conditions. -/
import Derived.Test.YteahcbeohopdlaaDoorUv1
import Derived.Test.YteahcbeohopdlaaDoorUv2
open Go.RowKit
set_option maxRecDepth 100000
namespace Go.Proofs.YteahcbeohopdlaaDoor
section
variable {W w : World} {b : Bool} {A A' : Option Addr} {n c n' c' : Nat} {r : Rat}
theorem modes_all {z z' : List Nat} (w : World) (h : n = z.length ∧ n ≤ c ∧ Rd U32 w w.heap.size A z ∧ Good32 z) (h' : n' = z'.length ∧ n' ≤ c' ∧ Rd U32 w w.heap.size A' z' ∧ Good32 z') : Calls Tryd.prog 5 #[.agg #[.bool b, .slice A n c, .slice A' n' c']] w fun e w' => e = .returned (.bool true) ∧ Below w.heap.size w w' := by
  by_cases hn : n ≤ 12 ∧ n' ≤ 12
  · have hq := qa_in (b := b) h h' hn
    obtain ⟨u, hu⟩ := rgood_e hq (by decide)
    cases u
    · exact modes_x1 w hn hu
    · by_cases hneg : (mkRat (zi b (val W32 z)) (val W32 z')).num < 0
      · exact modes_n w hq hn hu hneg
      · exact modes_p w hq hn hu hneg
  · exact modes_x0 w hn
end
end Go.Proofs.YteahcbeohopdlaaDoor
