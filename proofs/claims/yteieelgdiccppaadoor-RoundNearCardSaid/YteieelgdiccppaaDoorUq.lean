/- RoundNear's walk. No conditions. -/
import Derived.Test.YteieelgdiccppaaDoorUp1
import Derived.Test.YteieelgdiccppaaDoorUp2
import Derived.Test.YteieelgdiccppaaDoorUp3
import Derived.Test.YteieelgdiccppaaDoorUp4
open Go.RowKit
set_option maxRecDepth 100000
namespace Go.Proofs.YteieelgdiccppaaDoor
section
variable {W w : World} {b : Bool} {A A' : Option Addr} {n c n' c' s : Nat} {m : Int} {r : Rat}
theorem near_walk (w : World) {sc : Int} (h : QA w b A n c A' n' c' r 12 ∨ ¬ (n ≤ 12 ∧ n' ≤ 12)) : Calls Tryd.prog 8 #[.agg #[.bool b, .slice A n c, .slice A' n' c'], .int .i64 sc, .int .i64 m] w fun e w' => e = .returned (.bool true) ∧ Below w.heap.size w w' := by
  by_cases hn : n ≤ 12 ∧ n' ≤ 12
  · by_cases h1 : sc < 0
    · exact near_x1 w hn h1
    by_cases h2 : 20 < sc
    · exact near_x2 w hn (by omega) h2
    by_cases h3 : m < 1
    · exact near_x3 w hn (by omega) (by omega) h3
    by_cases h4 : 7 < m
    · exact near_x4 w hn (by omega) (by omega) (by omega) h4
    have hq := h.resolve_right (fun g => g hn)
    obtain ⟨k, rfl⟩ : ∃ k : Nat, sc = (k : Int) := ⟨sc.toNat, by omega⟩
    by_cases hneg : (mkRat (rdR m (r * mkRat ((10 ^ k : Nat) : Int) 1)) (10 ^ k) + -r).num < 0
    · by_cases h5 : 5 ≤ m
      · exact near_nh w hq hn.1 hn.2 (by omega) (by omega) hneg h5
      · exact near_nn w hq hn.1 hn.2 (by omega) (by omega) hneg h5
    · by_cases h5 : 5 ≤ m
      · exact near_ph w hq hn.1 hn.2 (by omega) (by omega) hneg h5
      · exact near_pn w hq hn.1 hn.2 (by omega) (by omega) hneg h5
  · exact near_x0 w hn
theorem near_all {z z' : List Nat} {sc : Int} (w : World) (h : n = z.length ∧ n ≤ c ∧ Rd U32 w w.heap.size A z ∧ Good32 z) (h' : n' = z'.length ∧ n' ≤ c' ∧ Rd U32 w w.heap.size A' z' ∧ Good32 z') (_bs : -9223372036854775808 ≤ sc ∧ sc ≤ 9223372036854775807) (_bm : -9223372036854775808 ≤ m ∧ m ≤ 9223372036854775807) : Calls Tryd.prog 8 #[.agg #[.bool b, .slice A n c, .slice A' n' c'], .int .i64 sc, .int .i64 m] w fun e w' => e = .returned (.bool true) ∧ Below w.heap.size w w' :=
  near_walk (r := mkRat (zi b (val W32 z)) (val W32 z')) w (by
    by_cases hl : n ≤ 12 ∧ n' ≤ 12
    · exact .inl (qa_in h h' hl)
    · exact .inr hl)
end
end Go.Proofs.YteieelgdiccppaaDoor
