/- RoundOrder's walk. No conditions. -/
import Derived.Test.YteieelgdiccppaaDoorUs1
import Derived.Test.YteieelgdiccppaaDoorUs2
import Derived.Test.YteieelgdiccppaaDoorUs3
import Derived.Test.YteieelgdiccppaaDoorUs4
import Derived.Test.YteieelgdiccppaaDoorUs5
import Derived.Test.YteieelgdiccppaaDoorUs6
open Go.RowKit
set_option maxRecDepth 100000
namespace Go.Proofs.YteieelgdiccppaaDoor
section
variable {w : World} {b b' : Bool} {A A' B B' : Option Addr} {n c n' c' m1 d m1' d' s : Nat} {m : Int} {ra rb : Rat}
theorem order_walk (w : World) {sc : Int} (h : QA w b A n c A' n' c' ra 12 ∨ ¬ (n ≤ 12 ∧ n' ≤ 12)) (h' : QA w b' B m1 d B' m1' d' rb 12 ∨ ¬ (m1 ≤ 12 ∧ m1' ≤ 12)) : Calls Tryd.prog 9 #[.agg #[.bool b, .slice A n c, .slice A' n' c'], .agg #[.bool b', .slice B m1 d, .slice B' m1' d'], .int .i64 sc, .int .i64 m] w fun e w' => e = .returned (.bool true) ∧ Below w.heap.size w w' := by
  by_cases hn : n ≤ 12 ∧ n' ≤ 12
  · by_cases hn' : m1 ≤ 12 ∧ m1' ≤ 12
    · by_cases h1 : sc < 0
      · exact order_x1 w hn hn' h1
      by_cases h2 : 10 < sc
      · exact order_x2 w hn hn' (by omega) h2
      by_cases h3 : m < 1
      · exact order_x3 w hn hn' (by omega) (by omega) h3
      by_cases h4 : 7 < m
      · exact order_x4 w hn hn' (by omega) (by omega) (by omega) h4
      have hq := h.resolve_right (fun g => g hn)
      have hq' := h'.resolve_right (fun g => g hn')
      obtain ⟨k, rfl⟩ : ∃ k : Nat, sc = (k : Int) := ⟨sc.toNat, by omega⟩
      by_cases hgt : cmpR ra rb ≤ 0
      · by_cases h5 : m = 3
        · exact order_3 w hq hq' hn hn' (by omega) (by omega) h5 hgt
        · by_cases h6 : m = 4
          · exact order_5 w hq hq' hn hn' (by omega) (by omega) h6 hgt
          · exact order_1 w hq hq' hn hn' (by omega) (by omega) h5 h6 hgt
      · by_cases h5 : m = 3
        · exact order_4 w hq hq' hn hn' (by omega) (by omega) h5 hgt
        · by_cases h6 : m = 4
          · exact order_6 w hq hq' hn hn' (by omega) (by omega) h6 hgt
          · exact order_2 w hq hq' hn hn' (by omega) (by omega) h5 h6 hgt
    · exact order_x00 w hn hn'
  · exact order_x0 w hn
theorem order_all {z z' y y' : List Nat} {sc : Int} (w : World) (h : n = z.length ∧ n ≤ c ∧ Rd U32 w w.heap.size A z ∧ Good32 z) (h' : n' = z'.length ∧ n' ≤ c' ∧ Rd U32 w w.heap.size A' z' ∧ Good32 z') (g : m1 = y.length ∧ m1 ≤ d ∧ Rd U32 w w.heap.size B y ∧ Good32 y) (g' : m1' = y'.length ∧ m1' ≤ d' ∧ Rd U32 w w.heap.size B' y' ∧ Good32 y') (_bs : -9223372036854775808 ≤ sc ∧ sc ≤ 9223372036854775807) (_bm : -9223372036854775808 ≤ m ∧ m ≤ 9223372036854775807) : Calls Tryd.prog 9 #[.agg #[.bool b, .slice A n c, .slice A' n' c'], .agg #[.bool b', .slice B m1 d, .slice B' m1' d'], .int .i64 sc, .int .i64 m] w fun e w' => e = .returned (.bool true) ∧ Below w.heap.size w w' :=
  order_walk (ra := mkRat (zi b (val W32 z)) (val W32 z')) (rb := mkRat (zi b' (val W32 y)) (val W32 y')) w (by
    by_cases hl : n ≤ 12 ∧ n' ≤ 12
    · exact .inl (qa_in h h' hl)
    · exact .inr hl) (by
    by_cases hl : m1 ≤ 12 ∧ m1' ≤ 12
    · exact .inl (qa_in g g' hl)
    · exact .inr hl)
end
end Go.Proofs.YteieelgdiccppaaDoor
