/- The opening of a slice of strings that came in. No conditions. -/
import Derived.Test.YteahcbeohopdlaaDoorLaid
import Derived.Test.YteahcbeohopdlaaDoorYb
import Derived.Deep.Strs
open Go.ChangeShapes Go.WideShapes Go.ChangeAt Go.RowKit
set_option maxRecDepth 100000
namespace Go.Proofs.YteahcbeohopdlaaDoor
/-- What the walk is told of a slice of strings that came in. -/
def InStrs (w : World) (a : Option Addr) (len cap : Nat) (xs : List ByteArray) : Prop := len = xs.length ∧ len ≤ cap ∧ Ss w a xs
theorem open_ss {H : Type} {enc : TypeId × Value → H} {W : World} {a : Option Addr} {len cap : Nat} {d : DataW H} {p : List MemPlace}
    (h : DataW.Trod enc Tryd.prog W 0 (fun _ => true) true 57 (.slice a len cap) d p) : ∃ xs, InStrs W a len cap xs := by
  obtain ⟨fuel, hf⟩ := h
  rcases Go.Deep.open_strs Tryd.underlying57 Tryd.underlying9 (by kernel_rfl) hf with ⟨hcs, _⟩ | ⟨x, l, c, m, Sx, hcs, _, hl, hm, hmm, _, hcell⟩
  · simp [Value.cells] at hcs
    obtain ⟨rfl, rfl, rfl⟩ := hcs
    exact ⟨[], rfl, Nat.le_refl _, RS.nil⟩
  · simp [Value.cells] at hcs
    obtain ⟨rfl, rfl, rfl⟩ := hcs
    have hmc : m = cap := by simpa using hmm
    subst hmc
    refine ⟨(List.range len).map Sx, by simp, hl, fun h0 => ?_⟩
    rw [List.length_map, List.length_range] at h0
    have hc0 := (hcell 0 (by omega)).1
    refine ⟨x, rfl, ?_, fun j y hy => ?_⟩
    · have := World.block_lt_of_cell? W _ hc0
      rwa [yblock_add] at this
    · have hj : j < len := by
        rcases Nat.lt_or_ge j len with h1 | h1
        · exact h1
        · rw [List.getElem?_eq_none (by simpa using h1)] at hy; cases hy
      rw [List.getElem?_map, List.getElem?_range hj] at hy
      simp at hy
      rw [← hy]
      exact (hcell j (by omega)).1
end Go.Proofs.YteahcbeohopdlaaDoor
