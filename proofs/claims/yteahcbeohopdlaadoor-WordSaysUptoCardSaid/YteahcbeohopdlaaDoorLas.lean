/- The opening of a slice of strings that came in. No conditions. -/
import Derived.Test.YteahcbeohopdlaaDoorLaid
import Derived.Test.YteahcbeohopdlaaDoorYb
import Derived.Deep.Strs
open Go.ChangeShapes Go.WideShapes Go.ChangeAt Go.RowKit
set_option maxRecDepth 100000
namespace Go.Proofs.YteahcbeohopdlaaDoor
/-- What the walk is told of a slice of strings that came in. -/
def InStrs (w : World) (a : Option Addr) (len cap : Nat) (xs : List ByteArray) : Prop := len = xs.length ∧ len ≤ cap ∧ Ss w a xs
theorem open_ss {H : Type} {enc : TypeId × Value → H} {W : World} {a : Option Addr} {len cap : Nat} {d : DataW H} {p : List MemPlace}
    (h : DataW.Trod enc Tryd.prog W 0 (fun _ => true) true 57 (.slice a len cap) d p) : ∃ xs, InStrs W a len cap xs := by
  obtain ⟨fuel, hf⟩ := h
  rcases Go.Deep.open_strs Tryd.underlying57 Tryd.underlying9 (by kernel_rfl) hf with ⟨hcs, _⟩ | ⟨x, l, c, m, Sx, hcs, _, hl, hm, hmm, _, hcell⟩
  · simp [Value.cells] at hcs
    obtain ⟨rfl, rfl, rfl⟩ := hcs
    exact ⟨[], rfl, Nat.le_refl _, RS.nil⟩
  · simp [Value.cells] at hcs
    obtain ⟨rfl, rfl, rfl⟩ := hcs
    have hmc : m = cap := by simpa using hmm
    subst hmc
    refine ⟨(List.range len).map Sx, by simp, hl, fun h0 => ?_⟩
    rw [List.length_map, List.length_range] at h0
    have hc0 := (hcell 0 (by omega)).1
    refine ⟨x, rfl, ?_, fun j y hy => ?_⟩
    · have := World.block_lt_of_cell? W _ hc0
      rwa [yblock_add] at this
    · have hj : j < len := by
        rcases Nat.lt_or_ge j len with h1 | h1
        · exact h1
        · rw [List.getElem?_eq_none (by simpa using h1)] at hy; cases hy
      rw [List.getElem?_map, List.getElem?_range hj] at hy
      simp at hy
      rw [← hy]
      exact (hcell j (by omega)).1
/-- The same, and how it reads. -/
theorem open_ss2 {H : Type} {enc : TypeId × Value → H} {W : World} {a : Option Addr} {len cap : Nat} {d : DataW H} {p : List MemPlace}
    (h : DataW.Trod enc Tryd.prog W 0 (fun _ => true) true 57 (.slice a len cap) d p) : ∃ xs, InStrs W a len cap xs ∧ (xs = [] ∨ ∃ spare, d = .slice (xs.map fun x => .lit (.string x.data.toList)) spare) := by
  obtain ⟨fuel, hf⟩ := h
  rcases Go.Deep.open_strs Tryd.underlying57 Tryd.underlying9 (by kernel_rfl) hf with ⟨hcs, _⟩ | ⟨x, l, c, m, Sx, hcs, _, hl, hm, hmm, hd, hcell⟩
  · simp [Value.cells] at hcs
    obtain ⟨rfl, rfl, rfl⟩ := hcs
    exact ⟨[], ⟨rfl, Nat.le_refl _, RS.nil⟩, .inl rfl⟩
  · simp [Value.cells] at hcs
    obtain ⟨rfl, rfl, rfl⟩ := hcs
    have hmc : m = cap := by simpa using hmm
    subst hmc
    refine ⟨(List.range len).map Sx, ⟨by simp, hl, fun h0 => ?_⟩, .inr ⟨(List.range (m - len)).map fun j => DataW.lit (Lit.string (Sx (len + j)).data.toList), ?_⟩⟩
    · rw [List.length_map, List.length_range] at h0
      have hc0 := (hcell 0 (by omega)).1
      refine ⟨x, rfl, ?_, fun j y hy => ?_⟩
      · have := World.block_lt_of_cell? W _ hc0
        rwa [yblock_add] at this
      · have hj : j < len := by
          rcases Nat.lt_or_ge j len with h1 | h1
          · exact h1
          · rw [List.getElem?_eq_none (by simpa using h1)] at hy; cases hy
        rw [List.getElem?_map, List.getElem?_range hj] at hy
        simp at hy
        rw [← hy]
        exact (hcell j (by omega)).1
    · rw [List.map_map]
      exact congrArg Prod.fst hd
theorem bulk_texts {H : Type} (xs : List ByteArray) : (Rows.uptoBulkAll (xs.map fun x => (DataW.lit (Lit.string x.data.toList) : DataW H))) = (xs.map fun x => x.data.toList.length + 1).sum := by
  induction xs with
  | nil => simp [Rows.uptoBulkAll]
  | cons x xs ih => simp only [List.map_cons, Rows.uptoBulkAll, Rows.uptoBulk, ih, List.sum_cons]
theorem glue_sum (ls : List (List UInt8)) : (glue 45 ls).length ≤ (ls.map fun l => l.length + 1).sum := by
  induction ls with
  | nil => simp [glue]
  | cons l ls ih =>
    cases ls with
    | nil => simp [glue]
    | cons m ms =>
      rw [glue_cons _ (List.cons_ne_nil _ _)]
      simp only [List.length_append, List.length_cons, List.map_cons, List.sum_cons] at ih ⊢
      omega
theorem bulk_mem {H : Type} {d : DataW H} {l : List (DataW H)} (h : d ∈ l) : Rows.uptoBulk d ≤ Rows.uptoBulkAll l := by
  induction l with
  | nil => cases h
  | cons x r ih =>
    simp only [Rows.uptoBulkAll]
    rcases List.mem_cons.1 h with e | e
    · subst e; omega
    · have := ih e; omega
/-- What the second form's bound gives: the texts of a row, put together, are not long. -/
theorem bulk_glue {H : Type} {l : List (DataW H)} {d : DataW H} {xs : List ByteArray} (hk : Rows.uptoSmall H l = true) (hm : d ∈ l) (hd : xs = [] ∨ ∃ spare, d = .slice (xs.map fun x => .lit (.string x.data.toList)) spare) : (glue 45 (xs.map (·.data.toList))).length ≤ 140737488355328 := by
  rcases hd with rfl | ⟨spare, rfl⟩
  · simp [glue]
  · have h1 : Rows.uptoBulkAll l ≤ 1048576 := of_decide_eq_true hk
    have h2 := bulk_mem hm
    simp only [Rows.uptoBulk] at h2
    rw [bulk_texts] at h2
    have h3 := glue_sum (xs.map (·.data.toList))
    rw [List.map_map] at h3
    have h4 : ((fun l : List UInt8 => l.length + 1) ∘ fun x : ByteArray => x.data.toList) = fun x : ByteArray => x.data.toList.length + 1 := rfl
    rw [h4] at h3
    omega
end Go.Proofs.YteahcbeohopdlaaDoor
