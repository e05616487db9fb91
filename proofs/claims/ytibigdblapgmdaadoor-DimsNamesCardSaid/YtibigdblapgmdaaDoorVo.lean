/- A slice of vectors, a slice of strings that came in: how they are read. No conditions. -/
import Derived.Test.YtibigdblapgmdaaDoorVn
import Derived.Deep.Slices
import Derived.Deep.Strs
open Go.ChangeShapes Go.WideShapes Go.ChangeAt Go.RowKit
set_option maxRecDepth 100000
namespace Go.Proofs.YtibigdblapgmdaaDoor
/-- A slice at A reads as the vectors ws, and lies below block B. -/
def RV (w : World) (B : Nat) (A : Option Addr) (ws : List V8) : Prop :=
  0 < ws.length → ∃ ad, A = some ad ∧ ad.block < B ∧ ∀ (j : Nat) (a : V8), ws[j]? = some a → ∀ i, i < 8 → w.cell? ((ad.add (j * 8)).add i) = some (.int .i64 (a.at_ i))
section
variable {w w' : World} {B B' : Nat} {A : Option Addr} {ws : List V8}
theorem RV.nil : RV w B A [] := fun h => absurd h (by simp)
theorem RV.keep (h : RV w B A ws) (hk : ∀ p : Addr, p.block < B → w'.cell? p = w.cell? p) : RV w' B A ws := fun hn => by
  obtain ⟨ad, e, hb, hc⟩ := h hn
  exact ⟨ad, e, hb, fun j u hu i hi => (hk _ (by rw [yblock_add, yblock_add]; exact hb)).trans (hc j u hu i hi)⟩
theorem RV.more (h : RV w B A ws) (hB : B ≤ B') : RV w B' A ws := fun hn => by
  obtain ⟨ad, e, hb, hc⟩ := h hn
  exact ⟨ad, e, by omega, hc⟩
theorem RV.below (h : RV w B A ws) (hb : Below B w w') : RV w' B A ws := h.keep fun _ hp => hb.cell hp
end
theorem open_vs {H : Type} {enc : TypeId × Value → H} {W : World} {a : Option Addr} {len cap : Nat} {d : DataW H} {p : List MemPlace}
    (h : DataW.Trod enc Tryd.prog W 0 (fun _ => true) true 46 (.slice a len cap) d p) : ∃ ws : List V8, len = ws.length ∧ len ≤ cap ∧ RV W W.heap.size a ws ∧ ∀ x ∈ ws, x.wf := by
  obtain ⟨fuel, hf⟩ := h
  have c8 : Tryd.prog.cellsOf 23 = 8 := by kernel_rfl
  rcases Go.Deep.open_slice Tryd.underlying46 hf with ⟨hcs, _⟩ | ⟨x, l, c, m, n, D, Pl, hcs, _, hl, hm, hmm, _, hel⟩
  · simp [Value.cells] at hcs
    obtain ⟨rfl, rfl, rfl⟩ := hcs
    exact ⟨[], rfl, Nat.le_refl _, RV.nil, fun x hx => by cases hx⟩
  · simp [Value.cells] at hcs
    obtain ⟨rfl, rfl, rfl⟩ := hcs
    have hmc : m = cap := by simpa using hmm
    subst hmc
    rw [c8] at hel
    have each : ∀ i, i < m → ∃ v : V8, v.wf ∧ ∀ j, j < 8 → W.cell? ((x.add (i * 8)).add j) = some (.int .i64 (v.at_ j)) := fun i hi => by
      obtain ⟨cs', h1, h2⟩ := hel i hi
      obtain ⟨v, hv, hw⟩ := v8_of_cells h2
      obtain ⟨_, _, h3⟩ := World.cells?_some h1
      refine ⟨v, hw, fun j hj => ?_⟩
      rw [h3 j hj, hv, V8.c_l, List.getElem?_map, V8.l_get hj]
      rfl
    have inh : Inhabited V8 := ⟨V8.z⟩
    obtain ⟨Sx, hS⟩ := Go.Deep.choose_lt each
    refine ⟨(List.range len).map Sx, by simp, hl, fun h0 => ?_, ?_⟩
    · rw [List.length_map, List.length_range] at h0
      have hc0 := (hS 0 (by omega)).2 0 (by decide)
      refine ⟨x, rfl, ?_, fun j y hy => ?_⟩
      · have := World.block_lt_of_cell? W _ hc0
        rwa [yblock_add, yblock_add] at this
      · have hj : j < len := by
          rcases Nat.lt_or_ge j len with h1 | h1
          · exact h1
          · rw [List.getElem?_eq_none (by simpa using h1)] at hy; cases hy
        rw [List.getElem?_map, List.getElem?_range hj] at hy
        simp at hy
        rw [← hy]
        exact (hS j (by omega)).2
    · intro y hy
      obtain ⟨j, hj, rfl⟩ := List.mem_map.1 hy
      exact (hS j (by have := List.mem_range.1 hj; omega)).1
theorem open_txs {H : Type} {enc : TypeId × Value → H} {W : World} {a : Option Addr} {len cap : Nat} {d : DataW H} {p : List MemPlace}
    (h : DataW.Trod enc Tryd.prog W 0 (fun _ => true) true 35 (.slice a len cap) d p) : ∃ xs : List ByteArray, len = xs.length ∧ len ≤ cap ∧ RS W W.heap.size a xs := by
  obtain ⟨fuel, hf⟩ := h
  rcases Go.Deep.open_strs Tryd.underlying35 Tryd.underlying9 (by kernel_rfl) hf with ⟨hcs, _⟩ | ⟨x, l, c, m, Sx, hcs, _, hl, hm, hmm, _, hcell⟩
  · simp [Value.cells] at hcs
    obtain ⟨rfl, rfl, rfl⟩ := hcs
    exact ⟨[], rfl, Nat.le_refl _, RS.nil⟩
  · simp [Value.cells] at hcs
    obtain ⟨rfl, rfl, rfl⟩ := hcs
    have hmc : m = cap := by simpa using hmm
    subst hmc
    refine ⟨(List.range len).map Sx, by simp, hl, fun h0 => ?_⟩
    rw [List.length_map, List.length_range] at h0
    have hc0 := (hcell 0 (by omega)).1
    refine ⟨x, rfl, ?_, fun j y hy => ?_⟩
    · have := World.block_lt_of_cell? W _ hc0
      rwa [yblock_add] at this
    · have hj : j < len := by
        rcases Nat.lt_or_ge j len with h1 | h1
        · exact h1
        · rw [List.getElem?_eq_none (by simpa using h1)] at hy; cases hy
      rw [List.getElem?_map, List.getElem?_range hj] at hy
      simp at hy
      rw [← hy]
      exact (hcell j (by omega)).1
end Go.Proofs.YtibigdblapgmdaaDoor
