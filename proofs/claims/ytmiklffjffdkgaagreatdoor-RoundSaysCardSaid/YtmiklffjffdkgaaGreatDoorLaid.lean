/- The opening of a slice of words that came in; the world in which the listed tables lie. No conditions. -/
import Derived.Test.YtmiklffjffdkgaaGreatDoorCards
import Derived.Test.YtmiklffjffdkgaaGreatDoorTie
import Derived.Test.YtmiklffjffdkgaaGreatDoorGRwbc0
import Derived.ProofKit
import Derived.OpenShut
import Derived.Deep.DeepHandedRow
open Go.ChangeShapes Go.WideShapes Go.ChangeAt Go.RowKit
set_option maxRecDepth 100000
namespace Go.Proofs.YtmiklffjffdkgaaGreatDoor
theorem own : ownKnob Tryz.prog.godebug = none := by kernel_rfl
theorem laidOut : laidOutB Tryz.prog = true := by kernel_rfl
/-- What the walk is told of a slice of words that came in. -/
def InWords (w : World) (a : Option Addr) (len cap : Nat) (ws : List Nat) : Prop := len = ws.length ∧ len ≤ cap ∧ Rd U32 w w.heap.size a ws ∧ Good32 ws
theorem open_words {H : Type} {enc : TypeId × Value → H} {W : World} {a : Option Addr} {len cap : Nat} {d : DataW H} {p : List MemPlace} 
    (h : DataW.Trod enc Tryz.prog W 0 (fun _ => true) true 22 (.slice a len cap) d p) : ∃ ws, InWords W a len cap ws := by
  obtain ⟨fuel, hf⟩ := h
  rcases open_ints Tryz.underlying22 Tryz.underlying92 (by kernel_rfl) hf with ⟨hcs, _⟩ | ⟨x, l, c, zs, hcs, _, hl, hm, hz, _, hcell, hwz⟩
  · simp [Value.cells] at hcs
    obtain ⟨rfl, rfl, rfl⟩ := hcs
    exact ⟨[], rfl, Nat.le_refl _, Rd.nil, by intro x hx; simp at hx⟩
  · simp [Value.cells] at hcs
    obtain ⟨rfl, rfl, rfl⟩ := hcs
    have hz' : zs.length = cap := by simpa using hz
    have hw : ∀ n ∈ zs, 0 ≤ n ∧ n ≤ 4294967295 := fun n hn => bounds_u32 (hwz n hn)
    refine ⟨(zs.take len).map Int.toNat, by rw [List.length_map, List.length_take]; omega, hl, fun h0 => ?_, ?_⟩
    · rw [List.length_map, List.length_take] at h0
      have hc0 := hcell 0 (by omega)
      refine ⟨x, rfl, ?_, fun j y hy => ?_⟩
      · have := World.block_lt_of_cell? W _ hc0
        rwa [block_add] at this
      · rw [List.getElem?_map, List.getElem?_take] at hy
        split at hy
        · rename_i hj
          have hjz : j < zs.length := by omega
          rw [hcell j hjz]
          rw [List.getElem?_eq_getElem hjz] at hy
          injection hy with hy
          rw [List.getD_eq_getElem?_getD, List.getElem?_eq_getElem hjz, ← hy]
          have := hw _ (List.getElem_mem hjz)
          show some (Value.int .u32 (zs[j])) = some (Value.int .u32 ((zs[j].toNat : Nat) : Int))
          rw [Int.toNat_of_nonneg this.1]
        · cases hy
    · intro y hy
      obtain ⟨n, hn, rfl⟩ := List.mem_map.1 hy
      have := hw n (List.mem_of_mem_take hn)
      rw [W32_eq]; omega
/-- The cells of a table's datum. -/
def cellsOfLits : List (DataW Unit) → List Value
  | [] => []
  | .lit (.int k n) :: l => .int k n :: cellsOfLits l
  | _ :: l => cellsOfLits l
def cellsOfTab : DataW Unit → List Value
  | .agg l => cellsOfLits l
  | _ => []
def rangesCells : List Value := ([128, 191, 160, 191, 128, 159, 144, 191, 128, 143, 0, 0, 0, 0, 0, 0, 0, 0, 0, 0, 0, 0, 0, 0, 0, 0, 0, 0, 0, 0, 0, 0] : List Int).map (Value.int .u8)
def layTab (cs : Array Value) : Obj → Obj
  | .cells _ t frozen => .cells cs t frozen
  | o => o
/-- A world in which the listed tables lie as the program's text lays them. -/
noncomputable def laidWorld (os : Os) : World :=
  { World.holding Tryz.prog os ⟨#[], #[], []⟩ with heap := ((World.holding Tryz.prog os ⟨#[], #[], []⟩).heap.modify 0 (layTab (cellsOfTab Go.Pinned.utf8First).toArray)).modify 1 (layTab rangesCells.toArray) }
end Go.Proofs.YtmiklffjffdkgaaGreatDoor
