/- The world in which the listed tables lie; the openings of an atom, of a slice of strings, of names and prefixes that came in. No conditions. -/
import Derived.Test.YtkjcnpckajpogaaDoorCards
import Derived.Test.YtkjcnpckajpogaaDoorTie
import Derived.Test.YtkjcnpckajpogaaDoorYb
import Derived.ProofKit
import Derived.OpenShut
import Derived.ChangeArms
import Derived.ChangeSame
import Derived.Deep.DeepHandedRow
import Derived.Deep.Strs
import Derived.SizedLaws
open Go.ChangeShapes Go.WideShapes Go.ChangeAt Go.RowKit
set_option maxRecDepth 100000
namespace Go.Proofs.YtkjcnpckajpogaaDoor
theorem own : ownKnob Tryd.prog.godebug = none := by kernel_rfl
theorem laidOut : laidOutB Tryd.prog = true := by kernel_rfl
/-- The cells of a table's datum. -/
def cellsOfLits : List (DataW Unit) → List Value
  | [] => []
  | .lit (.int k n) :: l => .int k n :: cellsOfLits l
  | _ :: l => cellsOfLits l
def cellsOfTab : DataW Unit → List Value
  | .agg l => cellsOfLits l
  | _ => []
def rangesCells : List Value := ([128, 191, 160, 191, 128, 159, 144, 191, 128, 143, 0, 0, 0, 0, 0, 0, 0, 0, 0, 0, 0, 0, 0, 0, 0, 0, 0, 0, 0, 0, 0, 0] : List Int).map (Value.int .u8)
def layTab (cs : Array Value) : Obj → Obj
  | .cells _ t frozen => .cells cs t frozen
  | o => o
/-- A world in which the listed tables lie as the program's text lays them. -/
noncomputable def laidWorld (os : Os) : World :=
  { World.holding Tryd.prog os ⟨#[], #[], []⟩ with heap := (((((World.holding Tryd.prog os ⟨#[], #[], []⟩).heap.modify 2 (layTab (cellsOfTab Go.Pinned.utf8First).toArray)).modify 3 (layTab rangesCells.toArray)).modify 4 (layTab (cellsOfTab Rows.laid_math_bits_deBruijn32tab).toArray)).modify 5 (layTab (cellsOfTab Rows.laid_math_bits_deBruijn64tab).toArray)).modify 1 (layTab (cellsOfTab Rows.laid_internal_strconv_uint64pow10).toArray) }
theorem Tryd.cellsStr : Tryd.prog.cellsOf 9 = 1 := by kernel_rfl
theorem Tryd.cellsInt1 : Tryd.prog.cellsOf 3 = 1 := by kernel_rfl
theorem Tryd.cellsSs : Tryd.prog.cellsOf 27 = 1 := by kernel_rfl
theorem Tryd.cellsAtom : Tryd.prog.cellsOf 24 = 3 := by kernel_rfl
theorem Tryd.cellsKnown : Tryd.prog.cellsOf 29 = 2 := by kernel_rfl
theorem open_atom {H : Type} {enc : TypeId × Value → H} {W : World} {r : Reach} {b0 : Nat} {v : Value} {d : DataW H} {p : List MemPlace}
    (hv : Value.okWide Tryd.prog W r b0 24 v) (h : DataW.Trod enc Tryd.prog W 0 (fun _ => true) true 24 v d p) :
    ∃ x y k, v = .agg #[.string x, .string y, .int .i64 k] ∧ d = .agg [.lit (.string x.data.toList), .lit (.string y.data.toList), .lit (.int .i64 k)] := by
  obtain ⟨cs, rfl, hs⟩ := okWide_struct Tryd.underlying24 hv
  obtain ⟨fuel, hf⟩ := h
  obtain ⟨y0, y1, y2, n, hx, hl, h0, h1, h2⟩ := Go.Deep.trod_struct3 Tryd.underlying24 hf
  rw [Tryd.cellsAtom] at hs
  obtain ⟨l⟩ := cs
  match l, hs with
  | [v0, v1, v2], _ =>
    have h0' : DataW.trod enc Tryd.prog W 0 (fun _ => true) true n 9 [v0] = some y0 := by
      have e := h0
      simp only [Tryd.cellsStr] at e
      simpa [Value.cells] using e
    have h1' : DataW.trod enc Tryd.prog W 0 (fun _ => true) true n 9 [v1] = some y1 := by
      have e := h1
      simp only [Tryd.cellsStr] at e
      simpa [Value.cells] using e
    have h2' : DataW.trod enc Tryd.prog W 0 (fun _ => true) true n 3 [v2] = some y2 := by
      have e := h2
      simp only [Tryd.cellsInt1] at e
      simpa [Value.cells] using e
    obtain ⟨x, e0, g0, _⟩ := DataW.trod_string Tryd.underlying9 h0'
    obtain ⟨y, e1, g1, _⟩ := DataW.trod_string Tryd.underlying9 h1'
    obtain ⟨k, e2, g2, _⟩ := DataW.trod_int Tryd.underlying3 h2'
    injection e0 with e0
    injection e1 with e1
    injection e2 with e2
    subst e0 e1 e2 g0 g1 g2
    refine ⟨x, y, k, rfl, ?_⟩
    have := congrArg Prod.fst hx
    simpa using this
/-- What the walk is told of a slice of strings that came in. -/
def InStrs (w : World) (a : Option Addr) (len cap : Nat) (xs : List ByteArray) : Prop := len = xs.length ∧ len ≤ cap ∧ Ss w a xs
theorem open_ss {H : Type} {enc : TypeId × Value → H} {W : World} {a : Option Addr} {len cap : Nat} {d : DataW H} {p : List MemPlace}
    (h : DataW.Trod enc Tryd.prog W 0 (fun _ => true) true 27 (.slice a len cap) d p) : ∃ xs, InStrs W a len cap xs ∧ (xs = [] ∨ ∃ spare, d = .slice (xs.map fun x => .lit (.string x.data.toList)) spare) := by
  obtain ⟨fuel, hf⟩ := h
  rcases Go.Deep.open_strs Tryd.underlying27 Tryd.underlying9 (by kernel_rfl) hf with ⟨hcs, _⟩ | ⟨x, l, c, m, Sx, hcs, _, hl, hm, hmm, hd, hcell⟩
  · simp [Value.cells] at hcs
    obtain ⟨rfl, rfl, rfl⟩ := hcs
    exact ⟨[], ⟨rfl, Nat.le_refl _, RS.nil⟩, .inl rfl⟩
  · simp [Value.cells] at hcs
    obtain ⟨rfl, rfl, rfl⟩ := hcs
    have hmc : m = cap := by simpa using hmm
    subst hmc
    refine ⟨(List.range len).map Sx, ⟨by simp, hl, fun h0 => ?_⟩, .inr ⟨(List.range (m - len)).map fun j => DataW.lit (Lit.string (Sx (len + j)).data.toList), ?_⟩⟩
    · rw [List.length_map, List.length_range] at h0
      have hc0 := (hcell 0 (by omega)).1
      refine ⟨x, rfl, ?_, fun j y hy => ?_⟩
      · have := World.block_lt_of_cell? W _ hc0
        rwa [yblock_add] at this
      · have hj : j < len := by
          rcases Nat.lt_or_ge j len with h1 | h1
          · exact h1
          · rw [List.getElem?_eq_none (by simpa using h1)] at hy; cases hy
        rw [List.getElem?_map, List.getElem?_range hj] at hy
        simp at hy
        rw [← hy]
        exact (hcell j (by omega)).1
    · rw [List.map_map]
      exact congrArg Prod.fst hd
theorem weights_elem {H : Type} {P : Program} {e : TypeId} {l : List (DataW H)} {x : ByteArray} (h : (DataW.lit (.string x.data.toList) : DataW H) ∈ l) : x.data.toList.length ∈ DataW.weightsAll P e l := by
  induction l with
  | nil => cases h
  | cons d r ih =>
    simp only [DataW.weightsAll, List.mem_append]
    rcases List.mem_cons.1 h with h | h
    · exact .inl (by rw [← h]; simp [DataW.weights])
    · exact .inr (ih h)
/-- The texts of a slice that came in are no longer than any machine can reach. -/
theorem ss_sizes {H : Type} {ts : List TypeId} {ds : List (DataW H)} (h : (DataW.weightsEach Tryd.prog ts ds).all (· ≤ reachBytes) = true) {j : Nat} {d : DataW H} {xs : List ByteArray} (ht : ts[j]? = some 27) (hd : ds[j]? = some d)
    (hx : xs = [] ∨ ∃ spare, d = .slice (xs.map fun x => .lit (.string x.data.toList)) spare) : ∀ x ∈ xs, x.size ≤ 140737488355328 := by
  intro x hm
  rcases hx with rfl | ⟨spare, rfl⟩
  · cases hm
  · have h1 := DataW.weights_mem_each (P := Tryd.prog) ht hd x.data.toList.length (by
      simp only [DataW.weights, Tryd.underlying27]
      exact List.mem_cons_of_mem _ (List.mem_append_left _ (weights_elem (List.mem_map.2 ⟨x, hm, rfl⟩))))
    have h2 := List.all_eq_true.1 h _ h1
    have h3 : x.data.toList.length ≤ reachBytes := by simpa using h2
    have h4 := reachBytes_lt
    rw [Lib.size_eq]; omega
theorem slice_of {H : Type} {enc : TypeId × Value → H} {W : World} {n : Nat} {v : Value} {y : DataW H × List MemPlace} (h : DataW.trod enc Tryd.prog W 0 (fun _ => true) true n 27 [v] = some y) : ∃ a len cap, v = .slice a len cap := by
  rcases Go.Deep.open_strs Tryd.underlying27 Tryd.underlying9 (by kernel_rfl) h with ⟨hcs, _⟩ | ⟨x, l, c, m, Sx, hcs, _⟩
  · injection hcs with hcs; exact ⟨_, _, _, hcs⟩
  · injection hcs with hcs; exact ⟨_, _, _, hcs⟩
theorem open_known {H : Type} {enc : TypeId × Value → H} {W : World} {r : Reach} {b0 : Nat} {v : Value} {d : DataW H} {p : List MemPlace}
    (hv : Value.okWide Tryd.prog W r b0 29 v) (h : DataW.Trod enc Tryd.prog W 0 (fun _ => true) true 29 v d p) :
    ∃ A n c B m e xs ys d0 d1, v = .agg #[.slice A n c, .slice B m e] ∧ InStrs W A n c xs ∧ InStrs W B m e ys ∧ d = .agg [d0, d1] ∧ (xs = [] ∨ ∃ spare, d0 = .slice (xs.map fun x => .lit (.string x.data.toList)) spare) ∧ (ys = [] ∨ ∃ spare, d1 = .slice (ys.map fun x => .lit (.string x.data.toList)) spare) := by
  obtain ⟨cs, rfl, hs⟩ := okWide_struct Tryd.underlying29 hv
  obtain ⟨fuel, hf⟩ := h
  obtain ⟨y0, y1, n, hx, hl, h0, h1⟩ := trod_struct2 Tryd.underlying29 hf
  rw [Tryd.cellsKnown] at hs
  obtain ⟨l⟩ := cs
  match l, hs with
  | [v0, v1], _ =>
    have h0' : DataW.trod enc Tryd.prog W 0 (fun _ => true) true n 27 [v0] = some y0 := by
      have e := h0
      simp only [Tryd.cellsSs] at e
      simpa [Value.cells] using e
    have h1' : DataW.trod enc Tryd.prog W 0 (fun _ => true) true n 27 [v1] = some y1 := by
      have e := h1
      simp only [Tryd.cellsSs] at e
      simpa [Value.cells] using e
    obtain ⟨a, j, c, rfl⟩ := slice_of h0'
    obtain ⟨b, m, e, rfl⟩ := slice_of h1'
    obtain ⟨xs, hxs, hd0⟩ := open_ss (enc := enc) (W := W) (a := a) (len := j) (cap := c) (d := y0.1) (p := y0.2) ⟨n, h0'⟩
    obtain ⟨ys, hys, hd1⟩ := open_ss (enc := enc) (W := W) (a := b) (len := m) (cap := e) (d := y1.1) (p := y1.2) ⟨n, h1'⟩
    refine ⟨a, j, c, b, m, e, xs, ys, y0.1, y1.1, rfl, hxs, hys, ?_, hd0, hd1⟩
    have := congrArg Prod.fst hx
    simpa using this
end Go.Proofs.YtkjcnpckajpogaaDoor
