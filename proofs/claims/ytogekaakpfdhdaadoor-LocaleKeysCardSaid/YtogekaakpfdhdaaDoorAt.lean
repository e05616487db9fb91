/- Facts that go on through calls: a box known whole, a world above another. No conditions. -/
import Derived.Below
import Derived.WalkKit
import Derived.Deep.RegionHeld
open Go.RowKit
set_option maxRecDepth 100000
namespace Go.Proofs.YtogekaakpfdhdaaDoor
/-- Block p holds the values, and may be written. -/
structure At (W : World) (p : Nat) (vs : List Value) : Prop where
  lt : p < W.heap.size
  all : ∀ i v, vs[i]? = some v → W.cell? ⟨p, i, none⟩ = some v ∧ W.frozen? ⟨p, i, none⟩ = false
def Bel (w W : World) : Prop := Below w.heap.size w W
theorem Bel.refl (w : World) : Bel w w := Below.refl _ _
theorem Bel.up {w W W' : World} (h : Bel w W) (hb : Hid (Below W.heap.size W W')) : Bel w W' := Below.trans h (hb.out.mono (Below.size h))
theorem Bel.al {w W : World} (h : Bel w W) (o : Obj) : Bel w (W.alloc o) := Below.alloc h (Below.size h) o
theorem Bel.dr {w W : World} (h : Bel w W) : Bel w W.drew := Below.drew h
theorem Bel.hid {w W : World} (h : Bel w W) : Hid (Below w.heap.size w W) := h
theorem Bel.of {w W : World} (h : Hid (Below w.heap.size w W)) : Bel w W := h
section
variable {W W' : World} {p : Nat} {u v x : Value} {vs : List Value}
theorem At.up (h : At W p vs) (hb : Hid (Below W.heap.size W W')) : At W' p vs :=
  ⟨Nat.lt_of_lt_of_le h.lt hb.out.size, fun i v hv => ⟨(hb.out.cell h.lt).trans (h.all i v hv).1, (hb.out.frozen h.lt).trans (h.all i v hv).2⟩⟩
theorem At.al (h : At W p vs) (o : Obj) : At (W.alloc o) p vs := h.up ((Below.refl _ _).alloc (Nat.le_refl _) o)
theorem At.dr (h : At W p vs) : At W.drew p vs := ⟨h.lt, h.all⟩
theorem At.c0 (h : At W p (v :: vs)) : W.cell? ⟨p, 0, none⟩ = some v := (h.all 0 v rfl).1
theorem At.c1 (h : At W p (u :: v :: vs)) : W.cell? ⟨p, 1, none⟩ = some v := (h.all 1 v rfl).1
theorem At.c2 (h : At W p (x :: u :: v :: vs)) : W.cell? ⟨p, 2, none⟩ = some v := (h.all 2 v rfl).1
theorem At.f0 (h : At W p (v :: vs)) : W.frozen? ⟨p, 0, none⟩ = false := (h.all 0 v rfl).2
theorem At.f1 (h : At W p (u :: v :: vs)) : W.frozen? ⟨p, 1, none⟩ = false := (h.all 1 v rfl).2
theorem At.f2 (h : At W p (x :: u :: v :: vs)) : W.frozen? ⟨p, 2, none⟩ = false := (h.all 2 v rfl).2
theorem at_new0 (W : World) (vs : List Value) (t : TypeId) : At (W.alloc (.cells vs.toArray t)) W.heap.size vs := by
  have h : (W.alloc (.cells vs.toArray t)).heap[W.heap.size]? = some (.cells vs.toArray t (0, 0)) := heap_alloc_new W _
  refine ⟨by simp, fun i v hv => ⟨?_, by unfold World.frozen?; rw [h]; simp⟩⟩
  rw [cell_of_row _ _ i _ t (0, 0) h]
  simpa using hv
theorem at_size {W X : World} {p : Nat} {vs : List Value} (h : At X W.heap.size vs) (e : W.heap.size = p) : At X p vs := e ▸ h
theorem at_new1 (W : World) (o : Obj) (vs : List Value) (t : TypeId) : At ((W.alloc o).alloc (.cells vs.toArray t)) (W.heap.size + 1) vs := at_size (at_new0 (W.alloc o) vs t) (by simp)
theorem at_new2 (W : World) (o o1 : Obj) (vs : List Value) (t : TypeId) : At (((W.alloc o).alloc o1).alloc (.cells vs.toArray t)) (W.heap.size + 1 + 1) vs := at_size (at_new0 ((W.alloc o).alloc o1) vs t) (by simp)
theorem at_new3 (W : World) (o o1 o2 : Obj) (vs : List Value) (t : TypeId) : At ((((W.alloc o).alloc o1).alloc o2).alloc (.cells vs.toArray t)) (W.heap.size + 1 + 1 + 1) vs := at_size (at_new0 (((W.alloc o).alloc o1).alloc o2) vs t) (by simp)
theorem at_new4 (W : World) (o o1 o2 o3 : Obj) (vs : List Value) (t : TypeId) : At (((((W.alloc o).alloc o1).alloc o2).alloc o3).alloc (.cells vs.toArray t)) (W.heap.size + 1 + 1 + 1 + 1) vs := at_size (at_new0 ((((W.alloc o).alloc o1).alloc o2).alloc o3) vs t) (by simp)
/-- A write into another block. -/
theorem At.far {q i : Nat} (h : At W p vs) (hq : q ≠ p) (u : Value) : At (W.setCell ⟨q, i, none⟩ u) p vs :=
  ⟨by have := h.lt; simpa [World.setCell] using this, fun j v hv => ⟨(World.cell?_setCell_far _ _ _ _ hq).trans (h.all j v hv).1, by rw [World.frozen?_setCell]; exact (h.all j v hv).2⟩⟩
/-- A write into this one. -/
theorem At.put {i : Nat} (h : At W p vs) (hi : i < vs.length) (u : Value) : At (W.setCell ⟨p, i, none⟩ u) p (vs.set i u) := by
  refine ⟨by have := h.lt; simpa [World.setCell] using this, fun j v hv => ?_⟩
  by_cases e : i = j
  · subst e
    rw [List.getElem?_set_self hi] at hv
    injection hv with hv
    obtain ⟨h1, h2⟩ := h.all i _ (List.getElem?_eq_getElem hi)
    exact ⟨by rw [← hv]; exact World.cell?_setCell_same _ _ _ h1, by rw [World.frozen?_setCell]; exact h2⟩
  · rw [List.getElem?_set_ne e] at hv
    exact ⟨(World.cell?_setCell_other _ _ _ _ (by intro h3; injection h3 with _ h4; exact e h4)).trans (h.all j v hv).1, by rw [World.frozen?_setCell]; exact (h.all j v hv).2⟩
theorem At.ci (h : At W p vs) {i : Nat} (hi : vs[i]? = some v) : W.cell? ⟨p, i, none⟩ = some v := (h.all i v hi).1
theorem At.fi (h : At W p vs) {i : Nat} (hi : vs[i]? = some v) : W.frozen? ⟨p, i, none⟩ = false := (h.all i v hi).2
end
def RetB (W : World) (b : Bool) (e : Ending) (w' : World) : Prop := e = .returned (.bool b) ∧ Bel W w'
end Go.Proofs.YtogekaakpfdhdaaDoor
