/- Package num: isZero, signed, Sign, Of. Conditions: at most 100000 words. -/
import Derived.Test.YthdpojkeceoiiaaGreatDoorKp
open Go.RowKit
set_option maxRecDepth 100000
namespace Go.Proofs.YthdpojkeceoiiaaGreatDoor
/-- The integer that a sign and a size tell. -/
def zi (b : Bool) (m : Nat) : Int := if b then -(m : Int) else (m : Int)
theorem zi_true (m : Nat) : zi true m = -(m : Int) := rfl
theorem zi_false (m : Nat) : zi false m = (m : Int) := rfl
theorem zi_abs (b : Bool) (m : Nat) : (zi b m).natAbs = m := by cases b <;> simp [zi]
/-- In world W the sign and the slice tell z. -/
def ZA (W : World) (b : Bool) (A : Option Addr) (n c : Nat) (z : Int) : Prop := Nm W A n c z.natAbs ∧ Hid (z = zi b z.natAbs)
theorem za_of {W : World} {b : Bool} {A : Option Addr} {n c m : Nat} (h : Nm W A n c m) : ZA W b A n c (zi b m) := ⟨by rw [zi_abs]; exact h, by unfold Hid; rw [zi_abs]⟩
theorem ZA.up {W W' : World} {b : Bool} {A : Option Addr} {n c : Nat} {z : Int} (h : ZA W b A n c z) (hb : Hid (Below W.heap.size W W')) : ZA W' b A n c z := ⟨h.1.up hb, h.2⟩
theorem ZA.al {W : World} {b : Bool} {A : Option Addr} {n c : Nat} {z : Int} (h : ZA W b A n c z) (o : Obj) : ZA (W.alloc o) b A n c z := ⟨h.1.al o, h.2⟩
theorem ZA.dr {W : World} {b : Bool} {A : Option Addr} {n c : Nat} {z : Int} (h : ZA W b A n c z) : ZA W.drew b A n c z := h
/-- What a call leaves that returns an integer: valid. -/
def ZR (W : World) (z : Int) (e : Ending) (w' : World) : Prop :=
  ∃ A c, e = .returned (.agg #[.bool (decide (z < 0)), .slice A (dl z.natAbs) c]) ∧ ZA w' (decide (z < 0)) A (dl z.natAbs) c z ∧ Hid (Below W.heap.size W w')
theorem zi_dec (z : Int) : z = zi (decide (z < 0)) z.natAbs := by
  unfold zi
  by_cases h : z < 0
  · rw [decide_eq_true h, if_pos rfl]; omega
  · rw [decide_eq_false h]; simp; omega
section
variable {W : World} {A A' : Option Addr} {n n' c c' m m' : Nat}
/-- What signed leaves. -/
def SgR (W : World) (b : Bool) (A : Option Addr) (n c : Nat) (e : Ending) (w' : World) : Prop := e = .returned (.agg #[.bool b, .slice A n c]) ∧ Hid (Below W.heap.size W w')
theorem sg1 (W : World) (v : Value) (t : TypeId) (o : Obj) : ((W.alloc (.cells #[v] t)).alloc o).cell? ⟨W.heap.size, 0, none⟩ = some v :=
  (World.cell?_alloc_lt _ _ _ (by show W.heap.size < _; simp)).trans (one_cell (heap_alloc_new W (.cells #[v] t))).1
theorem sg2 (W : World) (o : Obj) (v u : Value) (t : TypeId) : ((W.alloc o).alloc (.cells #[v, u] t)).cell? ⟨W.heap.size + 1, 0, none⟩ = some v ∧ ((W.alloc o).alloc (.cells #[v, u] t)).cell? ⟨W.heap.size + 1, 1, none⟩ = some u ∧
    (∀ i, ((W.alloc o).alloc (.cells #[v, u] t)).frozen? ⟨W.heap.size + 1, i, none⟩ = false) ∧ Below W.heap.size W ((W.alloc o).alloc (.cells #[v, u] t)) ∧ ((W.alloc o).alloc (.cells #[v, u] t)).heap.size = W.heap.size + 2 := by
  have h : ((W.alloc o).alloc (.cells #[v, u] t)).heap[W.heap.size + 1]? = some (.cells #[v, u] t (0, 0)) := by simpa using heap_alloc_new (W.alloc o) (.cells #[v, u] t)
  refine ⟨by rw [cell_of_row _ _ 0 _ t (0, 0) h]; rfl, by rw [cell_of_row _ _ 1 _ t (0, 0) h]; rfl, fun i => by unfold World.frozen?; rw [h]; simp, ((Below.refl _ _).alloc (Nat.le_refl _) _).alloc (by simp) _, by simp⟩
theorem sg3 {W w1 : World} {o : Obj} {v u : Value} {t : TypeId} (hb : Hid (Below ((W.alloc o).alloc (.cells #[v, u] t)).drew.heap.size ((W.alloc o).alloc (.cells #[v, u] t)).drew w1)) :
    w1.cell? ⟨W.heap.size + 1, 0, none⟩ = some v ∧ w1.cell? ⟨W.heap.size + 1, 1, none⟩ = some u ∧ w1.frozen? ⟨W.heap.size + 1, 0, none⟩ = false ∧ w1.frozen? ⟨W.heap.size + 1, 1, none⟩ = false ∧ Hid (Below W.heap.size W w1) := by
  obtain ⟨h1, h2, h3, h4, h5⟩ := sg2 W o v u t
  have hlt : W.heap.size + 1 < ((W.alloc o).alloc (.cells #[v, u] t)).drew.heap.size := by show _ < ((W.alloc o).alloc (.cells #[v, u] t)).heap.size; omega
  exact ⟨(hb.out.cell hlt).trans h1, (hb.out.cell hlt).trans h2, (hb.out.frozen hlt).trans (h3 0), (hb.out.frozen hlt).trans (h3 1), (h4.drew).trans (hb.out.mono (by omega))⟩
end
end Go.Proofs.YthdpojkeceoiiaaGreatDoor
