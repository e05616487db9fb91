/- Package num: isZero, signed, Sign, Of. Conditions: at most 100000 words. -/
import Derived.Test.YtmiklffjffdkgaaGreatDoorGRwbc9
open Go.RowKit
set_option maxRecDepth 100000
namespace Go.Proofs.YtmiklffjffdkgaaGreatDoor
/-- The integer that a sign and a size tell. -/
def zi (b : Bool) (m : Nat) : Int := if b then -(m : Int) else (m : Int)
theorem zi_true (m : Nat) : zi true m = -(m : Int) := rfl
theorem zi_false (m : Nat) : zi false m = (m : Int) := rfl
theorem zi_abs (b : Bool) (m : Nat) : (zi b m).natAbs = m := by cases b <;> simp [zi]
/-- In world W the sign and the slice tell z. -/
def ZA (W : World) (b : Bool) (A : Option Addr) (n c : Nat) (z : Int) : Prop := Nm W A n c z.natAbs ∧ Hid (z = zi b z.natAbs)
theorem za_of {W : World} {b : Bool} {A : Option Addr} {n c m : Nat} (h : Nm W A n c m) : ZA W b A n c (zi b m) := ⟨by rw [zi_abs]; exact h, by unfold Hid; rw [zi_abs]⟩
theorem ZA.up {W W' : World} {b : Bool} {A : Option Addr} {n c : Nat} {z : Int} (h : ZA W b A n c z) (hb : Hid (Below W.heap.size W W')) : ZA W' b A n c z := ⟨h.1.up hb, h.2⟩
theorem ZA.al {W : World} {b : Bool} {A : Option Addr} {n c : Nat} {z : Int} (h : ZA W b A n c z) (o : Obj) : ZA (W.alloc o) b A n c z := ⟨h.1.al o, h.2⟩
theorem ZA.dr {W : World} {b : Bool} {A : Option Addr} {n c : Nat} {z : Int} (h : ZA W b A n c z) : ZA W.drew b A n c z := h
/-- What a call leaves that returns an integer: valid. -/
def ZR (W : World) (z : Int) (e : Ending) (w' : World) : Prop :=
  ∃ A c, e = .returned (.agg #[.bool (decide (z < 0)), .slice A (dl z.natAbs) c]) ∧ ZA w' (decide (z < 0)) A (dl z.natAbs) c z ∧ Hid (Below W.heap.size W w')
theorem zi_dec (z : Int) : z = zi (decide (z < 0)) z.natAbs := by
  unfold zi
  by_cases h : z < 0
  · rw [decide_eq_true h, if_pos rfl]; omega
  · rw [decide_eq_false h]; simp; omega
section
variable {W : World} {A A' : Option Addr} {n n' c c' m m' : Nat}
theorem isZero_yes (h : Nm W A n c m) (h0 : m = 0) : Calls Tryz.prog 76 #[.agg #[.slice A n c]] W (BoolR W true) := by
  have CC : Hid (∀ o, Calls Tryz.prog 31 #[.agg #[.slice A n c], .agg #[.slice none 0 0]] (W.alloc o) (IntPost (W.alloc o) 0)) := fun o => cmp_h (h.al o) (nm_nil _ none 0) (cmpI_eq h0)
  clear h h0
  go_enter Tryz.func76, Tryz.ntmps76
  go_wp2_with (go_at_call 31; (with_reducible refine (CC.out _).mono ?_); rintro e w1 ⟨rfl, hbk⟩)
  go_ret
  exact ⟨rfl, (bx1 hbk).2.2⟩
theorem isZero_no (h : Nm W A n c m) (h0 : 0 < m) : Calls Tryz.prog 76 #[.agg #[.slice A n c]] W (BoolR W false) := by
  have CC : Hid (∀ o, Calls Tryz.prog 31 #[.agg #[.slice A n c], .agg #[.slice none 0 0]] (W.alloc o) (IntPost (W.alloc o) 1)) := fun o => cmp_h (h.al o) (nm_nil _ none 0) (cmpI_gt h0)
  clear h h0
  go_enter Tryz.func76, Tryz.ntmps76
  go_wp2_with (go_at_call 31; (with_reducible refine (CC.out _).mono ?_); rintro e w1 ⟨rfl, hbk⟩)
  go_ret
  exact ⟨rfl, (bx1 hbk).2.2⟩
/-- What signed leaves. -/
def SgR (W : World) (b : Bool) (A : Option Addr) (n c : Nat) (e : Ending) (w' : World) : Prop := e = .returned (.agg #[.bool b, .slice A n c]) ∧ Hid (Below W.heap.size W w')
theorem sg1 (W : World) (v : Value) (t : TypeId) (o : Obj) : ((W.alloc (.cells #[v] t)).alloc o).cell? ⟨W.heap.size, 0, none⟩ = some v :=
  (World.cell?_alloc_lt _ _ _ (by show W.heap.size < _; simp)).trans (one_cell (heap_alloc_new W (.cells #[v] t))).1
theorem sg2 (W : World) (o : Obj) (v u : Value) (t : TypeId) : ((W.alloc o).alloc (.cells #[v, u] t)).cell? ⟨W.heap.size + 1, 0, none⟩ = some v ∧ ((W.alloc o).alloc (.cells #[v, u] t)).cell? ⟨W.heap.size + 1, 1, none⟩ = some u ∧
    (∀ i, ((W.alloc o).alloc (.cells #[v, u] t)).frozen? ⟨W.heap.size + 1, i, none⟩ = false) ∧ Below W.heap.size W ((W.alloc o).alloc (.cells #[v, u] t)) ∧ ((W.alloc o).alloc (.cells #[v, u] t)).heap.size = W.heap.size + 2 := by
  have h : ((W.alloc o).alloc (.cells #[v, u] t)).heap[W.heap.size + 1]? = some (.cells #[v, u] t (0, 0)) := by simpa using heap_alloc_new (W.alloc o) (.cells #[v, u] t)
  refine ⟨by rw [cell_of_row _ _ 0 _ t (0, 0) h]; rfl, by rw [cell_of_row _ _ 1 _ t (0, 0) h]; rfl, fun i => by unfold World.frozen?; rw [h]; simp, ((Below.refl _ _).alloc (Nat.le_refl _) _).alloc (by simp) _, by simp⟩
theorem sg3 {W w1 : World} {o : Obj} {v u : Value} {t : TypeId} (hb : Hid (Below ((W.alloc o).alloc (.cells #[v, u] t)).drew.heap.size ((W.alloc o).alloc (.cells #[v, u] t)).drew w1)) :
    w1.cell? ⟨W.heap.size + 1, 0, none⟩ = some v ∧ w1.cell? ⟨W.heap.size + 1, 1, none⟩ = some u ∧ w1.frozen? ⟨W.heap.size + 1, 0, none⟩ = false ∧ w1.frozen? ⟨W.heap.size + 1, 1, none⟩ = false ∧ Hid (Below W.heap.size W w1) := by
  obtain ⟨h1, h2, h3, h4, h5⟩ := sg2 W o v u t
  have hlt : W.heap.size + 1 < ((W.alloc o).alloc (.cells #[v, u] t)).drew.heap.size := by show _ < ((W.alloc o).alloc (.cells #[v, u] t)).heap.size; omega
  exact ⟨(hb.out.cell hlt).trans h1, (hb.out.cell hlt).trans h2, (hb.out.frozen hlt).trans (h3 0), (hb.out.frozen hlt).trans (h3 1), (h4.drew).trans (hb.out.mono (by omega))⟩
set_option maxHeartbeats 1000000 in
theorem signed_plus : Calls Tryz.prog 96 #[.bool false, .agg #[.slice A n c]] W (SgR W false A n c) := by
  go_enter Tryz.func96, Tryz.ntmps96
  go_wp2_with fail
  go_region_with (fail)
  all_goals
    go_wp2_with fail
    refine bodyPost_ret (v := .agg #[.bool false, .slice A n c]) (by simp [results, Tryz.results96, go_sem]) rfl ⟨rfl, ?_⟩
    exact below_drewN (((Below.refl _ _).alloc (Nat.le_refl _) _).alloc (by simp) _) 1
theorem signed_call {b : Bool} (CZ : ∀ W', Below W.heap.size W W' → Calls Tryz.prog 76 #[.agg #[.slice A n c]] W' (BoolR W' b)) : Calls Tryz.prog 96 #[.bool true, .agg #[.slice A n c]] W (SgR W (!b) A n c) := by
  have CC := hide CZ
  clear CZ
  cases b
  all_goals
    go_enter Tryz.func96, Tryz.ntmps96
    go_wp2_with fail
    go_region_held3 (fun w' => w'.cell? ⟨W.heap.size, 0, none⟩ = some (.slice A n c))
      (first | exact sg1 _ _ _ _ | exact (hbk.out.cell (by show W.heap.size < ((W.alloc _).alloc _).heap.size; simp; omega)).trans (sg1 _ _ _ _) | (rw [World.cell?_setCell_far _ _ _ _ (by simp), World.cell?_setCell_far _ _ _ _ (by simp)]; assumption))
      (first | (go_at_call 76; (with_reducible refine (CC.out _ ((sg2 W _ _ _ _).2.2.2.1.drew)).mono ?_); rintro e w1 ⟨rfl, hbk⟩; obtain ⟨e0, e1, f0, f1, HB⟩ := sg3 hbk) | fail)
    go_wp2_with fail
  · refine bodyPost_ret (v := .agg #[.bool true, .slice A n c]) (by simp [results, Tryz.results96, go_sem, e0, e1]) rfl ⟨rfl, ?_⟩
    exact (HB.out.setCell (by simp) _).setCell (by simp) _
  · refine bodyPost_ret (v := .agg #[.bool false, .slice A n c]) (by simp [results, Tryz.results96, go_sem, e0, e1]) rfl ⟨rfl, ?_⟩
    exact (HB.out.setCell (by simp) _).setCell (by simp) _
end
end Go.Proofs.YtmiklffjffdkgaaGreatDoor
