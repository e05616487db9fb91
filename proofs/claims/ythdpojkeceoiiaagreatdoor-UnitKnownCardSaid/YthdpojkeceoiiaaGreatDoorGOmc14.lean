/- Several texts in one, each with its own sentence and conditions. -/
import Derived.Test.YthdpojkeceoiiaaGreatDoorZa
section
/- Package num: Sign, Of. Conditions: at most 100000 words. -/
open Go.RowKit
set_option maxRecDepth 100000
namespace Go.Proofs.YthdpojkeceoiiaaGreatDoor
theorem bz1 {a b : World} {v u : Value} {t : TypeId} (hb : Hid (Below (a.alloc (.cells #[v, u] t)).heap.size (a.alloc (.cells #[v, u] t)) b)) :
    b.cell? ⟨a.heap.size, 0, none⟩ = some v ∧ b.cell? ⟨a.heap.size, 1, none⟩ = some u ∧ Hid (a.heap.size + 1 ≤ b.heap.size) ∧ Hid (Below a.heap.size a b) := by
  have hs := hb.out.size
  simp at hs
  have h : (a.alloc (.cells #[v, u] t)).heap[a.heap.size]? = some (.cells #[v, u] t (0, 0)) := heap_alloc_new a _
  have hlt : a.heap.size < (a.alloc (.cells #[v, u] t)).heap.size := by simp
  exact ⟨(hb.out.cell hlt).trans (by rw [cell_of_row _ _ 0 _ t (0, 0) h]; rfl), (hb.out.cell hlt).trans (by rw [cell_of_row _ _ 1 _ t (0, 0) h]; rfl), hs, ((Below.refl _ _).alloc (Nat.le_refl _) _).trans (hb.out.mono (by simp))⟩
theorem bzf {a b : World} {v u : Value} {t : TypeId} (hb : Hid (Below (a.alloc (.cells #[v, u] t)).heap.size (a.alloc (.cells #[v, u] t)) b)) : b.frozen? ⟨a.heap.size, 0, none⟩ = false ∧ b.frozen? ⟨a.heap.size, 1, none⟩ = false := by
  have h : (a.alloc (.cells #[v, u] t)).heap[a.heap.size]? = some (.cells #[v, u] t (0, 0)) := heap_alloc_new a _
  have hlt : a.heap.size < (a.alloc (.cells #[v, u] t)).heap.size := by simp
  exact ⟨(hb.out.frozen hlt).trans (by unfold World.frozen?; rw [h]; simp), (hb.out.frozen hlt).trans (by unfold World.frozen?; rw [h]; simp)⟩
/-- A number's words are no cells of a result's variable. -/
theorem Nm.setn {W : World} {A : Option Addr} {n c m : Nat} (h : Nm W A n c m) {p : Addr} {v : Value} (hc : W.cell? p = some v) (hv : ∀ x : Nat, v ≠ U32 x) (u : Value) : Nm (W.setCell p u) A n c m := by
  obtain ⟨ws, h1, h2, h3, hr, h4⟩ := h.out
  refine ⟨ws, h1, h2, h3, ?_, h4⟩
  have h5 : Rd U32 (W.setCell p u) W.heap.size A ws := fun hn => by
    obtain ⟨ad, e, hb, hx⟩ := hr hn
    refine ⟨ad, e, hb, fun j x hj => ?_⟩
    have h6 := hx j x hj
    rw [World.cell?_setCell_other W p _ u (by intro e; rw [← e, hc] at h6; injection h6 with h6; exact hv x h6)]
    exact h6
  simpa [World.setCell] using h5
theorem nm_z2 {W : World} {A : Option Addr} {n c m g : Nat} {v0 : Bool} {a : Option Addr} {l k : Nat} {x y : Value} (h : Nm W A n c m) (e0 : W.cell? ⟨g, 0, none⟩ = some (.bool v0)) (e1 : W.cell? ⟨g, 1, none⟩ = some (.slice a l k)) :
    Nm ((W.setCell ⟨g, 0, none⟩ x).setCell ⟨g, 1, none⟩ y) A n c m :=
  (h.setn e0 (by intro x hx; cases hx) x).setn (p := ⟨g, 1, none⟩) ((World.cell?_setCell_other _ _ _ _ (by intro e; cases e)).trans e1) (by intro x hx; cases hx) y
section
variable {W : World} {b b' : Bool} {A A' : Option Addr} {n n' c c' : Nat} {z z' : Int}
theorem za_sign (h : ZA W b A n c z) (h0 : z ≠ 0) : b = decide (z < 0) := by
  have h1 := h.2.out
  cases b
  · rw [zi_false] at h1; exact (decide_eq_false (by omega)).symm
  · rw [zi_true] at h1; exact (decide_eq_true (by omega)).symm
theorem zr_of {w' : World} {A : Option Addr} {c : Nat} {z : Int} (h : Nm w' A (dl z.natAbs) c z.natAbs) : ZA w' (decide (z < 0)) A (dl z.natAbs) c z := ⟨h, zi_dec z⟩
end
end Go.Proofs.YthdpojkeceoiiaaGreatDoor
end

section
/- Package num: Neg, Mul, Add. Conditions: at most 100000 words. -/
open Go.RowKit
set_option maxRecDepth 100000
namespace Go.Proofs.YthdpojkeceoiiaaGreatDoor
/-- Block p holds a sign and a slice, none frozen. -/
structure Zcell (W : World) (p : Nat) (b : Bool) (A : Option Addr) (n c : Nat) : Prop where
  c0 : W.cell? ⟨p, 0, none⟩ = some (.bool b)
  c1 : W.cell? ⟨p, 1, none⟩ = some (.slice A n c)
  f0 : W.frozen? ⟨p, 0, none⟩ = false
  f1 : W.frozen? ⟨p, 1, none⟩ = false
  lt : p < W.heap.size
theorem Zcell.up {W W' : World} {p : Nat} {b : Bool} {A : Option Addr} {n c : Nat} (h : Zcell W p b A n c) (hb : Hid (Below W.heap.size W W')) : Zcell W' p b A n c :=
  ⟨(hb.out.cell h.lt).trans h.c0, (hb.out.cell h.lt).trans h.c1, (hb.out.frozen h.lt).trans h.f0, (hb.out.frozen h.lt).trans h.f1, Nat.lt_of_lt_of_le h.lt hb.out.size⟩
theorem Zcell.al {W : World} {p : Nat} {b : Bool} {A : Option Addr} {n c : Nat} (h : Zcell W p b A n c) (o : Obj) : Zcell (W.alloc o) p b A n c := h.up ((Below.refl _ _).alloc (Nat.le_refl _) o)
theorem Zcell.dr {W : World} {p : Nat} {b : Bool} {A : Option Addr} {n c : Nat} (h : Zcell W p b A n c) : Zcell W.drew p b A n c := ⟨h.c0, h.c1, h.f0, h.f1, h.lt⟩
theorem zc_new (W : World) (b : Bool) (A : Option Addr) (n c : Nat) (t : TypeId) : Zcell (W.alloc (.cells #[.bool b, .slice A n c] t)) W.heap.size b A n c := by
  have h : (W.alloc (.cells #[.bool b, .slice A n c] t)).heap[W.heap.size]? = some (.cells #[.bool b, .slice A n c] t (0, 0)) := heap_alloc_new W _
  exact ⟨by rw [cell_of_row _ _ 0 _ t (0, 0) h]; rfl, by rw [cell_of_row _ _ 1 _ t (0, 0) h]; rfl, by unfold World.frozen?; rw [h]; simp, by unfold World.frozen?; rw [h]; simp, by simp⟩
theorem zc_new1 (W : World) (o : Obj) (b : Bool) (A : Option Addr) (n c : Nat) (t : TypeId) : Zcell ((W.alloc o).alloc (.cells #[.bool b, .slice A n c] t)) (W.heap.size + 1) b A n c := by
  have h := zc_new (W.alloc o) b A n c t
  rwa [show (W.alloc o).heap.size = W.heap.size + 1 by simp] at h
theorem zc_new2 (W : World) (o o' : Obj) (b : Bool) (A : Option Addr) (n c : Nat) (t : TypeId) : Zcell (((W.alloc o).alloc o').alloc (.cells #[.bool b, .slice A n c] t)) (W.heap.size + 1 + 1) b A n c := by
  have h := zc_new ((W.alloc o).alloc o') b A n c t
  rwa [show ((W.alloc o).alloc o').heap.size = W.heap.size + 1 + 1 by simp] at h
section
variable {W : World} {b b' : Bool} {A A' : Option Addr} {n n' c c' : Nat} {z z' : Int}
/-- Behind the result's variable. -/
theorem zr_end {w2 : World} {B : Option Addr} {d p m : Nat} {v : Int} {s0 : Bool} {a0 : Option Addr} {l0 k0 : Nat} (hW : Hid (Below W.heap.size W w2)) (hp : W.heap.size ≤ p) (hR : Hid (Zcell w2 p s0 a0 l0 k0)) (hn : Nm w2 B (dl m) d m) (hm : m = v.natAbs) :
    ZR W v (.returned (.agg #[.bool (decide (v < 0)), .slice B (dl m) d])) ((w2.setCell ⟨p, 0, none⟩ (.bool (decide (v < 0)))).setCell ⟨p, 1, none⟩ (.slice B (dl m) d)) := by
  subst hm
  exact ⟨B, d, rfl, zr_of (nm_z2 hn hR.out.c0 hR.out.c1), (hW.out.setCell (by simpa using hp) _).setCell (by simpa using hp) _⟩
theorem far2 {w : World} {p q i : Nat} {v u x : Value} (hq : p ≠ q) (h : w.cell? ⟨q, i, none⟩ = some x) : ((w.setCell ⟨p, 0, none⟩ v).setCell ⟨p, 1, none⟩ u).cell? ⟨q, i, none⟩ = some x :=
  (World.cell?_setCell_far _ _ _ _ hq).trans ((World.cell?_setCell_far _ _ _ _ hq).trans h)
theorem zi_mul (b b' : Bool) (m m' : Nat) : zi b m * zi b' m' = zi (b != b') (m * m') := by
  cases b <;> cases b' <;> simp [zi, Int.mul_neg, Int.neg_mul]
end
end Go.Proofs.YthdpojkeceoiiaaGreatDoor
end
