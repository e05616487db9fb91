/- Package num: Sign, Of. Conditions: at most 100000 words. -/
import Derived.Test.YtlmfkeicmldcnaaDoorZa
open Go.RowKit
set_option maxRecDepth 100000
namespace Go.Proofs.YtlmfkeicmldcnaaDoor
theorem bz1 {a b : World} {v u : Value} {t : TypeId} (hb : Hid (Below (a.alloc (.cells #[v, u] t)).heap.size (a.alloc (.cells #[v, u] t)) b)) :
    b.cell? ⟨a.heap.size, 0, none⟩ = some v ∧ b.cell? ⟨a.heap.size, 1, none⟩ = some u ∧ Hid (a.heap.size + 1 ≤ b.heap.size) ∧ Hid (Below a.heap.size a b) := by
  have hs := hb.out.size
  simp at hs
  have h : (a.alloc (.cells #[v, u] t)).heap[a.heap.size]? = some (.cells #[v, u] t (0, 0)) := heap_alloc_new a _
  have hlt : a.heap.size < (a.alloc (.cells #[v, u] t)).heap.size := by simp
  exact ⟨(hb.out.cell hlt).trans (by rw [cell_of_row _ _ 0 _ t (0, 0) h]; rfl), (hb.out.cell hlt).trans (by rw [cell_of_row _ _ 1 _ t (0, 0) h]; rfl), hs, ((Below.refl _ _).alloc (Nat.le_refl _) _).trans (hb.out.mono (by simp))⟩
theorem bzf {a b : World} {v u : Value} {t : TypeId} (hb : Hid (Below (a.alloc (.cells #[v, u] t)).heap.size (a.alloc (.cells #[v, u] t)) b)) : b.frozen? ⟨a.heap.size, 0, none⟩ = false ∧ b.frozen? ⟨a.heap.size, 1, none⟩ = false := by
  have h : (a.alloc (.cells #[v, u] t)).heap[a.heap.size]? = some (.cells #[v, u] t (0, 0)) := heap_alloc_new a _
  have hlt : a.heap.size < (a.alloc (.cells #[v, u] t)).heap.size := by simp
  exact ⟨(hb.out.frozen hlt).trans (by unfold World.frozen?; rw [h]; simp), (hb.out.frozen hlt).trans (by unfold World.frozen?; rw [h]; simp)⟩
/-- A number's words are no cells of a result's variable. -/
theorem Nm.setn {W : World} {A : Option Addr} {n c m : Nat} (h : Nm W A n c m) {p : Addr} {v : Value} (hc : W.cell? p = some v) (hv : ∀ x : Nat, v ≠ U32 x) (u : Value) : Nm (W.setCell p u) A n c m := by
  obtain ⟨ws, h1, h2, h3, hr, h4⟩ := h.out
  refine ⟨ws, h1, h2, h3, ?_, h4⟩
  have h5 : Rd U32 (W.setCell p u) W.heap.size A ws := fun hn => by
    obtain ⟨ad, e, hb, hx⟩ := hr hn
    refine ⟨ad, e, hb, fun j x hj => ?_⟩
    have h6 := hx j x hj
    rw [World.cell?_setCell_other W p _ u (by intro e; rw [← e, hc] at h6; injection h6 with h6; exact hv x h6)]
    exact h6
  simpa [World.setCell] using h5
theorem nm_z2 {W : World} {A : Option Addr} {n c m g : Nat} {v0 : Bool} {a : Option Addr} {l k : Nat} {x y : Value} (h : Nm W A n c m) (e0 : W.cell? ⟨g, 0, none⟩ = some (.bool v0)) (e1 : W.cell? ⟨g, 1, none⟩ = some (.slice a l k)) :
    Nm ((W.setCell ⟨g, 0, none⟩ x).setCell ⟨g, 1, none⟩ y) A n c m :=
  (h.setn e0 (by intro x hx; cases hx) x).setn (p := ⟨g, 1, none⟩) ((World.cell?_setCell_other _ _ _ _ (by intro e; cases e)).trans e1) (by intro x hx; cases hx) y
section
variable {W : World} {b b' : Bool} {A A' : Option Addr} {n n' c c' : Nat} {z z' : Int}
theorem za_zero (h : ZA W b A n c z) (h0 : z = 0) : Calls Tryd.prog 78 #[.agg #[.slice A n c]] W (BoolR W true) := isZero_yes h.1 (by omega)
theorem za_some (h : ZA W b A n c z) (h0 : z ≠ 0) : Calls Tryd.prog 78 #[.agg #[.slice A n c]] W (BoolR W false) := isZero_no h.1 (by omega)
theorem za_sign (h : ZA W b A n c z) (h0 : z ≠ 0) : b = decide (z < 0) := by
  have h1 := h.2.out
  cases b
  · rw [zi_false] at h1; exact (decide_eq_false (by omega)).symm
  · rw [zi_true] at h1; exact (decide_eq_true (by omega)).symm
theorem sign_h {v : Int} (h : ZA W b A n c z) (hv : z.sign = v) : Calls Tryd.prog 42 #[.agg #[.bool b, .slice A n c]] W (IntPost W v) := by
  subst hv
  by_cases h0 : z = 0
  · have CZ : Hid (∀ o, Calls Tryd.prog 78 #[.agg #[.slice A n c]] (W.alloc o) (BoolR (W.alloc o) true)) := fun o => za_zero (h.al o) h0
    subst h0
    clear h
    go_enter Tryd.func42, Tryd.ntmps42
    go_wp2_with (go_at_call 78; (with_reducible refine (CZ.out _).mono ?_); rintro e w1 ⟨rfl, hbk⟩; obtain ⟨e0, e1, hsz, hbx⟩ := bz1 hbk)
    go_ret
    exact ⟨rfl, hbx⟩
  · have CZ : Hid (∀ o, Calls Tryd.prog 78 #[.agg #[.slice A n c]] (W.alloc o) (BoolR (W.alloc o) false)) := fun o => za_some (h.al o) h0
    have hb := za_sign h h0
    by_cases hn : z < 0
    · rw [decide_eq_true hn] at hb
      subst hb
      have HS : Hid (z.sign = -1) := Int.sign_eq_neg_one_of_neg hn
      clear h h0 hn
      go_enter Tryd.func42, Tryd.ntmps42
      go_wp2_with (go_at_call 78; (with_reducible refine (CZ.out _).mono ?_); rintro e w1 ⟨rfl, hbk⟩; obtain ⟨e0, e1, hsz, hbx⟩ := bz1 hbk)
      go_ret
      exact ⟨by rw [HS.out]; rfl, hbx⟩
    · rw [decide_eq_false hn] at hb
      subst hb
      have HS : Hid (z.sign = 1) := Int.sign_eq_one_of_pos (by omega)
      clear h h0 hn
      go_enter Tryd.func42, Tryd.ntmps42
      go_wp2_with (go_at_call 78; (with_reducible refine (CZ.out _).mono ?_); rintro e w1 ⟨rfl, hbk⟩; obtain ⟨e0, e1, hsz, hbx⟩ := bz1 hbk)
      go_ret
      exact ⟨by rw [HS.out]; rfl, hbx⟩
theorem zr_of {w' : World} {A : Option Addr} {c : Nat} {z : Int} (h : Nm w' A (dl z.natAbs) c z.natAbs) : ZA w' (decide (z < 0)) A (dl z.natAbs) c z := ⟨h, zi_dec z⟩
set_option maxHeartbeats 1000000 in
theorem zof_h (h1 : -9223372036854775808 ≤ z) (h2 : z ≤ 9223372036854775807) : Calls Tryd.prog 40 #[.int .i64 z] W (ZR W z) := by
  by_cases hn : z < 0
  · have e : IntKind.u64.wrap (-IntKind.u64.wrap z) = ((z.natAbs : Nat) : Int) := by rw [IntKind.wrap_u64, IntKind.wrap_u64]; omega
    have CO : Hid (∀ o, Calls Tryd.prog 14 #[.int .u64 (IntKind.u64.wrap (-IntKind.u64.wrap z))] (W.alloc o) (NumR (W.alloc o) z.natAbs)) := fun o => by rw [e]; exact of_h (by omega)
    have HZ : Hid (decide (z < 0) = true) := decide_eq_true hn
    clear e
    go_enter Tryd.func40, Tryd.ntmps40
    go_wp2_with (go_at_call 14; (with_reducible refine (CO.out _).mono ?_); rintro e w1 ⟨B, d, rfl, hn1, hbk⟩; obtain ⟨e0, e1, hsz, hbx⟩ := bz1 hbk; obtain ⟨f0, f1⟩ := bzf hbk)
    refine bodyPost_ret (v := .agg #[.bool true, .slice B (dl z.natAbs) d]) (by simp [results, Tryd.results40, go_sem, e0, e1]) rfl ?_
    refine ⟨B, d, by rw [HZ.out], zr_of ?_, (hbx.out.setCell (by simp) _).setCell (by simp) _⟩
    exact nm_z2 hn1 e0 e1
  · have e : IntKind.u64.wrap z = ((z.natAbs : Nat) : Int) := by rw [IntKind.wrap_u64]; omega
    have CO : Hid (∀ o, Calls Tryd.prog 14 #[.int .u64 (IntKind.u64.wrap z)] (W.alloc o) (NumR (W.alloc o) z.natAbs)) := fun o => by rw [e]; exact of_h (by omega)
    have CO2 : Hid (∀ o, Calls Tryd.prog 14 #[.int .u64 z] (W.alloc o) (NumR (W.alloc o) z.natAbs)) := fun o => by rw [show z = ((z.natAbs : Nat) : Int) by omega]; exact of_h (by omega)
    have HZ : Hid (decide (z < 0) = false) := decide_eq_false hn
    clear e
    have hn' : 0 ≤ z := by omega
    go_enter Tryd.func40, Tryd.ntmps40
    go_wp2_with (go_at_call 14; first | (with_reducible refine (CO.out _).mono ?_) | (with_reducible refine (CO2.out _).mono ?_); rintro e w1 ⟨B, d, rfl, hn1, hbk⟩; obtain ⟨e0, e1, hsz, hbx⟩ := bz1 hbk; obtain ⟨f0, f1⟩ := bzf hbk)
    refine bodyPost_ret (v := .agg #[.bool false, .slice B (dl z.natAbs) d]) (by simp [results, Tryd.results40, go_sem, e0, e1]) rfl ?_
    refine ⟨B, d, by rw [HZ.out], zr_of ?_, (hbx.out.setCell (by simp) _).setCell (by simp) _⟩
    exact nm_z2 hn1 e0 e1
end
end Go.Proofs.YtlmfkeicmldcnaaDoor
