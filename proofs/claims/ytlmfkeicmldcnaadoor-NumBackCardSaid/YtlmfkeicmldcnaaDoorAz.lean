/- Statements of num: is, zis, the document's own integers. Conditions: less than 4000 words. -/
import Derived.Test.YtlmfkeicmldcnaaDoorZi
import Derived.Test.YtlmfkeicmldcnaaDoorZh
open Go.RowKit
set_option maxRecDepth 100000
namespace Go.Proofs.YtlmfkeicmldcnaaDoor
/-- Is a number, told just, the document's own? -/
theorem is2_any {A A' : Option Addr} {c c' m n : Nat} {w : World} (h : Can w w.heap.size A c m) (h' : RN w w.heap.size A' c' n) (hl : dl m < 4000) (hq : dq n ≤ 100000) :
    Calls Tryd.prog 79 #[.agg #[.slice A (dl m) c], .slice A' (dq n) c'] w fun e w' => e = .returned (.bool (decide (m = n))) ∧ Below w.heap.size w w' := by
  have HX : Hid (∀ o, Rd U32 (w.alloc o) (w.alloc o).heap.size A (digs W32 m)) := fun o => ((h.below ((Below.refl _ _).alloc (Nat.le_refl _) _)).more (by simp)).2
  have HY : Hid (∀ o, RN (w.alloc o) (w.alloc o).heap.size A' c' n) := fun o => (h'.below ((Below.refl _ _).alloc (Nat.le_refl _) _)).more (by simp)
  have HA : Hid (∀ o, Below w.heap.size w (w.alloc o)) := fun o => (Below.refl _ _).alloc (Nat.le_refl _) _
  have hqm : Hid (dq m ≤ 100000) := by have := dq_words (lt_pow_digs (b := W32) (by decide) m); unfold dl at hl; unfold Hid; omega
  have HG := hide (goodB_digs m)
  have hl2 : dl m ≤ 4000 := by omega
  have CW : Hid (∀ o W, Hid (Below (w.alloc o).heap.size (w.alloc o) W) → Calls Tryd.prog 27 #[.slice A (dl m) c] W (RefPost W m)) := fun o W hb => by
    have h1 := Words_any (c := c) (show dl m = (digs W32 m).length from rfl) (((HX.out o).below hb.out).more hb.out.size) (good_digs m) hl2
    rw [val_digs32] at h1
    exact h1
  clear h h'
  go_enter Tryd.func79, Tryd.ntmps79
  go_wp2_with (first | (go_at_call 22; go_must (refine (Good_any (show dl m = (digs W32 m).length from rfl) (HX.out _) (by omega)).mono ?_); rintro e w1 ⟨rfl, hb1⟩; have HB1 := hide hb1; have hg1 := HG.out; have hc1 : w1.cell? ⟨w.heap.size, 0, none⟩ = some (.slice A (dl m) c) := (hb1.cell (by simp)).trans (one_cell (heap_alloc_new w _)).1; clear hb1) | (go_at_call 27; go_must (refine (CW.out _ _ HB1).mono ?_); rintro e w2 ⟨A2, c2, rfl, hr2, hb2⟩) | (go_at_call 28; go_must (refine (rCmp_any hr2.out (((HY.out _).below HB1.out).below (hb2.out.mono HB1.out.size) |>.more (Nat.le_trans HB1.out.size hb2.out.size)) (Nat.le_trans hqm.out (by omega)) (by omega)).mono ?_); rintro e w3 ⟨rfl, q, rfl⟩))
  go_ret
  refine ⟨bool_ret ?_, below_drewN (((HA.out _).trans (HB1.out.mono (by simp))).trans (hb2.out.mono (Nat.le_trans (by simp) HB1.out.size))) q⟩
  exact cmpI_beq m n

theorem is2_same {W : World} {A A' : Option Addr} {c c' m : Nat} (h : Nm W A (dl m) c m) (h' : Hid (RN W W.heap.size A' c' m)) (hl : dl m < 4000) : Calls Tryd.prog 79 #[.agg #[.slice A (dl m) c], .slice A' (dq m) c'] W (BoolR W true) := by
  have hq : dq m ≤ 100000 := by have := dq_words (lt_pow_digs (b := W32) (by decide) m); unfold dl at hl; omega
  refine (is2_any (h.out.digs).1 h'.out hl hq).mono fun e w' ⟨he, hb⟩ => ⟨by rw [he, decide_eq_true rfl], hb⟩
/-- What a call of the document's own leaves that returns an integer. -/
def RZ (W : World) (z : Int) (e : Ending) (w' : World) : Prop := ∃ A c, e = .returned (.agg #[.bool (decide (z < 0)), .slice A (dq z.natAbs) c]) ∧ Hid (RN w' w'.heap.size A c z.natAbs) ∧ Hid (Below W.heap.size W w')
theorem RN.setn {W : World} {B : Nat} {A : Option Addr} {c m : Nat} (h : RN W B A c m) {p : Addr} {v : Value} (hc : W.cell? p = some v) (hv : ∀ x : Nat, v ≠ I64 x) (u : Value) : RN (W.setCell p u) B A c m := by
  refine ⟨h.1, fun hn => ?_⟩
  obtain ⟨ad, e, hb, hx⟩ := h.2 hn
  refine ⟨ad, e, hb, fun j x hj => ?_⟩
  have h6 := hx j x hj
  rw [World.cell?_setCell_other W p _ u (by intro e; rw [← e, hc] at h6; injection h6 with h6; exact hv x h6)]
  exact h6
theorem rn_z2 {W : World} {A : Option Addr} {c m g : Nat} {v0 : Bool} {a : Option Addr} {l k : Nat} {x y : Value} (h : Hid (RN W W.heap.size A c m)) (e0 : W.cell? ⟨g, 0, none⟩ = some (.bool v0)) (e1 : W.cell? ⟨g, 1, none⟩ = some (.slice a l k)) :
    Hid (RN ((W.setCell ⟨g, 0, none⟩ x).setCell ⟨g, 1, none⟩ y) ((W.setCell ⟨g, 0, none⟩ x).setCell ⟨g, 1, none⟩ y).heap.size A c m) := by
  have h1 := (h.out.setn e0 (by intro x hx; cases hx) x).setn (p := ⟨g, 1, none⟩) ((World.cell?_setCell_other _ _ _ _ (by intro e; cases e)).trans e1) (by intro x hx; cases hx) y
  have : ((W.setCell ⟨g, 0, none⟩ x).setCell ⟨g, 1, none⟩ y).heap.size = W.heap.size := by simp [World.setCell]
  unfold Hid
  rw [this]; exact h1
section
variable {W : World} {z : Int}
set_option maxHeartbeats 2000000 in
theorem zint_h (h1 : -9223372036854775808 ≤ z) (h2 : z ≤ 9223372036854775807) : Calls Tryd.prog 46 #[.int .i64 z] W (RZ W z) := by
  by_cases hn : z < 0
  · have e : -(z + 1) = ((z.natAbs - 1 : Nat) : Int) := by omega
    have CS1 : Hid (∀ W', Calls Tryd.prog 21 #[.int .u64 (-(z + 1))] W' (RefPost W' (z.natAbs - 1))) := fun W' => by rw [e]; exact Small_any (by omega)
    have CS2 : Hid (∀ W', Calls Tryd.prog 21 #[.int .u64 1] W' (RefPost W' 1)) := fun W' => Small_any (n := 1) (by omega)
    have CA : Hid (∀ W' B d B' d', Hid (RN W' W'.heap.size B d (z.natAbs - 1)) → Hid (RN W' W'.heap.size B' d' 1) → Calls Tryd.prog 32 #[.slice B (dq (z.natAbs - 1)) d, .slice B' (dq 1) d'] W' (RefPost W' z.natAbs)) := fun W' B d B' d' h h' => by
      have h3 := rAdd_any h.out h'.out (Nat.le_trans (dq_u64 (by omega)) (by omega)) (Nat.le_trans (dq_u64 (by omega)) (by omega))
      rwa [show z.natAbs - 1 + 1 = z.natAbs by omega] at h3
    have HZ : Hid (decide (z < 0) = true) := decide_eq_true hn
    clear e
    go_enter Tryd.func46, Tryd.ntmps46
    go_wp2_with (first | (go_at_call 21; (with_reducible refine (CS1.out _).mono ?_); rintro e w1 ⟨B, d, rfl, hn1, hbk⟩; have HR := hide ((zc_new _ _ _ _ _ _).up hbk); have HW : Hid (Below W.heap.size W w1) := (bz1 hbk).2.2.2) | (go_at_call 21; (with_reducible refine (CS2.out _).mono ?_); rintro e w2 ⟨B2, d2, rfl, hn2, hbk2⟩; replace HR := hide (HR.out.up hbk2); replace HW := chain HW hbk2.out; replace hn1 := hide ((hn1.out.below hbk2.out).more hbk2.out.size)) | (go_at_call 32; (with_reducible refine (CA.out _ _ _ _ _ hn1 hn2).mono ?_); rintro e w3 ⟨B3, d3, rfl, hn3, hbk3⟩; replace HR := hide (HR.out.up hbk3); replace HW := chain HW hbk3.out; have r0 := HR.out.c0; have r1 := HR.out.c1; have f0 := HR.out.f0; have f1 := HR.out.f1) | fail)
    refine bodyPost_ret (v := .agg #[.bool true, .slice B3 (dq z.natAbs) d3]) (by simp [results, Tryd.results46, go_sem, r0, r1]) rfl ?_
    exact ⟨B3, d3, by rw [HZ.out], rn_z2 hn3 r0 r1, (HW.out.setCell (by simp) _).setCell (by simp) _⟩
  · have e : IntKind.u64.wrap z = ((z.natAbs : Nat) : Int) := by rw [IntKind.wrap_u64]; omega
    have CS1 : Hid (∀ W', Calls Tryd.prog 21 #[.int .u64 (IntKind.u64.wrap z)] W' (RefPost W' z.natAbs)) := fun W' => by rw [e]; exact Small_any (by omega)
    have CS2 : Hid (∀ W', Calls Tryd.prog 21 #[.int .u64 z] W' (RefPost W' z.natAbs)) := fun W' => by rw [show z = ((z.natAbs : Nat) : Int) by omega]; exact Small_any (by omega)
    have HZ : Hid (decide (z < 0) = false) := decide_eq_false hn
    have hn' : 0 ≤ z := by omega
    clear e
    go_enter Tryd.func46, Tryd.ntmps46
    go_wp2_with (first | (go_at_call 21; (with_reducible refine (CS1.out _).mono ?_); rintro e w3 ⟨B3, d3, rfl, hn3, hbk⟩; have HR := hide ((zc_new _ _ _ _ _ _).up hbk); have HW : Hid (Below W.heap.size W w3) := (bz1 hbk).2.2.2; have r0 := HR.out.c0; have r1 := HR.out.c1; have f0 := HR.out.f0; have f1 := HR.out.f1) | (go_at_call 21; (with_reducible refine (CS2.out _).mono ?_); rintro e w3 ⟨B3, d3, rfl, hn3, hbk⟩; have HR := hide ((zc_new _ _ _ _ _ _).up hbk); have HW : Hid (Below W.heap.size W w3) := (bz1 hbk).2.2.2; have r0 := HR.out.c0; have r1 := HR.out.c1; have f0 := HR.out.f0; have f1 := HR.out.f1) | fail)
    refine bodyPost_ret (v := .agg #[.bool false, .slice B3 (dq z.natAbs) d3]) (by simp [results, Tryd.results46, go_sem, r0, r1]) rfl ?_
    exact ⟨B3, d3, by rw [HZ.out], rn_z2 hn3 r0 r1, (HW.out.setCell (by simp) _).setCell (by simp) _⟩
set_option maxHeartbeats 2000000 in
theorem zis_h {A A' : Option Addr} {c c' : Nat} (h : ZA W (decide (z < 0)) A (dl z.natAbs) c z) (h' : Hid (RN W W.heap.size A' c' z.natAbs)) (hl : dl z.natAbs < 4000) : Calls Tryd.prog 45 #[.agg #[.bool (decide (z < 0)), .slice A (dl z.natAbs) c], .agg #[.bool (decide (z < 0)), .slice A' (dq z.natAbs) c']] W (BoolR W true) := by
  have CG : Hid (∀ W', Below W.heap.size W W' → Calls Tryd.prog 41 #[.agg #[.bool (decide (z < 0)), .slice A (dl z.natAbs) c]] W' (BoolR W' true)) := fun W' hb => zgood_h (h.up hb)
  have CI : Hid (∀ W', Below W.heap.size W W' → Calls Tryd.prog 79 #[.agg #[.slice A (dl z.natAbs) c], .slice A' (dq z.natAbs) c'] W' (BoolR W' true)) := fun W' hb => is2_same (h.up hb).1 ((h'.out.below hb).more hb.size) hl
  clear h h' hl
  cases hb : decide (z < 0)
  all_goals
    rw [hb] at CG
    clear hb
    go_enter Tryd.func45, Tryd.ntmps45
    go_wp2_with (first | (go_at_call 41; (with_reducible refine (CG.out _ (al2 _ _ _)).mono ?_); rintro e w1 ⟨rfl, hbk⟩; have HA := hide (((zc_new _ _ _ _ _ _).al _).up hbk); have HA' := hide ((zc_new1 _ _ _ _ _ _ _).up hbk); have HW := hide ((al2 W _ _).trans (hbk.out.mono (al2 W _ _).size)); have a0 := HA.out.c0; have a1 := HA.out.c1; have b0 := HA'.out.c0; have b1 := HA'.out.c1) | (go_at_call 79; (with_reducible refine (CI.out _ HW.out).mono ?_); rintro e w2 ⟨rfl, hbk2⟩) | fail)
    go_ret
    exact ⟨rfl, chain HW hbk2.out⟩
end
end Go.Proofs.YtlmfkeicmldcnaaDoor
