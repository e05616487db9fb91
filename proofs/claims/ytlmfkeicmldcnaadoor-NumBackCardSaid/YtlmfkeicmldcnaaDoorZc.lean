/- Package num: Neg, Mul, Add. Conditions: at most 100000 words. -/
import Derived.Test.YtlmfkeicmldcnaaDoorZb
open Go.RowKit
set_option maxRecDepth 100000
namespace Go.Proofs.YtlmfkeicmldcnaaDoor
/-- Block p holds a sign and a slice, none frozen. -/
structure Zcell (W : World) (p : Nat) (b : Bool) (A : Option Addr) (n c : Nat) : Prop where
  c0 : W.cell? ⟨p, 0, none⟩ = some (.bool b)
  c1 : W.cell? ⟨p, 1, none⟩ = some (.slice A n c)
  f0 : W.frozen? ⟨p, 0, none⟩ = false
  f1 : W.frozen? ⟨p, 1, none⟩ = false
  lt : p < W.heap.size
theorem Zcell.up {W W' : World} {p : Nat} {b : Bool} {A : Option Addr} {n c : Nat} (h : Zcell W p b A n c) (hb : Hid (Below W.heap.size W W')) : Zcell W' p b A n c :=
  ⟨(hb.out.cell h.lt).trans h.c0, (hb.out.cell h.lt).trans h.c1, (hb.out.frozen h.lt).trans h.f0, (hb.out.frozen h.lt).trans h.f1, Nat.lt_of_lt_of_le h.lt hb.out.size⟩
theorem Zcell.al {W : World} {p : Nat} {b : Bool} {A : Option Addr} {n c : Nat} (h : Zcell W p b A n c) (o : Obj) : Zcell (W.alloc o) p b A n c := h.up ((Below.refl _ _).alloc (Nat.le_refl _) o)
theorem Zcell.dr {W : World} {p : Nat} {b : Bool} {A : Option Addr} {n c : Nat} (h : Zcell W p b A n c) : Zcell W.drew p b A n c := ⟨h.c0, h.c1, h.f0, h.f1, h.lt⟩
theorem zc_new (W : World) (b : Bool) (A : Option Addr) (n c : Nat) (t : TypeId) : Zcell (W.alloc (.cells #[.bool b, .slice A n c] t)) W.heap.size b A n c := by
  have h : (W.alloc (.cells #[.bool b, .slice A n c] t)).heap[W.heap.size]? = some (.cells #[.bool b, .slice A n c] t (0, 0)) := heap_alloc_new W _
  exact ⟨by rw [cell_of_row _ _ 0 _ t (0, 0) h]; rfl, by rw [cell_of_row _ _ 1 _ t (0, 0) h]; rfl, by unfold World.frozen?; rw [h]; simp, by unfold World.frozen?; rw [h]; simp, by simp⟩
theorem zc_new1 (W : World) (o : Obj) (b : Bool) (A : Option Addr) (n c : Nat) (t : TypeId) : Zcell ((W.alloc o).alloc (.cells #[.bool b, .slice A n c] t)) (W.heap.size + 1) b A n c := by
  have h := zc_new (W.alloc o) b A n c t
  rwa [show (W.alloc o).heap.size = W.heap.size + 1 by simp] at h
theorem zc_new2 (W : World) (o o' : Obj) (b : Bool) (A : Option Addr) (n c : Nat) (t : TypeId) : Zcell (((W.alloc o).alloc o').alloc (.cells #[.bool b, .slice A n c] t)) (W.heap.size + 1 + 1) b A n c := by
  have h := zc_new ((W.alloc o).alloc o') b A n c t
  rwa [show ((W.alloc o).alloc o').heap.size = W.heap.size + 1 + 1 by simp] at h
section
variable {W : World} {b b' : Bool} {A A' : Option Addr} {n n' c c' : Nat} {z z' : Int}
theorem signed_z {s : Bool} {v : Int} (h : Nm W A n c v.natAbs) (hs : v = zi s v.natAbs) : Calls Tryd.prog 77 #[.bool s, .agg #[.slice A n c]] W (SgR W (decide (v < 0)) A n c) := by
  cases s
  · rw [zi_false] at hs
    rw [decide_eq_false (show ¬ v < 0 by omega)]
    exact signed_plus
  · rw [zi_true] at hs
    by_cases h0 : v = 0
    · rw [decide_eq_false (show ¬ v < 0 by omega)]
      exact signed_call (b := true) fun W' hb => isZero_yes (h.up hb) (by omega)
    · rw [decide_eq_true (show v < 0 by omega)]
      exact signed_call (b := false) fun W' hb => isZero_no (h.up hb) (by omega)
/-- Behind the result's variable. -/
theorem zr_end {w2 : World} {B : Option Addr} {d p m : Nat} {v : Int} {s0 : Bool} {a0 : Option Addr} {l0 k0 : Nat} (hW : Hid (Below W.heap.size W w2)) (hp : W.heap.size ≤ p) (hR : Hid (Zcell w2 p s0 a0 l0 k0)) (hn : Nm w2 B (dl m) d m) (hm : m = v.natAbs) :
    ZR W v (.returned (.agg #[.bool (decide (v < 0)), .slice B (dl m) d])) ((w2.setCell ⟨p, 0, none⟩ (.bool (decide (v < 0)))).setCell ⟨p, 1, none⟩ (.slice B (dl m) d)) := by
  subst hm
  exact ⟨B, d, rfl, zr_of (nm_z2 hn hR.out.c0 hR.out.c1), (hW.out.setCell (by simpa using hp) _).setCell (by simpa using hp) _⟩
set_option maxHeartbeats 2000000 in
theorem zneg_h {v : Int} (h : ZA W b A n c z) (hv : -z = v) : Calls Tryd.prog 47 #[.agg #[.bool b, .slice A n c]] W (ZR W v) := by
  have CA : Hid (∀ W', Below W.heap.size W W' → Calls Tryd.prog 31 #[.agg #[.slice A n c], .agg #[.slice none 0 0]] W' (NumR W' v.natAbs)) := fun W' hb => add_h (h.up hb).1 (nm_nil _ none 0) (by omega) (by have := h.1.dl; rw [← hv, Int.natAbs_neg]; exact this)
  have CS : Hid (∀ W' B n d, Nm W' B n d v.natAbs → Calls Tryd.prog 77 #[.bool (!b), .agg #[.slice B n d]] W' (SgR W' (decide (v < 0)) B n d)) := fun W' B n d hn => signed_z hn (by have := h.2.out; cases b <;> simp [zi] at * <;> omega)
  clear h hv
  go_enter Tryd.func47, Tryd.ntmps47
  go_wp2_with fail
  obtain ⟨W0, hW0⟩ : ∃ W0, W0 = ((W.alloc (.cells #[.bool b, .slice A n c] 55)).alloc (.cells #[.bool false, .slice none 0 0] 55)) := ⟨_, rfl⟩
  rw [← hW0]
  have HA : Hid (Zcell W0.drew W.heap.size b A n c) := by rw [hW0]; exact Zcell.dr ((zc_new _ _ _ _ _ _).al _)
  have HR : Hid (Zcell W0.drew (W.heap.size + 1) false none 0 0) := by rw [hW0]; exact Zcell.dr (zc_new1 _ _ _ _ _ _ _)
  have HW : Hid (Below W.heap.size W W0.drew) := by rw [hW0]; exact Below.drew (((Below.refl _ _).alloc (Nat.le_refl _) _).alloc (by simp) _)
  clear hW0
  go_region_held3 (fun w' => w'.cell? ⟨W.heap.size, 0, none⟩ = some (.bool b) ∧ w'.cell? ⟨W.heap.size, 1, none⟩ = some (.slice A n c))
    (first | exact ⟨HA.out.c0, HA.out.c1⟩ | exact ⟨(World.cell?_setCell_far _ _ _ _ (by simp)).trans ((World.cell?_setCell_far _ _ _ _ (by simp)).trans HA.out.c0), (World.cell?_setCell_far _ _ _ _ (by simp)).trans ((World.cell?_setCell_far _ _ _ _ (by simp)).trans HA.out.c1)⟩)
    (first | (go_at_call 31; (with_reducible refine (CA.out _ HW.out).mono ?_); rintro e w1 ⟨B, d, rfl, hn, hbk⟩; replace HA := hide (HA.out.up hbk); replace HR := hide (HR.out.up hbk); replace HW := chain HW hbk.out) | (go_at_call 77; (with_reducible refine (CS.out _ _ _ _ hn).mono ?_); rintro e w2 ⟨rfl, hbk⟩; replace HA := hide (HA.out.up hbk); replace HR := hide (HR.out.up hbk); replace HW := chain HW hbk.out; have hn := hn.up hbk; have r0 := HR.out.c0; have r1 := HR.out.c1; have f0 := HR.out.f0; have f1 := HR.out.f1) | fail)
  go_wp2_with fail
  refine bodyPost_ret (v := .agg #[.bool (decide (v < 0)), .slice B (dl v.natAbs) d]) (by simp [results, Tryd.results47, go_sem, r0, r1]) rfl ?_
  exact zr_end HW (by simp) HR hn rfl
theorem far2 {w : World} {p q i : Nat} {v u x : Value} (hq : p ≠ q) (h : w.cell? ⟨q, i, none⟩ = some x) : ((w.setCell ⟨p, 0, none⟩ v).setCell ⟨p, 1, none⟩ u).cell? ⟨q, i, none⟩ = some x :=
  (World.cell?_setCell_far _ _ _ _ hq).trans ((World.cell?_setCell_far _ _ _ _ hq).trans h)
theorem zi_mul (b b' : Bool) (m m' : Nat) : zi b m * zi b' m' = zi (b != b') (m * m') := by
  cases b <;> cases b' <;> simp [zi, Int.mul_neg, Int.neg_mul]
set_option maxHeartbeats 2000000 in
theorem zmul_h {v : Int} (h : ZA W b A n c z) (h' : ZA W b' A' n' c' z') (hv : z * z' = v) (hd : dl v.natAbs ≤ 100000) : Calls Tryd.prog 57 #[.agg #[.bool b, .slice A n c], .agg #[.bool b', .slice A' n' c']] W (ZR W v) := by
  have CA : Hid (∀ W', Below W.heap.size W W' → Calls Tryd.prog 33 #[.agg #[.slice A n c], .agg #[.slice A' n' c']] W' (NumR W' v.natAbs)) := fun W' hb => mul_h (h.up hb).1 (h'.up hb).1 (by rw [← hv, Int.natAbs_mul]) hd
  have CS : Hid (∀ s, (b != b') = s → ∀ W' B n d, Nm W' B n d v.natAbs → Calls Tryd.prog 77 #[.bool s, .agg #[.slice B n d]] W' (SgR W' (decide (v < 0)) B n d)) := fun s hs W' B n d hn => by
    subst hs
    refine signed_z hn ?_
    rw [← hv, Int.natAbs_mul, ← zi_mul, ← h.2.out, ← h'.2.out]
  clear h h' hv hd
  cases b <;> cases b'
  all_goals
    go_enter Tryd.func57, Tryd.ntmps57
    go_wp2_with fail
  · obtain ⟨W0, hW0⟩ : ∃ W0, W0 = (((W.alloc (.cells #[.bool false, .slice A n c] 55)).alloc (.cells #[.bool false, .slice A' n' c'] 55)).alloc (.cells #[.bool false, .slice none 0 0] 55)) := ⟨_, rfl⟩
    rw [← hW0]
    have HA : Hid (Zcell W0.drew W.heap.size false A n c) := by rw [hW0]; exact Zcell.dr (((zc_new _ _ _ _ _ _).al _).al _)
    have HA' : Hid (Zcell W0.drew (W.heap.size + 1) false A' n' c') := by rw [hW0]; exact Zcell.dr ((zc_new1 _ _ _ _ _ _ _).al _)
    have HR : Hid (Zcell W0.drew (W.heap.size + 1 + 1) false none 0 0) := by rw [hW0]; exact Zcell.dr (zc_new2 _ _ _ _ _ _ _ _)
    have HW : Hid (Below W.heap.size W W0.drew) := by rw [hW0]; exact Below.drew ((((Below.refl _ _).alloc (Nat.le_refl _) _).alloc (by simp) _).alloc (by simp; omega) _)
    clear hW0
    go_region_held3 (fun w' => w'.cell? ⟨W.heap.size, 0, none⟩ = some (.bool false) ∧ w'.cell? ⟨W.heap.size, 1, none⟩ = some (.slice A n c) ∧ w'.cell? ⟨W.heap.size + 1, 0, none⟩ = some (.bool false) ∧ w'.cell? ⟨W.heap.size + 1, 1, none⟩ = some (.slice A' n' c'))
      (first | exact ⟨HA.out.c0, HA.out.c1, HA'.out.c0, HA'.out.c1⟩ | exact ⟨far2 (by omega) HA.out.c0, far2 (by omega) HA.out.c1, far2 (by omega) HA'.out.c0, far2 (by omega) HA'.out.c1⟩)
      (first | (go_at_call 33; (with_reducible refine (CA.out _ HW.out).mono ?_); rintro e w1 ⟨B, d, rfl, hn, hbk⟩; replace HA := hide (HA.out.up hbk); replace HA' := hide (HA'.out.up hbk); replace HR := hide (HR.out.up hbk); replace HW := chain HW hbk.out) | (go_at_call 77; (with_reducible refine (CS.out _ (by decide) _ _ _ _ hn).mono ?_); rintro e w2 ⟨rfl, hbk⟩; replace HA := hide (HA.out.up hbk); replace HA' := hide (HA'.out.up hbk); replace HR := hide (HR.out.up hbk); replace HW := chain HW hbk.out; have hn := hn.up hbk; have r0 := HR.out.c0; have r1 := HR.out.c1; have f0 := HR.out.f0; have f1 := HR.out.f1) | fail)
    go_wp2_with fail
    refine bodyPost_ret (v := .agg #[.bool (decide (v < 0)), .slice B (dl v.natAbs) d]) (by simp [results, Tryd.results57, go_sem, r0, r1]) rfl ?_
    exact zr_end HW (by omega) HR hn rfl
  · obtain ⟨W0, hW0⟩ : ∃ W0, W0 = (((W.alloc (.cells #[.bool false, .slice A n c] 55)).alloc (.cells #[.bool true, .slice A' n' c'] 55)).alloc (.cells #[.bool false, .slice none 0 0] 55)) := ⟨_, rfl⟩
    rw [← hW0]
    have HA : Hid (Zcell W0.drew W.heap.size false A n c) := by rw [hW0]; exact Zcell.dr (((zc_new _ _ _ _ _ _).al _).al _)
    have HA' : Hid (Zcell W0.drew (W.heap.size + 1) true A' n' c') := by rw [hW0]; exact Zcell.dr ((zc_new1 _ _ _ _ _ _ _).al _)
    have HR : Hid (Zcell W0.drew (W.heap.size + 1 + 1) false none 0 0) := by rw [hW0]; exact Zcell.dr (zc_new2 _ _ _ _ _ _ _ _)
    have HW : Hid (Below W.heap.size W W0.drew) := by rw [hW0]; exact Below.drew ((((Below.refl _ _).alloc (Nat.le_refl _) _).alloc (by simp) _).alloc (by simp; omega) _)
    clear hW0
    go_region_held3 (fun w' => w'.cell? ⟨W.heap.size, 0, none⟩ = some (.bool false) ∧ w'.cell? ⟨W.heap.size, 1, none⟩ = some (.slice A n c) ∧ w'.cell? ⟨W.heap.size + 1, 0, none⟩ = some (.bool true) ∧ w'.cell? ⟨W.heap.size + 1, 1, none⟩ = some (.slice A' n' c'))
      (first | exact ⟨HA.out.c0, HA.out.c1, HA'.out.c0, HA'.out.c1⟩ | exact ⟨far2 (by omega) HA.out.c0, far2 (by omega) HA.out.c1, far2 (by omega) HA'.out.c0, far2 (by omega) HA'.out.c1⟩)
      (first | (go_at_call 33; (with_reducible refine (CA.out _ HW.out).mono ?_); rintro e w1 ⟨B, d, rfl, hn, hbk⟩; replace HA := hide (HA.out.up hbk); replace HA' := hide (HA'.out.up hbk); replace HR := hide (HR.out.up hbk); replace HW := chain HW hbk.out) | (go_at_call 77; (with_reducible refine (CS.out _ (by decide) _ _ _ _ hn).mono ?_); rintro e w2 ⟨rfl, hbk⟩; replace HA := hide (HA.out.up hbk); replace HA' := hide (HA'.out.up hbk); replace HR := hide (HR.out.up hbk); replace HW := chain HW hbk.out; have hn := hn.up hbk; have r0 := HR.out.c0; have r1 := HR.out.c1; have f0 := HR.out.f0; have f1 := HR.out.f1) | fail)
    go_wp2_with fail
    refine bodyPost_ret (v := .agg #[.bool (decide (v < 0)), .slice B (dl v.natAbs) d]) (by simp [results, Tryd.results57, go_sem, r0, r1]) rfl ?_
    exact zr_end HW (by omega) HR hn rfl
  · obtain ⟨W0, hW0⟩ : ∃ W0, W0 = (((W.alloc (.cells #[.bool true, .slice A n c] 55)).alloc (.cells #[.bool false, .slice A' n' c'] 55)).alloc (.cells #[.bool false, .slice none 0 0] 55)) := ⟨_, rfl⟩
    rw [← hW0]
    have HA : Hid (Zcell W0.drew W.heap.size true A n c) := by rw [hW0]; exact Zcell.dr (((zc_new _ _ _ _ _ _).al _).al _)
    have HA' : Hid (Zcell W0.drew (W.heap.size + 1) false A' n' c') := by rw [hW0]; exact Zcell.dr ((zc_new1 _ _ _ _ _ _ _).al _)
    have HR : Hid (Zcell W0.drew (W.heap.size + 1 + 1) false none 0 0) := by rw [hW0]; exact Zcell.dr (zc_new2 _ _ _ _ _ _ _ _)
    have HW : Hid (Below W.heap.size W W0.drew) := by rw [hW0]; exact Below.drew ((((Below.refl _ _).alloc (Nat.le_refl _) _).alloc (by simp) _).alloc (by simp; omega) _)
    clear hW0
    go_region_held3 (fun w' => w'.cell? ⟨W.heap.size, 0, none⟩ = some (.bool true) ∧ w'.cell? ⟨W.heap.size, 1, none⟩ = some (.slice A n c) ∧ w'.cell? ⟨W.heap.size + 1, 0, none⟩ = some (.bool false) ∧ w'.cell? ⟨W.heap.size + 1, 1, none⟩ = some (.slice A' n' c'))
      (first | exact ⟨HA.out.c0, HA.out.c1, HA'.out.c0, HA'.out.c1⟩ | exact ⟨far2 (by omega) HA.out.c0, far2 (by omega) HA.out.c1, far2 (by omega) HA'.out.c0, far2 (by omega) HA'.out.c1⟩)
      (first | (go_at_call 33; (with_reducible refine (CA.out _ HW.out).mono ?_); rintro e w1 ⟨B, d, rfl, hn, hbk⟩; replace HA := hide (HA.out.up hbk); replace HA' := hide (HA'.out.up hbk); replace HR := hide (HR.out.up hbk); replace HW := chain HW hbk.out) | (go_at_call 77; (with_reducible refine (CS.out _ (by decide) _ _ _ _ hn).mono ?_); rintro e w2 ⟨rfl, hbk⟩; replace HA := hide (HA.out.up hbk); replace HA' := hide (HA'.out.up hbk); replace HR := hide (HR.out.up hbk); replace HW := chain HW hbk.out; have hn := hn.up hbk; have r0 := HR.out.c0; have r1 := HR.out.c1; have f0 := HR.out.f0; have f1 := HR.out.f1) | fail)
    go_wp2_with fail
    refine bodyPost_ret (v := .agg #[.bool (decide (v < 0)), .slice B (dl v.natAbs) d]) (by simp [results, Tryd.results57, go_sem, r0, r1]) rfl ?_
    exact zr_end HW (by omega) HR hn rfl
  · obtain ⟨W0, hW0⟩ : ∃ W0, W0 = (((W.alloc (.cells #[.bool true, .slice A n c] 55)).alloc (.cells #[.bool true, .slice A' n' c'] 55)).alloc (.cells #[.bool false, .slice none 0 0] 55)) := ⟨_, rfl⟩
    rw [← hW0]
    have HA : Hid (Zcell W0.drew W.heap.size true A n c) := by rw [hW0]; exact Zcell.dr (((zc_new _ _ _ _ _ _).al _).al _)
    have HA' : Hid (Zcell W0.drew (W.heap.size + 1) true A' n' c') := by rw [hW0]; exact Zcell.dr ((zc_new1 _ _ _ _ _ _ _).al _)
    have HR : Hid (Zcell W0.drew (W.heap.size + 1 + 1) false none 0 0) := by rw [hW0]; exact Zcell.dr (zc_new2 _ _ _ _ _ _ _ _)
    have HW : Hid (Below W.heap.size W W0.drew) := by rw [hW0]; exact Below.drew ((((Below.refl _ _).alloc (Nat.le_refl _) _).alloc (by simp) _).alloc (by simp; omega) _)
    clear hW0
    go_region_held3 (fun w' => w'.cell? ⟨W.heap.size, 0, none⟩ = some (.bool true) ∧ w'.cell? ⟨W.heap.size, 1, none⟩ = some (.slice A n c) ∧ w'.cell? ⟨W.heap.size + 1, 0, none⟩ = some (.bool true) ∧ w'.cell? ⟨W.heap.size + 1, 1, none⟩ = some (.slice A' n' c'))
      (first | exact ⟨HA.out.c0, HA.out.c1, HA'.out.c0, HA'.out.c1⟩ | exact ⟨far2 (by omega) HA.out.c0, far2 (by omega) HA.out.c1, far2 (by omega) HA'.out.c0, far2 (by omega) HA'.out.c1⟩)
      (first | (go_at_call 33; (with_reducible refine (CA.out _ HW.out).mono ?_); rintro e w1 ⟨B, d, rfl, hn, hbk⟩; replace HA := hide (HA.out.up hbk); replace HA' := hide (HA'.out.up hbk); replace HR := hide (HR.out.up hbk); replace HW := chain HW hbk.out) | (go_at_call 77; (with_reducible refine (CS.out _ (by decide) _ _ _ _ hn).mono ?_); rintro e w2 ⟨rfl, hbk⟩; replace HA := hide (HA.out.up hbk); replace HA' := hide (HA'.out.up hbk); replace HR := hide (HR.out.up hbk); replace HW := chain HW hbk.out; have hn := hn.up hbk; have r0 := HR.out.c0; have r1 := HR.out.c1; have f0 := HR.out.f0; have f1 := HR.out.f1) | fail)
    go_wp2_with fail
    refine bodyPost_ret (v := .agg #[.bool (decide (v < 0)), .slice B (dl v.natAbs) d]) (by simp [results, Tryd.results57, go_sem, r0, r1]) rfl ?_
    exact zr_end HW (by omega) HR hn rfl
end
end Go.Proofs.YtlmfkeicmldcnaaDoor
