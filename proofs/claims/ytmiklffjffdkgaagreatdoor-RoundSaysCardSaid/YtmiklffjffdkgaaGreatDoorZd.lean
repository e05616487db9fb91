/- Package num: Add. Conditions: at most 100000 words. -/
import Derived.Test.YtmiklffjffdkgaaGreatDoorGRwbc11
open Go.RowKit
set_option maxRecDepth 100000
namespace Go.Proofs.YtmiklffjffdkgaaGreatDoor
section
variable {W : World} {b b' : Bool} {A A' : Option Addr} {n n' c c' : Nat} {z z' : Int}
set_option maxHeartbeats 2000000 in
theorem zadd_same {v : Int} (h : ZA W b A n c z) (h' : ZA W b' A' n' c' z') (hv : z + z' = v) (hd : dl v.natAbs ≤ 100000) (hbb : b = b') : Calls Tryz.prog 65 #[.agg #[.bool b, .slice A n c], .agg #[.bool b', .slice A' n' c']] W (ZR W v) := by
  subst hbb
  have hab : z.natAbs + z'.natAbs = v.natAbs ∧ v = zi b v.natAbs := by
    have h1 := h.2.out
    have h2 := h'.2.out
    cases b
    · rw [zi_false] at *; omega
    · rw [zi_true] at *; omega
  have CA : Hid (∀ W', Below W.heap.size W W' → Calls Tryz.prog 94 #[.agg #[.slice A n c], .agg #[.slice A' n' c']] W' (NumR W' v.natAbs)) := fun W' hb => add_h (h.up hb).1 (h'.up hb).1 hab.1 hd
  have CS : Hid (∀ s, b = s → ∀ W' B n d, Nm W' B n d v.natAbs → Calls Tryz.prog 96 #[.bool s, .agg #[.slice B n d]] W' (SgR W' (decide (v < 0)) B n d)) := fun s hs W' B n d hn => by
    subst hs
    exact signed_z hn hab.2
  clear h h' hv hd hab
  cases b
  all_goals
    go_enter Tryz.func65, Tryz.ntmps65
    go_wp2_with fail
  · obtain ⟨W0, hW0⟩ : ∃ W0, W0 = (((W.alloc (.cells #[.bool false, .slice A n c] 26)).alloc (.cells #[.bool false, .slice A' n' c'] 26)).alloc (.cells #[.bool false, .slice none 0 0] 26)) := ⟨_, rfl⟩
    rw [← hW0]
    have HA : Hid (Zcell W0.drew W.heap.size false A n c) := by rw [hW0]; exact Zcell.dr (((zc_new _ _ _ _ _ _).al _).al _)
    have HA' : Hid (Zcell W0.drew (W.heap.size + 1) false A' n' c') := by rw [hW0]; exact Zcell.dr ((zc_new1 _ _ _ _ _ _ _).al _)
    have HR : Hid (Zcell W0.drew (W.heap.size + 1 + 1) false none 0 0) := by rw [hW0]; exact Zcell.dr (zc_new2 _ _ _ _ _ _ _ _)
    have HW : Hid (Below W.heap.size W W0.drew) := by rw [hW0]; exact Below.drew ((((Below.refl _ _).alloc (Nat.le_refl _) _).alloc (by simp) _).alloc (by simp; omega) _)
    clear hW0
    go_region_held3 (fun w' => w'.cell? ⟨W.heap.size, 0, none⟩ = some (.bool false) ∧ w'.cell? ⟨W.heap.size, 1, none⟩ = some (.slice A n c) ∧ w'.cell? ⟨W.heap.size + 1, 0, none⟩ = some (.bool false) ∧ w'.cell? ⟨W.heap.size + 1, 1, none⟩ = some (.slice A' n' c'))
      (first | exact ⟨HA.out.c0, HA.out.c1, HA'.out.c0, HA'.out.c1⟩ | exact ⟨far2 (by omega) HA.out.c0, far2 (by omega) HA.out.c1, far2 (by omega) HA'.out.c0, far2 (by omega) HA'.out.c1⟩)
      (first | (go_at_call 94; (with_reducible refine (CA.out _ HW.out).mono ?_); rintro e w1 ⟨B, d, rfl, hn, hbk⟩; replace HA := hide (HA.out.up hbk); replace HA' := hide (HA'.out.up hbk); replace HR := hide (HR.out.up hbk); replace HW := chain HW hbk.out) | (go_at_call 96; (with_reducible refine (CS.out _ (by decide) _ _ _ _ hn).mono ?_); rintro e w2 ⟨rfl, hbk⟩; replace HA := hide (HA.out.up hbk); replace HA' := hide (HA'.out.up hbk); replace HR := hide (HR.out.up hbk); replace HW := chain HW hbk.out; have hn := hn.up hbk; have r0 := HR.out.c0; have r1 := HR.out.c1; have f0 := HR.out.f0; have f1 := HR.out.f1) | fail)
    go_wp2_with fail
    refine bodyPost_ret (v := .agg #[.bool (decide (v < 0)), .slice B (dl v.natAbs) d]) (by simp [results, Tryz.results65, go_sem, r0, r1]) rfl ?_
    exact zr_end HW (by omega) HR hn rfl
  · obtain ⟨W0, hW0⟩ : ∃ W0, W0 = (((W.alloc (.cells #[.bool true, .slice A n c] 26)).alloc (.cells #[.bool true, .slice A' n' c'] 26)).alloc (.cells #[.bool false, .slice none 0 0] 26)) := ⟨_, rfl⟩
    rw [← hW0]
    have HA : Hid (Zcell W0.drew W.heap.size true A n c) := by rw [hW0]; exact Zcell.dr (((zc_new _ _ _ _ _ _).al _).al _)
    have HA' : Hid (Zcell W0.drew (W.heap.size + 1) true A' n' c') := by rw [hW0]; exact Zcell.dr ((zc_new1 _ _ _ _ _ _ _).al _)
    have HR : Hid (Zcell W0.drew (W.heap.size + 1 + 1) false none 0 0) := by rw [hW0]; exact Zcell.dr (zc_new2 _ _ _ _ _ _ _ _)
    have HW : Hid (Below W.heap.size W W0.drew) := by rw [hW0]; exact Below.drew ((((Below.refl _ _).alloc (Nat.le_refl _) _).alloc (by simp) _).alloc (by simp; omega) _)
    clear hW0
    go_region_held3 (fun w' => w'.cell? ⟨W.heap.size, 0, none⟩ = some (.bool true) ∧ w'.cell? ⟨W.heap.size, 1, none⟩ = some (.slice A n c) ∧ w'.cell? ⟨W.heap.size + 1, 0, none⟩ = some (.bool true) ∧ w'.cell? ⟨W.heap.size + 1, 1, none⟩ = some (.slice A' n' c'))
      (first | exact ⟨HA.out.c0, HA.out.c1, HA'.out.c0, HA'.out.c1⟩ | exact ⟨far2 (by omega) HA.out.c0, far2 (by omega) HA.out.c1, far2 (by omega) HA'.out.c0, far2 (by omega) HA'.out.c1⟩)
      (first | (go_at_call 94; (with_reducible refine (CA.out _ HW.out).mono ?_); rintro e w1 ⟨B, d, rfl, hn, hbk⟩; replace HA := hide (HA.out.up hbk); replace HA' := hide (HA'.out.up hbk); replace HR := hide (HR.out.up hbk); replace HW := chain HW hbk.out) | (go_at_call 96; (with_reducible refine (CS.out _ (by decide) _ _ _ _ hn).mono ?_); rintro e w2 ⟨rfl, hbk⟩; replace HA := hide (HA.out.up hbk); replace HA' := hide (HA'.out.up hbk); replace HR := hide (HR.out.up hbk); replace HW := chain HW hbk.out; have hn := hn.up hbk; have r0 := HR.out.c0; have r1 := HR.out.c1; have f0 := HR.out.f0; have f1 := HR.out.f1) | fail)
    go_wp2_with fail
    refine bodyPost_ret (v := .agg #[.bool (decide (v < 0)), .slice B (dl v.natAbs) d]) (by simp [results, Tryz.results65, go_sem, r0, r1]) rfl ?_
    exact zr_end HW (by omega) HR hn rfl
theorem al3 (W : World) (o1 o2 o3 : Obj) : Below W.heap.size W (((W.alloc o1).alloc o2).alloc o3) := (((Below.refl _ _).alloc (Nat.le_refl _) _).alloc (by simp) _).alloc (by simp; omega) _
theorem bel_al {a b w : World} {v : Value} {t : TypeId} (h : Hid (Below w.heap.size w a)) (hb : Hid (Below (a.alloc (.cells #[v] t)).heap.size (a.alloc (.cells #[v] t)) b)) : Hid (Below w.heap.size w b) := chain h (bx1 hb).2.2.out
theorem Zcell.upA {a b : World} {v : Value} {t : TypeId} {p : Nat} {s : Bool} {A : Option Addr} {n c : Nat} (h : Zcell a p s A n c) (hb : Hid (Below (a.alloc (.cells #[v] t)).heap.size (a.alloc (.cells #[v] t)) b)) : Zcell b p s A n c := h.up (bx1 hb).2.2
theorem nm_upA {a b : World} {v : Value} {t : TypeId} {A : Option Addr} {n c m : Nat} (h : Nm a A n c m) (hb : Hid (Below (a.alloc (.cells #[v] t)).heap.size (a.alloc (.cells #[v] t)) b)) : Nm b A n c m := h.up (bx1 hb).2.2
set_option maxHeartbeats 2000000 in
theorem zadd_yes {v : Int} (h : ZA W b A n c z) (h' : ZA W b' A' n' c' z') (hv : z + z' = v) (hbb : b = !b') (hle : z'.natAbs ≤ z.natAbs) : Calls Tryz.prog 65 #[.agg #[.bool b, .slice A n c], .agg #[.bool b', .slice A' n' c']] W (ZR W v) := by
  have hab : z.natAbs - z'.natAbs = v.natAbs ∧ v = zi b v.natAbs := by
    have h1 := h.2.out
    have h2 := h'.2.out
    subst hbb
    cases b' <;> simp only [Bool.not_true, Bool.not_false, zi_true, zi_false] at * <;> omega
  have C1 : Hid (∀ W', Below W.heap.size W W' → Calls Tryz.prog 95 #[.agg #[.slice A n c], .agg #[.slice A' n' c']] W' (SubYes W' v.natAbs)) := fun W' hb => sub_yes (h.up hb).1 (h'.up hb).1 hle hab.1
  have CS : Hid (∀ s, b = s → ∀ W' B n d, Nm W' B n d v.natAbs → Calls Tryz.prog 96 #[.bool s, .agg #[.slice B n d]] W' (SgR W' (decide (v < 0)) B n d)) := fun s hs W' B n d hn => by subst hs; exact signed_z hn hab.2
  clear h h' hv hab hle
  subst hbb
  cases b'
  all_goals
    go_enter Tryz.func65, Tryz.ntmps65
  · go_wp2_with (first | (go_at_call 95; (with_reducible refine (C1.out _ (al3 W _ _ _)).mono ?_); rintro e w1 ⟨B, d, rfl, hn, hbk⟩; have HA := hide (Zcell.up (((zc_new _ _ _ _ _ _).al _).al _) hbk); have HA' := hide (Zcell.up ((zc_new1 _ _ _ _ _ _ _).al _) hbk); have HR := hide (Zcell.up (zc_new2 _ _ _ _ _ _ _ _) hbk); have HW := hide ((al3 W _ _ _).trans (hbk.out.mono (al3 W _ _ _).size)); have a0 := HA.out.c0; have a1 := HA.out.c1; have x0 := HA'.out.c0; have x1 := HA'.out.c1; have r0 := HR.out.c0; have r1 := HR.out.c1; have f0 := HR.out.f0; have f1 := HR.out.f1; have l2 := HR.out.lt; have l1 : W.heap.size + 1 < w1.heap.size := (by omega); have l0 : W.heap.size < w1.heap.size := (by omega); clear hbk) | (go_at_call 96; (with_reducible refine (CS.out _ (by decide) _ _ _ _ (hn.al _)).mono ?_); rintro e w2 ⟨rfl, hbk⟩; replace HA := hide (HA.out.upA hbk); replace HA' := hide (HA'.out.upA hbk); replace HR := hide (HR.out.upA hbk); replace HW := bel_al HW hbk; clear a0 a1 x0 x1 r0 r1 f0 f1 l2 l1 l0; replace hn := nm_upA hn hbk; have a0 := HA.out.c0; have a1 := HA.out.c1; have x0 := HA'.out.c0; have x1 := HA'.out.c1; have r0 := HR.out.c0; have r1 := HR.out.c1; have f0 := HR.out.f0; have f1 := HR.out.f1; have l2 := HR.out.lt; have l1 : W.heap.size + 1 < w2.heap.size := (by omega); have l0 : W.heap.size < w2.heap.size := (by omega)) | fail)
    refine bodyPost_ret (v := .agg #[.bool (decide (v < 0)), .slice B (dl v.natAbs) d]) (by simp [results, Tryz.results65, go_sem, r0, r1]) rfl ?_
    exact zr_end HW (by omega) HR hn rfl
  · go_wp2_with (first | (go_at_call 95; (with_reducible refine (C1.out _ (al3 W _ _ _)).mono ?_); rintro e w1 ⟨B, d, rfl, hn, hbk⟩; have HA := hide (Zcell.up (((zc_new _ _ _ _ _ _).al _).al _) hbk); have HA' := hide (Zcell.up ((zc_new1 _ _ _ _ _ _ _).al _) hbk); have HR := hide (Zcell.up (zc_new2 _ _ _ _ _ _ _ _) hbk); have HW := hide ((al3 W _ _ _).trans (hbk.out.mono (al3 W _ _ _).size)); have a0 := HA.out.c0; have a1 := HA.out.c1; have x0 := HA'.out.c0; have x1 := HA'.out.c1; have r0 := HR.out.c0; have r1 := HR.out.c1; have f0 := HR.out.f0; have f1 := HR.out.f1; have l2 := HR.out.lt; have l1 : W.heap.size + 1 < w1.heap.size := (by omega); have l0 : W.heap.size < w1.heap.size := (by omega); clear hbk) | (go_at_call 96; (with_reducible refine (CS.out _ (by decide) _ _ _ _ (hn.al _)).mono ?_); rintro e w2 ⟨rfl, hbk⟩; replace HA := hide (HA.out.upA hbk); replace HA' := hide (HA'.out.upA hbk); replace HR := hide (HR.out.upA hbk); replace HW := bel_al HW hbk; clear a0 a1 x0 x1 r0 r1 f0 f1 l2 l1 l0; replace hn := nm_upA hn hbk; have a0 := HA.out.c0; have a1 := HA.out.c1; have x0 := HA'.out.c0; have x1 := HA'.out.c1; have r0 := HR.out.c0; have r1 := HR.out.c1; have f0 := HR.out.f0; have f1 := HR.out.f1; have l2 := HR.out.lt; have l1 : W.heap.size + 1 < w2.heap.size := (by omega); have l0 : W.heap.size < w2.heap.size := (by omega)) | fail)
    refine bodyPost_ret (v := .agg #[.bool (decide (v < 0)), .slice B (dl v.natAbs) d]) (by simp [results, Tryz.results65, go_sem, r0, r1]) rfl ?_
    exact zr_end HW (by omega) HR hn rfl
set_option maxHeartbeats 2000000 in
theorem zadd_no {v : Int} (h : ZA W b A n c z) (h' : ZA W b' A' n' c' z') (hv : z + z' = v) (hbb : b = !b') (hle : ¬ z'.natAbs ≤ z.natAbs) : Calls Tryz.prog 65 #[.agg #[.bool b, .slice A n c], .agg #[.bool b', .slice A' n' c']] W (ZR W v) := by
  have hab : z'.natAbs - z.natAbs = v.natAbs ∧ v = zi b' v.natAbs := by
    have h1 := h.2.out
    have h2 := h'.2.out
    subst hbb
    cases b' <;> simp only [Bool.not_true, Bool.not_false, zi_true, zi_false] at * <;> omega
  have C1 : Hid (∀ W', Below W.heap.size W W' → Calls Tryz.prog 95 #[.agg #[.slice A n c], .agg #[.slice A' n' c']] W' (SubNo W')) := fun W' hb => sub_no (h.up hb).1 (h'.up hb).1 hle
  have C2 : Hid (∀ W', Below W.heap.size W W' → Calls Tryz.prog 95 #[.agg #[.slice A' n' c'], .agg #[.slice A n c]] W' (SubYes W' v.natAbs)) := fun W' hb => sub_yes (h'.up hb).1 (h.up hb).1 (by omega) hab.1
  have CS : Hid (∀ s, b' = s → ∀ W' B n d, Nm W' B n d v.natAbs → Calls Tryz.prog 96 #[.bool s, .agg #[.slice B n d]] W' (SgR W' (decide (v < 0)) B n d)) := fun s hs W' B n d hn => by subst hs; exact signed_z hn hab.2
  clear h h' hv hab hle
  subst hbb
  cases b'
  all_goals
    go_enter Tryz.func65, Tryz.ntmps65
  · go_wp2_with (first | (go_at_call 95; (with_reducible refine (C1.out _ (al3 W _ _ _)).mono ?_); rintro e w1 ⟨rfl, hbk⟩; have HA := hide (Zcell.up (((zc_new _ _ _ _ _ _).al _).al _) hbk); have HA' := hide (Zcell.up ((zc_new1 _ _ _ _ _ _ _).al _) hbk); have HR := hide (Zcell.up (zc_new2 _ _ _ _ _ _ _ _) hbk); have HW := hide ((al3 W _ _ _).trans (hbk.out.mono (al3 W _ _ _).size)); have a0 := HA.out.c0; have a1 := HA.out.c1; have x0 := HA'.out.c0; have x1 := HA'.out.c1; have r0 := HR.out.c0; have r1 := HR.out.c1; have f0 := HR.out.f0; have f1 := HR.out.f1; have l2 := HR.out.lt; have l1 : W.heap.size + 1 < w1.heap.size := (by omega); have l0 : W.heap.size < w1.heap.size := (by omega); clear hbk) | (go_at_call 95; (with_reducible refine (C2.out _ (HW.out.alloc HW.out.size _)).mono ?_); rintro e w3 ⟨B, d, rfl, hn, hbk⟩; replace HA := hide (HA.out.upA hbk); replace HA' := hide (HA'.out.upA hbk); replace HR := hide (HR.out.upA hbk); replace HW := bel_al HW hbk; clear a0 a1 x0 x1 r0 r1 f0 f1 l2 l1 l0; have a0 := HA.out.c0; have a1 := HA.out.c1; have x0 := HA'.out.c0; have x1 := HA'.out.c1; have r0 := HR.out.c0; have r1 := HR.out.c1; have f0 := HR.out.f0; have f1 := HR.out.f1; have l2 := HR.out.lt; have l1 : W.heap.size + 1 < w3.heap.size := (by omega); have l0 : W.heap.size < w3.heap.size := (by omega); clear hbk) | (go_at_call 96; (with_reducible refine (CS.out _ (by decide) _ _ _ _ (hn.al _)).mono ?_); rintro e w2 ⟨rfl, hbk⟩; replace HA := hide (HA.out.upA hbk); replace HA' := hide (HA'.out.upA hbk); replace HR := hide (HR.out.upA hbk); replace HW := bel_al HW hbk; clear a0 a1 x0 x1 r0 r1 f0 f1 l2 l1 l0; replace hn := nm_upA hn hbk; have a0 := HA.out.c0; have a1 := HA.out.c1; have x0 := HA'.out.c0; have x1 := HA'.out.c1; have r0 := HR.out.c0; have r1 := HR.out.c1; have f0 := HR.out.f0; have f1 := HR.out.f1; have l2 := HR.out.lt; have l1 : W.heap.size + 1 < w2.heap.size := (by omega); have l0 : W.heap.size < w2.heap.size := (by omega)) | fail)
    refine bodyPost_ret (v := .agg #[.bool (decide (v < 0)), .slice B (dl v.natAbs) d]) (by simp [results, Tryz.results65, go_sem, r0, r1]) rfl ?_
    exact zr_end HW (by omega) HR hn rfl
  · go_wp2_with (first | (go_at_call 95; (with_reducible refine (C1.out _ (al3 W _ _ _)).mono ?_); rintro e w1 ⟨rfl, hbk⟩; have HA := hide (Zcell.up (((zc_new _ _ _ _ _ _).al _).al _) hbk); have HA' := hide (Zcell.up ((zc_new1 _ _ _ _ _ _ _).al _) hbk); have HR := hide (Zcell.up (zc_new2 _ _ _ _ _ _ _ _) hbk); have HW := hide ((al3 W _ _ _).trans (hbk.out.mono (al3 W _ _ _).size)); have a0 := HA.out.c0; have a1 := HA.out.c1; have x0 := HA'.out.c0; have x1 := HA'.out.c1; have r0 := HR.out.c0; have r1 := HR.out.c1; have f0 := HR.out.f0; have f1 := HR.out.f1; have l2 := HR.out.lt; have l1 : W.heap.size + 1 < w1.heap.size := (by omega); have l0 : W.heap.size < w1.heap.size := (by omega); clear hbk) | (go_at_call 95; (with_reducible refine (C2.out _ (HW.out.alloc HW.out.size _)).mono ?_); rintro e w3 ⟨B, d, rfl, hn, hbk⟩; replace HA := hide (HA.out.upA hbk); replace HA' := hide (HA'.out.upA hbk); replace HR := hide (HR.out.upA hbk); replace HW := bel_al HW hbk; clear a0 a1 x0 x1 r0 r1 f0 f1 l2 l1 l0; have a0 := HA.out.c0; have a1 := HA.out.c1; have x0 := HA'.out.c0; have x1 := HA'.out.c1; have r0 := HR.out.c0; have r1 := HR.out.c1; have f0 := HR.out.f0; have f1 := HR.out.f1; have l2 := HR.out.lt; have l1 : W.heap.size + 1 < w3.heap.size := (by omega); have l0 : W.heap.size < w3.heap.size := (by omega); clear hbk) | (go_at_call 96; (with_reducible refine (CS.out _ (by decide) _ _ _ _ (hn.al _)).mono ?_); rintro e w2 ⟨rfl, hbk⟩; replace HA := hide (HA.out.upA hbk); replace HA' := hide (HA'.out.upA hbk); replace HR := hide (HR.out.upA hbk); replace HW := bel_al HW hbk; clear a0 a1 x0 x1 r0 r1 f0 f1 l2 l1 l0; replace hn := nm_upA hn hbk; have a0 := HA.out.c0; have a1 := HA.out.c1; have x0 := HA'.out.c0; have x1 := HA'.out.c1; have r0 := HR.out.c0; have r1 := HR.out.c1; have f0 := HR.out.f0; have f1 := HR.out.f1; have l2 := HR.out.lt; have l1 : W.heap.size + 1 < w2.heap.size := (by omega); have l0 : W.heap.size < w2.heap.size := (by omega)) | fail)
    refine bodyPost_ret (v := .agg #[.bool (decide (v < 0)), .slice B (dl v.natAbs) d]) (by simp [results, Tryz.results65, go_sem, r0, r1]) rfl ?_
    exact zr_end HW (by omega) HR hn rfl
theorem zadd_h {v : Int} (h : ZA W b A n c z) (h' : ZA W b' A' n' c' z') (hv : z + z' = v) (hd : dl v.natAbs ≤ 100000) : Calls Tryz.prog 65 #[.agg #[.bool b, .slice A n c], .agg #[.bool b', .slice A' n' c']] W (ZR W v) := by
  by_cases hb : b = b'
  · exact zadd_same h h' hv hd hb
  · have hbb : b = !b' := by cases b <;> cases b' <;> simp_all
    by_cases hle : z'.natAbs ≤ z.natAbs
    · exact zadd_yes h h' hv hbb hle
    · exact zadd_no h h' hv hbb hle
end
end Go.Proofs.YtmiklffjffdkgaaGreatDoor
