/- Several texts in one, each with its own sentence and conditions. -/
import Derived.Test.YtmiklffjffdkgaaGreatDoorZa
section
/- Package num: Sign, Of. Conditions: at most 100000 words. -/
open Go.RowKit
set_option maxRecDepth 100000
namespace Go.Proofs.YtmiklffjffdkgaaGreatDoor
theorem bz1 {a b : World} {v u : Value} {t : TypeId} (hb : Hid (Below (a.alloc (.cells #[v, u] t)).heap.size (a.alloc (.cells #[v, u] t)) b)) :
    b.cell? ⟨a.heap.size, 0, none⟩ = some v ∧ b.cell? ⟨a.heap.size, 1, none⟩ = some u ∧ Hid (a.heap.size + 1 ≤ b.heap.size) ∧ Hid (Below a.heap.size a b) := by
  have hs := hb.out.size
  simp at hs
  have h : (a.alloc (.cells #[v, u] t)).heap[a.heap.size]? = some (.cells #[v, u] t (0, 0)) := heap_alloc_new a _
  have hlt : a.heap.size < (a.alloc (.cells #[v, u] t)).heap.size := by simp
  exact ⟨(hb.out.cell hlt).trans (by rw [cell_of_row _ _ 0 _ t (0, 0) h]; rfl), (hb.out.cell hlt).trans (by rw [cell_of_row _ _ 1 _ t (0, 0) h]; rfl), hs, ((Below.refl _ _).alloc (Nat.le_refl _) _).trans (hb.out.mono (by simp))⟩
theorem bzf {a b : World} {v u : Value} {t : TypeId} (hb : Hid (Below (a.alloc (.cells #[v, u] t)).heap.size (a.alloc (.cells #[v, u] t)) b)) : b.frozen? ⟨a.heap.size, 0, none⟩ = false ∧ b.frozen? ⟨a.heap.size, 1, none⟩ = false := by
  have h : (a.alloc (.cells #[v, u] t)).heap[a.heap.size]? = some (.cells #[v, u] t (0, 0)) := heap_alloc_new a _
  have hlt : a.heap.size < (a.alloc (.cells #[v, u] t)).heap.size := by simp
  exact ⟨(hb.out.frozen hlt).trans (by unfold World.frozen?; rw [h]; simp), (hb.out.frozen hlt).trans (by unfold World.frozen?; rw [h]; simp)⟩
/-- A number's words are no cells of a result's variable. -/
theorem Nm.setn {W : World} {A : Option Addr} {n c m : Nat} (h : Nm W A n c m) {p : Addr} {v : Value} (hc : W.cell? p = some v) (hv : ∀ x : Nat, v ≠ U32 x) (u : Value) : Nm (W.setCell p u) A n c m := by
  obtain ⟨ws, h1, h2, h3, hr, h4⟩ := h.out
  refine ⟨ws, h1, h2, h3, ?_, h4⟩
  have h5 : Rd U32 (W.setCell p u) W.heap.size A ws := fun hn => by
    obtain ⟨ad, e, hb, hx⟩ := hr hn
    refine ⟨ad, e, hb, fun j x hj => ?_⟩
    have h6 := hx j x hj
    rw [World.cell?_setCell_other W p _ u (by intro e; rw [← e, hc] at h6; injection h6 with h6; exact hv x h6)]
    exact h6
  simpa [World.setCell] using h5
theorem nm_z2 {W : World} {A : Option Addr} {n c m g : Nat} {v0 : Bool} {a : Option Addr} {l k : Nat} {x y : Value} (h : Nm W A n c m) (e0 : W.cell? ⟨g, 0, none⟩ = some (.bool v0)) (e1 : W.cell? ⟨g, 1, none⟩ = some (.slice a l k)) :
    Nm ((W.setCell ⟨g, 0, none⟩ x).setCell ⟨g, 1, none⟩ y) A n c m :=
  (h.setn e0 (by intro x hx; cases hx) x).setn (p := ⟨g, 1, none⟩) ((World.cell?_setCell_other _ _ _ _ (by intro e; cases e)).trans e1) (by intro x hx; cases hx) y
section
variable {W : World} {b b' : Bool} {A A' : Option Addr} {n n' c c' : Nat} {z z' : Int}
theorem za_zero (h : ZA W b A n c z) (h0 : z = 0) : Calls Tryz.prog 76 #[.agg #[.slice A n c]] W (BoolR W true) := isZero_yes h.1 (by omega)
theorem za_some (h : ZA W b A n c z) (h0 : z ≠ 0) : Calls Tryz.prog 76 #[.agg #[.slice A n c]] W (BoolR W false) := isZero_no h.1 (by omega)
theorem za_sign (h : ZA W b A n c z) (h0 : z ≠ 0) : b = decide (z < 0) := by
  have h1 := h.2.out
  cases b
  · rw [zi_false] at h1; exact (decide_eq_false (by omega)).symm
  · rw [zi_true] at h1; exact (decide_eq_true (by omega)).symm
theorem sign_h {v : Int} (h : ZA W b A n c z) (hv : z.sign = v) : Calls Tryz.prog 63 #[.agg #[.bool b, .slice A n c]] W (IntPost W v) := by
  subst hv
  by_cases h0 : z = 0
  · have CZ : Hid (∀ o, Calls Tryz.prog 76 #[.agg #[.slice A n c]] (W.alloc o) (BoolR (W.alloc o) true)) := fun o => za_zero (h.al o) h0
    subst h0
    clear h
    go_enter Tryz.func63, Tryz.ntmps63
    go_wp2_with (go_at_call 76; (with_reducible refine (CZ.out _).mono ?_); rintro e w1 ⟨rfl, hbk⟩; obtain ⟨e0, e1, hsz, hbx⟩ := bz1 hbk)
    go_ret
    exact ⟨rfl, hbx⟩
  · have CZ : Hid (∀ o, Calls Tryz.prog 76 #[.agg #[.slice A n c]] (W.alloc o) (BoolR (W.alloc o) false)) := fun o => za_some (h.al o) h0
    have hb := za_sign h h0
    by_cases hn : z < 0
    · rw [decide_eq_true hn] at hb
      subst hb
      have HS : Hid (z.sign = -1) := Int.sign_eq_neg_one_of_neg hn
      clear h h0 hn
      go_enter Tryz.func63, Tryz.ntmps63
      go_wp2_with (go_at_call 76; (with_reducible refine (CZ.out _).mono ?_); rintro e w1 ⟨rfl, hbk⟩; obtain ⟨e0, e1, hsz, hbx⟩ := bz1 hbk)
      go_ret
      exact ⟨by rw [HS.out]; rfl, hbx⟩
    · rw [decide_eq_false hn] at hb
      subst hb
      have HS : Hid (z.sign = 1) := Int.sign_eq_one_of_pos (by omega)
      clear h h0 hn
      go_enter Tryz.func63, Tryz.ntmps63
      go_wp2_with (go_at_call 76; (with_reducible refine (CZ.out _).mono ?_); rintro e w1 ⟨rfl, hbk⟩; obtain ⟨e0, e1, hsz, hbx⟩ := bz1 hbk)
      go_ret
      exact ⟨by rw [HS.out]; rfl, hbx⟩
theorem zr_of {w' : World} {A : Option Addr} {c : Nat} {z : Int} (h : Nm w' A (dl z.natAbs) c z.natAbs) : ZA w' (decide (z < 0)) A (dl z.natAbs) c z := ⟨h, zi_dec z⟩
set_option maxHeartbeats 1000000 in
theorem zof_h (h1 : -9223372036854775808 ≤ z) (h2 : z ≤ 9223372036854775807) : Calls Tryz.prog 55 #[.int .i64 z] W (ZR W z) := by
  by_cases hn : z < 0
  · have e : IntKind.u64.wrap (-IntKind.u64.wrap z) = ((z.natAbs : Nat) : Int) := by rw [IntKind.wrap_u64, IntKind.wrap_u64]; omega
    have CO : Hid (∀ o, Calls Tryz.prog 56 #[.int .u64 (IntKind.u64.wrap (-IntKind.u64.wrap z))] (W.alloc o) (NumR (W.alloc o) z.natAbs)) := fun o => by rw [e]; exact of_h (by omega)
    have HZ : Hid (decide (z < 0) = true) := decide_eq_true hn
    clear e
    go_enter Tryz.func55, Tryz.ntmps55
    go_wp2_with (go_at_call 56; (with_reducible refine (CO.out _).mono ?_); rintro e w1 ⟨B, d, rfl, hn1, hbk⟩; obtain ⟨e0, e1, hsz, hbx⟩ := bz1 hbk; obtain ⟨f0, f1⟩ := bzf hbk)
    refine bodyPost_ret (v := .agg #[.bool true, .slice B (dl z.natAbs) d]) (by simp [results, Tryz.results55, go_sem, e0, e1]) rfl ?_
    refine ⟨B, d, by rw [HZ.out], zr_of ?_, (hbx.out.setCell (by simp) _).setCell (by simp) _⟩
    exact nm_z2 hn1 e0 e1
  · have e : IntKind.u64.wrap z = ((z.natAbs : Nat) : Int) := by rw [IntKind.wrap_u64]; omega
    have CO : Hid (∀ o, Calls Tryz.prog 56 #[.int .u64 (IntKind.u64.wrap z)] (W.alloc o) (NumR (W.alloc o) z.natAbs)) := fun o => by rw [e]; exact of_h (by omega)
    have CO2 : Hid (∀ o, Calls Tryz.prog 56 #[.int .u64 z] (W.alloc o) (NumR (W.alloc o) z.natAbs)) := fun o => by rw [show z = ((z.natAbs : Nat) : Int) by omega]; exact of_h (by omega)
    have HZ : Hid (decide (z < 0) = false) := decide_eq_false hn
    clear e
    have hn' : 0 ≤ z := by omega
    go_enter Tryz.func55, Tryz.ntmps55
    go_wp2_with (go_at_call 56; first | (with_reducible refine (CO.out _).mono ?_) | (with_reducible refine (CO2.out _).mono ?_); rintro e w1 ⟨B, d, rfl, hn1, hbk⟩; obtain ⟨e0, e1, hsz, hbx⟩ := bz1 hbk; obtain ⟨f0, f1⟩ := bzf hbk)
    refine bodyPost_ret (v := .agg #[.bool false, .slice B (dl z.natAbs) d]) (by simp [results, Tryz.results55, go_sem, e0, e1]) rfl ?_
    refine ⟨B, d, by rw [HZ.out], zr_of ?_, (hbx.out.setCell (by simp) _).setCell (by simp) _⟩
    exact nm_z2 hn1 e0 e1
end
end Go.Proofs.YtmiklffjffdkgaaGreatDoor
end

section
/- Package num: Neg, Mul, Add. Conditions: at most 100000 words. -/
open Go.RowKit
set_option maxRecDepth 100000
namespace Go.Proofs.YtmiklffjffdkgaaGreatDoor
/-- Block p holds a sign and a slice, none frozen. -/
structure Zcell (W : World) (p : Nat) (b : Bool) (A : Option Addr) (n c : Nat) : Prop where
  c0 : W.cell? ⟨p, 0, none⟩ = some (.bool b)
  c1 : W.cell? ⟨p, 1, none⟩ = some (.slice A n c)
  f0 : W.frozen? ⟨p, 0, none⟩ = false
  f1 : W.frozen? ⟨p, 1, none⟩ = false
  lt : p < W.heap.size
theorem Zcell.up {W W' : World} {p : Nat} {b : Bool} {A : Option Addr} {n c : Nat} (h : Zcell W p b A n c) (hb : Hid (Below W.heap.size W W')) : Zcell W' p b A n c :=
  ⟨(hb.out.cell h.lt).trans h.c0, (hb.out.cell h.lt).trans h.c1, (hb.out.frozen h.lt).trans h.f0, (hb.out.frozen h.lt).trans h.f1, Nat.lt_of_lt_of_le h.lt hb.out.size⟩
theorem Zcell.al {W : World} {p : Nat} {b : Bool} {A : Option Addr} {n c : Nat} (h : Zcell W p b A n c) (o : Obj) : Zcell (W.alloc o) p b A n c := h.up ((Below.refl _ _).alloc (Nat.le_refl _) o)
theorem Zcell.dr {W : World} {p : Nat} {b : Bool} {A : Option Addr} {n c : Nat} (h : Zcell W p b A n c) : Zcell W.drew p b A n c := ⟨h.c0, h.c1, h.f0, h.f1, h.lt⟩
theorem zc_new (W : World) (b : Bool) (A : Option Addr) (n c : Nat) (t : TypeId) : Zcell (W.alloc (.cells #[.bool b, .slice A n c] t)) W.heap.size b A n c := by
  have h : (W.alloc (.cells #[.bool b, .slice A n c] t)).heap[W.heap.size]? = some (.cells #[.bool b, .slice A n c] t (0, 0)) := heap_alloc_new W _
  exact ⟨by rw [cell_of_row _ _ 0 _ t (0, 0) h]; rfl, by rw [cell_of_row _ _ 1 _ t (0, 0) h]; rfl, by unfold World.frozen?; rw [h]; simp, by unfold World.frozen?; rw [h]; simp, by simp⟩
theorem zc_new1 (W : World) (o : Obj) (b : Bool) (A : Option Addr) (n c : Nat) (t : TypeId) : Zcell ((W.alloc o).alloc (.cells #[.bool b, .slice A n c] t)) (W.heap.size + 1) b A n c := by
  have h := zc_new (W.alloc o) b A n c t
  rwa [show (W.alloc o).heap.size = W.heap.size + 1 by simp] at h
theorem zc_new2 (W : World) (o o' : Obj) (b : Bool) (A : Option Addr) (n c : Nat) (t : TypeId) : Zcell (((W.alloc o).alloc o').alloc (.cells #[.bool b, .slice A n c] t)) (W.heap.size + 1 + 1) b A n c := by
  have h := zc_new ((W.alloc o).alloc o') b A n c t
  rwa [show ((W.alloc o).alloc o').heap.size = W.heap.size + 1 + 1 by simp] at h
section
variable {W : World} {b b' : Bool} {A A' : Option Addr} {n n' c c' : Nat} {z z' : Int}
theorem signed_z {s : Bool} {v : Int} (h : Nm W A n c v.natAbs) (hs : v = zi s v.natAbs) : Calls Tryz.prog 96 #[.bool s, .agg #[.slice A n c]] W (SgR W (decide (v < 0)) A n c) := by
  cases s
  · rw [zi_false] at hs
    rw [decide_eq_false (show ¬ v < 0 by omega)]
    exact signed_plus
  · rw [zi_true] at hs
    by_cases h0 : v = 0
    · rw [decide_eq_false (show ¬ v < 0 by omega)]
      exact signed_call (b := true) fun W' hb => isZero_yes (h.up hb) (by omega)
    · rw [decide_eq_true (show v < 0 by omega)]
      exact signed_call (b := false) fun W' hb => isZero_no (h.up hb) (by omega)
/-- Behind the result's variable. -/
theorem zr_end {w2 : World} {B : Option Addr} {d p m : Nat} {v : Int} {s0 : Bool} {a0 : Option Addr} {l0 k0 : Nat} (hW : Hid (Below W.heap.size W w2)) (hp : W.heap.size ≤ p) (hR : Hid (Zcell w2 p s0 a0 l0 k0)) (hn : Nm w2 B (dl m) d m) (hm : m = v.natAbs) :
    ZR W v (.returned (.agg #[.bool (decide (v < 0)), .slice B (dl m) d])) ((w2.setCell ⟨p, 0, none⟩ (.bool (decide (v < 0)))).setCell ⟨p, 1, none⟩ (.slice B (dl m) d)) := by
  subst hm
  exact ⟨B, d, rfl, zr_of (nm_z2 hn hR.out.c0 hR.out.c1), (hW.out.setCell (by simpa using hp) _).setCell (by simpa using hp) _⟩
theorem far2 {w : World} {p q i : Nat} {v u x : Value} (hq : p ≠ q) (h : w.cell? ⟨q, i, none⟩ = some x) : ((w.setCell ⟨p, 0, none⟩ v).setCell ⟨p, 1, none⟩ u).cell? ⟨q, i, none⟩ = some x :=
  (World.cell?_setCell_far _ _ _ _ hq).trans ((World.cell?_setCell_far _ _ _ _ hq).trans h)
theorem zi_mul (b b' : Bool) (m m' : Nat) : zi b m * zi b' m' = zi (b != b') (m * m') := by
  cases b <;> cases b' <;> simp [zi, Int.mul_neg, Int.neg_mul]
set_option maxHeartbeats 2000000 in
theorem zmul_h {v : Int} (h : ZA W b A n c z) (h' : ZA W b' A' n' c' z') (hv : z * z' = v) (hd : dl v.natAbs ≤ 100000) : Calls Tryz.prog 66 #[.agg #[.bool b, .slice A n c], .agg #[.bool b', .slice A' n' c']] W (ZR W v) := by
  have CA : Hid (∀ W', Below W.heap.size W W' → Calls Tryz.prog 68 #[.agg #[.slice A n c], .agg #[.slice A' n' c']] W' (NumR W' v.natAbs)) := fun W' hb => mul_h (h.up hb).1 (h'.up hb).1 (by rw [← hv, Int.natAbs_mul]) hd
  have CS : Hid (∀ s, (b != b') = s → ∀ W' B n d, Nm W' B n d v.natAbs → Calls Tryz.prog 96 #[.bool s, .agg #[.slice B n d]] W' (SgR W' (decide (v < 0)) B n d)) := fun s hs W' B n d hn => by
    subst hs
    refine signed_z hn ?_
    rw [← hv, Int.natAbs_mul, ← zi_mul, ← h.2.out, ← h'.2.out]
  clear h h' hv hd
  cases b <;> cases b'
  all_goals
    go_enter Tryz.func66, Tryz.ntmps66
    go_wp2_with fail
  · obtain ⟨W0, hW0⟩ : ∃ W0, W0 = (((W.alloc (.cells #[.bool false, .slice A n c] 26)).alloc (.cells #[.bool false, .slice A' n' c'] 26)).alloc (.cells #[.bool false, .slice none 0 0] 26)) := ⟨_, rfl⟩
    rw [← hW0]
    have HA : Hid (Zcell W0.drew W.heap.size false A n c) := by rw [hW0]; exact Zcell.dr (((zc_new _ _ _ _ _ _).al _).al _)
    have HA' : Hid (Zcell W0.drew (W.heap.size + 1) false A' n' c') := by rw [hW0]; exact Zcell.dr ((zc_new1 _ _ _ _ _ _ _).al _)
    have HR : Hid (Zcell W0.drew (W.heap.size + 1 + 1) false none 0 0) := by rw [hW0]; exact Zcell.dr (zc_new2 _ _ _ _ _ _ _ _)
    have HW : Hid (Below W.heap.size W W0.drew) := by rw [hW0]; exact Below.drew ((((Below.refl _ _).alloc (Nat.le_refl _) _).alloc (by simp) _).alloc (by simp; omega) _)
    clear hW0
    go_region_held3 (fun w' => w'.cell? ⟨W.heap.size, 0, none⟩ = some (.bool false) ∧ w'.cell? ⟨W.heap.size, 1, none⟩ = some (.slice A n c) ∧ w'.cell? ⟨W.heap.size + 1, 0, none⟩ = some (.bool false) ∧ w'.cell? ⟨W.heap.size + 1, 1, none⟩ = some (.slice A' n' c'))
      (first | exact ⟨HA.out.c0, HA.out.c1, HA'.out.c0, HA'.out.c1⟩ | exact ⟨far2 (by omega) HA.out.c0, far2 (by omega) HA.out.c1, far2 (by omega) HA'.out.c0, far2 (by omega) HA'.out.c1⟩)
      (first | (go_at_call 68; (with_reducible refine (CA.out _ HW.out).mono ?_); rintro e w1 ⟨B, d, rfl, hn, hbk⟩; replace HA := hide (HA.out.up hbk); replace HA' := hide (HA'.out.up hbk); replace HR := hide (HR.out.up hbk); replace HW := chain HW hbk.out) | (go_at_call 96; (with_reducible refine (CS.out _ (by decide) _ _ _ _ hn).mono ?_); rintro e w2 ⟨rfl, hbk⟩; replace HA := hide (HA.out.up hbk); replace HA' := hide (HA'.out.up hbk); replace HR := hide (HR.out.up hbk); replace HW := chain HW hbk.out; have hn := hn.up hbk; have r0 := HR.out.c0; have r1 := HR.out.c1; have f0 := HR.out.f0; have f1 := HR.out.f1) | fail)
    go_wp2_with fail
    refine bodyPost_ret (v := .agg #[.bool (decide (v < 0)), .slice B (dl v.natAbs) d]) (by simp [results, Tryz.results66, go_sem, r0, r1]) rfl ?_
    exact zr_end HW (by omega) HR hn rfl
  · obtain ⟨W0, hW0⟩ : ∃ W0, W0 = (((W.alloc (.cells #[.bool false, .slice A n c] 26)).alloc (.cells #[.bool true, .slice A' n' c'] 26)).alloc (.cells #[.bool false, .slice none 0 0] 26)) := ⟨_, rfl⟩
    rw [← hW0]
    have HA : Hid (Zcell W0.drew W.heap.size false A n c) := by rw [hW0]; exact Zcell.dr (((zc_new _ _ _ _ _ _).al _).al _)
    have HA' : Hid (Zcell W0.drew (W.heap.size + 1) true A' n' c') := by rw [hW0]; exact Zcell.dr ((zc_new1 _ _ _ _ _ _ _).al _)
    have HR : Hid (Zcell W0.drew (W.heap.size + 1 + 1) false none 0 0) := by rw [hW0]; exact Zcell.dr (zc_new2 _ _ _ _ _ _ _ _)
    have HW : Hid (Below W.heap.size W W0.drew) := by rw [hW0]; exact Below.drew ((((Below.refl _ _).alloc (Nat.le_refl _) _).alloc (by simp) _).alloc (by simp; omega) _)
    clear hW0
    go_region_held3 (fun w' => w'.cell? ⟨W.heap.size, 0, none⟩ = some (.bool false) ∧ w'.cell? ⟨W.heap.size, 1, none⟩ = some (.slice A n c) ∧ w'.cell? ⟨W.heap.size + 1, 0, none⟩ = some (.bool true) ∧ w'.cell? ⟨W.heap.size + 1, 1, none⟩ = some (.slice A' n' c'))
      (first | exact ⟨HA.out.c0, HA.out.c1, HA'.out.c0, HA'.out.c1⟩ | exact ⟨far2 (by omega) HA.out.c0, far2 (by omega) HA.out.c1, far2 (by omega) HA'.out.c0, far2 (by omega) HA'.out.c1⟩)
      (first | (go_at_call 68; (with_reducible refine (CA.out _ HW.out).mono ?_); rintro e w1 ⟨B, d, rfl, hn, hbk⟩; replace HA := hide (HA.out.up hbk); replace HA' := hide (HA'.out.up hbk); replace HR := hide (HR.out.up hbk); replace HW := chain HW hbk.out) | (go_at_call 96; (with_reducible refine (CS.out _ (by decide) _ _ _ _ hn).mono ?_); rintro e w2 ⟨rfl, hbk⟩; replace HA := hide (HA.out.up hbk); replace HA' := hide (HA'.out.up hbk); replace HR := hide (HR.out.up hbk); replace HW := chain HW hbk.out; have hn := hn.up hbk; have r0 := HR.out.c0; have r1 := HR.out.c1; have f0 := HR.out.f0; have f1 := HR.out.f1) | fail)
    go_wp2_with fail
    refine bodyPost_ret (v := .agg #[.bool (decide (v < 0)), .slice B (dl v.natAbs) d]) (by simp [results, Tryz.results66, go_sem, r0, r1]) rfl ?_
    exact zr_end HW (by omega) HR hn rfl
  · obtain ⟨W0, hW0⟩ : ∃ W0, W0 = (((W.alloc (.cells #[.bool true, .slice A n c] 26)).alloc (.cells #[.bool false, .slice A' n' c'] 26)).alloc (.cells #[.bool false, .slice none 0 0] 26)) := ⟨_, rfl⟩
    rw [← hW0]
    have HA : Hid (Zcell W0.drew W.heap.size true A n c) := by rw [hW0]; exact Zcell.dr (((zc_new _ _ _ _ _ _).al _).al _)
    have HA' : Hid (Zcell W0.drew (W.heap.size + 1) false A' n' c') := by rw [hW0]; exact Zcell.dr ((zc_new1 _ _ _ _ _ _ _).al _)
    have HR : Hid (Zcell W0.drew (W.heap.size + 1 + 1) false none 0 0) := by rw [hW0]; exact Zcell.dr (zc_new2 _ _ _ _ _ _ _ _)
    have HW : Hid (Below W.heap.size W W0.drew) := by rw [hW0]; exact Below.drew ((((Below.refl _ _).alloc (Nat.le_refl _) _).alloc (by simp) _).alloc (by simp; omega) _)
    clear hW0
    go_region_held3 (fun w' => w'.cell? ⟨W.heap.size, 0, none⟩ = some (.bool true) ∧ w'.cell? ⟨W.heap.size, 1, none⟩ = some (.slice A n c) ∧ w'.cell? ⟨W.heap.size + 1, 0, none⟩ = some (.bool false) ∧ w'.cell? ⟨W.heap.size + 1, 1, none⟩ = some (.slice A' n' c'))
      (first | exact ⟨HA.out.c0, HA.out.c1, HA'.out.c0, HA'.out.c1⟩ | exact ⟨far2 (by omega) HA.out.c0, far2 (by omega) HA.out.c1, far2 (by omega) HA'.out.c0, far2 (by omega) HA'.out.c1⟩)
      (first | (go_at_call 68; (with_reducible refine (CA.out _ HW.out).mono ?_); rintro e w1 ⟨B, d, rfl, hn, hbk⟩; replace HA := hide (HA.out.up hbk); replace HA' := hide (HA'.out.up hbk); replace HR := hide (HR.out.up hbk); replace HW := chain HW hbk.out) | (go_at_call 96; (with_reducible refine (CS.out _ (by decide) _ _ _ _ hn).mono ?_); rintro e w2 ⟨rfl, hbk⟩; replace HA := hide (HA.out.up hbk); replace HA' := hide (HA'.out.up hbk); replace HR := hide (HR.out.up hbk); replace HW := chain HW hbk.out; have hn := hn.up hbk; have r0 := HR.out.c0; have r1 := HR.out.c1; have f0 := HR.out.f0; have f1 := HR.out.f1) | fail)
    go_wp2_with fail
    refine bodyPost_ret (v := .agg #[.bool (decide (v < 0)), .slice B (dl v.natAbs) d]) (by simp [results, Tryz.results66, go_sem, r0, r1]) rfl ?_
    exact zr_end HW (by omega) HR hn rfl
  · obtain ⟨W0, hW0⟩ : ∃ W0, W0 = (((W.alloc (.cells #[.bool true, .slice A n c] 26)).alloc (.cells #[.bool true, .slice A' n' c'] 26)).alloc (.cells #[.bool false, .slice none 0 0] 26)) := ⟨_, rfl⟩
    rw [← hW0]
    have HA : Hid (Zcell W0.drew W.heap.size true A n c) := by rw [hW0]; exact Zcell.dr (((zc_new _ _ _ _ _ _).al _).al _)
    have HA' : Hid (Zcell W0.drew (W.heap.size + 1) true A' n' c') := by rw [hW0]; exact Zcell.dr ((zc_new1 _ _ _ _ _ _ _).al _)
    have HR : Hid (Zcell W0.drew (W.heap.size + 1 + 1) false none 0 0) := by rw [hW0]; exact Zcell.dr (zc_new2 _ _ _ _ _ _ _ _)
    have HW : Hid (Below W.heap.size W W0.drew) := by rw [hW0]; exact Below.drew ((((Below.refl _ _).alloc (Nat.le_refl _) _).alloc (by simp) _).alloc (by simp; omega) _)
    clear hW0
    go_region_held3 (fun w' => w'.cell? ⟨W.heap.size, 0, none⟩ = some (.bool true) ∧ w'.cell? ⟨W.heap.size, 1, none⟩ = some (.slice A n c) ∧ w'.cell? ⟨W.heap.size + 1, 0, none⟩ = some (.bool true) ∧ w'.cell? ⟨W.heap.size + 1, 1, none⟩ = some (.slice A' n' c'))
      (first | exact ⟨HA.out.c0, HA.out.c1, HA'.out.c0, HA'.out.c1⟩ | exact ⟨far2 (by omega) HA.out.c0, far2 (by omega) HA.out.c1, far2 (by omega) HA'.out.c0, far2 (by omega) HA'.out.c1⟩)
      (first | (go_at_call 68; (with_reducible refine (CA.out _ HW.out).mono ?_); rintro e w1 ⟨B, d, rfl, hn, hbk⟩; replace HA := hide (HA.out.up hbk); replace HA' := hide (HA'.out.up hbk); replace HR := hide (HR.out.up hbk); replace HW := chain HW hbk.out) | (go_at_call 96; (with_reducible refine (CS.out _ (by decide) _ _ _ _ hn).mono ?_); rintro e w2 ⟨rfl, hbk⟩; replace HA := hide (HA.out.up hbk); replace HA' := hide (HA'.out.up hbk); replace HR := hide (HR.out.up hbk); replace HW := chain HW hbk.out; have hn := hn.up hbk; have r0 := HR.out.c0; have r1 := HR.out.c1; have f0 := HR.out.f0; have f1 := HR.out.f1) | fail)
    go_wp2_with fail
    refine bodyPost_ret (v := .agg #[.bool (decide (v < 0)), .slice B (dl v.natAbs) d]) (by simp [results, Tryz.results66, go_sem, r0, r1]) rfl ?_
    exact zr_end HW (by omega) HR hn rfl
end
end Go.Proofs.YtmiklffjffdkgaaGreatDoor
end
