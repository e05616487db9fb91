/- Package num: Div. Conditions: less than 100000 words. -/
import Derived.Test.YtmiklffjffdkgaaGreatDoorGRwbc14
open Go.RowKit
set_option maxRecDepth 100000
namespace Go.Proofs.YtmiklffjffdkgaaGreatDoor
theorem zc_new3 (W : World) (o o' o'' : Obj) (b : Bool) (A : Option Addr) (n c : Nat) (t : TypeId) : Zcell ((((W.alloc o).alloc o').alloc o'').alloc (.cells #[.bool b, .slice A n c] t)) (W.heap.size + 1 + 1 + 1) b A n c := by
  have h := zc_new (((W.alloc o).alloc o').alloc o'') b A n c t
  rwa [show (((W.alloc o).alloc o').alloc o'').heap.size = W.heap.size + 1 + 1 + 1 by simp] at h
theorem al4 (W : World) (o1 o2 o3 o4 : Obj) : Below W.heap.size W ((((W.alloc o1).alloc o2).alloc o3).alloc o4) := (al3 W o1 o2 o3).alloc (by simp; omega) _
theorem sz4 (W : World) (o1 o2 o3 o4 : Obj) : ((((W.alloc o1).alloc o2).alloc o3).alloc o4).heap.size = W.heap.size + 4 := by simp
/-- The division's own variables: both numbers, both results. -/
structure ZDv (W W0 : World) (b : Bool) (A : Option Addr) (n c : Nat) (b' : Bool) (A' : Option Addr) (n' c' : Nat) : Prop where
  x : Zcell W0 W.heap.size b A n c
  y : Zcell W0 (W.heap.size + 1) b' A' n' c'
  r : Zcell W0 (W.heap.size + 1 + 1) false none 0 0
  s : Zcell W0 (W.heap.size + 1 + 1 + 1) false none 0 0
  bl : Below W.heap.size W W0
theorem ZDv.up {W W0 W1 : World} {b : Bool} {A : Option Addr} {n c : Nat} {b' : Bool} {A' : Option Addr} {n' c' : Nat} (h : ZDv W W0 b A n c b' A' n' c') (hb : Hid (Below W0.heap.size W0 W1)) : ZDv W W1 b A n c b' A' n' c' :=
  ⟨h.x.up hb, h.y.up hb, h.r.up hb, h.s.up hb, h.bl.trans (hb.out.mono h.bl.size)⟩
theorem ZDv.dr {W W0 : World} {b : Bool} {A : Option Addr} {n c : Nat} {b' : Bool} {A' : Option Addr} {n' c' : Nat} (h : ZDv W W0 b A n c b' A' n' c') : ZDv W W0.drew b A n c b' A' n' c' :=
  ⟨h.x.dr, h.y.dr, h.r.dr, h.s.dr, h.bl.drew⟩
theorem ZDv.al {W W0 : World} {b : Bool} {A : Option Addr} {n c : Nat} {b' : Bool} {A' : Option Addr} {n' c' : Nat} (h : ZDv W W0 b A n c b' A' n' c') (o : Obj) : ZDv W (W0.alloc o) b A n c b' A' n' c' :=
  h.up ((Below.refl _ _).alloc (Nat.le_refl _) o)
theorem zdv0 (W : World) (b : Bool) (A : Option Addr) (n c : Nat) (b' : Bool) (A' : Option Addr) (n' c' : Nat) (t : TypeId) :
    ZDv W ((((W.alloc (.cells #[.bool b, .slice A n c] t)).alloc (.cells #[.bool b', .slice A' n' c'] t)).alloc (.cells #[.bool false, .slice none 0 0] t)).alloc (.cells #[.bool false, .slice none 0 0] t)) b A n c b' A' n' c' :=
  ⟨(((zc_new _ _ _ _ _ _).al _).al _).al _, ((zc_new1 _ _ _ _ _ _ _).al _).al _, (zc_new2 _ _ _ _ _ _ _ _).al _, zc_new3 _ _ _ _ _ _ _ _ _, al4 _ _ _ _ _⟩
def ZDivR (W : World) (q r : Int) (e : Ending) (w' : World) : Prop :=
  ∃ A c A' c', e = .returned (.tuple #[.agg #[.bool (decide (q < 0)), .slice A (dl q.natAbs) c], .agg #[.bool (decide (r < 0)), .slice A' (dl r.natAbs) c'], .bool true]) ∧ ZA w' (decide (q < 0)) A (dl q.natAbs) c q ∧ ZA w' (decide (r < 0)) A' (dl r.natAbs) c' r ∧ Hid (Below W.heap.size W w')
def ZDivNo (W : World) (e : Ending) (w' : World) : Prop := e = .returned (.tuple #[.agg #[.bool false, .slice none 0 0], .agg #[.bool false, .slice none 0 0], .bool false]) ∧ Hid (Below W.heap.size W w')
theorem zdiv_fnd {W w2 : World} {b : Bool} {A : Option Addr} {n c : Nat} {b' : Bool} {A' : Option Addr} {n' c' : Nat} {B B' : Option Addr} {d d' m m' : Nat} {q r : Int} (h : Hid (ZDv W w2 b A n c b' A' n' c')) (hn : Nm w2 B (dl m) d m) (hn' : Nm w2 B' (dl m') d' m') (hm : m = q.natAbs) (hm' : m' = r.natAbs) :
    ZDivR W q r (.returned (.tuple #[.agg #[.bool (decide (q < 0)), .slice B (dl m) d], .agg #[.bool (decide (r < 0)), .slice B' (dl m') d'], .bool true]))
      ((((w2.setCell ⟨W.heap.size + 1 + 1, 0, none⟩ (.bool (decide (q < 0)))).setCell ⟨W.heap.size + 1 + 1, 1, none⟩ (.slice B (dl m) d)).setCell ⟨W.heap.size + 1 + 1 + 1, 0, none⟩ (.bool (decide (r < 0)))).setCell ⟨W.heap.size + 1 + 1 + 1, 1, none⟩ (.slice B' (dl m') d')) := by
  subst hm; subst hm'
  have h := h.out
  have k : ∀ {B1 n1 d1 m1}, Nm w2 B1 n1 d1 m1 → Nm ((((w2.setCell ⟨W.heap.size + 1 + 1, 0, none⟩ (.bool (decide (q < 0)))).setCell ⟨W.heap.size + 1 + 1, 1, none⟩ (.slice B (dl q.natAbs) d)).setCell ⟨W.heap.size + 1 + 1 + 1, 0, none⟩ (.bool (decide (r < 0)))).setCell ⟨W.heap.size + 1 + 1 + 1, 1, none⟩ (.slice B' (dl r.natAbs) d')) B1 n1 d1 m1 := fun hn =>
    nm_z2 (nm_z2 hn h.r.c0 h.r.c1) (far2 (by omega) h.s.c0) (far2 (by omega) h.s.c1)
  exact ⟨B, d, B', d', rfl, zr_of (k hn), zr_of (k hn'), (((h.bl.setCell (by show _ ≤ W.heap.size + 1 + 1; omega) _).setCell (by show _ ≤ W.heap.size + 1 + 1; omega) _).setCell (by show _ ≤ W.heap.size + 1 + 1 + 1; omega) _).setCell (by show _ ≤ W.heap.size + 1 + 1 + 1; omega) _⟩
theorem alc2 {w : World} {o o' : Obj} {p i : Nat} {v : Value} (h : w.cell? ⟨p, i, none⟩ = some v) : ((w.alloc o).alloc o').cell? ⟨p, i, none⟩ = some v := by
  have h1 : (w.alloc o).cell? ⟨p, i, none⟩ = some v := (World.cell?_alloc_some _ _ _ (by rw [h]; rfl)).trans h
  exact (World.cell?_alloc_some _ _ _ (by rw [h1]; rfl)).trans h1
theorem set2a {w : World} {p : Nat} {s : Bool} {A : Option Addr} {n c : Nat} {x y : Value} (h : Zcell w p s A n c) :
    ((w.setCell ⟨p, 0, none⟩ x).setCell ⟨p, 1, none⟩ y).cell? ⟨p, 0, none⟩ = some x ∧ ((w.setCell ⟨p, 0, none⟩ x).setCell ⟨p, 1, none⟩ y).cell? ⟨p, 1, none⟩ = some y :=
  ⟨(World.cell?_setCell_other _ _ _ _ (by intro e; cases e)).trans (World.cell?_setCell_same _ _ _ h.c0), World.cell?_setCell_same _ _ _ ((World.cell?_setCell_other _ _ _ _ (by intro e; cases e)).trans h.c1)⟩
theorem set4a {W w : World} {b : Bool} {A : Option Addr} {n c : Nat} {b' : Bool} {A' : Option Addr} {n' c' : Nat} {x y x' y' : Value} (h : ZDv W w b A n c b' A' n' c') :
    ((((w.setCell ⟨W.heap.size + 1 + 1, 0, none⟩ x).setCell ⟨W.heap.size + 1 + 1, 1, none⟩ y).setCell ⟨W.heap.size + 1 + 1 + 1, 0, none⟩ x').setCell ⟨W.heap.size + 1 + 1 + 1, 1, none⟩ y').cell? ⟨W.heap.size + 1 + 1, 0, none⟩ = some x ∧
    ((((w.setCell ⟨W.heap.size + 1 + 1, 0, none⟩ x).setCell ⟨W.heap.size + 1 + 1, 1, none⟩ y).setCell ⟨W.heap.size + 1 + 1 + 1, 0, none⟩ x').setCell ⟨W.heap.size + 1 + 1 + 1, 1, none⟩ y').cell? ⟨W.heap.size + 1 + 1, 1, none⟩ = some y ∧
    ((((w.setCell ⟨W.heap.size + 1 + 1, 0, none⟩ x).setCell ⟨W.heap.size + 1 + 1, 1, none⟩ y).setCell ⟨W.heap.size + 1 + 1 + 1, 0, none⟩ x').setCell ⟨W.heap.size + 1 + 1 + 1, 1, none⟩ y').cell? ⟨W.heap.size + 1 + 1 + 1, 0, none⟩ = some x' ∧
    ((((w.setCell ⟨W.heap.size + 1 + 1, 0, none⟩ x).setCell ⟨W.heap.size + 1 + 1, 1, none⟩ y).setCell ⟨W.heap.size + 1 + 1 + 1, 0, none⟩ x').setCell ⟨W.heap.size + 1 + 1 + 1, 1, none⟩ y').cell? ⟨W.heap.size + 1 + 1 + 1, 1, none⟩ = some y' := by
  obtain ⟨h1, h2⟩ := set2a (x := x) (y := y) h.r
  have h3 : Zcell ((w.setCell ⟨W.heap.size + 1 + 1, 0, none⟩ x).setCell ⟨W.heap.size + 1 + 1, 1, none⟩ y) (W.heap.size + 1 + 1 + 1) false none 0 0 :=
    ⟨far2 (by omega) h.s.c0, far2 (by omega) h.s.c1, by rw [World.frozen?_setCell, World.frozen?_setCell]; exact h.s.f0, by rw [World.frozen?_setCell, World.frozen?_setCell]; exact h.s.f1, by have := h.s.lt; simpa [World.setCell] using this⟩
  obtain ⟨h4, h5⟩ := set2a (x := x') (y := y') h3
  exact ⟨far2 (by omega) h1, far2 (by omega) h2, h4, h5⟩
section
variable {W : World} {b b' : Bool} {A A' : Option Addr} {n n' c c' : Nat} {z z' : Int}
set_option maxHeartbeats 4000000 in
theorem zdiv_no (h : ZA W b A n c z) (h' : ZA W b' A' n' c' z') (h0 : z' = 0) : Calls Tryz.prog 62 #[.agg #[.bool b, .slice A n c], .agg #[.bool b', .slice A' n' c']] W (ZDivNo W) := by
  have CD : Hid (∀ W', Below W.heap.size W W' → Calls Tryz.prog 73 #[.agg #[.slice A n c], .agg #[.slice A' n' c']] W' (DivNone W')) := fun W' hb => div_no (h.up hb).1 (h'.up hb).1 (by omega)
  clear h h' h0
  go_enter Tryz.func62, Tryz.ntmps62
  go_wp2_with (first | (go_at_call 73; (with_reducible refine (CD.out _ (al4 _ _ _ _ _)).mono ?_); rintro e w1 ⟨rfl, hbk⟩; have HX := hide ((zdv0 W b A n c b' A' n' c' _).up hbk); have a0 := HX.out.x.c0; have a1 := HX.out.x.c1; have b0 := HX.out.y.c0; have b1 := HX.out.y.c1; have r0 := HX.out.r.c0; have r1 := HX.out.r.c1; have s0 := HX.out.s.c0; have s1 := HX.out.s.c1; have f0 := HX.out.r.f0; have f1 := HX.out.r.f1; have g0 := HX.out.s.f0; have g1 := HX.out.s.f1; have l3 := HX.out.s.lt; have l2 := HX.out.r.lt; have l1 := HX.out.y.lt; have l0 := HX.out.x.lt) | fail)
  have u0 := fun o o' => alc2 (o := o) (o' := o') (set4a (x := .bool false) (y := .slice none 0 0) (x' := .bool false) (y' := .slice none 0 0) HX.out).1
  have u1 := fun o o' => alc2 (o := o) (o' := o') (set4a (x := .bool false) (y := .slice none 0 0) (x' := .bool false) (y' := .slice none 0 0) HX.out).2.1
  have u2 := fun o o' => alc2 (o := o) (o' := o') (set4a (x := .bool false) (y := .slice none 0 0) (x' := .bool false) (y' := .slice none 0 0) HX.out).2.2.1
  have u3 := fun o o' => alc2 (o := o) (o' := o') (set4a (x := .bool false) (y := .slice none 0 0) (x' := .bool false) (y' := .slice none 0 0) HX.out).2.2.2
  refine bodyPost_ret (v := .tuple #[.agg #[.bool false, .slice none 0 0], .agg #[.bool false, .slice none 0 0], .bool false]) (by simp [results, Tryz.results62, go_sem, u0, u1, u2, u3]) rfl ?_
  refine ⟨rfl, ?_⟩
  have hb := HX.out.bl
  have hsz : ∀ w x y x' y', ((((World.setCell w ⟨W.heap.size + 1 + 1, 0, none⟩ x).setCell ⟨W.heap.size + 1 + 1, 1, none⟩ y).setCell ⟨W.heap.size + 1 + 1 + 1, 0, none⟩ x').setCell ⟨W.heap.size + 1 + 1 + 1, 1, none⟩ y').heap.size = w.heap.size := fun _ _ _ _ _ => by simp [World.setCell]
  exact (((((((hb.setCell (by show _ ≤ W.heap.size + 1 + 1; omega) _).setCell (by show _ ≤ W.heap.size + 1 + 1; omega) _).setCell (by show _ ≤ W.heap.size + 1 + 1 + 1; omega) _).setCell (by show _ ≤ W.heap.size + 1 + 1 + 1; omega) _).alloc (by rw [hsz]; exact hb.size) _).alloc (by simp only [World.size_alloc]; rw [hsz]; have := hb.size; omega) _))
variable {q r : Int}
theorem zdiv_math (h : ZA W b A n c z) (h' : ZA W b' A' n' c' z') (h0 : z' ≠ 0) (hq : z / z' = q) (hr : z % z' = r) (hb : b = false ∨ z.natAbs % z'.natAbs = 0) :
    z.natAbs / z'.natAbs = q.natAbs ∧ z.natAbs % z'.natAbs = r.natAbs ∧ q = zi (b != b') q.natAbs ∧ r = zi false r.natAbs := by
  obtain ⟨e1, e2⟩ := div_plain (b := b) (b' := b') (m := z.natAbs) (k := z'.natAbs) (by omega) hb
  rw [← h.2.out, ← h'.2.out, hq] at e1
  rw [← h.2.out, ← h'.2.out, hr] at e2
  have e3 : q.natAbs = z.natAbs / z'.natAbs := by rw [e1, zi_abs]
  exact ⟨e3.symm, by omega, by rw [e3]; exact e1, by rw [zi_false]; omega⟩
theorem zdiv_math2 (h : ZA W true A n c z) (h' : ZA W b' A' n' c' z') (h0 : z' ≠ 0) (hq : z / z' = q) (hr : z % z' = r) (hb : z.natAbs % z'.natAbs ≠ 0) :
    z.natAbs / z'.natAbs + 1 = q.natAbs ∧ z'.natAbs - z.natAbs % z'.natAbs = r.natAbs ∧ q = zi (true != b') q.natAbs ∧ r = zi false r.natAbs := by
  obtain ⟨e1, e2⟩ := div_low (b' := b') (m := z.natAbs) (k := z'.natAbs) (by omega) hb
  rw [← h.2.out, ← h'.2.out, hq] at e1
  rw [← h.2.out, ← h'.2.out, hr] at e2
  have e3 : q.natAbs = z.natAbs / z'.natAbs + 1 := by rw [e1, zi_abs]
  exact ⟨e3.symm, by omega, by rw [e3]; exact e1, by rw [zi_false]; omega⟩
set_option maxHeartbeats 4000000 in
theorem zdiv_plus (h : ZA W b A n c z) (h' : ZA W b' A' n' c' z') (h0 : z' ≠ 0) (hd : dl z.natAbs ≤ 99999) (hq : z / z' = q) (hr : z % z' = r) (hb : b = false) :
    Calls Tryz.prog 62 #[.agg #[.bool b, .slice A n c], .agg #[.bool b', .slice A' n' c']] W (ZDivR W q r) := by
  obtain ⟨m1, m2, hQ, hR⟩ := zdiv_math h h' h0 hq hr (.inl hb)
  subst hb
  have CD : Hid (∀ W', Below W.heap.size W W' → Calls Tryz.prog 73 #[.agg #[.slice A n c], .agg #[.slice A' n' c']] W' (DivF W' q.natAbs r.natAbs)) := fun W' hb => div_f (h.up hb).1 (h'.up hb).1 (by omega) hd m1 m2
  have CS : Hid (∀ s, (false != b') = s → ∀ W' B n d, Nm W' B n d q.natAbs → Calls Tryz.prog 96 #[.bool s, .agg #[.slice B n d]] W' (SgR W' (decide (q < 0)) B n d)) := fun s hs W' B n d hn => by
    subst hs
    exact signed_z hn hQ
  have CT : Hid (∀ W' B n d, Nm W' B n d r.natAbs → Calls Tryz.prog 96 #[.bool false, .agg #[.slice B n d]] W' (SgR W' (decide (r < 0)) B n d)) := fun W' B n d hn => signed_z hn hR
  clear h h' h0 hd hq hr m1 m2 hQ hR
  cases b'
  all_goals
    go_enter Tryz.func62, Tryz.ntmps62
  · go_wp2_with (first | (go_at_call 73; (with_reducible refine (CD.out _ (al4 _ _ _ _ _)).mono ?_); rintro e w1 ⟨Aq, cq, Ar, cr, rfl, hnq, hnr, hbk⟩; have HX := hide ((zdv0 W false A n c false A' n' c' _).up hbk); have a0 := HX.out.x.c0; have a1 := HX.out.x.c1; have b0 := HX.out.y.c0; have b1 := HX.out.y.c1; have r0 := HX.out.r.c0; have r1 := HX.out.r.c1; have s0 := HX.out.s.c0; have s1 := HX.out.s.c1; have f0 := HX.out.r.f0; have f1 := HX.out.r.f1; have g0 := HX.out.s.f0; have g1 := HX.out.s.f1; have l3 := HX.out.s.lt; have l2 := HX.out.r.lt; have l1 := HX.out.y.lt; have l0 := HX.out.x.lt) | fail)
    obtain ⟨W1, hW1⟩ : ∃ W1, W1 = ((w1.alloc (.cells #[.slice Aq (dl q.natAbs) cq] 24)).alloc (.cells #[.slice Ar (dl r.natAbs) cr] 24)) := ⟨_, rfl⟩
    rw [← hW1]
    have HX1 : Hid (ZDv W W1.drew false A n c false A' n' c') := by rw [hW1]; exact ZDv.dr ((HX.out.al _).al _)
    have hq : W1.drew.cell? ⟨w1.heap.size, 0, none⟩ = some (.slice Aq (dl q.natAbs) cq) := by rw [hW1]; exact (new2 w1 _ _ _).1
    have hr : W1.drew.cell? ⟨w1.heap.size + 1, 0, none⟩ = some (.slice Ar (dl r.natAbs) cr) := by rw [hW1]; exact (new2 w1 _ _ _).2.1
    replace hnq : Nm W1.drew Aq (dl q.natAbs) cq q.natAbs := by rw [hW1]; exact Nm.dr ((hnq.al _).al _)
    replace hnr : Nm W1.drew Ar (dl r.natAbs) cr r.natAbs := by rw [hW1]; exact Nm.dr ((hnr.al _).al _)
    have hpl : w1.heap.size < W1.drew.heap.size := by show _ < W1.heap.size; rw [hW1]; simp; omega
    have hpr : w1.heap.size + 1 < W1.drew.heap.size := by show _ < W1.heap.size; rw [hW1]; simp
    have hp4 : W.heap.size + 1 + 1 + 1 < w1.heap.size := l3
    clear hW1 hbk HX
    replace HX := HX1
    clear HX1
    clear a0 a1 b0 b1 r0 r1 s0 s1 f0 f1 g0 g1 l0 l1 l2 l3
    obtain ⟨p, hp⟩ : ∃ p, p = w1.heap.size := ⟨_, rfl⟩
    rw [← hp] at hq hr hpl hpr hp4
    simp only [← hp]
    clear hp
    go_region_held3 (fun w' => w'.cell? ⟨W.heap.size, 0, none⟩ = some (.bool false) ∧ w'.cell? ⟨W.heap.size + 1, 0, none⟩ = some (.bool false) ∧ w'.cell? ⟨p, 0, none⟩ = some (.slice Aq (dl q.natAbs) cq) ∧ w'.cell? ⟨p + 1, 0, none⟩ = some (.slice Ar (dl r.natAbs) cr))
      (first | exact ⟨HX.out.x.c0, HX.out.y.c0, hq, hr⟩ | exact ⟨far2 (by omega) HX.out.x.c0, far2 (by omega) HX.out.y.c0, far2 (by omega) hq, far2 (by omega) hr⟩ | exact ⟨far2 (by omega) (far2 (by omega) HX.out.x.c0), far2 (by omega) (far2 (by omega) HX.out.y.c0), far2 (by omega) (far2 (by omega) hq), far2 (by omega) (far2 (by omega) hr)⟩)
      (first | (go_at_call 96; (with_reducible refine (CS.out _ (by decide) _ _ _ _ hnq).mono ?_); rintro e w8 ⟨rfl, hbk⟩; replace HX := hide (HX.out.up hbk); replace hnq := hnq.up hbk; replace hnr := hnr.up hbk; replace hq := cellUp hq hpl hbk; replace hr := cellUp hr hpr hbk; replace hpl := Nat.lt_of_lt_of_le hpl hbk.out.size; replace hpr := Nat.lt_of_lt_of_le hpr hbk.out.size) | (go_at_call 96; (with_reducible refine (CT.out _ _ _ _ hnr).mono ?_); rintro e w9 ⟨rfl, hbk⟩; replace HX := hide (HX.out.up hbk); replace hnq := hnq.up hbk; replace hnr := hnr.up hbk; replace hq := cellUp hq hpl hbk; replace hr := cellUp hr hpr hbk; replace hpl := Nat.lt_of_lt_of_le hpl hbk.out.size; replace hpr := Nat.lt_of_lt_of_le hpr hbk.out.size; have a0 := HX.out.x.c0; have a1 := HX.out.x.c1; have b0 := HX.out.y.c0; have b1 := HX.out.y.c1; have r0 := HX.out.r.c0; have r1 := HX.out.r.c1; have s0 := HX.out.s.c0; have s1 := HX.out.s.c1; have f0 := HX.out.r.f0; have f1 := HX.out.r.f1; have g0 := HX.out.s.f0; have g1 := HX.out.s.f1; have l3 := HX.out.s.lt; have l2 := HX.out.r.lt; have l1 := HX.out.y.lt; have l0 := HX.out.x.lt) | fail)
    go_wp2_with fail
    refine bodyPost_ret (v := .tuple #[.agg #[.bool (decide (q < 0)), .slice Aq (dl q.natAbs) cq], .agg #[.bool (decide (r < 0)), .slice Ar (dl r.natAbs) cr], .bool true]) (by simp [results, Tryz.results62, go_sem, r0, r1, s0, s1]) rfl ?_
    exact zdiv_fnd HX hnq hnr rfl rfl
  · go_wp2_with (first | (go_at_call 73; (with_reducible refine (CD.out _ (al4 _ _ _ _ _)).mono ?_); rintro e w1 ⟨Aq, cq, Ar, cr, rfl, hnq, hnr, hbk⟩; have HX := hide ((zdv0 W false A n c true A' n' c' _).up hbk); have a0 := HX.out.x.c0; have a1 := HX.out.x.c1; have b0 := HX.out.y.c0; have b1 := HX.out.y.c1; have r0 := HX.out.r.c0; have r1 := HX.out.r.c1; have s0 := HX.out.s.c0; have s1 := HX.out.s.c1; have f0 := HX.out.r.f0; have f1 := HX.out.r.f1; have g0 := HX.out.s.f0; have g1 := HX.out.s.f1; have l3 := HX.out.s.lt; have l2 := HX.out.r.lt; have l1 := HX.out.y.lt; have l0 := HX.out.x.lt) | fail)
    obtain ⟨W1, hW1⟩ : ∃ W1, W1 = ((w1.alloc (.cells #[.slice Aq (dl q.natAbs) cq] 24)).alloc (.cells #[.slice Ar (dl r.natAbs) cr] 24)) := ⟨_, rfl⟩
    rw [← hW1]
    have HX1 : Hid (ZDv W W1.drew false A n c true A' n' c') := by rw [hW1]; exact ZDv.dr ((HX.out.al _).al _)
    have hq : W1.drew.cell? ⟨w1.heap.size, 0, none⟩ = some (.slice Aq (dl q.natAbs) cq) := by rw [hW1]; exact (new2 w1 _ _ _).1
    have hr : W1.drew.cell? ⟨w1.heap.size + 1, 0, none⟩ = some (.slice Ar (dl r.natAbs) cr) := by rw [hW1]; exact (new2 w1 _ _ _).2.1
    replace hnq : Nm W1.drew Aq (dl q.natAbs) cq q.natAbs := by rw [hW1]; exact Nm.dr ((hnq.al _).al _)
    replace hnr : Nm W1.drew Ar (dl r.natAbs) cr r.natAbs := by rw [hW1]; exact Nm.dr ((hnr.al _).al _)
    have hpl : w1.heap.size < W1.drew.heap.size := by show _ < W1.heap.size; rw [hW1]; simp; omega
    have hpr : w1.heap.size + 1 < W1.drew.heap.size := by show _ < W1.heap.size; rw [hW1]; simp
    have hp4 : W.heap.size + 1 + 1 + 1 < w1.heap.size := l3
    clear hW1 hbk HX
    replace HX := HX1
    clear HX1
    clear a0 a1 b0 b1 r0 r1 s0 s1 f0 f1 g0 g1 l0 l1 l2 l3
    obtain ⟨p, hp⟩ : ∃ p, p = w1.heap.size := ⟨_, rfl⟩
    rw [← hp] at hq hr hpl hpr hp4
    simp only [← hp]
    clear hp
    go_region_held3 (fun w' => w'.cell? ⟨W.heap.size, 0, none⟩ = some (.bool false) ∧ w'.cell? ⟨W.heap.size + 1, 0, none⟩ = some (.bool true) ∧ w'.cell? ⟨p, 0, none⟩ = some (.slice Aq (dl q.natAbs) cq) ∧ w'.cell? ⟨p + 1, 0, none⟩ = some (.slice Ar (dl r.natAbs) cr))
      (first | exact ⟨HX.out.x.c0, HX.out.y.c0, hq, hr⟩ | exact ⟨far2 (by omega) HX.out.x.c0, far2 (by omega) HX.out.y.c0, far2 (by omega) hq, far2 (by omega) hr⟩ | exact ⟨far2 (by omega) (far2 (by omega) HX.out.x.c0), far2 (by omega) (far2 (by omega) HX.out.y.c0), far2 (by omega) (far2 (by omega) hq), far2 (by omega) (far2 (by omega) hr)⟩)
      (first | (go_at_call 96; (with_reducible refine (CS.out _ (by decide) _ _ _ _ hnq).mono ?_); rintro e w8 ⟨rfl, hbk⟩; replace HX := hide (HX.out.up hbk); replace hnq := hnq.up hbk; replace hnr := hnr.up hbk; replace hq := cellUp hq hpl hbk; replace hr := cellUp hr hpr hbk; replace hpl := Nat.lt_of_lt_of_le hpl hbk.out.size; replace hpr := Nat.lt_of_lt_of_le hpr hbk.out.size) | (go_at_call 96; (with_reducible refine (CT.out _ _ _ _ hnr).mono ?_); rintro e w9 ⟨rfl, hbk⟩; replace HX := hide (HX.out.up hbk); replace hnq := hnq.up hbk; replace hnr := hnr.up hbk; replace hq := cellUp hq hpl hbk; replace hr := cellUp hr hpr hbk; replace hpl := Nat.lt_of_lt_of_le hpl hbk.out.size; replace hpr := Nat.lt_of_lt_of_le hpr hbk.out.size; have a0 := HX.out.x.c0; have a1 := HX.out.x.c1; have b0 := HX.out.y.c0; have b1 := HX.out.y.c1; have r0 := HX.out.r.c0; have r1 := HX.out.r.c1; have s0 := HX.out.s.c0; have s1 := HX.out.s.c1; have f0 := HX.out.r.f0; have f1 := HX.out.r.f1; have g0 := HX.out.s.f0; have g1 := HX.out.s.f1; have l3 := HX.out.s.lt; have l2 := HX.out.r.lt; have l1 := HX.out.y.lt; have l0 := HX.out.x.lt) | fail)
    go_wp2_with fail
    refine bodyPost_ret (v := .tuple #[.agg #[.bool (decide (q < 0)), .slice Aq (dl q.natAbs) cq], .agg #[.bool (decide (r < 0)), .slice Ar (dl r.natAbs) cr], .bool true]) (by simp [results, Tryz.results62, go_sem, r0, r1, s0, s1]) rfl ?_
    exact zdiv_fnd HX hnq hnr rfl rfl
end
end Go.Proofs.YtmiklffjffdkgaaGreatDoor
