/- Package num: Div of a negative number. Conditions: less than 100000 words. -/
import Derived.Test.YtmiklffjffdkgaaGreatDoorZf
open Go.RowKit
set_option maxRecDepth 100000
namespace Go.Proofs.YtmiklffjffdkgaaGreatDoor
theorem ZDv.set {W W0 : World} {b : Bool} {A : Option Addr} {n c : Nat} {b' : Bool} {A' : Option Addr} {n' c' : Nat} {p : Nat} (h : ZDv W W0 b A n c b' A' n' c') (hp : W.heap.size + 1 + 1 + 1 < p) (u : Value) : ZDv W (W0.setCell ⟨p, 0, none⟩ u) b A n c b' A' n' c' := by
  have z : ∀ {q s B m d}, q ≠ p → Zcell W0 q s B m d → Zcell (W0.setCell ⟨p, 0, none⟩ u) q s B m d := fun hq k =>
    ⟨(World.cell?_setCell_far _ _ _ _ (fun e => hq e.symm)).trans k.c0, (World.cell?_setCell_far _ _ _ _ (fun e => hq e.symm)).trans k.c1, by rw [World.frozen?_setCell]; exact k.f0, by rw [World.frozen?_setCell]; exact k.f1, by have := k.lt; simpa [World.setCell] using this⟩
  exact ⟨z (by omega) h.x, z (by omega) h.y, z (by omega) h.r, z (by omega) h.s, h.bl.setCell (by show _ ≤ p; omega) _⟩
theorem dl_succ (m : Nat) : dl (m + 1) ≤ dl m + 1 := by
  refine dl_le ?_
  have h := lt_pow_digs (b := W32) (by decide) m
  unfold dl
  rw [Nat.pow_succ]
  have : W32 ^ (digs W32 m).length * 2 ≤ W32 ^ (digs W32 m).length * W32 := Nat.mul_le_mul_left _ (by decide)
  omega
theorem bxf2 {a b : World} {v u : Value} {t : TypeId} (hb : Hid (Below ((a.alloc (.cells #[v] t)).alloc (.cells #[u] t)).heap.size ((a.alloc (.cells #[v] t)).alloc (.cells #[u] t)) b)) : b.frozen? ⟨a.heap.size, 0, none⟩ = false ∧ b.frozen? ⟨a.heap.size + 1, 0, none⟩ = false := by
  have b1 : (a.alloc (.cells #[v] t)).heap[a.heap.size]? = some (.cells #[v] t (0, 0)) := heap_alloc_new a _
  have b2 : ((a.alloc (.cells #[v] t)).alloc (.cells #[u] t)).heap[a.heap.size + 1]? = some (.cells #[u] t (0, 0)) := by simpa using heap_alloc_new (a.alloc (.cells #[v] t)) (.cells #[u] t)
  have b3 : ((a.alloc (.cells #[v] t)).alloc (.cells #[u] t)).heap[a.heap.size]? = some (.cells #[v] t (0, 0)) := (Below.heap_alloc _ _ _ (by simp)).trans b1
  exact ⟨(hb.out.frozen (by show a.heap.size < _; simp; omega)).trans (one_cell b3).2, (hb.out.frozen (by show a.heap.size + 1 < _; simp)).trans (one_cell b2).2⟩
theorem cset {w : World} {p q : Nat} {v u : Value} (h : w.cell? ⟨q, 0, none⟩ = some v) (hpq : p ≠ q) : (w.setCell ⟨p, 0, none⟩ u).cell? ⟨q, 0, none⟩ = some v := (World.cell?_setCell_far _ _ _ _ hpq).trans h
theorem lset {w : World} {p q : Nat} {u : Value} (h : q < w.heap.size) : q < (w.setCell ⟨p, 0, none⟩ u).heap.size := by simpa [World.setCell] using h
section
variable {W : World} {b b' : Bool} {A A' : Option Addr} {n n' c c' : Nat} {z z' q r : Int}
set_option maxHeartbeats 4000000 in
theorem zdiv_zero (h : ZA W b A n c z) (h' : ZA W b' A' n' c' z') (h0 : z' ≠ 0) (hd : dl z.natAbs ≤ 99999) (hq : z / z' = q) (hr : z % z' = r) (hb : b = true) (hm : z.natAbs % z'.natAbs = 0) :
    Calls Tryz.prog 62 #[.agg #[.bool b, .slice A n c], .agg #[.bool b', .slice A' n' c']] W (ZDivR W q r) := by
  obtain ⟨m1, m2, hQ, hR⟩ := zdiv_math h h' h0 hq hr (.inr hm)
  have hr0 : r.natAbs = 0 := by omega
  subst hb
  have CD : Hid (∀ W', Below W.heap.size W W' → Calls Tryz.prog 73 #[.agg #[.slice A n c], .agg #[.slice A' n' c']] W' (DivF W' q.natAbs r.natAbs)) := fun W' hb => div_f (h.up hb).1 (h'.up hb).1 (by omega) hd m1 m2
  have CS : Hid (∀ s, (true != b') = s → ∀ W' B n d, Nm W' B n d q.natAbs → Calls Tryz.prog 96 #[.bool s, .agg #[.slice B n d]] W' (SgR W' (decide (q < 0)) B n d)) := fun s hs W' B n d hn => by
    subst hs
    exact signed_z hn hQ
  have CT : Hid (∀ W' B n d, Nm W' B n d r.natAbs → Calls Tryz.prog 96 #[.bool false, .agg #[.slice B n d]] W' (SgR W' (decide (r < 0)) B n d)) := fun W' B n d hn => signed_z hn hR
  have CZ : Hid (∀ W' B n d, Nm W' B n d r.natAbs → Calls Tryz.prog 76 #[.agg #[.slice B n d]] W' (BoolR W' true)) := fun W' B n d hn => isZero_yes hn hr0
  clear h h' h0 hd hq hr m1 m2 hQ hR hm hr0
  cases b'
  all_goals
    go_enter Tryz.func62, Tryz.ntmps62
  · go_wp2_with (first | (go_at_call 73; (with_reducible refine (CD.out _ (al4 _ _ _ _ _)).mono ?_); rintro e w1 ⟨Aq, cq, Ar, cr, rfl, hnq, hnr, hbk⟩; have HX := hide ((zdv0 W true A n c false A' n' c' _).up hbk); have a0 := HX.out.x.c0; have a1 := HX.out.x.c1; have b0 := HX.out.y.c0; have b1 := HX.out.y.c1; have r0 := HX.out.r.c0; have r1 := HX.out.r.c1; have s0 := HX.out.s.c0; have s1 := HX.out.s.c1; have f0 := HX.out.r.f0; have f1 := HX.out.r.f1; have g0 := HX.out.s.f0; have g1 := HX.out.s.f1; have l3 := HX.out.s.lt; have l2 := HX.out.r.lt; have l1 := HX.out.y.lt; have l0 := HX.out.x.lt) | (go_at_call 76; (with_reducible refine (CZ.out _ _ _ _ ((hnr.al _).al _)).mono ?_); rintro e w2 ⟨rfl, hbk⟩; obtain ⟨hq, hr, hsz, hbx⟩ := bx2 hbk; replace HX := hide (HX.out.up hbx); replace hnq := hnq.up hbx; replace hnr := hnr.up hbx; have hpl := Nat.lt_of_lt_of_le (Nat.lt_succ_of_lt (Nat.lt_succ_self w1.heap.size)) hsz.out; have hpr := Nat.lt_of_lt_of_le (Nat.lt_succ_self (w1.heap.size + 1)) hsz.out; have hp4 := l3; clear a0 a1 b0 b1 r0 r1 s0 s1 f0 f1 g0 g1 l0 l1 l2 l3; clear hbk hbx hsz) | fail)
    obtain ⟨p, hp⟩ : ∃ p, p = w1.heap.size := ⟨_, rfl⟩
    rw [← hp] at hq hr hpl hpr hp4
    simp only [← hp]
    clear hp
    replace HX := hide HX.out.dr
    replace hnq := Nm.dr hnq
    replace hnr := Nm.dr hnr
    replace hq : (World.drew w2).cell? ⟨p, 0, none⟩ = _ := hq
    replace hr : (World.drew w2).cell? ⟨p + 1, 0, none⟩ = _ := hr
    replace hpl : p < (World.drew w2).heap.size := hpl
    replace hpr : p + 1 < (World.drew w2).heap.size := hpr
    go_region_held3 (fun w' => w'.cell? ⟨W.heap.size, 0, none⟩ = some (.bool true) ∧ w'.cell? ⟨W.heap.size + 1, 0, none⟩ = some (.bool false) ∧ w'.cell? ⟨p, 0, none⟩ = some (.slice Aq (dl q.natAbs) cq) ∧ w'.cell? ⟨p + 1, 0, none⟩ = some (.slice Ar (dl r.natAbs) cr))
      (first | exact ⟨HX.out.x.c0, HX.out.y.c0, hq, hr⟩ | exact ⟨far2 (by omega) HX.out.x.c0, far2 (by omega) HX.out.y.c0, far2 (by omega) hq, far2 (by omega) hr⟩ | exact ⟨far2 (by omega) (far2 (by omega) HX.out.x.c0), far2 (by omega) (far2 (by omega) HX.out.y.c0), far2 (by omega) (far2 (by omega) hq), far2 (by omega) (far2 (by omega) hr)⟩)
      (first | (go_at_call 96; (with_reducible refine (CS.out _ (by decide) _ _ _ _ hnq).mono ?_); rintro e w8 ⟨rfl, hbk⟩; replace HX := hide (HX.out.up hbk); replace hnq := hnq.up hbk; replace hnr := hnr.up hbk; replace hq := cellUp hq hpl hbk; replace hr := cellUp hr hpr hbk; replace hpl := Nat.lt_of_lt_of_le hpl hbk.out.size; replace hpr := Nat.lt_of_lt_of_le hpr hbk.out.size) | (go_at_call 96; (with_reducible refine (CT.out _ _ _ _ hnr).mono ?_); rintro e w9 ⟨rfl, hbk⟩; replace HX := hide (HX.out.up hbk); replace hnq := hnq.up hbk; replace hnr := hnr.up hbk; replace hq := cellUp hq hpl hbk; replace hr := cellUp hr hpr hbk; replace hpl := Nat.lt_of_lt_of_le hpl hbk.out.size; replace hpr := Nat.lt_of_lt_of_le hpr hbk.out.size; have a0 := HX.out.x.c0; have a1 := HX.out.x.c1; have b0 := HX.out.y.c0; have b1 := HX.out.y.c1; have r0 := HX.out.r.c0; have r1 := HX.out.r.c1; have s0 := HX.out.s.c0; have s1 := HX.out.s.c1; have f0 := HX.out.r.f0; have f1 := HX.out.r.f1; have g0 := HX.out.s.f0; have g1 := HX.out.s.f1; have l3 := HX.out.s.lt; have l2 := HX.out.r.lt; have l1 := HX.out.y.lt; have l0 := HX.out.x.lt) | fail)
    go_wp2_with fail
    refine bodyPost_ret (v := .tuple #[.agg #[.bool (decide (q < 0)), .slice Aq (dl q.natAbs) cq], .agg #[.bool (decide (r < 0)), .slice Ar (dl r.natAbs) cr], .bool true]) (by simp [results, Tryz.results62, go_sem, r0, r1, s0, s1]) rfl ?_
    exact zdiv_fnd HX hnq hnr rfl rfl
  · go_wp2_with (first | (go_at_call 73; (with_reducible refine (CD.out _ (al4 _ _ _ _ _)).mono ?_); rintro e w1 ⟨Aq, cq, Ar, cr, rfl, hnq, hnr, hbk⟩; have HX := hide ((zdv0 W true A n c true A' n' c' _).up hbk); have a0 := HX.out.x.c0; have a1 := HX.out.x.c1; have b0 := HX.out.y.c0; have b1 := HX.out.y.c1; have r0 := HX.out.r.c0; have r1 := HX.out.r.c1; have s0 := HX.out.s.c0; have s1 := HX.out.s.c1; have f0 := HX.out.r.f0; have f1 := HX.out.r.f1; have g0 := HX.out.s.f0; have g1 := HX.out.s.f1; have l3 := HX.out.s.lt; have l2 := HX.out.r.lt; have l1 := HX.out.y.lt; have l0 := HX.out.x.lt) | (go_at_call 76; (with_reducible refine (CZ.out _ _ _ _ ((hnr.al _).al _)).mono ?_); rintro e w2 ⟨rfl, hbk⟩; obtain ⟨hq, hr, hsz, hbx⟩ := bx2 hbk; replace HX := hide (HX.out.up hbx); replace hnq := hnq.up hbx; replace hnr := hnr.up hbx; have hpl := Nat.lt_of_lt_of_le (Nat.lt_succ_of_lt (Nat.lt_succ_self w1.heap.size)) hsz.out; have hpr := Nat.lt_of_lt_of_le (Nat.lt_succ_self (w1.heap.size + 1)) hsz.out; have hp4 := l3; clear a0 a1 b0 b1 r0 r1 s0 s1 f0 f1 g0 g1 l0 l1 l2 l3; clear hbk hbx hsz) | fail)
    obtain ⟨p, hp⟩ : ∃ p, p = w1.heap.size := ⟨_, rfl⟩
    rw [← hp] at hq hr hpl hpr hp4
    simp only [← hp]
    clear hp
    replace HX := hide HX.out.dr
    replace hnq := Nm.dr hnq
    replace hnr := Nm.dr hnr
    replace hq : (World.drew w2).cell? ⟨p, 0, none⟩ = _ := hq
    replace hr : (World.drew w2).cell? ⟨p + 1, 0, none⟩ = _ := hr
    replace hpl : p < (World.drew w2).heap.size := hpl
    replace hpr : p + 1 < (World.drew w2).heap.size := hpr
    go_region_held3 (fun w' => w'.cell? ⟨W.heap.size, 0, none⟩ = some (.bool true) ∧ w'.cell? ⟨W.heap.size + 1, 0, none⟩ = some (.bool true) ∧ w'.cell? ⟨p, 0, none⟩ = some (.slice Aq (dl q.natAbs) cq) ∧ w'.cell? ⟨p + 1, 0, none⟩ = some (.slice Ar (dl r.natAbs) cr))
      (first | exact ⟨HX.out.x.c0, HX.out.y.c0, hq, hr⟩ | exact ⟨far2 (by omega) HX.out.x.c0, far2 (by omega) HX.out.y.c0, far2 (by omega) hq, far2 (by omega) hr⟩ | exact ⟨far2 (by omega) (far2 (by omega) HX.out.x.c0), far2 (by omega) (far2 (by omega) HX.out.y.c0), far2 (by omega) (far2 (by omega) hq), far2 (by omega) (far2 (by omega) hr)⟩)
      (first | (go_at_call 96; (with_reducible refine (CS.out _ (by decide) _ _ _ _ hnq).mono ?_); rintro e w8 ⟨rfl, hbk⟩; replace HX := hide (HX.out.up hbk); replace hnq := hnq.up hbk; replace hnr := hnr.up hbk; replace hq := cellUp hq hpl hbk; replace hr := cellUp hr hpr hbk; replace hpl := Nat.lt_of_lt_of_le hpl hbk.out.size; replace hpr := Nat.lt_of_lt_of_le hpr hbk.out.size) | (go_at_call 96; (with_reducible refine (CT.out _ _ _ _ hnr).mono ?_); rintro e w9 ⟨rfl, hbk⟩; replace HX := hide (HX.out.up hbk); replace hnq := hnq.up hbk; replace hnr := hnr.up hbk; replace hq := cellUp hq hpl hbk; replace hr := cellUp hr hpr hbk; replace hpl := Nat.lt_of_lt_of_le hpl hbk.out.size; replace hpr := Nat.lt_of_lt_of_le hpr hbk.out.size; have a0 := HX.out.x.c0; have a1 := HX.out.x.c1; have b0 := HX.out.y.c0; have b1 := HX.out.y.c1; have r0 := HX.out.r.c0; have r1 := HX.out.r.c1; have s0 := HX.out.s.c0; have s1 := HX.out.s.c1; have f0 := HX.out.r.f0; have f1 := HX.out.r.f1; have g0 := HX.out.s.f0; have g1 := HX.out.s.f1; have l3 := HX.out.s.lt; have l2 := HX.out.r.lt; have l1 := HX.out.y.lt; have l0 := HX.out.x.lt) | fail)
    go_wp2_with fail
    refine bodyPost_ret (v := .tuple #[.agg #[.bool (decide (q < 0)), .slice Aq (dl q.natAbs) cq], .agg #[.bool (decide (r < 0)), .slice Ar (dl r.natAbs) cr], .bool true]) (by simp [results, Tryz.results62, go_sem, r0, r1, s0, s1]) rfl ?_
    exact zdiv_fnd HX hnq hnr rfl rfl
end
end Go.Proofs.YtmiklffjffdkgaaGreatDoor
