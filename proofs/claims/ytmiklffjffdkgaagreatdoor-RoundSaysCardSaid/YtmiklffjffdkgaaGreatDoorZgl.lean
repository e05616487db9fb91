/- Package num: Div of a negative number that leaves a rest; Div whole. Conditions: less than 100000 words. -/
import Derived.Test.YtmiklffjffdkgaaGreatDoorZg
open Go.RowKit
set_option maxRecDepth 100000
namespace Go.Proofs.YtmiklffjffdkgaaGreatDoor
section
variable {W : World} {b b' : Bool} {A A' : Option Addr} {n n' c c' : Nat} {z z' q r : Int}
set_option maxHeartbeats 8000000 in
theorem zdiv_low (h : ZA W b A n c z) (h' : ZA W b' A' n' c' z') (h0 : z' ≠ 0) (hd : dl z.natAbs ≤ 99999) (hq : z / z' = q) (hr : z % z' = r) (hb : b = true) (hm : z.natAbs % z'.natAbs ≠ 0) :
    Calls Tryz.prog 62 #[.agg #[.bool b, .slice A n c], .agg #[.bool b', .slice A' n' c']] W (ZDivR W q r) := by
  subst hb
  obtain ⟨m1, m2, hQ, hR⟩ := zdiv_math2 h h' h0 hq hr hm
  obtain ⟨q0, hq0⟩ : ∃ q0, z.natAbs / z'.natAbs = q0 := ⟨_, rfl⟩
  obtain ⟨r0', hr0⟩ : ∃ r0, z.natAbs % z'.natAbs = r0 := ⟨_, rfl⟩
  have hrk : r0' < z'.natAbs := by rw [← hr0]; exact Nat.mod_lt _ (by omega)
  have hqd : dl q.natAbs ≤ 100000 := by
    rw [← m1]
    refine Nat.le_trans (dl_succ _) ?_
    have := dl_mono (Nat.div_le_self z.natAbs z'.natAbs)
    omega
  rw [hq0] at m1
  rw [hr0] at m2 hm
  have CD : Hid (∀ W', Below W.heap.size W W' → Calls Tryz.prog 73 #[.agg #[.slice A n c], .agg #[.slice A' n' c']] W' (DivF W' q0 r0')) := fun W' hb => div_f (h.up hb).1 (h'.up hb).1 (by omega) hd hq0 hr0
  have CS : Hid (∀ s, (true != b') = s → ∀ W' B n d, Nm W' B n d q.natAbs → Calls Tryz.prog 96 #[.bool s, .agg #[.slice B n d]] W' (SgR W' (decide (q < 0)) B n d)) := fun s hs W' B n d hn => by
    subst hs
    exact signed_z hn hQ
  have CT : Hid (∀ W' B n d, Nm W' B n d r.natAbs → Calls Tryz.prog 96 #[.bool false, .agg #[.slice B n d]] W' (SgR W' (decide (r < 0)) B n d)) := fun W' B n d hn => signed_z hn hR
  have CZ : Hid (∀ W' B n d, Nm W' B n d r0' → Calls Tryz.prog 76 #[.agg #[.slice B n d]] W' (BoolR W' false)) := fun W' B n d hn => isZero_no hn (by omega)
  have CO : Hid (∀ W', Calls Tryz.prog 56 #[.int .u64 1] W' (NumR W' 1)) := fun W' => of_h (v := 1) (by omega)
  have CA : Hid (∀ W' B n d B' n' d', Nm W' B n d q0 → Nm W' B' n' d' 1 → Calls Tryz.prog 94 #[.agg #[.slice B n d], .agg #[.slice B' n' d']] W' (NumR W' q.natAbs)) := fun W' B n d B' n' d' h1 h2 => add_h h1 h2 m1 hqd
  have CB : Hid (∀ W' B n d, Below W.heap.size W W' → Nm W' B n d r0' → Calls Tryz.prog 95 #[.agg #[.slice A' n' c'], .agg #[.slice B n d]] W' (SubYes W' r.natAbs)) := fun W' B n d hb hn => sub_yes (h'.up hb).1 hn (by omega) m2
  clear h h' h0 hd hq hr m1 m2 hQ hR hm hq0 hr0 hrk hqd
  cases b'
  all_goals
    go_enter Tryz.func62, Tryz.ntmps62
  · go_wp2_with (first | (go_at_call 73; (with_reducible refine (CD.out _ (al4 _ _ _ _ _)).mono ?_); rintro e w1 ⟨Aq, cq, Ar, cr, rfl, hnq, hnr, hbk⟩; have HX := hide ((zdv0 W true A n c false A' n' c' _).up hbk); have a0 := HX.out.x.c0; have a1 := HX.out.x.c1; have b0 := HX.out.y.c0; have b1 := HX.out.y.c1; have r0 := HX.out.r.c0; have r1 := HX.out.r.c1; have s0 := HX.out.s.c0; have s1 := HX.out.s.c1; have f0 := HX.out.r.f0; have f1 := HX.out.r.f1; have g0 := HX.out.s.f0; have g1 := HX.out.s.f1; have l3 := HX.out.s.lt; have l2 := HX.out.r.lt; have l1 := HX.out.y.lt; have l0 := HX.out.x.lt) | (go_at_call 76; (with_reducible refine (CZ.out _ _ _ _ ((hnr.al _).al _)).mono ?_); rintro e w2 ⟨rfl, hbk⟩; obtain ⟨hq, hr, hsz, hbx⟩ := bx2 hbk; obtain ⟨hfz, hfr⟩ := bxf2 hbk; replace HX := hide (HX.out.up hbx); replace hnq := hnq.up hbx; replace hnr := hnr.up hbx; have hpl := Nat.lt_of_lt_of_le (Nat.lt_succ_of_lt (Nat.lt_succ_self w1.heap.size)) hsz.out; have hpr := Nat.lt_of_lt_of_le (Nat.lt_succ_self (w1.heap.size + 1)) hsz.out; have hp4 := l3; clear a0 a1 b0 b1 r0 r1 s0 s1 f0 f1 g0 g1 l0 l1 l2 l3; clear hbk hbx hsz) | fail)
    obtain ⟨p, hp⟩ : ∃ p, p = w1.heap.size := ⟨_, rfl⟩
    rw [← hp] at hq hr hfz hfr hpl hpr hp4
    simp only [← hp]
    clear hp
    replace HX := hide HX.out.dr
    replace hnq := Nm.dr hnq
    replace hnr := Nm.dr hnr
    replace hq : (World.drew w2).cell? ⟨p, 0, none⟩ = _ := hq
    replace hr : (World.drew w2).cell? ⟨p + 1, 0, none⟩ = _ := hr
    replace hpl : p < (World.drew w2).heap.size := hpl
    replace hpr : p + 1 < (World.drew w2).heap.size := hpr
    replace hfz : (World.drew w2).frozen? ⟨p, 0, none⟩ = _ := hfz
    replace hfr : (World.drew w2).frozen? ⟨p + 1, 0, none⟩ = _ := hfr
    go_region_with (first | (go_at_call 56; (with_reducible refine (CO.out _).mono ?_); rintro e w5 ⟨A5, c5, rfl, hn5, hbk⟩; replace HX := hide (HX.out.up hbk); replace hnr := hnr.up hbk; replace hr := cellUp hr hpr hbk; (try (replace hnq := hnq.up hbk)); replace hq := cellUp hq hpl hbk; replace hfz := (hbk.out.frozen (p := ⟨p, 0, none⟩) hpl).trans hfz; replace hfr := (hbk.out.frozen (p := ⟨p + 1, 0, none⟩) hpr).trans hfr; replace hpl := Nat.lt_of_lt_of_le hpl hbk.out.size; replace hpr := Nat.lt_of_lt_of_le hpr hbk.out.size) | (go_at_call 94; (with_reducible refine (CA.out _ _ _ _ _ _ _ hnq hn5).mono ?_); rintro e w6 ⟨A6, c6, rfl, hn6, hbk⟩; replace HX := hide (HX.out.up hbk); replace hnr := hnr.up hbk; replace hr := cellUp hr hpr hbk; (try (replace hnq := hnq.up hbk)); replace hq := cellUp hq hpl hbk; replace hfz := (hbk.out.frozen (p := ⟨p, 0, none⟩) hpl).trans hfz; replace hfr := (hbk.out.frozen (p := ⟨p + 1, 0, none⟩) hpr).trans hfr; replace hpl := Nat.lt_of_lt_of_le hpl hbk.out.size; replace hpr := Nat.lt_of_lt_of_le hpr hbk.out.size) | fail)
    all_goals
      have E := HX
      clear hnq
      obtain ⟨W2, hW2⟩ : ∃ W2, W2 = w6.setCell ⟨p, 0, none⟩ (.slice A6 (dl q.natAbs) c6) := ⟨_, rfl⟩
      rw [← hW2]
      replace HX : Hid (ZDv W W2 true A n c false A' n' c') := by rw [hW2]; exact ZDv.set HX.out hp4 _
      have hnq : Nm W2 A6 (dl q.natAbs) c6 q.natAbs := by rw [hW2]; exact hn6.setn hq (by intro x hx; cases hx) _
      replace hnr : Nm W2 Ar (dl r0') cr r0' := by rw [hW2]; exact hnr.setn hq (by intro x hx; cases hx) _
      replace hr : W2.cell? ⟨p + 1, 0, none⟩ = some (.slice Ar (dl r0') cr) := by rw [hW2]; exact cset hr (by omega)
      replace hq : W2.cell? ⟨p, 0, none⟩ = some (.slice A6 (dl q.natAbs) c6) := by rw [hW2]; exact World.cell?_setCell_same _ _ _ hq
      replace hfr : W2.frozen? ⟨p + 1, 0, none⟩ = false := by rw [hW2, World.frozen?_setCell]; exact hfr
      replace hpl : p < W2.heap.size := by rw [hW2]; exact lset hpl
      replace hpr : p + 1 < W2.heap.size := by rw [hW2]; exact lset hpr
      have b1 := HX.out.y.c1
      clear hW2 hbk hn6 hn5 hfz E
      go_wp2_with (first | (go_at_call 95; (with_reducible refine (CB.out _ _ _ _ HX.out.bl hnr).mono ?_); rintro e w7 ⟨A7, c7, rfl, hn7, hbk⟩; replace HX := hide (HX.out.up hbk); replace hnq := hnq.up hbk; replace hr := cellUp hr hpr hbk; replace hq := cellUp hq hpl hbk; replace hfr := (hbk.out.frozen (p := ⟨p + 1, 0, none⟩) hpr).trans hfr; replace hpl := Nat.lt_of_lt_of_le hpl hbk.out.size; replace hpr := Nat.lt_of_lt_of_le hpr hbk.out.size; clear b1 hnr hbk) | fail)
      obtain ⟨W3, hW3⟩ : ∃ W3, W3 = w7.setCell ⟨p + 1, 0, none⟩ (.slice A7 (dl r.natAbs) c7) := ⟨_, rfl⟩
      rw [← hW3]
      replace HX : Hid (ZDv W W3.drew true A n c false A' n' c') := by rw [hW3]; exact ZDv.dr (ZDv.set HX.out (by omega) _)
      replace hnq : Nm W3.drew A6 (dl q.natAbs) c6 q.natAbs := by rw [hW3]; exact Nm.dr (hnq.setn hr (by intro x hx; cases hx) _)
      have hnr : Nm W3.drew A7 (dl r.natAbs) c7 r.natAbs := by rw [hW3]; exact Nm.dr (hn7.setn hr (by intro x hx; cases hx) _)
      replace hq : W3.drew.cell? ⟨p, 0, none⟩ = some (.slice A6 (dl q.natAbs) c6) := by rw [hW3]; exact cset hq (by omega)
      replace hr : W3.drew.cell? ⟨p + 1, 0, none⟩ = some (.slice A7 (dl r.natAbs) c7) := by rw [hW3]; exact World.cell?_setCell_same _ _ _ hr
      replace hpl : p < W3.drew.heap.size := by show p < W3.heap.size; rw [hW3]; exact lset hpl
      replace hpr : p + 1 < W3.drew.heap.size := by show p + 1 < W3.heap.size; rw [hW3]; exact lset hpr
      clear hW3 hn7 hfr
      go_region_held3 (fun w' => w'.cell? ⟨W.heap.size, 0, none⟩ = some (.bool true) ∧ w'.cell? ⟨W.heap.size + 1, 0, none⟩ = some (.bool false) ∧ w'.cell? ⟨p, 0, none⟩ = some (.slice A6 (dl q.natAbs) c6) ∧ w'.cell? ⟨p + 1, 0, none⟩ = some (.slice A7 (dl r.natAbs) c7))
        (first | exact ⟨HX.out.x.c0, HX.out.y.c0, hq, hr⟩ | exact ⟨far2 (by omega) HX.out.x.c0, far2 (by omega) HX.out.y.c0, far2 (by omega) hq, far2 (by omega) hr⟩ | exact ⟨far2 (by omega) (far2 (by omega) HX.out.x.c0), far2 (by omega) (far2 (by omega) HX.out.y.c0), far2 (by omega) (far2 (by omega) hq), far2 (by omega) (far2 (by omega) hr)⟩)
        (first | (go_at_call 96; (with_reducible refine (CS.out _ (by decide) _ _ _ _ hnq).mono ?_); rintro e w8 ⟨rfl, hbk⟩; replace HX := hide (HX.out.up hbk); replace hnq := hnq.up hbk; replace hnr := hnr.up hbk; replace hq := cellUp hq hpl hbk; replace hr := cellUp hr hpr hbk; replace hpl := Nat.lt_of_lt_of_le hpl hbk.out.size; replace hpr := Nat.lt_of_lt_of_le hpr hbk.out.size) | (go_at_call 96; (with_reducible refine (CT.out _ _ _ _ hnr).mono ?_); rintro e w9 ⟨rfl, hbk⟩; replace HX := hide (HX.out.up hbk); replace hnq := hnq.up hbk; replace hnr := hnr.up hbk; replace hq := cellUp hq hpl hbk; replace hr := cellUp hr hpr hbk; replace hpl := Nat.lt_of_lt_of_le hpl hbk.out.size; replace hpr := Nat.lt_of_lt_of_le hpr hbk.out.size; have a0 := HX.out.x.c0; have a1 := HX.out.x.c1; have b0 := HX.out.y.c0; have b1 := HX.out.y.c1; have r0 := HX.out.r.c0; have r1 := HX.out.r.c1; have s0 := HX.out.s.c0; have s1 := HX.out.s.c1; have f0 := HX.out.r.f0; have f1 := HX.out.r.f1; have g0 := HX.out.s.f0; have g1 := HX.out.s.f1; have l3 := HX.out.s.lt; have l2 := HX.out.r.lt; have l1 := HX.out.y.lt; have l0 := HX.out.x.lt) | fail)
      go_wp2_with fail
      refine bodyPost_ret (v := .tuple #[.agg #[.bool (decide (q < 0)), .slice A6 (dl q.natAbs) c6], .agg #[.bool (decide (r < 0)), .slice A7 (dl r.natAbs) c7], .bool true]) (by simp [results, Tryz.results62, go_sem, r0, r1, s0, s1]) rfl ?_
      exact zdiv_fnd HX hnq hnr rfl rfl
  · go_wp2_with (first | (go_at_call 73; (with_reducible refine (CD.out _ (al4 _ _ _ _ _)).mono ?_); rintro e w1 ⟨Aq, cq, Ar, cr, rfl, hnq, hnr, hbk⟩; have HX := hide ((zdv0 W true A n c true A' n' c' _).up hbk); have a0 := HX.out.x.c0; have a1 := HX.out.x.c1; have b0 := HX.out.y.c0; have b1 := HX.out.y.c1; have r0 := HX.out.r.c0; have r1 := HX.out.r.c1; have s0 := HX.out.s.c0; have s1 := HX.out.s.c1; have f0 := HX.out.r.f0; have f1 := HX.out.r.f1; have g0 := HX.out.s.f0; have g1 := HX.out.s.f1; have l3 := HX.out.s.lt; have l2 := HX.out.r.lt; have l1 := HX.out.y.lt; have l0 := HX.out.x.lt) | (go_at_call 76; (with_reducible refine (CZ.out _ _ _ _ ((hnr.al _).al _)).mono ?_); rintro e w2 ⟨rfl, hbk⟩; obtain ⟨hq, hr, hsz, hbx⟩ := bx2 hbk; obtain ⟨hfz, hfr⟩ := bxf2 hbk; replace HX := hide (HX.out.up hbx); replace hnq := hnq.up hbx; replace hnr := hnr.up hbx; have hpl := Nat.lt_of_lt_of_le (Nat.lt_succ_of_lt (Nat.lt_succ_self w1.heap.size)) hsz.out; have hpr := Nat.lt_of_lt_of_le (Nat.lt_succ_self (w1.heap.size + 1)) hsz.out; have hp4 := l3; clear a0 a1 b0 b1 r0 r1 s0 s1 f0 f1 g0 g1 l0 l1 l2 l3; clear hbk hbx hsz) | fail)
    obtain ⟨p, hp⟩ : ∃ p, p = w1.heap.size := ⟨_, rfl⟩
    rw [← hp] at hq hr hfz hfr hpl hpr hp4
    simp only [← hp]
    clear hp
    replace HX := hide HX.out.dr
    replace hnq := Nm.dr hnq
    replace hnr := Nm.dr hnr
    replace hq : (World.drew w2).cell? ⟨p, 0, none⟩ = _ := hq
    replace hr : (World.drew w2).cell? ⟨p + 1, 0, none⟩ = _ := hr
    replace hpl : p < (World.drew w2).heap.size := hpl
    replace hpr : p + 1 < (World.drew w2).heap.size := hpr
    replace hfz : (World.drew w2).frozen? ⟨p, 0, none⟩ = _ := hfz
    replace hfr : (World.drew w2).frozen? ⟨p + 1, 0, none⟩ = _ := hfr
    go_region_with (first | (go_at_call 56; (with_reducible refine (CO.out _).mono ?_); rintro e w5 ⟨A5, c5, rfl, hn5, hbk⟩; replace HX := hide (HX.out.up hbk); replace hnr := hnr.up hbk; replace hr := cellUp hr hpr hbk; (try (replace hnq := hnq.up hbk)); replace hq := cellUp hq hpl hbk; replace hfz := (hbk.out.frozen (p := ⟨p, 0, none⟩) hpl).trans hfz; replace hfr := (hbk.out.frozen (p := ⟨p + 1, 0, none⟩) hpr).trans hfr; replace hpl := Nat.lt_of_lt_of_le hpl hbk.out.size; replace hpr := Nat.lt_of_lt_of_le hpr hbk.out.size) | (go_at_call 94; (with_reducible refine (CA.out _ _ _ _ _ _ _ hnq hn5).mono ?_); rintro e w6 ⟨A6, c6, rfl, hn6, hbk⟩; replace HX := hide (HX.out.up hbk); replace hnr := hnr.up hbk; replace hr := cellUp hr hpr hbk; (try (replace hnq := hnq.up hbk)); replace hq := cellUp hq hpl hbk; replace hfz := (hbk.out.frozen (p := ⟨p, 0, none⟩) hpl).trans hfz; replace hfr := (hbk.out.frozen (p := ⟨p + 1, 0, none⟩) hpr).trans hfr; replace hpl := Nat.lt_of_lt_of_le hpl hbk.out.size; replace hpr := Nat.lt_of_lt_of_le hpr hbk.out.size) | fail)
    all_goals
      have E := HX
      clear hnq
      obtain ⟨W2, hW2⟩ : ∃ W2, W2 = w6.setCell ⟨p, 0, none⟩ (.slice A6 (dl q.natAbs) c6) := ⟨_, rfl⟩
      rw [← hW2]
      replace HX : Hid (ZDv W W2 true A n c true A' n' c') := by rw [hW2]; exact ZDv.set HX.out hp4 _
      have hnq : Nm W2 A6 (dl q.natAbs) c6 q.natAbs := by rw [hW2]; exact hn6.setn hq (by intro x hx; cases hx) _
      replace hnr : Nm W2 Ar (dl r0') cr r0' := by rw [hW2]; exact hnr.setn hq (by intro x hx; cases hx) _
      replace hr : W2.cell? ⟨p + 1, 0, none⟩ = some (.slice Ar (dl r0') cr) := by rw [hW2]; exact cset hr (by omega)
      replace hq : W2.cell? ⟨p, 0, none⟩ = some (.slice A6 (dl q.natAbs) c6) := by rw [hW2]; exact World.cell?_setCell_same _ _ _ hq
      replace hfr : W2.frozen? ⟨p + 1, 0, none⟩ = false := by rw [hW2, World.frozen?_setCell]; exact hfr
      replace hpl : p < W2.heap.size := by rw [hW2]; exact lset hpl
      replace hpr : p + 1 < W2.heap.size := by rw [hW2]; exact lset hpr
      have b1 := HX.out.y.c1
      clear hW2 hbk hn6 hn5 hfz E
      go_wp2_with (first | (go_at_call 95; (with_reducible refine (CB.out _ _ _ _ HX.out.bl hnr).mono ?_); rintro e w7 ⟨A7, c7, rfl, hn7, hbk⟩; replace HX := hide (HX.out.up hbk); replace hnq := hnq.up hbk; replace hr := cellUp hr hpr hbk; replace hq := cellUp hq hpl hbk; replace hfr := (hbk.out.frozen (p := ⟨p + 1, 0, none⟩) hpr).trans hfr; replace hpl := Nat.lt_of_lt_of_le hpl hbk.out.size; replace hpr := Nat.lt_of_lt_of_le hpr hbk.out.size; clear b1 hnr hbk) | fail)
      obtain ⟨W3, hW3⟩ : ∃ W3, W3 = w7.setCell ⟨p + 1, 0, none⟩ (.slice A7 (dl r.natAbs) c7) := ⟨_, rfl⟩
      rw [← hW3]
      replace HX : Hid (ZDv W W3.drew true A n c true A' n' c') := by rw [hW3]; exact ZDv.dr (ZDv.set HX.out (by omega) _)
      replace hnq : Nm W3.drew A6 (dl q.natAbs) c6 q.natAbs := by rw [hW3]; exact Nm.dr (hnq.setn hr (by intro x hx; cases hx) _)
      have hnr : Nm W3.drew A7 (dl r.natAbs) c7 r.natAbs := by rw [hW3]; exact Nm.dr (hn7.setn hr (by intro x hx; cases hx) _)
      replace hq : W3.drew.cell? ⟨p, 0, none⟩ = some (.slice A6 (dl q.natAbs) c6) := by rw [hW3]; exact cset hq (by omega)
      replace hr : W3.drew.cell? ⟨p + 1, 0, none⟩ = some (.slice A7 (dl r.natAbs) c7) := by rw [hW3]; exact World.cell?_setCell_same _ _ _ hr
      replace hpl : p < W3.drew.heap.size := by show p < W3.heap.size; rw [hW3]; exact lset hpl
      replace hpr : p + 1 < W3.drew.heap.size := by show p + 1 < W3.heap.size; rw [hW3]; exact lset hpr
      clear hW3 hn7 hfr
      go_region_held3 (fun w' => w'.cell? ⟨W.heap.size, 0, none⟩ = some (.bool true) ∧ w'.cell? ⟨W.heap.size + 1, 0, none⟩ = some (.bool true) ∧ w'.cell? ⟨p, 0, none⟩ = some (.slice A6 (dl q.natAbs) c6) ∧ w'.cell? ⟨p + 1, 0, none⟩ = some (.slice A7 (dl r.natAbs) c7))
        (first | exact ⟨HX.out.x.c0, HX.out.y.c0, hq, hr⟩ | exact ⟨far2 (by omega) HX.out.x.c0, far2 (by omega) HX.out.y.c0, far2 (by omega) hq, far2 (by omega) hr⟩ | exact ⟨far2 (by omega) (far2 (by omega) HX.out.x.c0), far2 (by omega) (far2 (by omega) HX.out.y.c0), far2 (by omega) (far2 (by omega) hq), far2 (by omega) (far2 (by omega) hr)⟩)
        (first | (go_at_call 96; (with_reducible refine (CS.out _ (by decide) _ _ _ _ hnq).mono ?_); rintro e w8 ⟨rfl, hbk⟩; replace HX := hide (HX.out.up hbk); replace hnq := hnq.up hbk; replace hnr := hnr.up hbk; replace hq := cellUp hq hpl hbk; replace hr := cellUp hr hpr hbk; replace hpl := Nat.lt_of_lt_of_le hpl hbk.out.size; replace hpr := Nat.lt_of_lt_of_le hpr hbk.out.size) | (go_at_call 96; (with_reducible refine (CT.out _ _ _ _ hnr).mono ?_); rintro e w9 ⟨rfl, hbk⟩; replace HX := hide (HX.out.up hbk); replace hnq := hnq.up hbk; replace hnr := hnr.up hbk; replace hq := cellUp hq hpl hbk; replace hr := cellUp hr hpr hbk; replace hpl := Nat.lt_of_lt_of_le hpl hbk.out.size; replace hpr := Nat.lt_of_lt_of_le hpr hbk.out.size; have a0 := HX.out.x.c0; have a1 := HX.out.x.c1; have b0 := HX.out.y.c0; have b1 := HX.out.y.c1; have r0 := HX.out.r.c0; have r1 := HX.out.r.c1; have s0 := HX.out.s.c0; have s1 := HX.out.s.c1; have f0 := HX.out.r.f0; have f1 := HX.out.r.f1; have g0 := HX.out.s.f0; have g1 := HX.out.s.f1; have l3 := HX.out.s.lt; have l2 := HX.out.r.lt; have l1 := HX.out.y.lt; have l0 := HX.out.x.lt) | fail)
      go_wp2_with fail
      refine bodyPost_ret (v := .tuple #[.agg #[.bool (decide (q < 0)), .slice A6 (dl q.natAbs) c6], .agg #[.bool (decide (r < 0)), .slice A7 (dl r.natAbs) c7], .bool true]) (by simp [results, Tryz.results62, go_sem, r0, r1, s0, s1]) rfl ?_
      exact zdiv_fnd HX hnq hnr rfl rfl
theorem zdiv_h (h : ZA W b A n c z) (h' : ZA W b' A' n' c' z') (h0 : z' ≠ 0) (hd : dl z.natAbs ≤ 99999) (hq : z / z' = q) (hr : z % z' = r) :
    Calls Tryz.prog 62 #[.agg #[.bool b, .slice A n c], .agg #[.bool b', .slice A' n' c']] W (ZDivR W q r) := by
  cases hb : b
  · subst hb; exact zdiv_plus h h' h0 hd hq hr rfl
  · subst hb
    by_cases hm : z.natAbs % z'.natAbs = 0
    · exact zdiv_zero h h' h0 hd hq hr rfl hm
    · exact zdiv_low h h' h0 hd hq hr rfl hm
end
end Go.Proofs.YtmiklffjffdkgaaGreatDoor
