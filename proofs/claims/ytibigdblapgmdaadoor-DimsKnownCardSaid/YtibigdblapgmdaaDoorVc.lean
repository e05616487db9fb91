/- Package dims: ifValid, Same, Base, Add, Times, Neg. No conditions. -/
import Derived.Test.YtibigdblapgmdaaDoorVb
import Derived.Deep.RegionWith
import Derived.RegionTactic
import Derived.ChangeAlike
import Derived.Laws.StructEq
open Go.RowKit
set_option maxRecDepth 100000
namespace Go.Proofs.YtibigdblapgmdaaDoor
theorem vname_end {P : Program} {f : Func} {R : Ending → World → Prop} {x : Exit} {a : Act} {X : World} (h : ∀ W', W' = X → bodyPost P f R x a W') : bodyPost P f R x a X := h X rfl
theorem vwp_named {P : Program} {c : Code} {Q : Exit → Act → World → Prop} {a : Act} {X : World} (h : ∀ W', W' = X → Code.wp P c Q a W') : Code.wp P c Q a X := h X rfl
theorem At.v8 {W : World} {p : Nat} {u0 u1 u2 u3 u4 u5 u6 u7 : Value} (h : At W p [u0, u1, u2, u3, u4, u5, u6, u7]) : W.cell? ⟨p, 0, none⟩ = some u0 ∧ W.cell? ⟨p, 1, none⟩ = some u1 ∧ W.cell? ⟨p, 2, none⟩ = some u2 ∧ W.cell? ⟨p, 3, none⟩ = some u3 ∧ W.cell? ⟨p, 4, none⟩ = some u4 ∧ W.cell? ⟨p, 5, none⟩ = some u5 ∧ W.cell? ⟨p, 6, none⟩ = some u6 ∧ W.cell? ⟨p, 7, none⟩ = some u7 :=
  ⟨h.ci (i := 0) rfl, h.ci (i := 1) rfl, h.ci (i := 2) rfl, h.ci (i := 3) rfl, h.ci (i := 4) rfl, h.ci (i := 5) rfl, h.ci (i := 6) rfl, h.ci (i := 7) rfl⟩
theorem At.f8 {W : World} {p : Nat} {u0 u1 u2 u3 u4 u5 u6 u7 : Value} (h : At W p [u0, u1, u2, u3, u4, u5, u6, u7]) : W.frozen? ⟨p, 0, none⟩ = false ∧ W.frozen? ⟨p, 1, none⟩ = false ∧ W.frozen? ⟨p, 2, none⟩ = false ∧ W.frozen? ⟨p, 3, none⟩ = false ∧ W.frozen? ⟨p, 4, none⟩ = false ∧ W.frozen? ⟨p, 5, none⟩ = false ∧ W.frozen? ⟨p, 6, none⟩ = false ∧ W.frozen? ⟨p, 7, none⟩ = false :=
  ⟨h.fi (i := 0) rfl, h.fi (i := 1) rfl, h.fi (i := 2) rfl, h.fi (i := 3) rfl, h.fi (i := 4) rfl, h.fi (i := 5) rfl, h.fi (i := 6) rfl, h.fi (i := 7) rfl⟩
theorem At.put8 {W : World} {p : Nat} {v0 v1 v2 v3 v4 v5 v6 v7 u0 u1 u2 u3 u4 u5 u6 u7 : Value} (h : At W p [v0, v1, v2, v3, v4, v5, v6, v7]) : At ((((((((W.setCell ⟨p, 0, none⟩ u0).setCell ⟨p, 1, none⟩ u1).setCell ⟨p, 2, none⟩ u2).setCell ⟨p, 3, none⟩ u3).setCell ⟨p, 4, none⟩ u4).setCell ⟨p, 5, none⟩ u5).setCell ⟨p, 6, none⟩ u6).setCell ⟨p, 7, none⟩ u7) p [u0, u1, u2, u3, u4, u5, u6, u7] :=
  ((((((((h.put (i := 0) (by simp) u0).put (i := 1) (by simp) u1).put (i := 2) (by simp) u2).put (i := 3) (by simp) u3).put (i := 4) (by simp) u4).put (i := 5) (by simp) u5).put (i := 6) (by simp) u6).put (i := 7) (by simp) u7)
theorem Bel.put8 {w W : World} {p : Nat} {u0 u1 u2 u3 u4 u5 u6 u7 : Value} (h : Bel w W) (hp : w.heap.size ≤ p) : Bel w ((((((((W.setCell ⟨p, 0, none⟩ u0).setCell ⟨p, 1, none⟩ u1).setCell ⟨p, 2, none⟩ u2).setCell ⟨p, 3, none⟩ u3).setCell ⟨p, 4, none⟩ u4).setCell ⟨p, 5, none⟩ u5).setCell ⟨p, 6, none⟩ u6).setCell ⟨p, 7, none⟩ u7) :=
  (((((((Below.setCell h hp _).setCell hp _).setCell hp _).setCell hp _).setCell hp _).setCell hp _).setCell hp _).setCell hp _
theorem vset_at {W : World} {p k : Nat} {s a : V8} {x : Int} (h : At W p (V8.mix s a k).c) (hk : k < 8) (hx : x = s.at_ k) : At (W.setCell ⟨p, k, none⟩ (.int .i64 x)).drew p (V8.mix s a (k + 1)).c := by
  have h1 := h.put (i := k) hk (.int .i64 x)
  rw [hx] at h1 ⊢
  rw [V8.c_l, ← List.map_set, V8.mix_set hk] at h1
  exact h1.dr
def RetVV (W : World) (r : V8) (b : Bool) (e : Ending) (w' : World) : Prop := e = .returned (.tuple #[r.v, .bool b]) ∧ Hid (Below W.heap.size W w')
def RetV1 (W : World) (r : V8) (e : Ending) (w' : World) : Prop := e = .returned r.v ∧ Hid (Below W.heap.size W w')
theorem ifValid_yes {a : V8} (h : a.ok = true) (w : World) : Calls Tryd.prog 23 #[a.v] w (RetVV w a true) := by
  have CV := vhide (isValid_h h)
  clear h
  go_enter Tryd.func23, Tryd.ntmps23
  go_wp2_with (first | (go_at_call 22; (with_reducible refine (CV.out _).mono ?_); rintro e w1 ⟨rfl, hb⟩; have HB : Bel w w1 := ((((Bel.refl w).al _).al _)).up hb; have HA := At.up ((at_new0 w a.c _).al _) hb; have HP := At.up (at_new1 w _ V8.z.c _) hb; replace HB := vhide HB; clear hb; obtain ⟨a0, a1, a2, a3, a4, a5, a6, a7⟩ := HA.v8; obtain ⟨p0, p1, p2, p3, p4, p5, p6, p7⟩ := HP.v8; obtain ⟨pf0, pf1, pf2, pf3, pf4, pf5, pf6, pf7⟩ := HP.f8) | fail)
  refine vname_end ?_
  intro W4 hW4
  have HF : At W4 (w.heap.size + 1) a.c := by rw [hW4]; exact HP.put8
  have BF : Bel w W4 := by rw [hW4]; exact Bel.put8 HB (by omega)
  clear hW4
  obtain ⟨r0, r1, r2, r3, r4, r5, r6, r7⟩ := HF.v8
  refine bodyPost_ret (v := .tuple #[a.v, .bool true]) (by simp [results, Tryd.results23, go_sem, r0, r1, r2, r3, r4, r5, r6, r7]) rfl ⟨rfl, BF⟩
theorem ifValid_no {a : V8} (h : a.ok = false) (w : World) : Calls Tryd.prog 23 #[a.v] w (RetVV w V8.z false) := by
  have CV := vhide (isValid_h h)
  clear h
  go_enter Tryd.func23, Tryd.ntmps23
  go_wp2_with (first | (go_at_call 22; (with_reducible refine (CV.out _).mono ?_); rintro e w1 ⟨rfl, hb⟩; have HB : Bel w w1 := ((((Bel.refl w).al _).al _)).up hb; have HA := At.up ((at_new0 w a.c _).al _) hb; have HP := At.up (at_new1 w _ V8.z.c _) hb; replace HB := vhide HB; clear hb; obtain ⟨a0, a1, a2, a3, a4, a5, a6, a7⟩ := HA.v8; obtain ⟨p0, p1, p2, p3, p4, p5, p6, p7⟩ := HP.v8; obtain ⟨pf0, pf1, pf2, pf3, pf4, pf5, pf6, pf7⟩ := HP.f8) | fail)
  refine vname_end ?_
  intro W4 hW4
  have HF : At W4 (w.heap.size + 1) V8.z.c := by rw [hW4]; exact HP.put8
  have BF : Bel w W4 := by rw [hW4]; exact Bel.put8 HB (by omega)
  clear hW4
  obtain ⟨r0, r1, r2, r3, r4, r5, r6, r7⟩ := HF.v8
  refine bodyPost_ret (v := .tuple #[V8.z.v, .bool false]) (by simp [results, Tryd.results23, go_sem, r0, r1, r2, r3, r4, r5, r6, r7]) rfl ⟨rfl, BF⟩
theorem add_no1 {a b : V8} (h : a.ok = false) (w : World) : Calls Tryd.prog 9 #[a.v, b.v] w (RetVV w V8.z false) := by
  have C1 := vhide (isValid_h h)
  clear h
  go_enter Tryd.func9, Tryd.ntmps9
  go_wp2_with (first | (go_at_call 22; (with_reducible refine (C1.out _).mono ?_); rintro e w1 ⟨rfl, hb⟩; have HB : Bel w w1 := (((((Bel.refl w).al _).al _).al _)).up hb; have HA := At.up ((((at_new0 w a.c _).al _).al _)) hb; have HC := At.up ((at_new1 w _ b.c _).al _) hb; have HP := At.up (at_new2 w _ _ V8.z.c _) hb; replace HB := vhide HB; clear hb; obtain ⟨a0, a1, a2, a3, a4, a5, a6, a7⟩ := HA.v8; obtain ⟨b0, b1, b2, b3, b4, b5, b6, b7⟩ := HC.v8; obtain ⟨p0, p1, p2, p3, p4, p5, p6, p7⟩ := HP.v8; obtain ⟨pf0, pf1, pf2, pf3, pf4, pf5, pf6, pf7⟩ := HP.f8) | fail)
  refine vname_end ?_
  intro W4 hW4
  have HF : At W4 (w.heap.size + 1 + 1) V8.z.c := by rw [hW4]; exact HP.put8
  have BF : Bel w W4 := by rw [hW4]; exact Bel.put8 HB (by omega)
  clear hW4
  obtain ⟨r0, r1, r2, r3, r4, r5, r6, r7⟩ := HF.v8
  refine bodyPost_ret (v := .tuple #[V8.z.v, .bool false]) (by simp [results, Tryd.results9, go_sem, r0, r1, r2, r3, r4, r5, r6, r7]) rfl ⟨rfl, BF⟩
theorem add_no2 {a b : V8} (h1 : a.ok = true) (h2 : b.ok = false) (w : World) : Calls Tryd.prog 9 #[a.v, b.v] w (RetVV w V8.z false) := by
  have C1 := vhide (isValid_h h1)
  have C2 := vhide (isValid_h h2)
  clear h1 h2
  go_enter Tryd.func9, Tryd.ntmps9
  go_wp2_with (first | (go_at_call 22; (with_reducible refine (C1.out _).mono ?_); rintro e w1 ⟨rfl, hb⟩; have HB : Bel w w1 := (((((Bel.refl w).al _).al _).al _)).up hb; have HA := At.up ((((at_new0 w a.c _).al _).al _)) hb; have HC := At.up ((at_new1 w _ b.c _).al _) hb; have HP := At.up (at_new2 w _ _ V8.z.c _) hb; replace HB := vhide HB; clear hb; obtain ⟨a0, a1, a2, a3, a4, a5, a6, a7⟩ := HA.v8; obtain ⟨b0, b1, b2, b3, b4, b5, b6, b7⟩ := HC.v8; obtain ⟨p0, p1, p2, p3, p4, p5, p6, p7⟩ := HP.v8; obtain ⟨pf0, pf1, pf2, pf3, pf4, pf5, pf6, pf7⟩ := HP.f8) | (go_at_call 22; (with_reducible refine (C2.out _).mono ?_); rintro e w2 ⟨rfl, hb⟩; clear a0 a1 a2 a3 a4 a5 a6 a7; clear b0 b1 b2 b3 b4 b5 b6 b7; clear p0 p1 p2 p3 p4 p5 p6 p7; clear pf0 pf1 pf2 pf3 pf4 pf5 pf6 pf7; replace HB := (Bel.up HB hb).hid; replace HA := HA.up hb; replace HC := HC.up hb; replace HP := HP.up hb; clear hb; obtain ⟨a0, a1, a2, a3, a4, a5, a6, a7⟩ := HA.v8; obtain ⟨b0, b1, b2, b3, b4, b5, b6, b7⟩ := HC.v8; obtain ⟨p0, p1, p2, p3, p4, p5, p6, p7⟩ := HP.v8; obtain ⟨pf0, pf1, pf2, pf3, pf4, pf5, pf6, pf7⟩ := HP.f8) | fail)
  refine vname_end ?_
  intro W4 hW4
  have HF : At W4 (w.heap.size + 1 + 1) V8.z.c := by rw [hW4]; exact HP.put8
  have BF : Bel w W4 := by rw [hW4]; exact Bel.put8 HB (by omega)
  clear hW4
  obtain ⟨r0, r1, r2, r3, r4, r5, r6, r7⟩ := HF.v8
  refine bodyPost_ret (v := .tuple #[V8.z.v, .bool false]) (by simp [results, Tryd.results9, go_sem, r0, r1, r2, r3, r4, r5, r6, r7]) rfl ⟨rfl, BF⟩
set_option maxHeartbeats 2000000 in
theorem add_yes {a b r : V8} {y : Bool} (h1 : a.ok = true) (h2 : b.ok = true) (hc : ∀ V, Calls Tryd.prog 23 #[(a.add b).v] V (RetVV V r y)) (w : World) : Calls Tryd.prog 9 #[a.v, b.v] w (RetVV w r y) := by
  have C1 := vhide (isValid_h h1)
  have C2 := vhide (isValid_h h2)
  have C3 := vhide hc
  have K1 := vhide (V8.ok_iff.1 h1)
  have K2 := vhide (V8.ok_iff.1 h2)
  clear h1 h2 hc
  go_enter Tryd.func9, Tryd.ntmps9
  go_wp2_with (first | (go_at_call 22; (with_reducible refine (C1.out _).mono ?_); rintro e w1 ⟨rfl, hb⟩; have HB : Bel w w1 := (((((Bel.refl w).al _).al _).al _)).up hb; have HA := At.up ((((at_new0 w a.c _).al _).al _)) hb; have HC := At.up ((at_new1 w _ b.c _).al _) hb; have HP := At.up (at_new2 w _ _ V8.z.c _) hb; replace HB := vhide HB; clear hb; obtain ⟨a0, a1, a2, a3, a4, a5, a6, a7⟩ := HA.v8; obtain ⟨b0, b1, b2, b3, b4, b5, b6, b7⟩ := HC.v8; obtain ⟨p0, p1, p2, p3, p4, p5, p6, p7⟩ := HP.v8; obtain ⟨pf0, pf1, pf2, pf3, pf4, pf5, pf6, pf7⟩ := HP.f8) | (go_at_call 22; (with_reducible refine (C2.out _).mono ?_); rintro e w2 ⟨rfl, hb⟩; clear a0 a1 a2 a3 a4 a5 a6 a7; clear b0 b1 b2 b3 b4 b5 b6 b7; clear p0 p1 p2 p3 p4 p5 p6 p7; clear pf0 pf1 pf2 pf3 pf4 pf5 pf6 pf7; replace HB := (Bel.up HB hb).hid; replace HA := HA.up hb; replace HC := HC.up hb; replace HP := HP.up hb; clear hb; obtain ⟨a0, a1, a2, a3, a4, a5, a6, a7⟩ := HA.v8; obtain ⟨b0, b1, b2, b3, b4, b5, b6, b7⟩ := HC.v8; obtain ⟨p0, p1, p2, p3, p4, p5, p6, p7⟩ := HP.v8; obtain ⟨pf0, pf1, pf2, pf3, pf4, pf5, pf6, pf7⟩ := HP.f8) | fail)
  go_loopw [16] (fun iv wr => ∃ k : Nat, k ≤ 8 ∧ iv = .int .i64 (k : Int) ∧ Hid (At wr w.heap.size (V8.mix (a.add b) a k).c) ∧ Hid (At wr (w.heap.size + 1) b.c) ∧ Hid (At wr (w.heap.size + 1 + 1) V8.z.c) ∧ Hid (Below w.heap.size w wr)) (fun iv _ => 8 - (intOf iv).toNat)
  case atStart => exact ⟨0, by omega, rfl, by rw [V8.mix_zero]; exact HA, HC, HP, HB⟩
  case round =>
    obtain ⟨k, hk, rfl, GA, GC, GP, GB⟩ := hrel
    clear HA HC HP HB a0 a1 a2 a3 a4 a5 a6 a7 b0 b1 b2 b3 b4 b5 b6 b7 p0 p1 p2 p3 p4 p5 p6 p7 pf0 pf1 pf2 pf3 pf4 pf5 pf6 pf7
    by_cases hlt : k < 8
    · have e1 := V8.mix_at (a := a.add b) (b := a) (k := k) hlt
      rw [if_neg (by omega)] at e1
      obtain ⟨x, hx⟩ : ∃ x, x = a.at_ k := ⟨_, rfl⟩
      obtain ⟨y', hy⟩ : ∃ y, y = b.at_ k := ⟨_, rfl⟩
      have g1 := (GA.out).ci (i := k) (v := .int .i64 x) (by rw [V8.c_l, List.getElem?_map, V8.l_get hlt, e1, hx]; rfl)
      have g2 := (GC.out).ci (i := k) (v := .int .i64 y') (by rw [V8.c_l, List.getElem?_map, V8.l_get hlt, hy]; rfl)
      have f1 := (GA.out).fi (i := k) (v := .int .i64 x) (by rw [V8.c_l, List.getElem?_map, V8.l_get hlt, e1, hx]; rfl)
      have b1 := K1.out k hlt
      have b2 := K2.out k hlt
      rw [← hx] at b1
      rw [← hy] at b2
      have w1' : IntKind.i64.wrap (x + y') = x + y' := IntWalk.i64_in _ (by omega)
      have HX := vhide hx
      have HY := vhide hy
      clear e1 hx hy
      go_wp2_with fail
      go_region
      go_wp2
      go_roundw
      case rel => exact ⟨k + 1, by omega, by go_num, vset_at GA.out hlt (by rw [HX.out, HY.out, V8.at_add hlt]), (GC.out.far (by omega) _).dr, (GP.out.far (by omega) _).dr, ((GB.out).setCell (by simp) _).drew⟩
      case measure => simp [intOf]; omega
    · obtain rfl : k = 8 := by omega
      rw [V8.mix_all] at GA
      have HA := GA.out
      have HP := GP.out
      have HB := GB
      clear GA GC GP GB
      obtain ⟨a0, a1, a2, a3, a4, a5, a6, a7⟩ := HA.v8
      go_wp2_with (first | (go_at_call 23; (with_reducible refine (C3.out _).mono ?_); rintro e w3 ⟨rfl, hb⟩; clear a0 a1 a2 a3 a4 a5 a6 a7; replace HB := (Bel.up HB hb).hid; replace HP := HP.up hb; clear hb; obtain ⟨p0, p1, p2, p3, p4, p5, p6, p7⟩ := HP.v8; obtain ⟨pf0, pf1, pf2, pf3, pf4, pf5, pf6, pf7⟩ := HP.f8) | fail)
      refine vname_end ?_
      intro W4 hW4
      have HF : At W4 (w.heap.size + 1 + 1) r.c := by rw [hW4]; exact HP.put8
      have BF : Bel w W4 := by rw [hW4]; exact Bel.put8 HB (by omega)
      clear hW4
      obtain ⟨r0, r1, r2, r3, r4, r5, r6, r7⟩ := HF.v8
      refine bodyPost_ret (v := .tuple #[r.v, .bool y]) (by simp [results, Tryd.results9, go_sem, r0, r1, r2, r3, r4, r5, r6, r7]) rfl ⟨rfl, BF⟩
end Go.Proofs.YtibigdblapgmdaaDoor
