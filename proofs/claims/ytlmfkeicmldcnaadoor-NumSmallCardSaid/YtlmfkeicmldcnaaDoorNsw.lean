/- NumSmall's walk. No conditions. -/
import Derived.Test.YtlmfkeicmldcnaaDoorAv
open Go.RowKit
set_option maxRecDepth 100000
namespace Go.Proofs.YtlmfkeicmldcnaaDoor
theorem cmpS_any {x y v : Int} (W : World) (hv : cmpZ x y = v) : Calls Tryd.prog 60 #[.int .i32 x, .int .i32 y] W fun e w' => e = .returned (.int .i64 v) ∧ W = w' := by
  subst hv
  rcases Int.lt_trichotomy x y with h | h | h
  · have HV : Hid (cmpZ x y = -1) := if_pos h
    go_enter Tryd.func60, Tryd.ntmps60
    go_wp2
    go_ret
    exact ⟨by rw [HV.out]; rfl, rfl⟩
  · have HV : Hid (cmpZ x y = 0) := by unfold Hid cmpZ; rw [if_neg (by omega), if_neg (by omega)]
    have h1 : ¬ x < y := by omega
    have h2 : ¬ y < x := by omega
    clear h
    go_enter Tryd.func60, Tryd.ntmps60
    go_wp2
    go_ret
    exact ⟨by rw [HV.out]; rfl, rfl⟩
  · have HV : Hid (cmpZ x y = 1) := by unfold Hid cmpZ; rw [if_neg (by omega), if_pos h]
    have h1 : ¬ x < y := by omega
    go_enter Tryd.func60, Tryd.ntmps60
    go_wp2
    go_ret
    exact ⟨by rw [HV.out]; rfl, rfl⟩
def ZRs (W : World) (s : Bool) (z : Int) (e : Ending) (w' : World) : Prop := ∃ A c, e = .returned (.agg #[.bool s, .slice A (dl z.natAbs) c]) ∧ ZA w' s A (dl z.natAbs) c z ∧ Hid (Below W.heap.size W w')
theorem euclid {x y q r : Int} (h0 : y ≠ 0) (h : r + y * q = x) (h1 : 0 ≤ r) (h2 : r < y ∨ r < -y) : x / y = q ∧ x % y = r := by
  rcases Int.lt_or_gt_of_ne h0 with hy | hy
  · have h3 := (Int.ediv_emod_unique (a := x) (b := -y) (r := r) (q := -q) (by omega)).2 ⟨by rw [Int.neg_mul_neg]; exact h, h1, by omega⟩
    rw [Int.ediv_neg, Int.emod_neg] at h3
    exact ⟨by omega, h3.2⟩
  · exact (Int.ediv_emod_unique (by omega)).2 ⟨h, h1, by omega⟩
theorem tm_facts {x y : Int} (h0 : y ≠ 0) (bx : -2147483648 ≤ x ∧ x ≤ 2147483647) : x.tmod y + y * x.tdiv y = x ∧ (x.tmod y < y ∨ x.tmod y < -y) ∧ (-y < x.tmod y ∨ y < x.tmod y) ∧ -2147483648 ≤ x.tdiv y ∧ x.tdiv y ≤ 2147483648 := by
  have e := Int.tmod_add_mul_tdiv x y
  have h1 : (x.tmod y).natAbs < y.natAbs := by rw [Int.natAbs_tmod]; exact Nat.mod_lt _ (by omega)
  have h2 : (x.tdiv y).natAbs ≤ x.natAbs := by rw [Int.natAbs_tdiv]; exact Nat.div_le_self _ _
  exact ⟨e, by omega, by omega, by omega, by omega⟩
set_option maxHeartbeats 8000000 in
theorem nsmall_a {x y : Int} (w : World) (bx : -2147483648 ≤ x ∧ x ≤ 2147483647) (bye : -2147483648 ≤ y ∧ y ≤ 2147483647) (h0 : y ≠ 0) (hm : 0 ≤ x.tmod y) :
    Calls Tryd.prog 12 #[.int .i32 x, .int .i32 y] w fun e w' => e = .returned (.bool true) ∧ Below w.heap.size w w' := by
  obtain ⟨f1, f2, f3, f4, f5⟩ := tm_facts h0 bx
  obtain ⟨bx1, bx2⟩ := bx
  obtain ⟨by1, by2⟩ := bye
  obtain ⟨q, hq⟩ : ∃ q, q = x.tdiv y := ⟨_, rfl⟩
  obtain ⟨r, hr⟩ : ∃ r, r = x.tmod y := ⟨_, rfl⟩
  obtain ⟨hdq, hdr⟩ : x / y = q ∧ x % y = r := by
    refine euclid h0 ?_ (by omega) (by omega)
    rw [hq, hr]; exact f1
  obtain ⟨s, hs⟩ : ∃ s, x + y = s := ⟨_, rfl⟩
  obtain ⟨p, hp⟩ : ∃ p, x * y = p := ⟨_, rfl⟩
  obtain ⟨v, hv⟩ : ∃ v, cmpZ x y = v := ⟨_, rfl⟩
  have hpb : p.natAbs ≤ 2147483648 * 2147483648 := by rw [← hp, Int.natAbs_mul]; exact Nat.mul_le_mul (by omega) (by omega)
  have CX : Hid (∀ W, Calls Tryd.prog 40 #[.int .i64 x] W (ZR W x)) := fun W => zof_h (by omega) (by omega)
  obtain ⟨sy, hsy⟩ : ∃ s, s = decide (y < 0) := ⟨_, rfl⟩
  have CY : Hid (∀ W, Calls Tryd.prog 40 #[.int .i64 y] W (ZRs W sy y)) := fun W => by rw [hsy]; exact zof_h (by omega) (by omega)
  have CD : Hid (∀ W A c A' c', ZA W (decide (x < 0)) A (dl x.natAbs) c x → ZA W sy A' (dl y.natAbs) c' y → Calls Tryd.prog 39 #[.agg #[.bool (decide (x < 0)), .slice A (dl x.natAbs) c], .agg #[.bool sy, .slice A' (dl y.natAbs) c']] W (ZDivR W q r)) := fun W A c A' c' h h' => zdiv_h h h' h0 (Nat.le_trans (dl_small2 (by omega)) (by omega)) hdq hdr
  have CQ : Hid (∀ W e, e = q → Calls Tryd.prog 40 #[.int .i64 e] W (ZR W q)) := fun W e he => by subst he; exact zof_h (by omega) (by omega)
  have CR : Hid (∀ W e, e = r → Calls Tryd.prog 40 #[.int .i64 e] W (ZR W r)) := fun W e he => by subst he; exact zof_h (by omega) (by omega)
  have CS : Hid (∀ W e, e = x + y → Calls Tryd.prog 40 #[.int .i64 e] W (ZR W s)) := fun W e he => by rw [he, hs]; exact zof_h (by omega) (by omega)
  have CP : Hid (∀ W e, e = x * y → Calls Tryd.prog 40 #[.int .i64 e] W (ZR W p)) := fun W e he => by rw [he, hp]; exact zof_h (by omega) (by omega)
  have wx : IntKind.i64.wrap x = x := IntWalk.i64_in _ (by omega)
  have wy : IntKind.i64.wrap y = y := IntWalk.i64_in _ (by omega)
  have HMW : Hid (IntKind.i64.wrap (IntKind.i64.wrap x * IntKind.i64.wrap y) = x * y) := by unfold Hid; rw [wx, wy, hp]; exact IntWalk.i64_in _ (by omega)
  have HSW : Hid (IntKind.i64.wrap (IntKind.i64.wrap x + IntKind.i64.wrap y) = x + y) := by unfold Hid; rw [wx, wy]; exact IntWalk.i64_in _ (by omega)
  clear wx wy
  have CE : Hid (∀ W u B d B' d', ZA W (decide (u < 0)) B (dl u.natAbs) d u → ZA W (decide (u < 0)) B' (dl u.natAbs) d' u → Calls Tryd.prog 43 #[.agg #[.bool (decide (u < 0)), .slice B (dl u.natAbs) d], .agg #[.bool (decide (u < 0)), .slice B' (dl u.natAbs) d']] W (IntPost W 0)) := fun W u B d B' d' h h' => zcmp_h h h' (by unfold cmpZ; rw [if_neg (by omega), if_neg (by omega)])
  have CA : Hid (∀ W B d B' d', ZA W (decide (x < 0)) B (dl x.natAbs) d x → ZA W sy B' (dl y.natAbs) d' y → Calls Tryd.prog 55 #[.agg #[.bool (decide (x < 0)), .slice B (dl x.natAbs) d], .agg #[.bool sy, .slice B' (dl y.natAbs) d']] W (ZR W s)) := fun W B d B' d' h h' => zadd_h h h' hs (Nat.le_trans (dl_small2 (by omega)) (by omega))
  have CM : Hid (∀ W B d B' d', ZA W (decide (x < 0)) B (dl x.natAbs) d x → ZA W sy B' (dl y.natAbs) d' y → Calls Tryd.prog 57 #[.agg #[.bool (decide (x < 0)), .slice B (dl x.natAbs) d], .agg #[.bool sy, .slice B' (dl y.natAbs) d']] W (ZR W p)) := fun W B d B' d' h h' => zmul_h h h' hp (Nat.le_trans (dl_small2 (by omega)) (by omega))
  have CV : Hid (∀ W B d B' d', ZA W (decide (x < 0)) B (dl x.natAbs) d x → ZA W sy B' (dl y.natAbs) d' y → Calls Tryd.prog 43 #[.agg #[.bool (decide (x < 0)), .slice B (dl x.natAbs) d], .agg #[.bool sy, .slice B' (dl y.natAbs) d']] W (IntPost W v)) := fun W B d B' d' h h' => zcmp_h h h' hv
  have CW := hide (fun W => cmpS_any W hv)
  have hy0 : ¬ y = 0 := h0
  have HF := hide (show q = x.tdiv y ∧ r = x.tmod y ∧ -2147483648 ≤ x.tdiv y ∧ x.tdiv y ≤ 2147483648 from ⟨hq, hr, f4, f5⟩)
  clear hq hr h0 hdq hdr hsy hs hp hv hpb f1 f2 f3 f4 f5
  go_enter Tryd.func12, Tryd.ntmps12
  go_wp2_with (first | (go_at_call 37; (with_reducible refine (awake2_any _).mono ?_); rintro e w1 ⟨rfl, hbk⟩; have HW := hbk) | (go_at_call 40; (with_reducible refine (CX.out _).mono ?_); rintro e w2 ⟨A2, c2, rfl, zx, hbk⟩; replace HW := chain HW hbk.out) | (go_at_call 40; (with_reducible refine (CY.out _).mono ?_); rintro e w3 ⟨A3, c3, rfl, zy, hbk⟩; replace HW := chain HW hbk.out; replace zx := zx.up hbk) | (go_at_call 39; (with_reducible refine (CD.out _ _ _ _ _ ((zx.al _).al _) ((zy.al _).al _)).mono ?_); rintro e w4 ⟨Aq, cq, Ar, cr, rfl, zq, zr, hbk⟩) | fail)
  obtain ⟨W1, hW1⟩ : ∃ W1, W1 = (w4.alloc (.cells #[.bool (decide (q < 0)), .slice Aq (dl q.natAbs) cq] 55)).alloc (.cells #[.bool (decide (r < 0)), .slice Ar (dl r.natAbs) cr] 55) := ⟨_, rfl⟩
  rw [← hW1]
  obtain ⟨g, hg⟩ : ∃ g, g = w3.heap.size := ⟨_, rfl⟩
  obtain ⟨k, hk⟩ : ∃ k, k = w4.heap.size := ⟨_, rfl⟩
  have ZX : Hid (Zcell W1.drew g (decide (x < 0)) A2 (dl x.natAbs) c2) := by rw [hW1, hg]; exact Zcell.dr ((((zc_new w3 _ _ _ _ _).al (.cells #[.bool sy, .slice A3 (dl y.natAbs) c3] 55)).up hbk).al _ |>.al _)
  have ZY : Hid (Zcell W1.drew (g + 1) sy A3 (dl y.natAbs) c3) := by rw [hW1, hg]; exact Zcell.dr (((zc_new1 w3 _ _ _ _ _ _).up hbk).al _ |>.al _)
  have ZQ : Hid (Zcell W1.drew k (decide (q < 0)) Aq (dl q.natAbs) cq) := by rw [hW1, hk]; exact Zcell.dr ((zc_new w4 _ _ _ _ _).al _)
  have ZR1 : Hid (Zcell W1.drew (k + 1) (decide (r < 0)) Ar (dl r.natAbs) cr) := by rw [hW1, hk]; exact Zcell.dr (zc_new1 w4 _ _ _ _ _ _)
  replace HW : Hid (Below w.heap.size w W1.drew) := by
    rw [hW1]
    exact Below.drew (((HW.out.trans (((al2 w3 _ _).trans (hbk.out.mono (al2 w3 _ _).size)).mono HW.out.size)).trans ((al2 w4 _ _).mono (Nat.le_trans HW.out.size (Nat.le_trans (al2 w3 _ _).size hbk.out.size)))))
  replace zx : ZA W1.drew (decide (x < 0)) A2 (dl x.natAbs) c2 x := by rw [hW1]; exact ZA.dr (((((zx.al (.cells #[.bool (decide (x < 0)), .slice A2 (dl x.natAbs) c2] 55)).al (.cells #[.bool sy, .slice A3 (dl y.natAbs) c3] 55)).up hbk).al _).al _)
  replace zy : ZA W1.drew sy A3 (dl y.natAbs) c3 y := by rw [hW1]; exact ZA.dr (((((zy.al (.cells #[.bool (decide (x < 0)), .slice A2 (dl x.natAbs) c2] 55)).al (.cells #[.bool sy, .slice A3 (dl y.natAbs) c3] 55)).up hbk).al _).al _)
  replace zq : ZA W1.drew (decide (q < 0)) Aq (dl q.natAbs) cq q := by rw [hW1]; exact ZA.dr ((zq.al _).al _)
  replace zr : ZA W1.drew (decide (r < 0)) Ar (dl r.natAbs) cr r := by rw [hW1]; exact ZA.dr ((zr.al _).al _)
  simp only [← hg, ← hk]
  clear hW1 hbk hg hk
  go_region_held3 (fun w' => w'.cell? ⟨g, 0, none⟩ = some (.bool (decide (x < 0))) ∧ w'.cell? ⟨g, 1, none⟩ = some (.slice A2 (dl x.natAbs) c2) ∧ w'.cell? ⟨g + 1, 0, none⟩ = some (.bool sy) ∧ w'.cell? ⟨g + 1, 1, none⟩ = some (.slice A3 (dl y.natAbs) c3) ∧ w'.cell? ⟨k, 0, none⟩ = some (.bool (decide (q < 0))) ∧ w'.cell? ⟨k, 1, none⟩ = some (.slice Aq (dl q.natAbs) cq) ∧ w'.cell? ⟨k + 1, 0, none⟩ = some (.bool (decide (r < 0))) ∧ w'.cell? ⟨k + 1, 1, none⟩ = some (.slice Ar (dl r.natAbs) cr))
    (first | exact ⟨ZX.out.c0, ZX.out.c1, ZY.out.c0, ZY.out.c1, ZQ.out.c0, ZQ.out.c1, ZR1.out.c0, ZR1.out.c1⟩ | assumption)
    (first | (go_at_call 40; (with_reducible refine (CQ.out _ _ (by have hE := HF.out; first | omega | (unfold wrap64; omega))).mono ?_); rintro e v1 ⟨A_1, c_1, rfl, t1, hbk⟩; replace ZX := hide (ZX.out.up hbk); replace ZY := hide (ZY.out.up hbk); replace ZQ := hide (ZQ.out.up hbk); replace ZR1 := hide (ZR1.out.up hbk); replace HW := chain HW hbk.out; replace zx := zx.up hbk; replace zy := zy.up hbk; replace zq := zq.up hbk; replace zr := zr.up hbk; (try replace t1 := t1.up hbk); (try replace t2 := t2.up hbk); (try replace t3 := t3.up hbk); (try replace t4 := t4.up hbk)) | (go_at_call 43; (with_reducible refine (CE.out _ _ _ _ _ _ zq t1).mono ?_); rintro e wi ⟨rfl, hbk⟩; replace ZX := hide (ZX.out.up hbk); replace ZY := hide (ZY.out.up hbk); replace ZQ := hide (ZQ.out.up hbk); replace ZR1 := hide (ZR1.out.up hbk); replace HW := chain HW hbk.out; replace zx := zx.up hbk; replace zy := zy.up hbk; replace zq := zq.up hbk; replace zr := zr.up hbk; (try replace t1 := t1.up hbk); (try replace t2 := t2.up hbk); (try replace t3 := t3.up hbk); (try replace t4 := t4.up hbk)) | (go_at_call 40; (with_reducible refine (CR.out _ _ (by have hE := HF.out; first | omega | (unfold wrap64; omega))).mono ?_); rintro e v2 ⟨A_2, c_2, rfl, t2, hbk⟩; replace ZX := hide (ZX.out.up hbk); replace ZY := hide (ZY.out.up hbk); replace ZQ := hide (ZQ.out.up hbk); replace ZR1 := hide (ZR1.out.up hbk); replace HW := chain HW hbk.out; replace zx := zx.up hbk; replace zy := zy.up hbk; replace zq := zq.up hbk; replace zr := zr.up hbk; (try replace t1 := t1.up hbk); (try replace t2 := t2.up hbk); (try replace t3 := t3.up hbk); (try replace t4 := t4.up hbk)) | (go_at_call 43; (with_reducible refine (CE.out _ _ _ _ _ _ zr t2).mono ?_); rintro e wi ⟨rfl, hbk⟩; replace ZX := hide (ZX.out.up hbk); replace ZY := hide (ZY.out.up hbk); replace ZQ := hide (ZQ.out.up hbk); replace ZR1 := hide (ZR1.out.up hbk); replace HW := chain HW hbk.out; replace zx := zx.up hbk; replace zy := zy.up hbk; replace zq := zq.up hbk; replace zr := zr.up hbk; (try replace t1 := t1.up hbk); (try replace t2 := t2.up hbk); (try replace t3 := t3.up hbk); (try replace t4 := t4.up hbk)) | (go_at_call 55; (with_reducible refine (CA.out _ _ _ _ _ zx zy).mono ?_); rintro e v3 ⟨A_3, c_3, rfl, t3, hbk⟩; replace ZX := hide (ZX.out.up hbk); replace ZY := hide (ZY.out.up hbk); replace ZQ := hide (ZQ.out.up hbk); replace ZR1 := hide (ZR1.out.up hbk); replace HW := chain HW hbk.out; replace zx := zx.up hbk; replace zy := zy.up hbk; replace zq := zq.up hbk; replace zr := zr.up hbk; (try replace t1 := t1.up hbk); (try replace t2 := t2.up hbk); (try replace t3 := t3.up hbk); (try replace t4 := t4.up hbk)) | (go_at_call 40; (with_reducible refine (CS.out _ _ (by first | rfl | exact HSW.out)).mono ?_); rintro e v4 ⟨A_4, c_4, rfl, t4, hbk⟩; replace ZX := hide (ZX.out.up hbk); replace ZY := hide (ZY.out.up hbk); replace ZQ := hide (ZQ.out.up hbk); replace ZR1 := hide (ZR1.out.up hbk); replace HW := chain HW hbk.out; replace zx := zx.up hbk; replace zy := zy.up hbk; replace zq := zq.up hbk; replace zr := zr.up hbk; (try replace t1 := t1.up hbk); (try replace t2 := t2.up hbk); (try replace t3 := t3.up hbk); (try replace t4 := t4.up hbk)) | (go_at_call 43; (with_reducible refine (CE.out _ _ _ _ _ _ t3 t4).mono ?_); rintro e wi ⟨rfl, hbk⟩; replace ZX := hide (ZX.out.up hbk); replace ZY := hide (ZY.out.up hbk); replace ZQ := hide (ZQ.out.up hbk); replace ZR1 := hide (ZR1.out.up hbk); replace HW := chain HW hbk.out; replace zx := zx.up hbk; replace zy := zy.up hbk; replace zq := zq.up hbk; replace zr := zr.up hbk; (try replace t1 := t1.up hbk); (try replace t2 := t2.up hbk); (try replace t3 := t3.up hbk); (try replace t4 := t4.up hbk)) | (go_at_call 57; (with_reducible refine (CM.out _ _ _ _ _ zx zy).mono ?_); rintro e v5 ⟨A_5, c_5, rfl, t3, hbk⟩; replace ZX := hide (ZX.out.up hbk); replace ZY := hide (ZY.out.up hbk); replace ZQ := hide (ZQ.out.up hbk); replace ZR1 := hide (ZR1.out.up hbk); replace HW := chain HW hbk.out; replace zx := zx.up hbk; replace zy := zy.up hbk; replace zq := zq.up hbk; replace zr := zr.up hbk; (try replace t1 := t1.up hbk); (try replace t2 := t2.up hbk); (try replace t3 := t3.up hbk); (try replace t4 := t4.up hbk)) | (go_at_call 40; (with_reducible refine (CP.out _ _ (by first | rfl | exact HMW.out)).mono ?_); rintro e v6 ⟨A_6, c_6, rfl, t4, hbk⟩; replace ZX := hide (ZX.out.up hbk); replace ZY := hide (ZY.out.up hbk); replace ZQ := hide (ZQ.out.up hbk); replace ZR1 := hide (ZR1.out.up hbk); replace HW := chain HW hbk.out; replace zx := zx.up hbk; replace zy := zy.up hbk; replace zq := zq.up hbk; replace zr := zr.up hbk; (try replace t1 := t1.up hbk); (try replace t2 := t2.up hbk); (try replace t3 := t3.up hbk); (try replace t4 := t4.up hbk)) | (go_at_call 43; (with_reducible refine (CV.out _ _ _ _ _ zx zy).mono ?_); rintro e wi ⟨rfl, hbk⟩; replace ZX := hide (ZX.out.up hbk); replace ZY := hide (ZY.out.up hbk); replace ZQ := hide (ZQ.out.up hbk); replace ZR1 := hide (ZR1.out.up hbk); replace HW := chain HW hbk.out; replace zx := zx.up hbk; replace zy := zy.up hbk; replace zq := zq.up hbk; replace zr := zr.up hbk; (try replace t1 := t1.up hbk); (try replace t2 := t2.up hbk); (try replace t3 := t3.up hbk); (try replace t4 := t4.up hbk)) | (go_at_call 60; (with_reducible refine (CW.out _).mono ?_); rintro e wi ⟨rfl, rfl⟩) | fail)
  go_wp2
  go_ret
  exact ⟨by first | rfl | (congr 2; simp), HW.out⟩
set_option maxHeartbeats 8000000 in
theorem nsmall_b {x y : Int} (w : World) (bx : -2147483648 ≤ x ∧ x ≤ 2147483647) (bye : -2147483648 ≤ y ∧ y ≤ 2147483647) (h0 : y ≠ 0) (hm : x.tmod y < 0) (hp0 : 0 < y) :
    Calls Tryd.prog 12 #[.int .i32 x, .int .i32 y] w fun e w' => e = .returned (.bool true) ∧ Below w.heap.size w w' := by
  obtain ⟨f1, f2, f3, f4, f5⟩ := tm_facts h0 bx
  obtain ⟨bx1, bx2⟩ := bx
  obtain ⟨by1, by2⟩ := bye
  obtain ⟨q, hq⟩ : ∃ q, q = x.tdiv y - 1 := ⟨_, rfl⟩
  obtain ⟨r, hr⟩ : ∃ r, r = x.tmod y + y := ⟨_, rfl⟩
  obtain ⟨hdq, hdr⟩ : x / y = q ∧ x % y = r := by
    refine euclid h0 ?_ (by omega) (by omega)
    rw [hq, hr, Int.mul_sub, Int.mul_one]; omega
  obtain ⟨s, hs⟩ : ∃ s, x + y = s := ⟨_, rfl⟩
  obtain ⟨p, hp⟩ : ∃ p, x * y = p := ⟨_, rfl⟩
  obtain ⟨v, hv⟩ : ∃ v, cmpZ x y = v := ⟨_, rfl⟩
  have hpb : p.natAbs ≤ 2147483648 * 2147483648 := by rw [← hp, Int.natAbs_mul]; exact Nat.mul_le_mul (by omega) (by omega)
  have CX : Hid (∀ W, Calls Tryd.prog 40 #[.int .i64 x] W (ZR W x)) := fun W => zof_h (by omega) (by omega)
  obtain ⟨sy, hsy⟩ : ∃ s, s = decide (y < 0) := ⟨_, rfl⟩
  have CY : Hid (∀ W, Calls Tryd.prog 40 #[.int .i64 y] W (ZRs W sy y)) := fun W => by rw [hsy]; exact zof_h (by omega) (by omega)
  have CD : Hid (∀ W A c A' c', ZA W (decide (x < 0)) A (dl x.natAbs) c x → ZA W sy A' (dl y.natAbs) c' y → Calls Tryd.prog 39 #[.agg #[.bool (decide (x < 0)), .slice A (dl x.natAbs) c], .agg #[.bool sy, .slice A' (dl y.natAbs) c']] W (ZDivR W q r)) := fun W A c A' c' h h' => zdiv_h h h' h0 (Nat.le_trans (dl_small2 (by omega)) (by omega)) hdq hdr
  have CQ : Hid (∀ W e, e = q → Calls Tryd.prog 40 #[.int .i64 e] W (ZR W q)) := fun W e he => by subst he; exact zof_h (by omega) (by omega)
  have CR : Hid (∀ W e, e = r → Calls Tryd.prog 40 #[.int .i64 e] W (ZR W r)) := fun W e he => by subst he; exact zof_h (by omega) (by omega)
  have CS : Hid (∀ W e, e = x + y → Calls Tryd.prog 40 #[.int .i64 e] W (ZR W s)) := fun W e he => by rw [he, hs]; exact zof_h (by omega) (by omega)
  have CP : Hid (∀ W e, e = x * y → Calls Tryd.prog 40 #[.int .i64 e] W (ZR W p)) := fun W e he => by rw [he, hp]; exact zof_h (by omega) (by omega)
  have wx : IntKind.i64.wrap x = x := IntWalk.i64_in _ (by omega)
  have wy : IntKind.i64.wrap y = y := IntWalk.i64_in _ (by omega)
  have HMW : Hid (IntKind.i64.wrap (IntKind.i64.wrap x * IntKind.i64.wrap y) = x * y) := by unfold Hid; rw [wx, wy, hp]; exact IntWalk.i64_in _ (by omega)
  have HSW : Hid (IntKind.i64.wrap (IntKind.i64.wrap x + IntKind.i64.wrap y) = x + y) := by unfold Hid; rw [wx, wy]; exact IntWalk.i64_in _ (by omega)
  clear wx wy
  have CE : Hid (∀ W u B d B' d', ZA W (decide (u < 0)) B (dl u.natAbs) d u → ZA W (decide (u < 0)) B' (dl u.natAbs) d' u → Calls Tryd.prog 43 #[.agg #[.bool (decide (u < 0)), .slice B (dl u.natAbs) d], .agg #[.bool (decide (u < 0)), .slice B' (dl u.natAbs) d']] W (IntPost W 0)) := fun W u B d B' d' h h' => zcmp_h h h' (by unfold cmpZ; rw [if_neg (by omega), if_neg (by omega)])
  have CA : Hid (∀ W B d B' d', ZA W (decide (x < 0)) B (dl x.natAbs) d x → ZA W sy B' (dl y.natAbs) d' y → Calls Tryd.prog 55 #[.agg #[.bool (decide (x < 0)), .slice B (dl x.natAbs) d], .agg #[.bool sy, .slice B' (dl y.natAbs) d']] W (ZR W s)) := fun W B d B' d' h h' => zadd_h h h' hs (Nat.le_trans (dl_small2 (by omega)) (by omega))
  have CM : Hid (∀ W B d B' d', ZA W (decide (x < 0)) B (dl x.natAbs) d x → ZA W sy B' (dl y.natAbs) d' y → Calls Tryd.prog 57 #[.agg #[.bool (decide (x < 0)), .slice B (dl x.natAbs) d], .agg #[.bool sy, .slice B' (dl y.natAbs) d']] W (ZR W p)) := fun W B d B' d' h h' => zmul_h h h' hp (Nat.le_trans (dl_small2 (by omega)) (by omega))
  have CV : Hid (∀ W B d B' d', ZA W (decide (x < 0)) B (dl x.natAbs) d x → ZA W sy B' (dl y.natAbs) d' y → Calls Tryd.prog 43 #[.agg #[.bool (decide (x < 0)), .slice B (dl x.natAbs) d], .agg #[.bool sy, .slice B' (dl y.natAbs) d']] W (IntPost W v)) := fun W B d B' d' h h' => zcmp_h h h' hv
  have CW := hide (fun W => cmpS_any W hv)
  have hy0 : ¬ y = 0 := h0
  have g1 : ¬ x.tmod y + y < 0 := by omega
  have g2 : -2147483648 ≤ x.tmod y := by omega
  have HF := hide (show q = x.tdiv y - 1 ∧ r = x.tmod y + y ∧ -2147483648 ≤ x.tdiv y ∧ x.tdiv y ≤ 2147483648 from ⟨hq, hr, f4, f5⟩)
  clear hq hr h0 hdq hdr hsy hs hp hv hpb f1 f2 f3 f4 f5
  go_enter Tryd.func12, Tryd.ntmps12
  go_wp2_with (first | (go_at_call 37; (with_reducible refine (awake2_any _).mono ?_); rintro e w1 ⟨rfl, hbk⟩; have HW := hbk) | (go_at_call 40; (with_reducible refine (CX.out _).mono ?_); rintro e w2 ⟨A2, c2, rfl, zx, hbk⟩; replace HW := chain HW hbk.out) | (go_at_call 40; (with_reducible refine (CY.out _).mono ?_); rintro e w3 ⟨A3, c3, rfl, zy, hbk⟩; replace HW := chain HW hbk.out; replace zx := zx.up hbk) | (go_at_call 39; (with_reducible refine (CD.out _ _ _ _ _ ((zx.al _).al _) ((zy.al _).al _)).mono ?_); rintro e w4 ⟨Aq, cq, Ar, cr, rfl, zq, zr, hbk⟩) | fail)
  obtain ⟨W1, hW1⟩ : ∃ W1, W1 = (w4.alloc (.cells #[.bool (decide (q < 0)), .slice Aq (dl q.natAbs) cq] 55)).alloc (.cells #[.bool (decide (r < 0)), .slice Ar (dl r.natAbs) cr] 55) := ⟨_, rfl⟩
  rw [← hW1]
  obtain ⟨g, hg⟩ : ∃ g, g = w3.heap.size := ⟨_, rfl⟩
  obtain ⟨k, hk⟩ : ∃ k, k = w4.heap.size := ⟨_, rfl⟩
  have ZX : Hid (Zcell W1.drew g (decide (x < 0)) A2 (dl x.natAbs) c2) := by rw [hW1, hg]; exact Zcell.dr ((((zc_new w3 _ _ _ _ _).al (.cells #[.bool sy, .slice A3 (dl y.natAbs) c3] 55)).up hbk).al _ |>.al _)
  have ZY : Hid (Zcell W1.drew (g + 1) sy A3 (dl y.natAbs) c3) := by rw [hW1, hg]; exact Zcell.dr (((zc_new1 w3 _ _ _ _ _ _).up hbk).al _ |>.al _)
  have ZQ : Hid (Zcell W1.drew k (decide (q < 0)) Aq (dl q.natAbs) cq) := by rw [hW1, hk]; exact Zcell.dr ((zc_new w4 _ _ _ _ _).al _)
  have ZR1 : Hid (Zcell W1.drew (k + 1) (decide (r < 0)) Ar (dl r.natAbs) cr) := by rw [hW1, hk]; exact Zcell.dr (zc_new1 w4 _ _ _ _ _ _)
  replace HW : Hid (Below w.heap.size w W1.drew) := by
    rw [hW1]
    exact Below.drew (((HW.out.trans (((al2 w3 _ _).trans (hbk.out.mono (al2 w3 _ _).size)).mono HW.out.size)).trans ((al2 w4 _ _).mono (Nat.le_trans HW.out.size (Nat.le_trans (al2 w3 _ _).size hbk.out.size)))))
  replace zx : ZA W1.drew (decide (x < 0)) A2 (dl x.natAbs) c2 x := by rw [hW1]; exact ZA.dr (((((zx.al (.cells #[.bool (decide (x < 0)), .slice A2 (dl x.natAbs) c2] 55)).al (.cells #[.bool sy, .slice A3 (dl y.natAbs) c3] 55)).up hbk).al _).al _)
  replace zy : ZA W1.drew sy A3 (dl y.natAbs) c3 y := by rw [hW1]; exact ZA.dr (((((zy.al (.cells #[.bool (decide (x < 0)), .slice A2 (dl x.natAbs) c2] 55)).al (.cells #[.bool sy, .slice A3 (dl y.natAbs) c3] 55)).up hbk).al _).al _)
  replace zq : ZA W1.drew (decide (q < 0)) Aq (dl q.natAbs) cq q := by rw [hW1]; exact ZA.dr ((zq.al _).al _)
  replace zr : ZA W1.drew (decide (r < 0)) Ar (dl r.natAbs) cr r := by rw [hW1]; exact ZA.dr ((zr.al _).al _)
  simp only [← hg, ← hk]
  clear hW1 hbk hg hk
  go_region_held3 (fun w' => w'.cell? ⟨g, 0, none⟩ = some (.bool (decide (x < 0))) ∧ w'.cell? ⟨g, 1, none⟩ = some (.slice A2 (dl x.natAbs) c2) ∧ w'.cell? ⟨g + 1, 0, none⟩ = some (.bool sy) ∧ w'.cell? ⟨g + 1, 1, none⟩ = some (.slice A3 (dl y.natAbs) c3) ∧ w'.cell? ⟨k, 0, none⟩ = some (.bool (decide (q < 0))) ∧ w'.cell? ⟨k, 1, none⟩ = some (.slice Aq (dl q.natAbs) cq) ∧ w'.cell? ⟨k + 1, 0, none⟩ = some (.bool (decide (r < 0))) ∧ w'.cell? ⟨k + 1, 1, none⟩ = some (.slice Ar (dl r.natAbs) cr))
    (first | exact ⟨ZX.out.c0, ZX.out.c1, ZY.out.c0, ZY.out.c1, ZQ.out.c0, ZQ.out.c1, ZR1.out.c0, ZR1.out.c1⟩ | assumption)
    (first | (go_at_call 40; (with_reducible refine (CQ.out _ _ (by have hE := HF.out; first | omega | (unfold wrap64; omega))).mono ?_); rintro e v1 ⟨A_1, c_1, rfl, t1, hbk⟩; replace ZX := hide (ZX.out.up hbk); replace ZY := hide (ZY.out.up hbk); replace ZQ := hide (ZQ.out.up hbk); replace ZR1 := hide (ZR1.out.up hbk); replace HW := chain HW hbk.out; replace zx := zx.up hbk; replace zy := zy.up hbk; replace zq := zq.up hbk; replace zr := zr.up hbk; (try replace t1 := t1.up hbk); (try replace t2 := t2.up hbk); (try replace t3 := t3.up hbk); (try replace t4 := t4.up hbk)) | (go_at_call 43; (with_reducible refine (CE.out _ _ _ _ _ _ zq t1).mono ?_); rintro e wi ⟨rfl, hbk⟩; replace ZX := hide (ZX.out.up hbk); replace ZY := hide (ZY.out.up hbk); replace ZQ := hide (ZQ.out.up hbk); replace ZR1 := hide (ZR1.out.up hbk); replace HW := chain HW hbk.out; replace zx := zx.up hbk; replace zy := zy.up hbk; replace zq := zq.up hbk; replace zr := zr.up hbk; (try replace t1 := t1.up hbk); (try replace t2 := t2.up hbk); (try replace t3 := t3.up hbk); (try replace t4 := t4.up hbk)) | (go_at_call 40; (with_reducible refine (CR.out _ _ (by have hE := HF.out; first | omega | (unfold wrap64; omega))).mono ?_); rintro e v2 ⟨A_2, c_2, rfl, t2, hbk⟩; replace ZX := hide (ZX.out.up hbk); replace ZY := hide (ZY.out.up hbk); replace ZQ := hide (ZQ.out.up hbk); replace ZR1 := hide (ZR1.out.up hbk); replace HW := chain HW hbk.out; replace zx := zx.up hbk; replace zy := zy.up hbk; replace zq := zq.up hbk; replace zr := zr.up hbk; (try replace t1 := t1.up hbk); (try replace t2 := t2.up hbk); (try replace t3 := t3.up hbk); (try replace t4 := t4.up hbk)) | (go_at_call 43; (with_reducible refine (CE.out _ _ _ _ _ _ zr t2).mono ?_); rintro e wi ⟨rfl, hbk⟩; replace ZX := hide (ZX.out.up hbk); replace ZY := hide (ZY.out.up hbk); replace ZQ := hide (ZQ.out.up hbk); replace ZR1 := hide (ZR1.out.up hbk); replace HW := chain HW hbk.out; replace zx := zx.up hbk; replace zy := zy.up hbk; replace zq := zq.up hbk; replace zr := zr.up hbk; (try replace t1 := t1.up hbk); (try replace t2 := t2.up hbk); (try replace t3 := t3.up hbk); (try replace t4 := t4.up hbk)) | (go_at_call 55; (with_reducible refine (CA.out _ _ _ _ _ zx zy).mono ?_); rintro e v3 ⟨A_3, c_3, rfl, t3, hbk⟩; replace ZX := hide (ZX.out.up hbk); replace ZY := hide (ZY.out.up hbk); replace ZQ := hide (ZQ.out.up hbk); replace ZR1 := hide (ZR1.out.up hbk); replace HW := chain HW hbk.out; replace zx := zx.up hbk; replace zy := zy.up hbk; replace zq := zq.up hbk; replace zr := zr.up hbk; (try replace t1 := t1.up hbk); (try replace t2 := t2.up hbk); (try replace t3 := t3.up hbk); (try replace t4 := t4.up hbk)) | (go_at_call 40; (with_reducible refine (CS.out _ _ (by first | rfl | exact HSW.out)).mono ?_); rintro e v4 ⟨A_4, c_4, rfl, t4, hbk⟩; replace ZX := hide (ZX.out.up hbk); replace ZY := hide (ZY.out.up hbk); replace ZQ := hide (ZQ.out.up hbk); replace ZR1 := hide (ZR1.out.up hbk); replace HW := chain HW hbk.out; replace zx := zx.up hbk; replace zy := zy.up hbk; replace zq := zq.up hbk; replace zr := zr.up hbk; (try replace t1 := t1.up hbk); (try replace t2 := t2.up hbk); (try replace t3 := t3.up hbk); (try replace t4 := t4.up hbk)) | (go_at_call 43; (with_reducible refine (CE.out _ _ _ _ _ _ t3 t4).mono ?_); rintro e wi ⟨rfl, hbk⟩; replace ZX := hide (ZX.out.up hbk); replace ZY := hide (ZY.out.up hbk); replace ZQ := hide (ZQ.out.up hbk); replace ZR1 := hide (ZR1.out.up hbk); replace HW := chain HW hbk.out; replace zx := zx.up hbk; replace zy := zy.up hbk; replace zq := zq.up hbk; replace zr := zr.up hbk; (try replace t1 := t1.up hbk); (try replace t2 := t2.up hbk); (try replace t3 := t3.up hbk); (try replace t4 := t4.up hbk)) | (go_at_call 57; (with_reducible refine (CM.out _ _ _ _ _ zx zy).mono ?_); rintro e v5 ⟨A_5, c_5, rfl, t3, hbk⟩; replace ZX := hide (ZX.out.up hbk); replace ZY := hide (ZY.out.up hbk); replace ZQ := hide (ZQ.out.up hbk); replace ZR1 := hide (ZR1.out.up hbk); replace HW := chain HW hbk.out; replace zx := zx.up hbk; replace zy := zy.up hbk; replace zq := zq.up hbk; replace zr := zr.up hbk; (try replace t1 := t1.up hbk); (try replace t2 := t2.up hbk); (try replace t3 := t3.up hbk); (try replace t4 := t4.up hbk)) | (go_at_call 40; (with_reducible refine (CP.out _ _ (by first | rfl | exact HMW.out)).mono ?_); rintro e v6 ⟨A_6, c_6, rfl, t4, hbk⟩; replace ZX := hide (ZX.out.up hbk); replace ZY := hide (ZY.out.up hbk); replace ZQ := hide (ZQ.out.up hbk); replace ZR1 := hide (ZR1.out.up hbk); replace HW := chain HW hbk.out; replace zx := zx.up hbk; replace zy := zy.up hbk; replace zq := zq.up hbk; replace zr := zr.up hbk; (try replace t1 := t1.up hbk); (try replace t2 := t2.up hbk); (try replace t3 := t3.up hbk); (try replace t4 := t4.up hbk)) | (go_at_call 43; (with_reducible refine (CV.out _ _ _ _ _ zx zy).mono ?_); rintro e wi ⟨rfl, hbk⟩; replace ZX := hide (ZX.out.up hbk); replace ZY := hide (ZY.out.up hbk); replace ZQ := hide (ZQ.out.up hbk); replace ZR1 := hide (ZR1.out.up hbk); replace HW := chain HW hbk.out; replace zx := zx.up hbk; replace zy := zy.up hbk; replace zq := zq.up hbk; replace zr := zr.up hbk; (try replace t1 := t1.up hbk); (try replace t2 := t2.up hbk); (try replace t3 := t3.up hbk); (try replace t4 := t4.up hbk)) | (go_at_call 60; (with_reducible refine (CW.out _).mono ?_); rintro e wi ⟨rfl, rfl⟩) | fail)
  go_wp2
  go_ret
  exact ⟨by first | rfl | (congr 2; simp), HW.out⟩
set_option maxHeartbeats 8000000 in
theorem nsmall_c {x y : Int} (w : World) (bx : -2147483648 ≤ x ∧ x ≤ 2147483647) (bye : -2147483648 ≤ y ∧ y ≤ 2147483647) (h0 : y ≠ 0) (hm : x.tmod y < 0) (hp0 : y < 0) :
    Calls Tryd.prog 12 #[.int .i32 x, .int .i32 y] w fun e w' => e = .returned (.bool true) ∧ Below w.heap.size w w' := by
  obtain ⟨f1, f2, f3, f4, f5⟩ := tm_facts h0 bx
  obtain ⟨bx1, bx2⟩ := bx
  obtain ⟨by1, by2⟩ := bye
  obtain ⟨q, hq⟩ : ∃ q, q = x.tdiv y + 1 := ⟨_, rfl⟩
  obtain ⟨r, hr⟩ : ∃ r, r = x.tmod y - y := ⟨_, rfl⟩
  obtain ⟨hdq, hdr⟩ : x / y = q ∧ x % y = r := by
    refine euclid h0 ?_ (by omega) (by omega)
    rw [hq, hr, Int.mul_add, Int.mul_one]; omega
  obtain ⟨s, hs⟩ : ∃ s, x + y = s := ⟨_, rfl⟩
  obtain ⟨p, hp⟩ : ∃ p, x * y = p := ⟨_, rfl⟩
  obtain ⟨v, hv⟩ : ∃ v, cmpZ x y = v := ⟨_, rfl⟩
  have hpb : p.natAbs ≤ 2147483648 * 2147483648 := by rw [← hp, Int.natAbs_mul]; exact Nat.mul_le_mul (by omega) (by omega)
  have CX : Hid (∀ W, Calls Tryd.prog 40 #[.int .i64 x] W (ZR W x)) := fun W => zof_h (by omega) (by omega)
  obtain ⟨sy, hsy⟩ : ∃ s, s = decide (y < 0) := ⟨_, rfl⟩
  have CY : Hid (∀ W, Calls Tryd.prog 40 #[.int .i64 y] W (ZRs W sy y)) := fun W => by rw [hsy]; exact zof_h (by omega) (by omega)
  have CD : Hid (∀ W A c A' c', ZA W (decide (x < 0)) A (dl x.natAbs) c x → ZA W sy A' (dl y.natAbs) c' y → Calls Tryd.prog 39 #[.agg #[.bool (decide (x < 0)), .slice A (dl x.natAbs) c], .agg #[.bool sy, .slice A' (dl y.natAbs) c']] W (ZDivR W q r)) := fun W A c A' c' h h' => zdiv_h h h' h0 (Nat.le_trans (dl_small2 (by omega)) (by omega)) hdq hdr
  have CQ : Hid (∀ W e, e = q → Calls Tryd.prog 40 #[.int .i64 e] W (ZR W q)) := fun W e he => by subst he; exact zof_h (by omega) (by omega)
  have CR : Hid (∀ W e, e = r → Calls Tryd.prog 40 #[.int .i64 e] W (ZR W r)) := fun W e he => by subst he; exact zof_h (by omega) (by omega)
  have CS : Hid (∀ W e, e = x + y → Calls Tryd.prog 40 #[.int .i64 e] W (ZR W s)) := fun W e he => by rw [he, hs]; exact zof_h (by omega) (by omega)
  have CP : Hid (∀ W e, e = x * y → Calls Tryd.prog 40 #[.int .i64 e] W (ZR W p)) := fun W e he => by rw [he, hp]; exact zof_h (by omega) (by omega)
  have wx : IntKind.i64.wrap x = x := IntWalk.i64_in _ (by omega)
  have wy : IntKind.i64.wrap y = y := IntWalk.i64_in _ (by omega)
  have HMW : Hid (IntKind.i64.wrap (IntKind.i64.wrap x * IntKind.i64.wrap y) = x * y) := by unfold Hid; rw [wx, wy, hp]; exact IntWalk.i64_in _ (by omega)
  have HSW : Hid (IntKind.i64.wrap (IntKind.i64.wrap x + IntKind.i64.wrap y) = x + y) := by unfold Hid; rw [wx, wy]; exact IntWalk.i64_in _ (by omega)
  clear wx wy
  have CE : Hid (∀ W u B d B' d', ZA W (decide (u < 0)) B (dl u.natAbs) d u → ZA W (decide (u < 0)) B' (dl u.natAbs) d' u → Calls Tryd.prog 43 #[.agg #[.bool (decide (u < 0)), .slice B (dl u.natAbs) d], .agg #[.bool (decide (u < 0)), .slice B' (dl u.natAbs) d']] W (IntPost W 0)) := fun W u B d B' d' h h' => zcmp_h h h' (by unfold cmpZ; rw [if_neg (by omega), if_neg (by omega)])
  have CA : Hid (∀ W B d B' d', ZA W (decide (x < 0)) B (dl x.natAbs) d x → ZA W sy B' (dl y.natAbs) d' y → Calls Tryd.prog 55 #[.agg #[.bool (decide (x < 0)), .slice B (dl x.natAbs) d], .agg #[.bool sy, .slice B' (dl y.natAbs) d']] W (ZR W s)) := fun W B d B' d' h h' => zadd_h h h' hs (Nat.le_trans (dl_small2 (by omega)) (by omega))
  have CM : Hid (∀ W B d B' d', ZA W (decide (x < 0)) B (dl x.natAbs) d x → ZA W sy B' (dl y.natAbs) d' y → Calls Tryd.prog 57 #[.agg #[.bool (decide (x < 0)), .slice B (dl x.natAbs) d], .agg #[.bool sy, .slice B' (dl y.natAbs) d']] W (ZR W p)) := fun W B d B' d' h h' => zmul_h h h' hp (Nat.le_trans (dl_small2 (by omega)) (by omega))
  have CV : Hid (∀ W B d B' d', ZA W (decide (x < 0)) B (dl x.natAbs) d x → ZA W sy B' (dl y.natAbs) d' y → Calls Tryd.prog 43 #[.agg #[.bool (decide (x < 0)), .slice B (dl x.natAbs) d], .agg #[.bool sy, .slice B' (dl y.natAbs) d']] W (IntPost W v)) := fun W B d B' d' h h' => zcmp_h h h' hv
  have CW := hide (fun W => cmpS_any W hv)
  have hy0 : ¬ y = 0 := h0
  have g2 : -2147483648 ≤ x.tmod y := by omega
  have g3 : ¬ 0 < y := by omega
  have HF := hide (show q = x.tdiv y + 1 ∧ r = x.tmod y - y ∧ -2147483648 ≤ x.tdiv y ∧ x.tdiv y ≤ 2147483648 from ⟨hq, hr, f4, f5⟩)
  clear hq hr h0 hdq hdr hsy hs hp hv hpb f1 f2 f3 f4 f5
  go_enter Tryd.func12, Tryd.ntmps12
  go_wp2_with (first | (go_at_call 37; (with_reducible refine (awake2_any _).mono ?_); rintro e w1 ⟨rfl, hbk⟩; have HW := hbk) | (go_at_call 40; (with_reducible refine (CX.out _).mono ?_); rintro e w2 ⟨A2, c2, rfl, zx, hbk⟩; replace HW := chain HW hbk.out) | (go_at_call 40; (with_reducible refine (CY.out _).mono ?_); rintro e w3 ⟨A3, c3, rfl, zy, hbk⟩; replace HW := chain HW hbk.out; replace zx := zx.up hbk) | (go_at_call 39; (with_reducible refine (CD.out _ _ _ _ _ ((zx.al _).al _) ((zy.al _).al _)).mono ?_); rintro e w4 ⟨Aq, cq, Ar, cr, rfl, zq, zr, hbk⟩) | fail)
  obtain ⟨W1, hW1⟩ : ∃ W1, W1 = (w4.alloc (.cells #[.bool (decide (q < 0)), .slice Aq (dl q.natAbs) cq] 55)).alloc (.cells #[.bool (decide (r < 0)), .slice Ar (dl r.natAbs) cr] 55) := ⟨_, rfl⟩
  rw [← hW1]
  obtain ⟨g, hg⟩ : ∃ g, g = w3.heap.size := ⟨_, rfl⟩
  obtain ⟨k, hk⟩ : ∃ k, k = w4.heap.size := ⟨_, rfl⟩
  have ZX : Hid (Zcell W1.drew g (decide (x < 0)) A2 (dl x.natAbs) c2) := by rw [hW1, hg]; exact Zcell.dr ((((zc_new w3 _ _ _ _ _).al (.cells #[.bool sy, .slice A3 (dl y.natAbs) c3] 55)).up hbk).al _ |>.al _)
  have ZY : Hid (Zcell W1.drew (g + 1) sy A3 (dl y.natAbs) c3) := by rw [hW1, hg]; exact Zcell.dr (((zc_new1 w3 _ _ _ _ _ _).up hbk).al _ |>.al _)
  have ZQ : Hid (Zcell W1.drew k (decide (q < 0)) Aq (dl q.natAbs) cq) := by rw [hW1, hk]; exact Zcell.dr ((zc_new w4 _ _ _ _ _).al _)
  have ZR1 : Hid (Zcell W1.drew (k + 1) (decide (r < 0)) Ar (dl r.natAbs) cr) := by rw [hW1, hk]; exact Zcell.dr (zc_new1 w4 _ _ _ _ _ _)
  replace HW : Hid (Below w.heap.size w W1.drew) := by
    rw [hW1]
    exact Below.drew (((HW.out.trans (((al2 w3 _ _).trans (hbk.out.mono (al2 w3 _ _).size)).mono HW.out.size)).trans ((al2 w4 _ _).mono (Nat.le_trans HW.out.size (Nat.le_trans (al2 w3 _ _).size hbk.out.size)))))
  replace zx : ZA W1.drew (decide (x < 0)) A2 (dl x.natAbs) c2 x := by rw [hW1]; exact ZA.dr (((((zx.al (.cells #[.bool (decide (x < 0)), .slice A2 (dl x.natAbs) c2] 55)).al (.cells #[.bool sy, .slice A3 (dl y.natAbs) c3] 55)).up hbk).al _).al _)
  replace zy : ZA W1.drew sy A3 (dl y.natAbs) c3 y := by rw [hW1]; exact ZA.dr (((((zy.al (.cells #[.bool (decide (x < 0)), .slice A2 (dl x.natAbs) c2] 55)).al (.cells #[.bool sy, .slice A3 (dl y.natAbs) c3] 55)).up hbk).al _).al _)
  replace zq : ZA W1.drew (decide (q < 0)) Aq (dl q.natAbs) cq q := by rw [hW1]; exact ZA.dr ((zq.al _).al _)
  replace zr : ZA W1.drew (decide (r < 0)) Ar (dl r.natAbs) cr r := by rw [hW1]; exact ZA.dr ((zr.al _).al _)
  simp only [← hg, ← hk]
  clear hW1 hbk hg hk
  go_region_held3 (fun w' => w'.cell? ⟨g, 0, none⟩ = some (.bool (decide (x < 0))) ∧ w'.cell? ⟨g, 1, none⟩ = some (.slice A2 (dl x.natAbs) c2) ∧ w'.cell? ⟨g + 1, 0, none⟩ = some (.bool sy) ∧ w'.cell? ⟨g + 1, 1, none⟩ = some (.slice A3 (dl y.natAbs) c3) ∧ w'.cell? ⟨k, 0, none⟩ = some (.bool (decide (q < 0))) ∧ w'.cell? ⟨k, 1, none⟩ = some (.slice Aq (dl q.natAbs) cq) ∧ w'.cell? ⟨k + 1, 0, none⟩ = some (.bool (decide (r < 0))) ∧ w'.cell? ⟨k + 1, 1, none⟩ = some (.slice Ar (dl r.natAbs) cr))
    (first | exact ⟨ZX.out.c0, ZX.out.c1, ZY.out.c0, ZY.out.c1, ZQ.out.c0, ZQ.out.c1, ZR1.out.c0, ZR1.out.c1⟩ | assumption)
    (first | (go_at_call 40; (with_reducible refine (CQ.out _ _ (by have hE := HF.out; first | omega | (unfold wrap64; omega))).mono ?_); rintro e v1 ⟨A_1, c_1, rfl, t1, hbk⟩; replace ZX := hide (ZX.out.up hbk); replace ZY := hide (ZY.out.up hbk); replace ZQ := hide (ZQ.out.up hbk); replace ZR1 := hide (ZR1.out.up hbk); replace HW := chain HW hbk.out; replace zx := zx.up hbk; replace zy := zy.up hbk; replace zq := zq.up hbk; replace zr := zr.up hbk; (try replace t1 := t1.up hbk); (try replace t2 := t2.up hbk); (try replace t3 := t3.up hbk); (try replace t4 := t4.up hbk)) | (go_at_call 43; (with_reducible refine (CE.out _ _ _ _ _ _ zq t1).mono ?_); rintro e wi ⟨rfl, hbk⟩; replace ZX := hide (ZX.out.up hbk); replace ZY := hide (ZY.out.up hbk); replace ZQ := hide (ZQ.out.up hbk); replace ZR1 := hide (ZR1.out.up hbk); replace HW := chain HW hbk.out; replace zx := zx.up hbk; replace zy := zy.up hbk; replace zq := zq.up hbk; replace zr := zr.up hbk; (try replace t1 := t1.up hbk); (try replace t2 := t2.up hbk); (try replace t3 := t3.up hbk); (try replace t4 := t4.up hbk)) | (go_at_call 40; (with_reducible refine (CR.out _ _ (by have hE := HF.out; first | omega | (unfold wrap64; omega))).mono ?_); rintro e v2 ⟨A_2, c_2, rfl, t2, hbk⟩; replace ZX := hide (ZX.out.up hbk); replace ZY := hide (ZY.out.up hbk); replace ZQ := hide (ZQ.out.up hbk); replace ZR1 := hide (ZR1.out.up hbk); replace HW := chain HW hbk.out; replace zx := zx.up hbk; replace zy := zy.up hbk; replace zq := zq.up hbk; replace zr := zr.up hbk; (try replace t1 := t1.up hbk); (try replace t2 := t2.up hbk); (try replace t3 := t3.up hbk); (try replace t4 := t4.up hbk)) | (go_at_call 43; (with_reducible refine (CE.out _ _ _ _ _ _ zr t2).mono ?_); rintro e wi ⟨rfl, hbk⟩; replace ZX := hide (ZX.out.up hbk); replace ZY := hide (ZY.out.up hbk); replace ZQ := hide (ZQ.out.up hbk); replace ZR1 := hide (ZR1.out.up hbk); replace HW := chain HW hbk.out; replace zx := zx.up hbk; replace zy := zy.up hbk; replace zq := zq.up hbk; replace zr := zr.up hbk; (try replace t1 := t1.up hbk); (try replace t2 := t2.up hbk); (try replace t3 := t3.up hbk); (try replace t4 := t4.up hbk)) | (go_at_call 55; (with_reducible refine (CA.out _ _ _ _ _ zx zy).mono ?_); rintro e v3 ⟨A_3, c_3, rfl, t3, hbk⟩; replace ZX := hide (ZX.out.up hbk); replace ZY := hide (ZY.out.up hbk); replace ZQ := hide (ZQ.out.up hbk); replace ZR1 := hide (ZR1.out.up hbk); replace HW := chain HW hbk.out; replace zx := zx.up hbk; replace zy := zy.up hbk; replace zq := zq.up hbk; replace zr := zr.up hbk; (try replace t1 := t1.up hbk); (try replace t2 := t2.up hbk); (try replace t3 := t3.up hbk); (try replace t4 := t4.up hbk)) | (go_at_call 40; (with_reducible refine (CS.out _ _ (by first | rfl | exact HSW.out)).mono ?_); rintro e v4 ⟨A_4, c_4, rfl, t4, hbk⟩; replace ZX := hide (ZX.out.up hbk); replace ZY := hide (ZY.out.up hbk); replace ZQ := hide (ZQ.out.up hbk); replace ZR1 := hide (ZR1.out.up hbk); replace HW := chain HW hbk.out; replace zx := zx.up hbk; replace zy := zy.up hbk; replace zq := zq.up hbk; replace zr := zr.up hbk; (try replace t1 := t1.up hbk); (try replace t2 := t2.up hbk); (try replace t3 := t3.up hbk); (try replace t4 := t4.up hbk)) | (go_at_call 43; (with_reducible refine (CE.out _ _ _ _ _ _ t3 t4).mono ?_); rintro e wi ⟨rfl, hbk⟩; replace ZX := hide (ZX.out.up hbk); replace ZY := hide (ZY.out.up hbk); replace ZQ := hide (ZQ.out.up hbk); replace ZR1 := hide (ZR1.out.up hbk); replace HW := chain HW hbk.out; replace zx := zx.up hbk; replace zy := zy.up hbk; replace zq := zq.up hbk; replace zr := zr.up hbk; (try replace t1 := t1.up hbk); (try replace t2 := t2.up hbk); (try replace t3 := t3.up hbk); (try replace t4 := t4.up hbk)) | (go_at_call 57; (with_reducible refine (CM.out _ _ _ _ _ zx zy).mono ?_); rintro e v5 ⟨A_5, c_5, rfl, t3, hbk⟩; replace ZX := hide (ZX.out.up hbk); replace ZY := hide (ZY.out.up hbk); replace ZQ := hide (ZQ.out.up hbk); replace ZR1 := hide (ZR1.out.up hbk); replace HW := chain HW hbk.out; replace zx := zx.up hbk; replace zy := zy.up hbk; replace zq := zq.up hbk; replace zr := zr.up hbk; (try replace t1 := t1.up hbk); (try replace t2 := t2.up hbk); (try replace t3 := t3.up hbk); (try replace t4 := t4.up hbk)) | (go_at_call 40; (with_reducible refine (CP.out _ _ (by first | rfl | exact HMW.out)).mono ?_); rintro e v6 ⟨A_6, c_6, rfl, t4, hbk⟩; replace ZX := hide (ZX.out.up hbk); replace ZY := hide (ZY.out.up hbk); replace ZQ := hide (ZQ.out.up hbk); replace ZR1 := hide (ZR1.out.up hbk); replace HW := chain HW hbk.out; replace zx := zx.up hbk; replace zy := zy.up hbk; replace zq := zq.up hbk; replace zr := zr.up hbk; (try replace t1 := t1.up hbk); (try replace t2 := t2.up hbk); (try replace t3 := t3.up hbk); (try replace t4 := t4.up hbk)) | (go_at_call 43; (with_reducible refine (CV.out _ _ _ _ _ zx zy).mono ?_); rintro e wi ⟨rfl, hbk⟩; replace ZX := hide (ZX.out.up hbk); replace ZY := hide (ZY.out.up hbk); replace ZQ := hide (ZQ.out.up hbk); replace ZR1 := hide (ZR1.out.up hbk); replace HW := chain HW hbk.out; replace zx := zx.up hbk; replace zy := zy.up hbk; replace zq := zq.up hbk; replace zr := zr.up hbk; (try replace t1 := t1.up hbk); (try replace t2 := t2.up hbk); (try replace t3 := t3.up hbk); (try replace t4 := t4.up hbk)) | (go_at_call 60; (with_reducible refine (CW.out _).mono ?_); rintro e wi ⟨rfl, rfl⟩) | fail)
  go_wp2
  go_ret
  exact ⟨by first | rfl | (congr 2; simp), HW.out⟩
theorem nsmall_z {x : Int} (w : World) (bx : -2147483648 ≤ x ∧ x ≤ 2147483647) :
    Calls Tryd.prog 12 #[.int .i32 x, .int .i32 0] w fun e w' => e = .returned (.bool true) ∧ Below w.heap.size w w' := by
  obtain ⟨y, hy⟩ : ∃ y : Int, y = 0 := ⟨_, rfl⟩
  have CX : Hid (∀ W, Calls Tryd.prog 40 #[.int .i64 x] W (ZR W x)) := fun W => zof_h (by omega) (by omega)
  have CY : Hid (∀ W, Calls Tryd.prog 40 #[.int .i64 0] W (ZR W y)) := fun W => by subst hy; exact zof_h (by omega) (by omega)
  have CD : Hid (∀ W A c A' c', ZA W (decide (x < 0)) A (dl x.natAbs) c x → ZA W (decide (y < 0)) A' (dl y.natAbs) c' y → Calls Tryd.prog 39 #[.agg #[.bool (decide (x < 0)), .slice A (dl x.natAbs) c], .agg #[.bool (decide (y < 0)), .slice A' (dl y.natAbs) c']] W (ZDivNo W)) := fun W A c A' c' h h' => zdiv_no h h' hy
  obtain ⟨bx1, bx2⟩ := bx
  clear hy
  go_enter Tryd.func12, Tryd.ntmps12
  go_wp2_with (first | (go_at_call 37; (with_reducible refine (awake2_any _).mono ?_); rintro e w1 ⟨rfl, hbk⟩; have HW := hbk) | (go_at_call 40; (with_reducible refine (CX.out _).mono ?_); rintro e w2 ⟨A2, c2, rfl, zx, hbk⟩; replace HW := chain HW hbk.out) | (go_at_call 40; (with_reducible refine (CY.out _).mono ?_); rintro e w3 ⟨A3, c3, rfl, zy, hbk⟩; replace HW := chain HW hbk.out; replace zx := zx.up hbk) | (go_at_call 39; (with_reducible refine (CD.out _ _ _ _ _ ((zx.al _).al _) ((zy.al _).al _)).mono ?_); rintro e w4 ⟨rfl, hbk⟩) | fail)
  go_ret
  exact ⟨rfl, (HW.out.trans (((al2 w3 _ _).trans (hbk.out.mono (al2 w3 _ _).size)).mono HW.out.size)).trans ((al2 w4 _ _).mono (Nat.le_trans HW.out.size (Nat.le_trans (al2 w3 _ _).size hbk.out.size)))⟩
theorem nsmall_walk {x y : Int} (w : World) (bx : -2147483648 ≤ x ∧ x ≤ 2147483647) (bz : -2147483648 ≤ y ∧ y ≤ 2147483647) :
    Calls Tryd.prog 12 #[.int .i32 x, .int .i32 y] w fun e w' => e = .returned (.bool true) ∧ Below w.heap.size w w' := by
  by_cases h0 : y = 0
  · subst h0; exact nsmall_z w bx
  · by_cases hm : x.tmod y < 0
    · rcases Int.lt_or_gt_of_ne h0 with hy | hy
      · exact nsmall_c w bx bz h0 hm hy
      · exact nsmall_b w bx bz h0 hm hy
    · exact nsmall_a w bx bz h0 (by omega)
end Go.Proofs.YtlmfkeicmldcnaaDoor
