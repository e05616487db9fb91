/- NumParts' walk. No conditions. -/
import Derived.Test.YtlmfkeicmldcnaaDoorAv
open Go.RowKit
set_option maxRecDepth 100000
namespace Go.Proofs.YtlmfkeicmldcnaaDoor
set_option maxHeartbeats 8000000 in
theorem nparts_zero {b b' : Bool} {A A' : Option Addr} {n n' c c' : Nat} {z z' : Int} (w : World) (h : ZLater w b A n c z) (h' : ZLater w b' A' n' c' z') (hn : n ≤ 24) (hn' : n' ≤ 24)  (hz : z' = 0) :
    Calls Tryd.prog 10 #[.agg #[.bool b, .slice A n c], .agg #[.bool b', .slice A' n' c']] w fun e w' => e = .returned (.bool true) ∧ Below w.heap.size w w' := by
  have CLa := hide (fun W => long_h (W := W) (b := b) (A := A) (c := c) hn)
  have CLb := hide (fun W => long_h (W := W) (b := b') (A := A') (c := c') hn')
  have CD : Hid (∀ W, Below w.heap.size w W → Calls Tryd.prog 39 #[.agg #[.bool b, .slice A n c], .agg #[.bool b', .slice A' n' c']] W (ZDivNo W)) := fun W hb => zdiv_no (h W hb) (h' W hb) hz
  have CS : Hid (∀ W, Below w.heap.size w W → Calls Tryd.prog 42 #[.agg #[.bool b', .slice A' n' c']] W (IntPost W 0)) := fun W hb => sign_h (h' W hb) (by rw [hz]; rfl)
  clear h h' hz hn hn'
  go_enter Tryd.func10, Tryd.ntmps10
  go_wp2_with (first | (go_at_call 37; (with_reducible refine (awake2_any _).mono ?_); rintro e w1 ⟨rfl, hbk⟩; have HA := hide (((zc_new _ _ _ _ _ _).al _).up hbk); have HB := hide ((zc_new1 _ _ _ _ _ _ _).up hbk); have HW := hide ((al2 w _ _).trans (hbk.out.mono (al2 w _ _).size)); have a0 := HA.out.c0; have a1 := HA.out.c1; have b0 := HB.out.c0; have b1 := HB.out.c1; have l1 := HB.out.lt; have l0 := HA.out.lt) | (go_at_call 49; (with_reducible refine (CLa.out _).mono ?_); rintro e w2 ⟨rfl, hbk⟩; replace HA := hide (HA.out.up hbk); replace HB := hide (HB.out.up hbk); replace HW := chain HW hbk.out; clear a0 a1 b0 b1 l0 l1; have a0 := HA.out.c0; have a1 := HA.out.c1; have b0 := HB.out.c0; have b1 := HB.out.c1; have l1 := HB.out.lt; have l0 := HA.out.lt) | (go_at_call 49; (with_reducible refine (CLb.out _).mono ?_); rintro e w3 ⟨rfl, hbk⟩; replace HA := hide (HA.out.up hbk); replace HB := hide (HB.out.up hbk); replace HW := chain HW hbk.out; clear a0 a1 b0 b1 l0 l1; have a0 := HA.out.c0; have a1 := HA.out.c1; have b0 := HB.out.c0; have b1 := HB.out.c1; have l1 := HB.out.lt; have l0 := HA.out.lt) | (go_at_call 39; (with_reducible refine (CD.out _ HW.out).mono ?_); rintro e w4 ⟨rfl, hbk⟩; replace HA := hide (HA.out.up hbk); replace HB := hide (HB.out.up hbk); replace HW := chain HW hbk.out; clear a0 a1 b0 b1 l0 l1; have a0 := HA.out.c0; have a1 := HA.out.c1; have b0 := HB.out.c0; have b1 := HB.out.c1; have l1 := HB.out.lt; have l0 := HA.out.lt; clear hbk) | (go_at_call 42; (with_reducible refine (CS.out _ (Below.trans HW.out ((al2 _ _ _).mono HW.out.size))).mono ?_); rintro e w5 ⟨rfl, hbk⟩) | fail)
  go_ret
  exact ⟨rfl, HW.out.trans (((al2 _ _ _).trans (hbk.out.mono (al2 _ _ _).size)).mono HW.out.size)⟩
set_option maxHeartbeats 8000000 in
theorem nparts_pos {b b' : Bool} {A A' : Option Addr} {n n' c c' : Nat} {z z' : Int} (w : World) (h : ZLater w b A n c z) (h' : ZLater w b' A' n' c' z') (hn : n ≤ 24) (hn' : n' ≤ 24) (hd : dl z.natAbs ≤ 24) (hd' : dl z'.natAbs ≤ 24) (hz : 0 < z') :
    Calls Tryd.prog 10 #[.agg #[.bool b, .slice A n c], .agg #[.bool b', .slice A' n' c']] w fun e w' => e = .returned (.bool true) ∧ Below w.heap.size w w' := by
  have CLa := hide (fun W => long_h (W := W) (b := b) (A := A) (c := c) hn)
  have CLb := hide (fun W => long_h (W := W) (b := b') (A := A') (c := c') hn')
  obtain ⟨q, hq⟩ : ∃ q, z / z' = q := ⟨_, rfl⟩
  obtain ⟨r, hr⟩ : ∃ r, z % z' = r := ⟨_, rfl⟩
  have hz0 : z' ≠ 0 := by omega
  have hr0 : 0 ≤ r := by rw [← hr]; exact Int.emod_nonneg _ hz0
  have hrl : r.natAbs < z'.natAbs := by
    rcases Int.lt_or_gt_of_ne hz0 with h1 | h1
    · have h2 := Int.emod_lt_of_pos z (show 0 < -z' by omega)
      rw [Int.emod_neg, hr] at h2
      omega
    · have h2 := Int.emod_lt_of_pos z h1
      rw [hr] at h2
      omega
  obtain ⟨v, hv⟩ : ∃ v, q * z' = v := ⟨_, rfl⟩
  have hvr : v + r = z := by rw [← hv, ← hq, ← hr, Int.mul_comm]; exact Int.mul_ediv_add_emod z z'
  have hvd : dl v.natAbs ≤ 100000 := by
    have h1 := dl_pow hd
    have h2 := dl_pow hd'
    have h3 : v.natAbs < W32 ^ 25 := by
      have h4 : W32 ^ 24 * 2 ≤ W32 ^ 25 := Nat.mul_le_mul_left _ (by decide)
      omega
    exact Nat.le_trans (dl_le h3) (by omega)
  have CD : Hid (∀ W, Below w.heap.size w W → Calls Tryd.prog 39 #[.agg #[.bool b, .slice A n c], .agg #[.bool b', .slice A' n' c']] W (ZDivR W q r)) := fun W hb => zdiv_h (h W hb) (h' W hb) hz0 (by omega) hq hr
  have CSr : Hid (∀ W B d, ZA W (decide (r < 0)) B (dl r.natAbs) d r → Calls Tryd.prog 42 #[.agg #[.bool (decide (r < 0)), .slice B (dl r.natAbs) d]] W (SgnGe W)) := fun W B d hz => sgn_ge hz hr0
  have CM : Hid (∀ W B d, Below w.heap.size w W → ZA W (decide (q < 0)) B (dl q.natAbs) d q → Calls Tryd.prog 57 #[.agg #[.bool (decide (q < 0)), .slice B (dl q.natAbs) d], .agg #[.bool b', .slice A' n' c']] W (ZR W v)) := fun W B d hb hz => zmul_h hz (h' W hb) hv hvd
  have CA : Hid (∀ W B d B' d', ZA W (decide (v < 0)) B (dl v.natAbs) d v → ZA W (decide (r < 0)) B' (dl r.natAbs) d' r → Calls Tryd.prog 55 #[.agg #[.bool (decide (v < 0)), .slice B (dl v.natAbs) d], .agg #[.bool (decide (r < 0)), .slice B' (dl r.natAbs) d']] W (ZR W z)) := fun W B d B' d' h1 h2 => zadd_h h1 h2 hvr (by omega)
  have CC : Hid (∀ W B d, Below w.heap.size w W → ZA W (decide (z < 0)) B (dl z.natAbs) d z → Calls Tryd.prog 43 #[.agg #[.bool (decide (z < 0)), .slice B (dl z.natAbs) d], .agg #[.bool b, .slice A n c]] W (IntPost W 0)) := fun W B d hb hz => zcmp_h hz (h W hb) (by unfold cmpZ; rw [if_neg (by omega), if_neg (by omega)])
  have CS : Hid (∀ W, Below w.heap.size w W → Calls Tryd.prog 42 #[.agg #[.bool b', .slice A' n' c']] W (IntPost W 1)) := fun W hb => sign_h (h' W hb) (Int.sign_eq_one_of_pos hz)
  have CR : Hid (∀ W B d, Below w.heap.size w W → ZA W (decide (r < 0)) B (dl r.natAbs) d r → Calls Tryd.prog 43 #[.agg #[.bool (decide (r < 0)), .slice B (dl r.natAbs) d], .agg #[.bool b', .slice A' n' c']] W (IntPost W (-1))) := fun W B d hb hz2 => zcmp_h hz2 (h' W hb) (by unfold cmpZ; rw [if_pos (by omega)])
  clear h h' hz hd hd' hn hn' hq hr hz0 hr0 hrl hv hvr hvd
  go_enter Tryd.func10, Tryd.ntmps10
  go_wp2_with (first | (go_at_call 37; (with_reducible refine (awake2_any _).mono ?_); rintro e w1 ⟨rfl, hbk⟩; have HA := hide (((zc_new _ _ _ _ _ _).al _).up hbk); have HB := hide ((zc_new1 _ _ _ _ _ _ _).up hbk); have HW := hide ((al2 w _ _).trans (hbk.out.mono (al2 w _ _).size)); have a0 := HA.out.c0; have a1 := HA.out.c1; have b0 := HB.out.c0; have b1 := HB.out.c1; have l1 := HB.out.lt; have l0 := HA.out.lt) | (go_at_call 49; (with_reducible refine (CLa.out _).mono ?_); rintro e w2 ⟨rfl, hbk⟩; replace HA := hide (HA.out.up hbk); replace HB := hide (HB.out.up hbk); replace HW := chain HW hbk.out; clear a0 a1 b0 b1 l0 l1; have a0 := HA.out.c0; have a1 := HA.out.c1; have b0 := HB.out.c0; have b1 := HB.out.c1; have l1 := HB.out.lt; have l0 := HA.out.lt) | (go_at_call 49; (with_reducible refine (CLb.out _).mono ?_); rintro e w3 ⟨rfl, hbk⟩; replace HA := hide (HA.out.up hbk); replace HB := hide (HB.out.up hbk); replace HW := chain HW hbk.out; clear a0 a1 b0 b1 l0 l1; have a0 := HA.out.c0; have a1 := HA.out.c1; have b0 := HB.out.c0; have b1 := HB.out.c1; have l1 := HB.out.lt; have l0 := HA.out.lt) | (go_at_call 39; (with_reducible refine (CD.out _ HW.out).mono ?_); rintro e w4 ⟨Aq, cq, Ar, cr, rfl, zq, zr, hbk⟩; replace HA := hide (HA.out.up hbk); replace HB := hide (HB.out.up hbk); replace HW := chain HW hbk.out; clear a0 a1 b0 b1 l0 l1; have a0 := HA.out.c0; have a1 := HA.out.c1; have b0 := HB.out.c0; have b1 := HB.out.c1; have l1 := HB.out.lt; have l0 := HA.out.lt; clear hbk) | (go_at_call 42; (with_reducible refine (CS.out _ (Below.trans HW.out ((al3 _ _ _ _).mono HW.out.size))).mono ?_); rintro e w5 ⟨rfl, hbk⟩; have HLT := hide l1; replace HA := hide ((((HA.out.al _).al _).al _).up hbk); replace HB := hide ((((HB.out.al _).al _).al _).up hbk); have HQ := hide (Zcell.up (((zc_new w4 _ _ _ _ _).al _).al _) hbk); have HR := hide (Zcell.up ((zc_new1 w4 _ _ _ _ _ _).al _) hbk); have HM := hide (Zcell.up (zc_new2 w4 _ _ _ _ _ _ _) hbk); replace zq := ZA.up (((zq.al _).al _).al _) hbk; replace zr := ZA.up (((zr.al _).al _).al _) hbk; replace HW := hide (HW.out.trans (((al3 _ _ _ _).trans (hbk.out.mono (al3 _ _ _ _).size)).mono HW.out.size)); clear hbk; clear a0 a1 b0 b1 l0 l1; have a0 := HA.out.c0; have a1 := HA.out.c1; have b0 := HB.out.c0; have b1 := HB.out.c1; have l1 := HB.out.lt; have l0 := HA.out.lt) | fail)
  clear a0 a1 b0 b1 l0 l1
  replace HA := hide HA.out.dr
  replace HB := hide HB.out.dr
  replace HQ := hide HQ.out.dr
  replace HR := hide HR.out.dr
  replace HM := hide HM.out.dr
  replace HW := hide (Below.drew HW.out)
  replace zq := ZA.dr zq
  replace zr := ZA.dr zr
  obtain ⟨pq, hpq⟩ : ∃ p, p = w4.heap.size := ⟨_, rfl⟩
  rw [← hpq] at HQ HR HM
  simp only [← hpq]
  clear hpq
  go_region_held3 (fun w' => w'.cell? ⟨w.heap.size, 0, none⟩ = some (.bool b) ∧ w'.cell? ⟨w.heap.size, 1, none⟩ = some (.slice A n c) ∧ w'.cell? ⟨w.heap.size + 1, 0, none⟩ = some (.bool b') ∧ w'.cell? ⟨w.heap.size + 1, 1, none⟩ = some (.slice A' n' c') ∧ w'.cell? ⟨pq, 0, none⟩ = some (.bool (decide (q < 0))) ∧ w'.cell? ⟨pq, 1, none⟩ = some (.slice Aq (dl q.natAbs) cq) ∧ w'.cell? ⟨pq + 1, 0, none⟩ = some (.bool (decide (r < 0))) ∧ w'.cell? ⟨pq + 1, 1, none⟩ = some (.slice Ar (dl r.natAbs) cr) ∧ w'.cell? ⟨pq + 1 + 1, 0, none⟩ = some (.bool (b')) ∧ w'.cell? ⟨pq + 1 + 1, 1, none⟩ = some (Value.slice A' n' c'))
    (first | exact ⟨HA.out.c0, HA.out.c1, HB.out.c0, HB.out.c1, HQ.out.c0, HQ.out.c1, HR.out.c0, HR.out.c1, HM.out.c0, HM.out.c1⟩)
    (first | (go_at_call 42; (with_reducible refine (CSr.out _ _ _ zr).mono ?_); rintro e w6 ⟨⟨s6, hs6, rfl⟩, hbk⟩; replace HA := hide (HA.out.up hbk); replace HB := hide (HB.out.up hbk); replace HQ := hide (HQ.out.up hbk); replace HR := hide (HR.out.up hbk); replace HM := hide (HM.out.up hbk); replace HW := chain HW hbk.out; replace zq := zq.up hbk; replace zr := zr.up hbk) | (go_at_call 43; (with_reducible refine (CR.out _ _ _ HW.out zr).mono ?_); rintro e w7 ⟨rfl, hbk⟩; replace HA := hide (HA.out.up hbk); replace HB := hide (HB.out.up hbk); replace HQ := hide (HQ.out.up hbk); replace HR := hide (HR.out.up hbk); replace HM := hide (HM.out.up hbk); replace HW := chain HW hbk.out; replace zq := zq.up hbk; replace zr := zr.up hbk) | (go_at_call 57; (with_reducible refine (CM.out _ _ _ HW.out zq).mono ?_); rintro e w8 ⟨A8, c8, rfl, z8, hbk⟩; replace HA := hide (HA.out.up hbk); replace HB := hide (HB.out.up hbk); replace HQ := hide (HQ.out.up hbk); replace HR := hide (HR.out.up hbk); replace HM := hide (HM.out.up hbk); replace HW := chain HW hbk.out; replace zq := zq.up hbk; replace zr := zr.up hbk) | (go_at_call 55; (with_reducible refine (CA.out _ _ _ _ _ z8 zr).mono ?_); rintro e w9 ⟨A9, c9, rfl, z9, hbk⟩; replace HA := hide (HA.out.up hbk); replace HB := hide (HB.out.up hbk); replace HQ := hide (HQ.out.up hbk); replace HR := hide (HR.out.up hbk); replace HM := hide (HM.out.up hbk); replace HW := chain HW hbk.out; replace zq := zq.up hbk; replace zr := zr.up hbk) | (go_at_call 43; (with_reducible refine (CC.out _ _ _ HW.out z9).mono ?_); rintro e wa ⟨rfl, hbk⟩; replace HA := hide (HA.out.up hbk); replace HB := hide (HB.out.up hbk); replace HQ := hide (HQ.out.up hbk); replace HR := hide (HR.out.up hbk); replace HM := hide (HM.out.up hbk); replace HW := chain HW hbk.out; replace zq := zq.up hbk; replace zr := zr.up hbk) | fail)
  go_wp2
  go_ret
  exact ⟨rfl, HW.out⟩
set_option maxHeartbeats 8000000 in
theorem nparts_neg {b b' : Bool} {A A' : Option Addr} {n n' c c' : Nat} {z z' : Int} (w : World) (h : ZLater w b A n c z) (h' : ZLater w b' A' n' c' z') (hn : n ≤ 24) (hn' : n' ≤ 24) (hd : dl z.natAbs ≤ 24) (hd' : dl z'.natAbs ≤ 24) (hz : z' < 0) :
    Calls Tryd.prog 10 #[.agg #[.bool b, .slice A n c], .agg #[.bool b', .slice A' n' c']] w fun e w' => e = .returned (.bool true) ∧ Below w.heap.size w w' := by
  have CLa := hide (fun W => long_h (W := W) (b := b) (A := A) (c := c) hn)
  have CLb := hide (fun W => long_h (W := W) (b := b') (A := A') (c := c') hn')
  obtain ⟨q, hq⟩ : ∃ q, z / z' = q := ⟨_, rfl⟩
  obtain ⟨r, hr⟩ : ∃ r, z % z' = r := ⟨_, rfl⟩
  have hz0 : z' ≠ 0 := by omega
  have hr0 : 0 ≤ r := by rw [← hr]; exact Int.emod_nonneg _ hz0
  have hrl : r.natAbs < z'.natAbs := by
    rcases Int.lt_or_gt_of_ne hz0 with h1 | h1
    · have h2 := Int.emod_lt_of_pos z (show 0 < -z' by omega)
      rw [Int.emod_neg, hr] at h2
      omega
    · have h2 := Int.emod_lt_of_pos z h1
      rw [hr] at h2
      omega
  obtain ⟨v, hv⟩ : ∃ v, q * z' = v := ⟨_, rfl⟩
  have hvr : v + r = z := by rw [← hv, ← hq, ← hr, Int.mul_comm]; exact Int.mul_ediv_add_emod z z'
  have hvd : dl v.natAbs ≤ 100000 := by
    have h1 := dl_pow hd
    have h2 := dl_pow hd'
    have h3 : v.natAbs < W32 ^ 25 := by
      have h4 : W32 ^ 24 * 2 ≤ W32 ^ 25 := Nat.mul_le_mul_left _ (by decide)
      omega
    exact Nat.le_trans (dl_le h3) (by omega)
  have CD : Hid (∀ W, Below w.heap.size w W → Calls Tryd.prog 39 #[.agg #[.bool b, .slice A n c], .agg #[.bool b', .slice A' n' c']] W (ZDivR W q r)) := fun W hb => zdiv_h (h W hb) (h' W hb) hz0 (by omega) hq hr
  have CSr : Hid (∀ W B d, ZA W (decide (r < 0)) B (dl r.natAbs) d r → Calls Tryd.prog 42 #[.agg #[.bool (decide (r < 0)), .slice B (dl r.natAbs) d]] W (SgnGe W)) := fun W B d hz => sgn_ge hz hr0
  have CM : Hid (∀ W B d, Below w.heap.size w W → ZA W (decide (q < 0)) B (dl q.natAbs) d q → Calls Tryd.prog 57 #[.agg #[.bool (decide (q < 0)), .slice B (dl q.natAbs) d], .agg #[.bool b', .slice A' n' c']] W (ZR W v)) := fun W B d hb hz => zmul_h hz (h' W hb) hv hvd
  have CA : Hid (∀ W B d B' d', ZA W (decide (v < 0)) B (dl v.natAbs) d v → ZA W (decide (r < 0)) B' (dl r.natAbs) d' r → Calls Tryd.prog 55 #[.agg #[.bool (decide (v < 0)), .slice B (dl v.natAbs) d], .agg #[.bool (decide (r < 0)), .slice B' (dl r.natAbs) d']] W (ZR W z)) := fun W B d B' d' h1 h2 => zadd_h h1 h2 hvr (by omega)
  have CC : Hid (∀ W B d, Below w.heap.size w W → ZA W (decide (z < 0)) B (dl z.natAbs) d z → Calls Tryd.prog 43 #[.agg #[.bool (decide (z < 0)), .slice B (dl z.natAbs) d], .agg #[.bool b, .slice A n c]] W (IntPost W 0)) := fun W B d hb hz => zcmp_h hz (h W hb) (by unfold cmpZ; rw [if_neg (by omega), if_neg (by omega)])
  obtain ⟨m, hm⟩ : ∃ m, -z' = m := ⟨_, rfl⟩
  have CS : Hid (∀ W, Below w.heap.size w W → Calls Tryd.prog 42 #[.agg #[.bool b', .slice A' n' c']] W (IntPost W (-1))) := fun W hb => sign_h (h' W hb) (Int.sign_eq_neg_one_of_neg hz)
  have CN : Hid (∀ W, Below w.heap.size w W → Calls Tryd.prog 47 #[.agg #[.bool b', .slice A' n' c']] W (ZR W m)) := fun W hb => zneg_h (h' W hb) hm
  have CR : Hid (∀ W B d B' d', ZA W (decide (r < 0)) B (dl r.natAbs) d r → ZA W (decide (m < 0)) B' (dl m.natAbs) d' m → Calls Tryd.prog 43 #[.agg #[.bool (decide (r < 0)), .slice B (dl r.natAbs) d], .agg #[.bool (decide (m < 0)), .slice B' (dl m.natAbs) d']] W (IntPost W (-1))) := fun W B d B' d' h1 h2 => zcmp_h h1 h2 (by unfold cmpZ; rw [if_pos (by omega)])
  clear h h' hz hd hd' hn hn' hq hr hz0 hr0 hrl hv hvr hvd hm
  go_enter Tryd.func10, Tryd.ntmps10
  go_wp2_with (first | (go_at_call 37; (with_reducible refine (awake2_any _).mono ?_); rintro e w1 ⟨rfl, hbk⟩; have HA := hide (((zc_new _ _ _ _ _ _).al _).up hbk); have HB := hide ((zc_new1 _ _ _ _ _ _ _).up hbk); have HW := hide ((al2 w _ _).trans (hbk.out.mono (al2 w _ _).size)); have a0 := HA.out.c0; have a1 := HA.out.c1; have b0 := HB.out.c0; have b1 := HB.out.c1; have l1 := HB.out.lt; have l0 := HA.out.lt) | (go_at_call 49; (with_reducible refine (CLa.out _).mono ?_); rintro e w2 ⟨rfl, hbk⟩; replace HA := hide (HA.out.up hbk); replace HB := hide (HB.out.up hbk); replace HW := chain HW hbk.out; clear a0 a1 b0 b1 l0 l1; have a0 := HA.out.c0; have a1 := HA.out.c1; have b0 := HB.out.c0; have b1 := HB.out.c1; have l1 := HB.out.lt; have l0 := HA.out.lt) | (go_at_call 49; (with_reducible refine (CLb.out _).mono ?_); rintro e w3 ⟨rfl, hbk⟩; replace HA := hide (HA.out.up hbk); replace HB := hide (HB.out.up hbk); replace HW := chain HW hbk.out; clear a0 a1 b0 b1 l0 l1; have a0 := HA.out.c0; have a1 := HA.out.c1; have b0 := HB.out.c0; have b1 := HB.out.c1; have l1 := HB.out.lt; have l0 := HA.out.lt) | (go_at_call 39; (with_reducible refine (CD.out _ HW.out).mono ?_); rintro e w4 ⟨Aq, cq, Ar, cr, rfl, zq, zr, hbk⟩; replace HA := hide (HA.out.up hbk); replace HB := hide (HB.out.up hbk); replace HW := chain HW hbk.out; clear a0 a1 b0 b1 l0 l1; have a0 := HA.out.c0; have a1 := HA.out.c1; have b0 := HB.out.c0; have b1 := HB.out.c1; have l1 := HB.out.lt; have l0 := HA.out.lt; clear hbk) | (go_at_call 42; (with_reducible refine (CS.out _ (Below.trans HW.out ((al3 _ _ _ _).mono HW.out.size))).mono ?_); rintro e w5 ⟨rfl, hbk⟩; have HLT := hide l1; replace HA := hide ((((HA.out.al _).al _).al _).up hbk); replace HB := hide ((((HB.out.al _).al _).al _).up hbk); have HQ := hide (Zcell.up (((zc_new w4 _ _ _ _ _).al _).al _) hbk); have HR := hide (Zcell.up ((zc_new1 w4 _ _ _ _ _ _).al _) hbk); have HM := hide (Zcell.up (zc_new2 w4 _ _ _ _ _ _ _) hbk); replace zq := ZA.up (((zq.al _).al _).al _) hbk; replace zr := ZA.up (((zr.al _).al _).al _) hbk; replace HW := hide (HW.out.trans (((al3 _ _ _ _).trans (hbk.out.mono (al3 _ _ _ _).size)).mono HW.out.size)); clear hbk; clear a0 a1 b0 b1 l0 l1; have a0 := HA.out.c0; have a1 := HA.out.c1; have b0 := HB.out.c0; have b1 := HB.out.c1; have l1 := HB.out.lt; have l0 := HA.out.lt) | (go_at_call 47; (with_reducible refine (CN.out _ HW.out).mono ?_); rintro e w5b ⟨Am, cm, rfl, zm, hbk⟩; replace HA := hide (HA.out.up hbk); replace HB := hide (HB.out.up hbk); replace HQ := hide (HQ.out.up hbk); replace HR := hide (HR.out.up hbk); replace HM := hide (HM.out.up hbk); replace HW := chain HW hbk.out; replace zq := zq.up hbk; replace zr := zr.up hbk; have m0 := HM.out.c0; have m1' := HM.out.c1; have f0 := HM.out.f0; have f1 := HM.out.f1; clear a0 a1 b0 b1 l0 l1; clear hbk) | fail)
  obtain ⟨W6, hW6⟩ : ∃ W6, W6 = ((w5b.setCell ⟨w4.heap.size + 1 + 1, 0, none⟩ (.bool (decide (m < 0)))).setCell ⟨w4.heap.size + 1 + 1, 1, none⟩ (.slice Am (dl m.natAbs) cm)) := ⟨_, rfl⟩
  rw [← hW6]
  have l4 : w.heap.size + 1 < w4.heap.size := HLT.out
  replace HA : Hid (Zcell W6 w.heap.size b A n c) := by rw [hW6]; exact Zcell.set2 HA.out (by omega) _ _
  replace HB : Hid (Zcell W6 (w.heap.size + 1) b' A' n' c') := by rw [hW6]; exact Zcell.set2 HB.out (by omega) _ _
  replace HQ : Hid (Zcell W6 w4.heap.size (decide (q < 0)) Aq (dl q.natAbs) cq) := by rw [hW6]; exact Zcell.set2 HQ.out (by omega) _ _
  replace HR : Hid (Zcell W6 (w4.heap.size + 1) (decide (r < 0)) Ar (dl r.natAbs) cr) := by rw [hW6]; exact Zcell.set2 HR.out (by omega) _ _
  replace zq : ZA W6 (decide (q < 0)) Aq (dl q.natAbs) cq q := by rw [hW6]; exact ZA.set2 zq HM.out _ _
  replace zr : ZA W6 (decide (r < 0)) Ar (dl r.natAbs) cr r := by rw [hW6]; exact ZA.set2 zr HM.out _ _
  replace zm : ZA W6 (decide (m < 0)) Am (dl m.natAbs) cm m := by rw [hW6]; exact ZA.set2 zm HM.out _ _
  replace HM : Hid (Zcell W6 (w4.heap.size + 1 + 1) (decide (m < 0)) Am (dl m.natAbs) cm) := by rw [hW6]; exact Zcell.put2 HM.out
  replace HW : Hid (Below w.heap.size w W6) := by rw [hW6]; exact (HW.out.setCell (by show _ ≤ w4.heap.size + 1 + 1; omega) _).setCell (by show _ ≤ w4.heap.size + 1 + 1; omega) _
  clear hW6 l4 m0 m1' f0 f1
  replace HA := hide HA.out.dr
  replace HB := hide HB.out.dr
  replace HQ := hide HQ.out.dr
  replace HR := hide HR.out.dr
  replace HM := hide HM.out.dr
  replace HW := hide (Below.drew HW.out)
  replace zq := ZA.dr zq
  replace zr := ZA.dr zr
  replace zm := ZA.dr zm
  obtain ⟨pq, hpq⟩ : ∃ p, p = w4.heap.size := ⟨_, rfl⟩
  rw [← hpq] at HQ HR HM
  simp only [← hpq]
  clear hpq
  go_region_held3 (fun w' => w'.cell? ⟨w.heap.size, 0, none⟩ = some (.bool b) ∧ w'.cell? ⟨w.heap.size, 1, none⟩ = some (.slice A n c) ∧ w'.cell? ⟨w.heap.size + 1, 0, none⟩ = some (.bool b') ∧ w'.cell? ⟨w.heap.size + 1, 1, none⟩ = some (.slice A' n' c') ∧ w'.cell? ⟨pq, 0, none⟩ = some (.bool (decide (q < 0))) ∧ w'.cell? ⟨pq, 1, none⟩ = some (.slice Aq (dl q.natAbs) cq) ∧ w'.cell? ⟨pq + 1, 0, none⟩ = some (.bool (decide (r < 0))) ∧ w'.cell? ⟨pq + 1, 1, none⟩ = some (.slice Ar (dl r.natAbs) cr) ∧ w'.cell? ⟨pq + 1 + 1, 0, none⟩ = some (.bool (decide (m < 0))) ∧ w'.cell? ⟨pq + 1 + 1, 1, none⟩ = some (Value.slice Am (dl m.natAbs) cm))
    (first | exact ⟨HA.out.c0, HA.out.c1, HB.out.c0, HB.out.c1, HQ.out.c0, HQ.out.c1, HR.out.c0, HR.out.c1, HM.out.c0, HM.out.c1⟩)
    (first | (go_at_call 42; (with_reducible refine (CSr.out _ _ _ zr).mono ?_); rintro e w6 ⟨⟨s6, hs6, rfl⟩, hbk⟩; replace HA := hide (HA.out.up hbk); replace HB := hide (HB.out.up hbk); replace HQ := hide (HQ.out.up hbk); replace HR := hide (HR.out.up hbk); replace HM := hide (HM.out.up hbk); replace HW := chain HW hbk.out; replace zq := zq.up hbk; replace zr := zr.up hbk; replace zm := zm.up hbk) | (go_at_call 43; (with_reducible refine (CR.out _ _ _ _ _ zr zm).mono ?_); rintro e w7 ⟨rfl, hbk⟩; replace HA := hide (HA.out.up hbk); replace HB := hide (HB.out.up hbk); replace HQ := hide (HQ.out.up hbk); replace HR := hide (HR.out.up hbk); replace HM := hide (HM.out.up hbk); replace HW := chain HW hbk.out; replace zq := zq.up hbk; replace zr := zr.up hbk; replace zm := zm.up hbk) | (go_at_call 57; (with_reducible refine (CM.out _ _ _ HW.out zq).mono ?_); rintro e w8 ⟨A8, c8, rfl, z8, hbk⟩; replace HA := hide (HA.out.up hbk); replace HB := hide (HB.out.up hbk); replace HQ := hide (HQ.out.up hbk); replace HR := hide (HR.out.up hbk); replace HM := hide (HM.out.up hbk); replace HW := chain HW hbk.out; replace zq := zq.up hbk; replace zr := zr.up hbk; replace zm := zm.up hbk) | (go_at_call 55; (with_reducible refine (CA.out _ _ _ _ _ z8 zr).mono ?_); rintro e w9 ⟨A9, c9, rfl, z9, hbk⟩; replace HA := hide (HA.out.up hbk); replace HB := hide (HB.out.up hbk); replace HQ := hide (HQ.out.up hbk); replace HR := hide (HR.out.up hbk); replace HM := hide (HM.out.up hbk); replace HW := chain HW hbk.out; replace zq := zq.up hbk; replace zr := zr.up hbk; replace zm := zm.up hbk) | (go_at_call 43; (with_reducible refine (CC.out _ _ _ HW.out z9).mono ?_); rintro e wa ⟨rfl, hbk⟩; replace HA := hide (HA.out.up hbk); replace HB := hide (HB.out.up hbk); replace HQ := hide (HQ.out.up hbk); replace HR := hide (HR.out.up hbk); replace HM := hide (HM.out.up hbk); replace HW := chain HW hbk.out; replace zq := zq.up hbk; replace zr := zr.up hbk; replace zm := zm.up hbk) | fail)
  go_wp2
  go_ret
  exact ⟨rfl, HW.out⟩

theorem nparts_walk {b b' : Bool} {A0 A1 : Option Addr} {l0 l1 c0 c1 : Nat} {z0 z1 : List Nat} (w : World) (w0 : l0 = z0.length ∧ l0 ≤ c0 ∧ Rd U32 w w.heap.size A0 z0 ∧ Good32 z0) (w1 : l1 = z1.length ∧ l1 ≤ c1 ∧ Rd U32 w w.heap.size A1 z1 ∧ Good32 z1) :
    Calls Tryd.prog 10 #[.agg #[.bool b, .slice A0 l0 c0], .agg #[.bool b', .slice A1 l1 c1]] w fun e w' => e = .returned (.bool true) ∧ Below w.heap.size w w' := by
  by_cases h0 : l0 ≤ 24
  · by_cases h1 : l1 ≤ 24
    · have L0 : ZLater w b A0 l0 c0 (zi b (val W32 z0)) := fun W hb => za_of (nm_later (later_of w0 (by omega)) hb)
      have L1 : ZLater w b' A1 l1 c1 (zi b' (val W32 z1)) := fun W hb => za_of (nm_later (later_of w1 (by omega)) hb)
      have d0 : dl (zi b (val W32 z0)).natAbs ≤ 24 := by rw [zi_abs]; exact dl_le (val_lt24 w0.2.2.2 w0.1 h0)
      have d1 : dl (zi b' (val W32 z1)).natAbs ≤ 24 := by rw [zi_abs]; exact dl_le (val_lt24 w1.2.2.2 w1.1 h1)
      rcases Int.lt_trichotomy (zi b' (val W32 z1)) 0 with h | h | h
      · exact nparts_neg w L0 L1 h0 h1 d0 d1 h
      · exact nparts_zero w L0 L1 h0 h1 h
      · exact nparts_pos w L0 L1 h0 h1 d0 d1 h
    · have CLa := hide (fun W => long_h (W := W) (b := b) (A := A0) (c := c0) h0)
      have CLb := hide (fun W => long_n (W := W) (b := b') (A := A1) (c := c1) h1)
      clear w0 w1 h0 h1
      go_enter Tryd.func10, Tryd.ntmps10
      go_wp2_with (first | (go_at_call 37; (with_reducible refine (awake2_any _).mono ?_); rintro e w1 ⟨rfl, hbk⟩; have HA := hide (((zc_new _ _ _ _ _ _).al _).up hbk); have HB := hide ((zc_new1 _ _ _ _ _ _ _).up hbk); have HW := hide ((al2 w _ _).trans (hbk.out.mono (al2 w _ _).size)); have a0 := HA.out.c0; have a1 := HA.out.c1; have b0 := HB.out.c0; have b1 := HB.out.c1; have l1 := HB.out.lt; have l0 := HA.out.lt) | (go_at_call 49; (with_reducible refine (CLa.out _).mono ?_); rintro e w2 ⟨rfl, hbk⟩; replace HA := hide (HA.out.up hbk); replace HB := hide (HB.out.up hbk); replace HW := chain HW hbk.out; clear a0 a1 b0 b1 l0 l1; have a0 := HA.out.c0; have a1 := HA.out.c1; have b0 := HB.out.c0; have b1 := HB.out.c1; have l1 := HB.out.lt; have l0 := HA.out.lt) | (go_at_call 49; (with_reducible refine (CLb.out _).mono ?_); rintro e w3 ⟨rfl, hbk⟩; replace HA := hide (HA.out.up hbk); replace HB := hide (HB.out.up hbk); replace HW := chain HW hbk.out; clear a0 a1 b0 b1 l0 l1; have a0 := HA.out.c0; have a1 := HA.out.c1; have b0 := HB.out.c0; have b1 := HB.out.c1; have l1 := HB.out.lt; have l0 := HA.out.lt) | fail)
      go_ret
      exact ⟨rfl, HW.out⟩
  · have CLa := hide (fun W => long_n (W := W) (b := b) (A := A0) (c := c0) h0)
    clear w0 w1 h0
    go_enter Tryd.func10, Tryd.ntmps10
    go_wp2_with (first | (go_at_call 37; (with_reducible refine (awake2_any _).mono ?_); rintro e w1 ⟨rfl, hbk⟩; have HA := hide (((zc_new _ _ _ _ _ _).al _).up hbk); have HB := hide ((zc_new1 _ _ _ _ _ _ _).up hbk); have HW := hide ((al2 w _ _).trans (hbk.out.mono (al2 w _ _).size)); have a0 := HA.out.c0; have a1 := HA.out.c1; have b0 := HB.out.c0; have b1 := HB.out.c1; have l1 := HB.out.lt; have l0 := HA.out.lt) | (go_at_call 49; (with_reducible refine (CLa.out _).mono ?_); rintro e w2 ⟨rfl, hbk⟩; replace HA := hide (HA.out.up hbk); replace HB := hide (HB.out.up hbk); replace HW := chain HW hbk.out; clear a0 a1 b0 b1 l0 l1; have a0 := HA.out.c0; have a1 := HA.out.c1; have b0 := HB.out.c0; have b1 := HB.out.c1; have l1 := HB.out.lt; have l0 := HA.out.lt) | fail)
    go_ret
    exact ⟨rfl, HW.out⟩
end Go.Proofs.YtlmfkeicmldcnaaDoor
