/- RoundNear's walk: one case of four. -/
import Derived.Test.YteieelgdiccppaaDoorUo
open Go.RowKit
set_option maxRecDepth 100000
namespace Go.Proofs.YteieelgdiccppaaDoor
section
variable {W w : World} {b : Bool} {A A' : Option Addr} {n c n' c' s : Nat} {m : Int} {r : Rat}
set_option maxHeartbeats 32000000 in
theorem near_nn (w : World) (h : QA w b A n c A' n' c' r 12) (hn : n ≤ 12) (hn' : n' ≤ 12) (hs : s ≤ 20) (hm : 1 ≤ m ∧ m ≤ 7) (hneg : (mkRat (rdR m (r * mkRat ((10 ^ s : Nat) : Int) 1)) (10 ^ s) + -r).num < 0) (h5 : ¬ 5 ≤ m) : Calls Tryd.prog 8 #[.agg #[.bool b, .slice A n c, .slice A' n' c'], .int .i64 (s : Int), .int .i64 m] w fun e w' => e = .returned (.bool true) ∧ Below w.heap.size w w' := by
  obtain ⟨P, hP⟩ : ∃ P, P = 10 ^ s := ⟨_, rfl⟩
  have hP0 : 0 < P := by rw [hP]; exact Nat.pow_pos (by decide)
  have bP : P < W32 ^ 24 := by rw [hP]; exact Nat.lt_of_lt_of_le (tenk_lt s) (Nat.pow_le_pow_right (by decide) (by omega))
  obtain ⟨t, ht⟩ : ∃ t, rdR m (r * mkRat (P : Int) 1) = t := ⟨_, rfl⟩
  obtain ⟨v, hv⟩ : ∃ v, v = t.natAbs := ⟨_, rfl⟩
  obtain ⟨st, hst⟩ : ∃ x, x = decide (t < 0) := ⟨_, rfl⟩
  obtain ⟨rD, hD⟩ : ∃ x, mkRat t P = x := ⟨_, rfl⟩
  obtain ⟨un, hun⟩ : ∃ x, mkRat 1 P = x := ⟨_, rfl⟩
  obtain ⟨off, hoff⟩ : ∃ x, rD + -r = x := ⟨_, rfl⟩
  obtain ⟨ab, hab⟩ : ∃ x, x = if off.num < 0 then -off else off := ⟨_, rfl⟩
  obtain ⟨rN, hN⟩ : ∃ x, -r = x := ⟨_, rfl⟩
  obtain ⟨N1, N2, N3⟩ := near_of hP0 ht hD hun hoff hab
  have br : Bd r 24 := Bd.more (K := 12) (qa_bd h (by decide)) (by decide)
  have bX : Bd (r * mkRat (P : Int) 1) 48 := br.mul (tt_bd ⟨by decide, rfl, by rw [Int.natAbs_natCast]; exact bP, Nat.one_lt_pow (by decide) (by decide)⟩)
  have bt : t.natAbs < W32 ^ 49 := by
    have h1 := rd_abs (m := m) (p := (r * mkRat (P : Int) 1).num) (q := (r * mkRat (P : Int) 1).den)
    have h2 : W32 ^ 48 + 1 ≤ W32 ^ 49 := Nat.pow_lt_pow_right (by decide) (by decide)
    have h3 := bX.1
    unfold rdR at ht
    rw [ht] at h1
    omega
  have bD : Bd rD 49 := by rw [← hD]; exact tt_bd ⟨hP0, rfl, bt, Nat.lt_of_lt_of_le bP (Nat.pow_le_pow_right (by decide) (by decide))⟩
  have bN : Bd rN 49 := by rw [← hN]; exact (br.neg).more (by decide)
  have bo : Bd off 99 := by rw [← hoff, hN]; exact bD.add bN
  have ba : Bd ab 99 := by
    rw [hab]
    split
    · exact bo.neg
    · exact bo
  have b2 : Bd (ab + ab) 199 := ba.add ba
  have bu : Bd un 199 := by rw [← hun]; exact tt_bd ⟨hP0, rfl, Nat.one_lt_pow (by decide) (by decide), Nat.lt_of_lt_of_le bP (Nat.pow_le_pow_right (by decide) (by decide))⟩
  obtain ⟨x, hx⟩ : ∃ x, x = mkRat 1 10 := ⟨_, rfl⟩
  have hxn : x.num = 1 := by rw [hx]; decide +kernel
  have hxd : x.den = 10 := by rw [hx]; decide +kernel
  have bx : Bd x 1 := bd_lit (a := 1) (b := 10) (by rw [hxn]; rfl) hxd (by decide) (by decide)
  have hpw : x ^ s = un := by
    rw [← Rat.mkRat_self (x ^ s), Rat.num_pow, Rat.den_pow, hxn, hxd, Int.one_pow, ← hP, hun]
  obtain ⟨sD, hsD⟩ : ∃ y, y = decide (rD.num < 0) := ⟨_, rfl⟩
  obtain ⟨sN, hsN⟩ : ∃ y, y = decide (rN.num < 0) := ⟨_, rfl⟩
  obtain ⟨so, hso⟩ : ∃ y, y = decide (off.num < 0) := ⟨_, rfl⟩
  obtain ⟨ab2, h2⟩ : ∃ y, ab + ab = y := ⟨_, rfl⟩
  obtain ⟨s2, hs2⟩ : ∃ y, y = decide (ab2.num < 0) := ⟨_, rfl⟩
  obtain ⟨u, hu⟩ : ∃ u, off.num.sign = u := ⟨_, rfl⟩
  obtain ⟨u2, hu2⟩ : ∃ u, cmpR ab2 un = u := ⟨_, rfl⟩
  rw [h2] at b2 N2
  rw [hu2] at N2
  have dv : dl v ≤ 99999 := by rw [hv]; exact Nat.le_trans (dl_le bt) (by decide)
  have CL : Hid (∀ W, Calls Tryd.prog 63 #[.agg #[.bool b, .slice A n c, .slice A' n' c']] W (BoolR W false)) := fun W => long5_h hn hn'
  have CT : Hid (∀ W, Bel w W → Calls Tryd.prog 57 #[.agg #[.bool b, .slice A n c, .slice A' n' c'], .int .i64 (s : Int), .int .i64 m] W (ToR W st v (s : Int))) := fun W hw => by
    rw [hst, hv]
    exact to_ok (h.up hw.hid) (by omega) hm (by decide) (by decide) (by rw [← hP]; exact ht)
  have CO : Hid (∀ W, Calls Tryd.prog 58 #[.int .i64 1, .int .u64 10] W (QRw W false x)) := fun W => over_h (q := 10) (by decide) (by decide) (by decide) hx.symm (by rw [hxn]; rfl)
  have CP : Hid (∀ W B f B' f', ZA W false B (dl x.num.natAbs) f x.num → Nm W B' (dl x.den) f' x.den → Calls Tryd.prog 62 #[.agg #[.bool false, .slice B (dl x.num.natAbs) f, .slice B' (dl x.den) f'], .int .i64 (s : Int)] W (OfYw W false un)) := fun W B f B' f' g1 g2 => by
    have g3 := rpow_p (k := s) (qa_self g1 g2 bx) (Rat.num_nonneg.1 (by rw [hxn]; decide)) bx (by decide) (by decide) (by omega)
    rwa [hpw] at g3
  have CR : Hid (∀ W B f, Nm W B (dl v) f v → Calls Tryd.prog 65 #[.agg #[.bool st, .slice B (dl v) f, .int .i64 (s : Int)]] W (QRw W sD rD)) := fun W B f g1 => by
    rw [hsD]
    exact drat_h (dx_can (b := st) (s := s) g1 (by omega) (fun e => by rw [hst] at e; have := of_decide_eq_true e; omega)).y dv (by rw [hst, hv, zi_sign, ← hP]; exact hD)
  have CN : Hid (∀ W, Bel w W → Calls Tryd.prog 66 #[.agg #[.bool b, .slice A n c, .slice A' n' c']] W (QRw W sN rN)) := fun W hw => by
    rw [hsN, ← hN]
    exact rneg_h (h.up hw.hid) (by decide) (by decide)
  have CA : Hid (∀ W B f B' f' C g C' g', ZA W sD B (dl rD.num.natAbs) f rD.num → Nm W B' (dl rD.den) f' rD.den → ZA W sN C (dl rN.num.natAbs) g rN.num → Nm W C' (dl rN.den) g' rN.den → Calls Tryd.prog 64 #[.agg #[.bool sD, .slice B (dl rD.num.natAbs) f, .slice B' (dl rD.den) f'], .agg #[.bool sN, .slice C (dl rN.num.natAbs) g, .slice C' (dl rN.den) g']] W (QRw W so off)) := fun W B f B' f' C g C' g' g1 g2 g3 g4 => by
    rw [hso, ← hoff, hN]
    exact radd_h (qa_self g1 g2 bD) (qa_self g3 g4 bN) (by decide) (by decide)
  have CS : Hid (∀ W B f B' f', ZA W so B (dl off.num.natAbs) f off.num → Nm W B' (dl off.den) f' off.den → Calls Tryd.prog 67 #[.agg #[.bool so, .slice B (dl off.num.natAbs) f, .slice B' (dl off.den) f']] W (IntPost W u)) := fun W B f B' f' g1 g2 => rsign_h (qa_self g1 g2 bo) (by decide) hu
  have CT2 : Hid (∀ W B f B' f', ZA W sD B (dl rD.num.natAbs) f rD.num → Nm W B' (dl rD.den) f' rD.den → Calls Tryd.prog 57 #[.agg #[.bool sD, .slice B (dl rD.num.natAbs) f, .slice B' (dl rD.den) f'], .int .i64 (s : Int), .int .i64 m] W (ToR W st v (s : Int))) := fun W B f B' f' g1 g2 => by
    rw [hst, hv]
    exact to_ok (qa_self g1 g2 bD) (by omega) hm (by decide) (by decide) (by rw [← hP]; exact N3)
  have CC3 : Hid (∀ W B f B' f' C g C' g', ZA W sD B (dl rD.num.natAbs) f rD.num → Nm W B' (dl rD.den) f' rD.den → ZA W sD C (dl rD.num.natAbs) g rD.num → Nm W C' (dl rD.den) g' rD.den → Calls Tryd.prog 68 #[.agg #[.bool sD, .slice B (dl rD.num.natAbs) f, .slice B' (dl rD.den) f'], .agg #[.bool sD, .slice C (dl rD.num.natAbs) g, .slice C' (dl rD.den) g']] W (IntPost W 0)) := fun W B f B' f' C g C' g' g1 g2 g3 g4 => by
    have g5 := rcmp_h (qa_self g1 g2 bD) (qa_self g3 g4 bD) (by decide) (by decide)
    rwa [cmpR_self] at g5
  rw [← hP, ht, hD, hoff] at hneg
  rw [if_pos hneg] at hab
  obtain ⟨sa, hsa⟩ : ∃ y, y = decide (ab.num < 0) := ⟨_, rfl⟩
  have CNo : Hid (∀ W B f B' f', ZA W so B (dl off.num.natAbs) f off.num → Nm W B' (dl off.den) f' off.den → Calls Tryd.prog 66 #[.agg #[.bool so, .slice B (dl off.num.natAbs) f, .slice B' (dl off.den) f']] W (QRw W sa ab)) := fun W B f B' f' g1 g2 => by
    rw [hsa, hab]
    exact rneg_h (qa_self g1 g2 bo) (by decide) (by decide)
  have hul : decide (u < 0) = true := decide_eq_true (by rw [← hu]; exact Int.sign_neg_iff.2 hneg)
  have CC1 : Hid (∀ W B f B' f' C g C' g', ZA W sa B (dl ab.num.natAbs) f ab.num → Nm W B' (dl ab.den) f' ab.den → ZA W false C (dl un.num.natAbs) g un.num → Nm W C' (dl un.den) g' un.den → Calls Tryd.prog 68 #[.agg #[.bool sa, .slice B (dl ab.num.natAbs) f, .slice B' (dl ab.den) f'], .agg #[.bool false, .slice C (dl un.num.natAbs) g, .slice C' (dl un.den) g']] W (IntPost W (-1))) := fun W B f B' f' C g C' g' g1 g2 g3 g4 => by
    have g5 := rcmp_h (qa_self g1 g2 (ba.more (by decide))) (qa_self g3 g4 bu) (by decide) (by decide)
    rwa [N1] at g5
  have CA2 : Hid (∀ W B f B' f' C g C' g', ZA W sa B (dl ab.num.natAbs) f ab.num → Nm W B' (dl ab.den) f' ab.den → ZA W sa C (dl ab.num.natAbs) g ab.num → Nm W C' (dl ab.den) g' ab.den → Calls Tryd.prog 64 #[.agg #[.bool sa, .slice B (dl ab.num.natAbs) f, .slice B' (dl ab.den) f'], .agg #[.bool sa, .slice C (dl ab.num.natAbs) g, .slice C' (dl ab.den) g']] W (QRw W s2 ab2)) := fun W B f B' f' C g C' g' g1 g2 g3 g4 => by
    rw [hs2, ← h2]
    exact radd_h (qa_self g1 g2 ba) (qa_self g3 g4 ba) (by decide) (by decide)
  have CC2 : Hid (∀ W B f B' f' C g C' g', ZA W s2 B (dl ab2.num.natAbs) f ab2.num → Nm W B' (dl ab2.den) f' ab2.den → ZA W false C (dl un.num.natAbs) g un.num → Nm W C' (dl un.den) g' un.den → Calls Tryd.prog 68 #[.agg #[.bool s2, .slice B (dl ab2.num.natAbs) f, .slice B' (dl ab2.den) f'], .agg #[.bool false, .slice C (dl un.num.natAbs) g, .slice C' (dl un.den) g']] W (IntPost W u2)) := fun W B f B' f' C g C' g' g1 g2 g3 g4 => by
    rw [← hu2]
    exact rcmp_h (qa_self g1 g2 b2) (qa_self g3 g4 bu) (by decide) (by decide)
  have k1 : decide ((s : Int) < 0) = false := decide_eq_false (by omega)
  have k1' : ¬ ((s : Int) < 0) := by omega
  have k2 : decide ((20 : Int) < (s : Int)) = false := decide_eq_false (by omega)
  have k2' : ¬ ((20 : Int) < (s : Int)) := by omega
  have k3 : decide (m < 1) = false := decide_eq_false (by omega)
  have k3' : ¬ (m < 1) := by omega
  have k4 : decide ((7 : Int) < m) = false := decide_eq_false (by omega)
  have k4' : ¬ ((7 : Int) < m) := by omega
  have k5 : decide (5 ≤ m) = false := decide_eq_false h5
  clear h hn hn' hs hm hneg hP hP0 bP ht hv hst hD hun hoff hN N1 N2 N3 br bX bt bD bN bo ba b2 bu hx hxn hxd bx hpw hsD hsN hso h2 hs2 hu hu2 dv hab hsa
  have HB := Bel.refl w
  go_enter Tryd.func8, Tryd.ntmps8
  go_wp2_with (first | (go_at_call 55; (with_reducible refine (awake5_any _).mono ?_); rintro e w1 ⟨rfl, hbk⟩; (with_reducible (have HA : At w1 w.heap.size [.bool b, .slice A n c, .slice A' n' c'] := At.up (at_new0 _ _ _) hbk; replace HB := (HB.al _).up hbk)); have ha_0 := HA.c0; have ha_1 := HA.c1; have ha_2 := HA.c2; have ha_l := HA.lt) | (go_at_call 63; (with_reducible refine (CL.out _).mono ?_); rintro e w2 ⟨rfl, hbk⟩; (with_reducible (replace HB := HB.up hbk; replace HA := HA.up hbk)); clear ha_0 ha_1 ha_2 ha_l; have ha_0 := HA.c0; have ha_1 := HA.c1; have ha_2 := HA.c2; have ha_l := HA.lt) | (go_at_call 57; (with_reducible refine (CT.out _ HB).mono ?_); rintro e w3 ⟨Bv, fv, rfl, nv, hbk⟩; (with_reducible (replace HB := HB.up hbk; replace HA := HA.up hbk)); clear ha_0 ha_1 ha_2 ha_l; have ha_0 := HA.c0; have ha_1 := HA.c1; have ha_2 := HA.c2; have ha_l := HA.lt) | (go_at_call 58; (with_reducible refine (CO.out _).mono ?_); rintro e w4 ⟨B4, f4, B5, f5, rfl, z4, n4, hbk⟩; (with_reducible (have HD : At w4 w3.heap.size [.bool st, .slice Bv (dl v) fv, .int .i64 (s : Int)] := At.up (at_new0 _ _ _) hbk; replace HB := (HB.al _).up hbk; replace HA := (HA.al _).up hbk; replace nv := (nv.al _).up hbk)); clear ha_0 ha_1 ha_2 ha_l; have ha_0 := HA.c0; have ha_1 := HA.c1; have ha_2 := HA.c2; have ha_l := HA.lt; have hd_0 := HD.c0; have hd_1 := HD.c1; have hd_2 := HD.c2; have hd_l := HD.lt) | (go_at_call 62; (with_reducible refine (CP.out _ _ _ _ _ z4 n4).mono ?_); rintro e w5 ⟨Bu, fu, Bw, fw, rfl, zu, nu, hbk⟩; (with_reducible (replace HB := HB.up hbk; replace HA := HA.up hbk; replace HD := HD.up hbk; replace nv := nv.up hbk)); clear ha_0 ha_1 ha_2 ha_l hd_0 hd_1 hd_2 hd_l; have ha_0 := HA.c0; have ha_1 := HA.c1; have ha_2 := HA.c2; have ha_l := HA.lt; have hd_0 := HD.c0; have hd_1 := HD.c1; have hd_2 := HD.c2; have hd_l := HD.lt) | fail)
  obtain ⟨W1, hW1⟩ : ∃ X, X = w5.alloc (.cells #[.bool false, .slice Bu (dl un.num.natAbs) fu, .slice Bw (dl un.den) fw] 83) := ⟨_, rfl⟩
  rw [← hW1]
  obtain ⟨pu, hpu⟩ : ∃ p, p = w5.heap.size := ⟨_, rfl⟩
  rw [← hpu]
  obtain ⟨pd, hpd⟩ : ∃ p, p = w3.heap.size := ⟨_, rfl⟩
  rw [← hpd] at HD ⊢
  have HU : At W1 pu [.bool false, .slice Bu (dl un.num.natAbs) fu, .slice Bw (dl un.den) fw] := by rw [hW1, hpu]; exact at_new0 _ _ _
  replace HA : At W1 w.heap.size [.bool b, .slice A n c, .slice A' n' c'] := by rw [hW1]; exact HA.al _
  replace HD : At W1 pd [.bool st, .slice Bv (dl v) fv, .int .i64 (s : Int)] := by rw [hW1]; exact HD.al _
  replace HB : Bel w W1 := by rw [hW1]; exact HB.al _
  replace nv : Nm W1 Bv (dl v) fv v := by rw [hW1]; exact nv.al _
  replace zu : ZA W1 false Bu (dl un.num.natAbs) fu un.num := by rw [hW1]; exact zu.al _
  replace nu : Nm W1 Bw (dl un.den) fw un.den := by rw [hW1]; exact nu.al _
  clear hW1 hpu hpd ha_0 ha_1 ha_2 ha_l hd_0 hd_1 hd_2 hd_l
  have l0 := HA.lt
  have l1 := HD.lt
  have l2 := HU.lt
  go_cut [11] from 55 to 59 (fun o w' => ∃ p B e B' e', o = .pointer (some ⟨p, 0, none⟩) ∧ w.heap.size < p ∧ pd < p ∧ pu < p ∧ At w' p [.bool so, .slice B (dl off.num.natAbs) e, .slice B' (dl off.den) e'] ∧ ZA w' so B (dl off.num.natAbs) e off.num ∧ Nm w' B' (dl off.den) e' off.den ∧ Bel W1 w')
  case first =>
    have HW := Bel.refl W1
    go_region_held3 (fun w' => w'.cell? ⟨w.heap.size, 0, none⟩ = some (.bool b) ∧ w'.cell? ⟨w.heap.size, 1, none⟩ = some (.slice A n c) ∧ w'.cell? ⟨w.heap.size, 2, none⟩ = some (.slice A' n' c') ∧ w'.cell? ⟨pd, 0, none⟩ = some (.bool st) ∧ w'.cell? ⟨pd, 1, none⟩ = some (.slice Bv (dl v) fv) ∧ w'.cell? ⟨pd, 2, none⟩ = some (.int .i64 (s : Int)))
      (refine ⟨(?_ : At _ w.heap.size [.bool b, .slice A n c, .slice A' n' c']).c0, (?_ : At _ w.heap.size [.bool b, .slice A n c, .slice A' n' c']).c1, (?_ : At _ w.heap.size [.bool b, .slice A n c, .slice A' n' c']).c2, (?_ : At _ pd [.bool st, .slice Bv (dl v) fv, .int .i64 (s : Int)]).c0, (?_ : At _ pd [.bool st, .slice Bv (dl v) fv, .int .i64 (s : Int)]).c1, (?_ : At _ pd [.bool st, .slice Bv (dl v) fv, .int .i64 (s : Int)]).c2⟩ <;> (repeat (first | with_reducible exact HA | with_reducible exact HD | (with_reducible refine At.dr ?_) | (with_reducible refine At.al ?_ _) | (with_reducible refine At.far ?_ (by omega) _))))
      (first | (go_at_call 65; (with_reducible refine (CR.out _ _ _ nv.dr).mono ?_); rintro e v1 ⟨B1, f1, B2, f2, rfl, z1, n1, hbk⟩; (with_reducible (replace HB := HB.dr.up hbk; replace HW := HW.dr.up hbk; replace HA := HA.dr.up hbk; replace HD := HD.dr.up hbk)); have lz0 := HA.lt; have lz1 := HD.lt; (try have lz2 := HP0.lt); (try have lz3 := HQ0.lt); have zs1 := Below.size HW) | (go_at_call 65; (with_reducible refine (CR.out _ _ _ (nv.al _).dr).mono ?_); rintro e v1 ⟨B1, f1, B2, f2, rfl, z1, n1, hbk⟩; (with_reducible (have HP0 := At.up (at_new0 _ [.bool false, .slice none 0 0, .slice none 0 0] _).dr hbk; replace HB := (HB.al _).dr.up hbk; replace HW := (HW.al _).dr.up hbk; replace HA := (HA.al _).dr.up hbk; replace HD := (HD.al _).dr.up hbk)); have lz0 := HA.lt; have lz1 := HD.lt; (try have lz2 := HP0.lt); (try have lz3 := HQ0.lt); have zs1 := Below.size HW) | (go_at_call 66; (with_reducible refine (CN.out _ HB).mono ?_); rintro e v2 ⟨B3, f3, B6, f6, rfl, z3, n3, hbk⟩; (with_reducible (replace HB := HB.up hbk; replace HW := HW.up hbk; replace HA := HA.up hbk; replace HD := HD.up hbk; replace z1 := z1.up hbk; replace n1 := n1.up hbk)); (try (with_reducible replace HP0 := HP0.up hbk)); have lz0 := HA.lt; have lz1 := HD.lt; (try have lz2 := HP0.lt); (try have lz3 := HQ0.lt); have zs2 := Below.size HW) | (go_at_call 66; (with_reducible refine (CN.out _ (HB.al _)).mono ?_); rintro e v2 ⟨B3, f3, B6, f6, rfl, z3, n3, hbk⟩; (with_reducible (have HQ0 := At.up (at_new0 _ [.bool false, .slice none 0 0, .slice none 0 0] _) hbk; replace HB := (HB.al _).up hbk; replace HW := (HW.al _).up hbk; replace HA := (HA.al _).up hbk; replace HD := (HD.al _).up hbk; replace z1 := (z1.al _).up hbk; replace n1 := (n1.al _).up hbk)); (try (with_reducible replace HP0 := (HP0.al _).up hbk)); have lz0 := HA.lt; have lz1 := HD.lt; (try have lz2 := HP0.lt); (try have lz3 := HQ0.lt); have zs2 := Below.size HW) | (go_at_call 64; (with_reducible refine (CA.out _ _ _ _ _ _ _ _ _ z1 n1 z3 n3).mono ?_); rintro e v3 ⟨Bo, fo, Bp, fp, rfl, zo, no, hbk⟩; (with_reducible (replace HB := HB.up hbk; replace HW := HW.up hbk; replace HA := HA.up hbk; replace HD := HD.up hbk)); (try (with_reducible replace HP0 := HP0.up hbk)); (try (with_reducible replace HQ0 := HQ0.up hbk)); (try have hp0_0 := HP0.c0); (try have hp0_1 := HP0.c1); (try have hp0_2 := HP0.c2); (try have fhp0_0 := HP0.f0); (try have fhp0_1 := HP0.f1); (try have fhp0_2 := HP0.f2); (try have lhp0 := HP0.lt); (try have hq0_0 := HQ0.c0); (try have hq0_1 := HQ0.c1); (try have hq0_2 := HQ0.c2); (try have fhq0_0 := HQ0.f0); (try have fhq0_1 := HQ0.f1); (try have fhq0_2 := HQ0.f2); (try have lhq0 := HQ0.lt); (try have hs0_0 := HS0.c0); (try have hs0_1 := HS0.c1); (try have hs0_2 := HS0.c2); (try have fhs0_0 := HS0.f0); (try have fhs0_1 := HS0.f1); (try have fhs0_2 := HS0.f2); (try have lhs0 := HS0.lt); have lz0 := HA.lt; have lz1 := HD.lt; (try have lz2 := HP0.lt); (try have lz3 := HQ0.lt); (try have lz4 := HS0.lt); have zs3 := Below.size HW) | (go_at_call 64; (with_reducible refine (CA.out _ _ _ _ _ _ _ _ _ (z1.al _) (n1.al _) (z3.al _) (n3.al _)).mono ?_); rintro e v3 ⟨Bo, fo, Bp, fp, rfl, zo, no, hbk⟩; (with_reducible (have HS0 := At.up (at_new0 _ [.bool false, .slice none 0 0, .slice none 0 0] _) hbk; replace HB := (HB.al _).up hbk; replace HW := (HW.al _).up hbk; replace HA := (HA.al _).up hbk; replace HD := (HD.al _).up hbk)); (try (with_reducible replace HP0 := (HP0.al _).up hbk)); (try (with_reducible replace HQ0 := (HQ0.al _).up hbk)); (try have hp0_0 := HP0.c0); (try have hp0_1 := HP0.c1); (try have hp0_2 := HP0.c2); (try have fhp0_0 := HP0.f0); (try have fhp0_1 := HP0.f1); (try have fhp0_2 := HP0.f2); (try have lhp0 := HP0.lt); (try have hq0_0 := HQ0.c0); (try have hq0_1 := HQ0.c1); (try have hq0_2 := HQ0.c2); (try have fhq0_0 := HQ0.f0); (try have fhq0_1 := HQ0.f1); (try have fhq0_2 := HQ0.f2); (try have lhq0 := HQ0.lt); (try have hs0_0 := HS0.c0); (try have hs0_1 := HS0.c1); (try have hs0_2 := HS0.c2); (try have fhs0_0 := HS0.f0); (try have fhs0_1 := HS0.f1); (try have fhs0_2 := HS0.f2); (try have lhs0 := HS0.lt); have lz0 := HA.lt; have lz1 := HD.lt; (try have lz2 := HP0.lt); (try have lz3 := HQ0.lt); (try have lz4 := HS0.lt); have zs3 := Below.size HW) | fail)
    all_goals
      go_wp2_with fail
      go_meet
      case rel =>
        have zn := zo.1
        refine ⟨_, Bo, fo, Bp, fp, rfl, (by first | omega | (show _ < W1.heap.size; omega)), (by first | omega | (show _ < W1.heap.size; omega)), (by first | omega | (show _ < W1.heap.size; omega)), ?_, zo.mv ?_, ?_, ?_⟩ <;> (repeat (first | with_reducible exact zn | with_reducible exact no | with_reducible exact HW | with_reducible exact HP0 | with_reducible exact HQ0 | with_reducible exact HS0 | with_reducible exact at_new0 _ _ _ | (with_reducible refine Bel.dr ?_) | (with_reducible refine Bel.al ?_ _) | (with_reducible refine Bel.uput3 ?_ (by omega) _ _ _) | (with_reducible refine Nm.dr ?_) | (with_reducible refine Nm.al ?_ _) | (with_reducible refine Nm.putq ?_ ?_ _ _ _ _ _ _ _) | (with_reducible refine At.dr ?_) | (with_reducible refine At.al ?_ _) | (with_reducible refine At.uput3 (v0 := .bool false) (v1 := .slice none 0 0) (v2 := .slice none 0 0) ?_ _ _ _) | (with_reducible refine At.far3 ?_ (by omega) _ _ _)))
  case rest =>
    obtain ⟨po, Bo, fo, Bp, fp, rfl, hp1, hp2, hp3, HO, zo, no, hW⟩ := hcut
    replace HB := HB.up hW.hid
    replace HA := HA.up hW.hid
    replace HD := HD.up hW.hid
    replace HU := HU.up hW.hid
    replace nv := nv.up hW.hid
    replace zu := zu.up hW.hid
    replace nu := nu.up hW.hid
    clear hW l0 l1 l2
    have ho_0 := HO.c0
    have ho_1 := HO.c1
    have ho_2 := HO.c2
    have ho_l := HO.lt
    have ho_f0 := HO.f0
    have ho_f1 := HO.f1
    have ho_f2 := HO.f2
    go_wp2_with (first | (go_at_call 67; (with_reducible refine (CS.out _ _ _ _ _ zo no).mono ?_); rintro e w6 ⟨rfl, hbk⟩; (with_reducible (replace HB := HB.up hbk; replace HA := HA.up hbk; replace HD := HD.up hbk; replace HU := HU.up hbk; replace HO := HO.up hbk; replace nv := nv.up hbk; replace zu := zu.up hbk; replace nu := nu.up hbk; replace zo := zo.up hbk; replace no := no.up hbk)); clear ho_0 ho_1 ho_2 ho_l ho_f0 ho_f1 ho_f2; have ho_0 := HO.c0; have ho_1 := HO.c1; have ho_2 := HO.c2; have ho_l := HO.lt; have ho_f0 := HO.f0; have ho_f1 := HO.f1; have ho_f2 := HO.f2) | (go_at_call 66; (with_reducible refine (CNo.out _ _ _ _ _ zo no).mono ?_); rintro e w7 ⟨Ba, fa, Bb, fb, rfl, za, na, hbk⟩; (with_reducible (replace HB := HB.up hbk; replace HA := HA.up hbk; replace HD := HD.up hbk; replace HU := HU.up hbk; replace HO := HO.up hbk; replace nv := nv.up hbk; replace zu := zu.up hbk; replace nu := nu.up hbk)); clear ho_0 ho_1 ho_2 ho_l ho_f0 ho_f1 ho_f2; have ho_0 := HO.c0; have ho_1 := HO.c1; have ho_2 := HO.c2; have ho_l := HO.lt; have ho_f0 := HO.f0; have ho_f1 := HO.f1; have ho_f2 := HO.f2) | fail)
    obtain ⟨W2, hW2⟩ : ∃ X, X = ((w7.setCell ⟨po, 0, none⟩ (.bool sa)).setCell ⟨po, 1, none⟩ (.slice Ba (dl ab.num.natAbs) fa)).setCell ⟨po, 2, none⟩ (.slice Bb (dl ab.den) fb) := ⟨_, rfl⟩
    rw [← hW2]
    have za1 := za.1
    have zu1 := zu.1
    have HOO := HO
    replace HA : At W2 w.heap.size [.bool b, .slice A n c, .slice A' n' c'] := by rw [hW2]; exact HA.far3 (by omega) _ _ _
    replace HD : At W2 pd [.bool st, .slice Bv (dl v) fv, .int .i64 (s : Int)] := by rw [hW2]; exact HD.far3 (by omega) _ _ _
    replace HU : At W2 pu [.bool false, .slice Bu (dl un.num.natAbs) fu, .slice Bw (dl un.den) fw] := by rw [hW2]; exact HU.far3 (by omega) _ _ _
    replace HB : Bel w W2 := by rw [hW2]; exact HB.uput3 (by omega) _ _ _
    replace nv : Nm W2 Bv (dl v) fv v := by rw [hW2]; exact nv.put3 HOO now3
    replace zu : ZA W2 false Bu (dl un.num.natAbs) fu un.num := zu.mv (by rw [hW2]; exact zu1.put3 HOO now3)
    replace nu : Nm W2 Bw (dl un.den) fw un.den := by rw [hW2]; exact nu.put3 HOO now3
    replace za : ZA W2 sa Ba (dl ab.num.natAbs) fa ab.num := za.mv (by rw [hW2]; exact za1.put3 HOO now3)
    replace na : Nm W2 Bb (dl ab.den) fb ab.den := by rw [hW2]; exact na.put3 HOO now3
    replace HO : At W2 po [.bool sa, .slice Ba (dl ab.num.natAbs) fa, .slice Bb (dl ab.den) fb] := by rw [hW2]; exact HO.put3 _ _ _
    clear hW2 HOO za1 zu1 ho_0 ho_1 ho_2 ho_l ho_f0 ho_f1 ho_f2
    have l0 := HO.lt
    have l1 := HU.lt
    refine wp_region_held_drew (S := fun w' => w'.cell? ⟨po, 0, none⟩ = some (.bool sa) ∧ w'.cell? ⟨po, 1, none⟩ = some (.slice Ba (dl ab.num.natAbs) fa) ∧ w'.cell? ⟨po, 2, none⟩ = some (.slice Bb (dl ab.den) fb) ∧ w'.cell? ⟨pu, 0, none⟩ = some (.bool false) ∧ w'.cell? ⟨pu, 1, none⟩ = some (.slice Bu (dl un.num.natAbs) fu) ∧ w'.cell? ⟨pu, 2, none⟩ = some (.slice Bw (dl un.den) fw)) (by kernel_rfl) ?_ (fun hHeld => ?_)
    · (refine ⟨(?_ : At _ po [.bool sa, .slice Ba (dl ab.num.natAbs) fa, .slice Bb (dl ab.den) fb]).c0, (?_ : At _ po [.bool sa, .slice Ba (dl ab.num.natAbs) fa, .slice Bb (dl ab.den) fb]).c1, (?_ : At _ po [.bool sa, .slice Ba (dl ab.num.natAbs) fa, .slice Bb (dl ab.den) fb]).c2, (?_ : At _ pu [.bool false, .slice Bu (dl un.num.natAbs) fu, .slice Bw (dl un.den) fw]).c0, (?_ : At _ pu [.bool false, .slice Bu (dl un.num.natAbs) fu, .slice Bw (dl un.den) fw]).c1, (?_ : At _ pu [.bool false, .slice Bu (dl un.num.natAbs) fu, .slice Bw (dl un.den) fw]).c2⟩ <;> (repeat (first | with_reducible exact HO | with_reducible exact HU | (with_reducible refine At.dr ?_) | (with_reducible refine At.al ?_ _) | (with_reducible refine At.far ?_ (by omega) _))))
    (refine wpAnyH_take (i := 0) (v := ?_) rfl (by decide +kernel) (by decide +kernel) (by decide +kernel) (fun _ _ _ h => h) (Or.inl ⟨by rfl, ?_⟩) (by assumption) ?_; rotate_left; (focus ((intro w hSw; (try dsimp only at hSw); go_simp); (try (with_reducible rfl)); done)); (try simp only [List.getElem_toArray, List.getElem_cons_zero, List.getElem_cons_succ, Act.put, List.setIfInBounds_toArray, List.set_cons_zero, List.set_cons_succ]))
    (refine wpAnyH_take (i := 1) (v := ?_) rfl (by decide +kernel) (by decide +kernel) (by decide +kernel) (fun _ _ _ h => h) (Or.inl ⟨by rfl, ?_⟩) (by assumption) ?_; rotate_left; (focus ((intro w hSw; (try dsimp only at hSw); go_simp); (try (with_reducible rfl)); done)); (try simp only [List.getElem_toArray, List.getElem_cons_zero, List.getElem_cons_succ, Act.put, List.setIfInBounds_toArray, List.set_cons_zero, List.set_cons_succ]))
    (refine wpAnyH_ready (rs := [2]) (by decide +kernel) (by simp) ?_; refine AllReadyH.cons rfl (fun K hK => ?_) AllReadyH.nil; go_simp; (first | (go_at_call 68; (with_reducible refine (CC1.out _ _ _ _ _ _ _ _ _ za.dr na.dr zu.dr nu.dr).mono ?_); rintro e x1 ⟨rfl, hbk⟩; (with_reducible (replace HB := HB.dr.up hbk; replace HA := HA.dr.up hbk; replace HD := HD.dr.up hbk; replace HU := HU.dr.up hbk; replace HO := HO.dr.up hbk; replace nv := nv.dr.up hbk; replace zu := zu.dr.up hbk; replace nu := nu.dr.up hbk; replace za := za.dr.up hbk; replace na := na.dr.up hbk))) | fail); (try (go_wp2_with fail)); refine hK.out _ _ ?_ (fun hHeld => ?_); (focus ((try dsimp only); (refine ⟨(?_ : At _ po [.bool sa, .slice Ba (dl ab.num.natAbs) fa, .slice Bb (dl ab.den) fb]).c0, (?_ : At _ po [.bool sa, .slice Ba (dl ab.num.natAbs) fa, .slice Bb (dl ab.den) fb]).c1, (?_ : At _ po [.bool sa, .slice Ba (dl ab.num.natAbs) fa, .slice Bb (dl ab.den) fb]).c2, (?_ : At _ pu [.bool false, .slice Bu (dl un.num.natAbs) fu, .slice Bw (dl un.den) fw]).c0, (?_ : At _ pu [.bool false, .slice Bu (dl un.num.natAbs) fu, .slice Bw (dl un.den) fw]).c1, (?_ : At _ pu [.bool false, .slice Bu (dl un.num.natAbs) fu, .slice Bw (dl un.den) fw]).c2⟩ <;> (repeat (first | with_reducible exact HO | with_reducible exact HU | (with_reducible refine At.dr ?_) | (with_reducible refine At.al ?_ _) | (with_reducible refine At.far ?_ (by omega) _)))))); clear hK K; (try simp only [List.getElem_toArray, List.getElem_cons_zero, List.getElem_cons_succ, Act.put, List.setIfInBounds_toArray, List.set_cons_zero, List.set_cons_succ]))
    (refine wpAnyH_take (i := 3) (v := ?_) rfl (by decide +kernel) (by decide +kernel) (by decide +kernel) (fun _ _ _ h => h) (Or.inl ⟨by rfl, ?_⟩) (by assumption) ?_; rotate_left; (focus ((intro w hSw; (try dsimp only at hSw); go_simp); (try (with_reducible rfl)); done)); (try simp only [List.getElem_toArray, List.getElem_cons_zero, List.getElem_cons_succ, Act.put, List.setIfInBounds_toArray, List.set_cons_zero, List.set_cons_succ]))
    (refine wpAnyH_take (i := 4) (v := ?_) rfl (by decide +kernel) (by decide +kernel) (by decide +kernel) (fun _ _ _ h => h) (Or.inl ⟨by rfl, ?_⟩) (by assumption) ?_; rotate_left; (focus ((intro w hSw; (try dsimp only at hSw); go_simp); (try (with_reducible rfl)); done)); (try simp only [List.getElem_toArray, List.getElem_cons_zero, List.getElem_cons_succ, Act.put, List.setIfInBounds_toArray, List.set_cons_zero, List.set_cons_succ]))
    (refine wpAnyH_take (i := 5) (v := ?_) rfl (by decide +kernel) (by decide +kernel) (by decide +kernel) (fun _ _ _ h => h) (Or.inl ⟨by rfl, ?_⟩) (by assumption) ?_; rotate_left; (focus ((intro w hSw; (try dsimp only at hSw); go_simp); (try (with_reducible rfl)); done)); (try simp only [List.getElem_toArray, List.getElem_cons_zero, List.getElem_cons_succ, Act.put, List.setIfInBounds_toArray, List.set_cons_zero, List.set_cons_succ]))
    (refine wpAnyH_take (i := 6) (v := ?_) rfl (by decide +kernel) (by decide +kernel) (by decide +kernel) (fun _ _ _ h => h) (Or.inl ⟨by rfl, ?_⟩) (by assumption) ?_; rotate_left; (focus ((intro w hSw; (try dsimp only at hSw); go_simp); (try (with_reducible rfl)); done)); (try simp only [List.getElem_toArray, List.getElem_cons_zero, List.getElem_cons_succ, Act.put, List.setIfInBounds_toArray, List.set_cons_zero, List.set_cons_succ]))
    (refine wpAnyH_take (i := 7) (v := ?_) rfl (by decide +kernel) (by decide +kernel) (by decide +kernel) (fun _ _ _ h => h) (Or.inl ⟨by rfl, ?_⟩) (by assumption) ?_; rotate_left; (focus ((intro w hSw; (try dsimp only at hSw); go_simp); (try (with_reducible rfl)); done)); (try simp only [List.getElem_toArray, List.getElem_cons_zero, List.getElem_cons_succ, Act.put, List.setIfInBounds_toArray, List.set_cons_zero, List.set_cons_succ]))
    (refine wpAnyH_take (i := 8) (v := undef) rfl (by decide +kernel) (by decide +kernel) (by decide +kernel) (fun _ _ _ h => h) (Or.inr ⟨by rfl, rfl⟩) (by assumption) ?_; (try simp only [List.getElem_toArray, List.getElem_cons_zero, List.getElem_cons_succ, Act.put, List.setIfInBounds_toArray, List.set_cons_zero, List.set_cons_succ]))
    (refine wpAnyH_take (i := 9) (v := undef) rfl (by decide +kernel) (by decide +kernel) (by decide +kernel) (fun _ _ _ h => h) (Or.inr ⟨by rfl, rfl⟩) (by assumption) ?_; (try simp only [List.getElem_toArray, List.getElem_cons_zero, List.getElem_cons_succ, Act.put, List.setIfInBounds_toArray, List.set_cons_zero, List.set_cons_succ]))
    (refine wpAnyH_take (i := 10) (v := undef) rfl (by decide +kernel) (by decide +kernel) (by decide +kernel) (fun _ _ _ h => h) (Or.inr ⟨by rfl, rfl⟩) (by assumption) ?_; (try simp only [List.getElem_toArray, List.getElem_cons_zero, List.getElem_cons_succ, Act.put, List.setIfInBounds_toArray, List.set_cons_zero, List.set_cons_succ]))
    (refine wpAnyH_take (i := 11) (v := undef) rfl (by decide +kernel) (by decide +kernel) (by decide +kernel) (fun _ _ _ h => h) (Or.inr ⟨by rfl, rfl⟩) (by assumption) ?_; (try simp only [List.getElem_toArray, List.getElem_cons_zero, List.getElem_cons_succ, Act.put, List.setIfInBounds_toArray, List.set_cons_zero, List.set_cons_succ]))
    (refine wpAnyH_take (i := 12) (v := undef) rfl (by decide +kernel) (by decide +kernel) (by decide +kernel) (fun _ _ _ h => h) (Or.inr ⟨by rfl, rfl⟩) (by assumption) ?_; (try simp only [List.getElem_toArray, List.getElem_cons_zero, List.getElem_cons_succ, Act.put, List.setIfInBounds_toArray, List.set_cons_zero, List.set_cons_succ]))
    (refine wpAnyH_take (i := 13) (v := undef) rfl (by decide +kernel) (by decide +kernel) (by decide +kernel) (fun _ _ _ h => h) (Or.inr ⟨by rfl, rfl⟩) (by assumption) ?_; (try simp only [List.getElem_toArray, List.getElem_cons_zero, List.getElem_cons_succ, Act.put, List.setIfInBounds_toArray, List.set_cons_zero, List.set_cons_succ]))
    (refine wpAnyH_take (i := 14) (v := ?_) rfl (by decide +kernel) (by decide +kernel) (by decide +kernel) (fun _ _ _ h => h) (Or.inl ⟨by rfl, ?_⟩) (by assumption) ?_; rotate_left; (focus ((intro w hSw; (try dsimp only at hSw); go_simp); (try (with_reducible rfl)); done)); (try simp only [List.getElem_toArray, List.getElem_cons_zero, List.getElem_cons_succ, Act.put, List.setIfInBounds_toArray, List.set_cons_zero, List.set_cons_succ]))
    (refine wpAnyH_take (i := 15) (v := ?_) rfl (by decide +kernel) (by decide +kernel) (by decide +kernel) (fun _ _ _ h => h) (Or.inl ⟨by rfl, ?_⟩) (by assumption) ?_; rotate_left; (focus ((intro w hSw; (try dsimp only at hSw); go_simp); (try (with_reducible rfl)); done)); (try simp only [List.getElem_toArray, List.getElem_cons_zero, List.getElem_cons_succ, Act.put, List.setIfInBounds_toArray, List.set_cons_zero, List.set_cons_succ]))
    refine wpAnyH_done (by decide +kernel) ?_ _
    have hd_0 := HD.c0
    have hd_1 := HD.c1
    have hd_2 := HD.c2
    have hd_l := HD.lt
    go_wp2_with (first | (go_at_call 65; (with_reducible refine (CR.out _ _ _ nv).mono ?_); rintro e y1 ⟨B1, f1, B3, f3, rfl, z1, n1, hbk⟩; (with_reducible (replace HB := HB.up hbk; replace HD := HD.up hbk; replace nv := nv.up hbk)); clear hd_0 hd_1 hd_2 hd_l; have hd_0 := HD.c0; have hd_1 := HD.c1; have hd_2 := HD.c2; have hd_l := HD.lt) | (go_at_call 57; (with_reducible refine (CT2.out _ _ _ _ _ z1 n1).mono ?_); rintro e y2 ⟨Bg, fg, rfl, ng, hbk⟩; (with_reducible (replace HB := HB.up hbk; replace HD := HD.up hbk; replace nv := nv.up hbk)); clear hd_0 hd_1 hd_2 hd_l; have hd_0 := HD.c0; have hd_1 := HD.c1; have hd_2 := HD.c2; have hd_l := HD.lt) | fail)
    obtain ⟨W3, hW3⟩ : ∃ X, X = y2.alloc (.cells #[.bool st, .slice Bg (dl v) fg, .int .i64 (s : Int)] 76) := ⟨_, rfl⟩
    rw [← hW3]
    obtain ⟨pg, hpg⟩ : ∃ p, p = y2.heap.size := ⟨_, rfl⟩
    rw [← hpg]
    have HG : At W3 pg [.bool st, .slice Bg (dl v) fg, .int .i64 (s : Int)] := by rw [hW3, hpg]; exact at_new0 _ _ _
    replace HD : At W3 pd [.bool st, .slice Bv (dl v) fv, .int .i64 (s : Int)] := by rw [hW3]; exact HD.al _
    replace HB : Bel w W3 := by rw [hW3]; exact HB.al _
    replace nv : Nm W3 Bv (dl v) fv v := by rw [hW3]; exact nv.al _
    replace ng : Nm W3 Bg (dl v) fg v := by rw [hW3]; exact ng.al _
    clear hW3 hpg hd_0 hd_1 hd_2 hd_l
    have l2 := HD.lt
    have l3 := HG.lt
    refine wp_region_held_drew (S := fun w' => w'.cell? ⟨pg, 0, none⟩ = some (.bool st) ∧ w'.cell? ⟨pg, 1, none⟩ = some (.slice Bg (dl v) fg) ∧ w'.cell? ⟨pg, 2, none⟩ = some (.int .i64 (s : Int)) ∧ w'.cell? ⟨pd, 0, none⟩ = some (.bool st) ∧ w'.cell? ⟨pd, 1, none⟩ = some (.slice Bv (dl v) fv) ∧ w'.cell? ⟨pd, 2, none⟩ = some (.int .i64 (s : Int))) (by kernel_rfl) ?_ (fun hHeld => ?_)
    · (refine ⟨(?_ : At _ pg [.bool st, .slice Bg (dl v) fg, .int .i64 (s : Int)]).c0, (?_ : At _ pg [.bool st, .slice Bg (dl v) fg, .int .i64 (s : Int)]).c1, (?_ : At _ pg [.bool st, .slice Bg (dl v) fg, .int .i64 (s : Int)]).c2, (?_ : At _ pd [.bool st, .slice Bv (dl v) fv, .int .i64 (s : Int)]).c0, (?_ : At _ pd [.bool st, .slice Bv (dl v) fv, .int .i64 (s : Int)]).c1, (?_ : At _ pd [.bool st, .slice Bv (dl v) fv, .int .i64 (s : Int)]).c2⟩ <;> (repeat (first | with_reducible exact HG | with_reducible exact HD | (with_reducible refine At.dr ?_) | (with_reducible refine At.al ?_ _) | (with_reducible refine At.far ?_ (by omega) _))))
    (refine wpAnyH_take (i := 0) (v := ?_) rfl (by decide +kernel) (by decide +kernel) (by decide +kernel) (fun _ _ _ h => h) (Or.inl ⟨by rfl, ?_⟩) (by assumption) ?_; rotate_left; (focus ((intro w hSw; (try dsimp only at hSw); go_simp); (try (with_reducible rfl)); done)); (try simp only [List.getElem_toArray, List.getElem_cons_zero, List.getElem_cons_succ, Act.put, List.setIfInBounds_toArray, List.set_cons_zero, List.set_cons_succ]))
    (refine wpAnyH_take (i := 1) (v := ?_) rfl (by decide +kernel) (by decide +kernel) (by decide +kernel) (fun _ _ _ h => h) (Or.inl ⟨by rfl, ?_⟩) (by assumption) ?_; rotate_left; (focus ((intro w hSw; (try dsimp only at hSw); go_simp); (try (with_reducible rfl)); done)); (try simp only [List.getElem_toArray, List.getElem_cons_zero, List.getElem_cons_succ, Act.put, List.setIfInBounds_toArray, List.set_cons_zero, List.set_cons_succ]))
    (refine wpAnyH_take (i := 2) (v := ?_) rfl (by decide +kernel) (by decide +kernel) (by decide +kernel) (fun _ _ _ h => h) (Or.inl ⟨by rfl, ?_⟩) (by assumption) ?_; rotate_left; (focus ((intro w hSw; (try dsimp only at hSw); go_simp); (try (with_reducible rfl)); done)); (try simp only [List.getElem_toArray, List.getElem_cons_zero, List.getElem_cons_succ, Act.put, List.setIfInBounds_toArray, List.set_cons_zero, List.set_cons_succ]))
    (refine wpAnyH_take (i := 3) (v := ?_) rfl (by decide +kernel) (by decide +kernel) (by decide +kernel) (fun _ _ _ h => h) (Or.inl ⟨by rfl, ?_⟩) (by assumption) ?_; rotate_left; (focus ((intro w hSw; (try dsimp only at hSw); go_simp); (try (with_reducible rfl)); done)); (try simp only [List.getElem_toArray, List.getElem_cons_zero, List.getElem_cons_succ, Act.put, List.setIfInBounds_toArray, List.set_cons_zero, List.set_cons_succ]))
    (refine wpAnyH_take (i := 5) (v := ?_) rfl (by decide +kernel) (by decide +kernel) (by decide +kernel) (fun _ _ _ h => h) (Or.inl ⟨by rfl, ?_⟩) (by assumption) ?_; rotate_left; (focus ((intro w hSw; (try dsimp only at hSw); go_simp); (try (with_reducible rfl)); done)); (try simp only [List.getElem_toArray, List.getElem_cons_zero, List.getElem_cons_succ, Act.put, List.setIfInBounds_toArray, List.set_cons_zero, List.set_cons_succ]))
    (refine wpAnyH_ready (rs := [4]) (by decide +kernel) (by simp) ?_; refine AllReadyH.cons rfl (fun K hK => ?_) AllReadyH.nil; go_simp; (first | (go_at_call 65; (with_reducible refine (CR.out _ _ _ ng.dr).mono ?_); rintro e q1 ⟨B4, f4, B5, f5, rfl, z4, n4, hbk⟩; (with_reducible (replace HB := HB.dr.up hbk; replace HD := HD.dr.up hbk; replace HG := HG.dr.up hbk; replace nv := nv.dr.up hbk))) | (go_at_call 65; (with_reducible refine (CR.out _ _ _ nv).mono ?_); rintro e q2 ⟨B6, f6, B7, f7, rfl, z6, n6, hbk⟩; (with_reducible (replace HB := HB.up hbk; replace HD := HD.up hbk; replace HG := HG.up hbk; replace nv := nv.up hbk; replace z4 := z4.up hbk; replace n4 := n4.up hbk))) | (go_at_call 68; (with_reducible refine (CC3.out _ _ _ _ _ _ _ _ _ z4 n4 z6 n6).mono ?_); rintro e q3 ⟨rfl, hbk⟩; (with_reducible (replace HB := HB.up hbk; replace HD := HD.up hbk; replace HG := HG.up hbk))) | fail); (try (go_wp2_with fail)); refine hK.out _ _ ?_ (fun hHeld => ?_); (focus ((try dsimp only); (refine ⟨(?_ : At _ pg [.bool st, .slice Bg (dl v) fg, .int .i64 (s : Int)]).c0, (?_ : At _ pg [.bool st, .slice Bg (dl v) fg, .int .i64 (s : Int)]).c1, (?_ : At _ pg [.bool st, .slice Bg (dl v) fg, .int .i64 (s : Int)]).c2, (?_ : At _ pd [.bool st, .slice Bv (dl v) fv, .int .i64 (s : Int)]).c0, (?_ : At _ pd [.bool st, .slice Bv (dl v) fv, .int .i64 (s : Int)]).c1, (?_ : At _ pd [.bool st, .slice Bv (dl v) fv, .int .i64 (s : Int)]).c2⟩ <;> (repeat (first | with_reducible exact HG | with_reducible exact HD | (with_reducible refine At.dr ?_) | (with_reducible refine At.al ?_ _) | (with_reducible refine At.far ?_ (by omega) _)))))); clear hK K; (try simp only [List.getElem_toArray, List.getElem_cons_zero, List.getElem_cons_succ, Act.put, List.setIfInBounds_toArray, List.set_cons_zero, List.set_cons_succ]))
    (refine wpAnyH_ready (rs := [6]) (by decide +kernel) (by simp) ?_; refine AllReadyH.cons rfl (fun K hK => ?_) AllReadyH.nil; go_simp; (first | (go_at_call 65; (with_reducible refine (CR.out _ _ _ ng.dr).mono ?_); rintro e q1 ⟨B4, f4, B5, f5, rfl, z4, n4, hbk⟩; (with_reducible (replace HB := HB.dr.up hbk; replace HD := HD.dr.up hbk; replace HG := HG.dr.up hbk; replace nv := nv.dr.up hbk))) | (go_at_call 65; (with_reducible refine (CR.out _ _ _ nv).mono ?_); rintro e q2 ⟨B6, f6, B7, f7, rfl, z6, n6, hbk⟩; (with_reducible (replace HB := HB.up hbk; replace HD := HD.up hbk; replace HG := HG.up hbk; replace nv := nv.up hbk; replace z4 := z4.up hbk; replace n4 := n4.up hbk))) | (go_at_call 68; (with_reducible refine (CC3.out _ _ _ _ _ _ _ _ _ z4 n4 z6 n6).mono ?_); rintro e q3 ⟨rfl, hbk⟩; (with_reducible (replace HB := HB.up hbk; replace HD := HD.up hbk; replace HG := HG.up hbk))) | fail); (try (go_wp2_with fail)); refine hK.out _ _ ?_ (fun hHeld => ?_); (focus ((try dsimp only); (refine ⟨(?_ : At _ pg [.bool st, .slice Bg (dl v) fg, .int .i64 (s : Int)]).c0, (?_ : At _ pg [.bool st, .slice Bg (dl v) fg, .int .i64 (s : Int)]).c1, (?_ : At _ pg [.bool st, .slice Bg (dl v) fg, .int .i64 (s : Int)]).c2, (?_ : At _ pd [.bool st, .slice Bv (dl v) fv, .int .i64 (s : Int)]).c0, (?_ : At _ pd [.bool st, .slice Bv (dl v) fv, .int .i64 (s : Int)]).c1, (?_ : At _ pd [.bool st, .slice Bv (dl v) fv, .int .i64 (s : Int)]).c2⟩ <;> (repeat (first | with_reducible exact HG | with_reducible exact HD | (with_reducible refine At.dr ?_) | (with_reducible refine At.al ?_ _) | (with_reducible refine At.far ?_ (by omega) _)))))); clear hK K; (try simp only [List.getElem_toArray, List.getElem_cons_zero, List.getElem_cons_succ, Act.put, List.setIfInBounds_toArray, List.set_cons_zero, List.set_cons_succ]))
    (refine wpAnyH_ready (rs := [7]) (by decide +kernel) (by simp) ?_; refine AllReadyH.cons rfl (fun K hK => ?_) AllReadyH.nil; go_simp; (first | (go_at_call 65; (with_reducible refine (CR.out _ _ _ ng.dr).mono ?_); rintro e q1 ⟨B4, f4, B5, f5, rfl, z4, n4, hbk⟩; (with_reducible (replace HB := HB.dr.up hbk; replace HD := HD.dr.up hbk; replace HG := HG.dr.up hbk; replace nv := nv.dr.up hbk))) | (go_at_call 65; (with_reducible refine (CR.out _ _ _ nv).mono ?_); rintro e q2 ⟨B6, f6, B7, f7, rfl, z6, n6, hbk⟩; (with_reducible (replace HB := HB.up hbk; replace HD := HD.up hbk; replace HG := HG.up hbk; replace nv := nv.up hbk; replace z4 := z4.up hbk; replace n4 := n4.up hbk))) | (go_at_call 68; (with_reducible refine (CC3.out _ _ _ _ _ _ _ _ _ z4 n4 z6 n6).mono ?_); rintro e q3 ⟨rfl, hbk⟩; (with_reducible (replace HB := HB.up hbk; replace HD := HD.up hbk; replace HG := HG.up hbk))) | fail); (try (go_wp2_with fail)); refine hK.out _ _ ?_ (fun hHeld => ?_); (focus ((try dsimp only); (refine ⟨(?_ : At _ pg [.bool st, .slice Bg (dl v) fg, .int .i64 (s : Int)]).c0, (?_ : At _ pg [.bool st, .slice Bg (dl v) fg, .int .i64 (s : Int)]).c1, (?_ : At _ pg [.bool st, .slice Bg (dl v) fg, .int .i64 (s : Int)]).c2, (?_ : At _ pd [.bool st, .slice Bv (dl v) fv, .int .i64 (s : Int)]).c0, (?_ : At _ pd [.bool st, .slice Bv (dl v) fv, .int .i64 (s : Int)]).c1, (?_ : At _ pd [.bool st, .slice Bv (dl v) fv, .int .i64 (s : Int)]).c2⟩ <;> (repeat (first | with_reducible exact HG | with_reducible exact HD | (with_reducible refine At.dr ?_) | (with_reducible refine At.al ?_ _) | (with_reducible refine At.far ?_ (by omega) _)))))); clear hK K; (try simp only [List.getElem_toArray, List.getElem_cons_zero, List.getElem_cons_succ, Act.put, List.setIfInBounds_toArray, List.set_cons_zero, List.set_cons_succ]))
    (refine wpAnyH_take (i := 8) (v := ?_) rfl (by decide +kernel) (by decide +kernel) (by decide +kernel) (fun _ _ _ h => h) (Or.inl ⟨by rfl, ?_⟩) (by assumption) ?_; rotate_left; (focus ((intro w hSw; (try dsimp only at hSw); go_simp); (try (with_reducible rfl)); done)); (try simp only [List.getElem_toArray, List.getElem_cons_zero, List.getElem_cons_succ, Act.put, List.setIfInBounds_toArray, List.set_cons_zero, List.set_cons_succ]))
    (refine wpAnyH_take (i := 9) (v := ?_) rfl (by decide +kernel) (by decide +kernel) (by decide +kernel) (fun _ _ _ h => h) (Or.inl ⟨by rfl, ?_⟩) (by assumption) ?_; rotate_left; (focus ((intro w hSw; (try dsimp only at hSw); go_simp); (try (with_reducible rfl)); done)); (try simp only [List.getElem_toArray, List.getElem_cons_zero, List.getElem_cons_succ, Act.put, List.setIfInBounds_toArray, List.set_cons_zero, List.set_cons_succ]))
    (refine wpAnyH_take (i := 10) (v := ?_) rfl (by decide +kernel) (by decide +kernel) (by decide +kernel) (fun _ _ _ h => h) (Or.inl ⟨by rfl, ?_⟩) (by assumption) ?_; rotate_left; (focus ((intro w hSw; (try dsimp only at hSw); go_simp); (try (with_reducible rfl)); done)); (try simp only [List.getElem_toArray, List.getElem_cons_zero, List.getElem_cons_succ, Act.put, List.setIfInBounds_toArray, List.set_cons_zero, List.set_cons_succ]))
    refine wpAnyH_done (by decide +kernel) ?_ _
    go_wp2
    go_ret
    exact ⟨rfl, HB⟩
end
end Go.Proofs.YteieelgdiccppaaDoor
