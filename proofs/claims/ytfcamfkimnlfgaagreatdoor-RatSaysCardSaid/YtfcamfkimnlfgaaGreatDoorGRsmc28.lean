/- Several texts in one, each with its own sentence and conditions. -/
import Derived.Test.YtfcamfkimnlfgaaGreatDoorGRsmc21
import Derived.Test.YtfcamfkimnlfgaaGreatDoorZgl
import Derived.Test.YtfcamfkimnlfgaaGreatDoorQe
import Derived.Test.YtfcamfkimnlfgaaGreatDoorQf
import Derived.Test.YtfcamfkimnlfgaaGreatDoorGRsmc16
section
/- Package rat: Int, Floor. -/
open Go.RowKit
set_option maxRecDepth 100000
namespace Go.Proofs.YtfcamfkimnlfgaaGreatDoor
section
variable {W : World} {b b' : Bool} {A A' : Option Addr} {n n' c c' m m' : Nat} {z z' : Int} {r : Rat} {K : Nat}
set_option maxHeartbeats 2000000 in
theorem int_h {k : Int} (h1 : -9223372036854775808 ≤ k) (h2 : k ≤ 9223372036854775807) : Calls Tryz.prog 159 #[.int .i64 k] W (QR W (k : Rat)) := by
  have CO : Hid (∀ W', Calls Tryz.prog 156 #[.int .i64 k] W' (ZR W' k)) := fun W' => zof_h h1 h2
  have C1 : Hid (∀ W', Calls Tryz.prog 77 #[.int .u64 1] W' (NumR W' 1)) := fun W' => of_h (v := 1) (by omega)
  have HB := Bel.refl W
  go_enter Tryz.func159, Tryz.ntmps159
  go_wp2_with (first | (go_at_call 156; (with_reducible refine (CO.out _).mono ?_); rintro e w1 ⟨B, e1, rfl, nz, hbk⟩; have HR := At.up (at_new0 _ _ _) hbk; replace HB := (HB.al _).up hbk) | (go_at_call 77; (with_reducible refine (C1.out _).mono ?_); rintro e w2 ⟨B', e2, rfl, nd, hbk⟩; replace HB := HB.up hbk; replace HR := HR.up hbk; replace nz := nz.up hbk; have hr_0 := HR.c0; have hr_1 := HR.c1; have hr_2 := HR.c2; have hr_l := HR.lt; have hr_f0 := HR.f0; have hr_f1 := HR.f1; have hr_f2 := HR.f2) | fail)
  refine bodyPost_ret (v := .agg #[.bool (decide (k < 0)), .slice B (dl k.natAbs) e1, .slice B' (dl 1) e2]) (by simp [results, Tryz.results159, go_sem, hr_0, hr_1, hr_2]) rfl ?_
  exact ⟨B, e1, B', e2, rfl, zr_of (nz.1.put3 HR now3), nd.put3 HR now3, below3 HB (Nat.le_refl _) _ _ _⟩
set_option maxHeartbeats 2000000 in
theorem floor_h {v : Int} (h : QA W b A n c A' n' c' r K) (hK : 0 < K) (hK2 : K ≤ 20000) (hv : r.floor = v) : Calls Tryz.prog 29 #[.agg #[.bool b, .slice A n c, .slice A' n' c']] W (ZR W v) := by
  have CT : Hid (∀ W', Bel W W' → Calls Tryz.prog 74 #[.agg #[.bool b, .slice A n c, .slice A' n' c']] W' (TermsR W' r K)) := fun W' hb => terms_h (h.up hb) hK
  have CD : Hid (∀ W' s B k e B' k' e' z d, ZA W' s B k e z → Nm W' B' k' e' d → Hid (0 < d ∧ mkRat z d = r ∧ z.natAbs < W32 ^ K ∧ d < W32 ^ K) → ∃ rm, Calls Tryz.prog 99 #[.agg #[.bool s, .slice B k e], .agg #[.bool false, .slice B' k' e']] W' (ZDivR W' v rm)) := fun W' s B k e B' k' e' z d hz hd hp => by
    refine ⟨z % (d : Int), zdiv_h hz (za_of (b := false) hd) (by have := hp.out.1; rw [zi_false]; omega) (Nat.le_trans (dl_le hp.out.2.2.1) (by omega)) ?_ (by rw [zi_false])⟩
    rw [zi_false, ← hv, ← hp.out.2.1, floor_mk hp.out.1]
  clear h hv
  have HB := Bel.refl W
  go_enter Tryz.func29, Tryz.ntmps29
  go_wp2_with (first | (go_at_call 74; (with_reducible refine (CT.out _ ((HB.al _).al _)).mono ?_); rintro e w1 ⟨s, B, k, e1, B', k', e2, zv, d, rfl, zp, np, hp, hbk⟩; have HR := At.up (at_new1 _ _ _ _) hbk; replace HB := ((HB.al _).al _).up hbk; have HR0 := HR) | (go_at_call 99; obtain ⟨rm, CDv⟩ := CD.out _ _ _ _ _ _ _ _ _ _ ((zp.al _).al _) ((np.al _).al _) hp; (with_reducible refine (CDv).mono ?_); rintro e w2 ⟨Bq, eq, Br, er, rfl, zq, zr, hbk⟩; replace HB := ((HB.al _).al _).up hbk; replace HR := ((HR.al _).al _).up hbk; have hr_0 := HR.c0; have hr_1 := HR.c1; have hr_l := HR.lt; have hr_f0 := HR.f0; have hr_f1 := HR.f1; have hr_l2 : W.heap.size < w2.heap.size := by omega) | fail)
  refine bodyPost_ret (v := .agg #[.bool (decide (v < 0)), .slice Bq (dl v.natAbs) eq]) (by simp [results, Tryz.results29, go_sem, hr_0, hr_1, hr_l, hr_l2]) rfl ?_
  exact ((ret_z HB (by omega) HR now2 zq).al _).al _
end
end Go.Proofs.YtfcamfkimnlfgaaGreatDoor
end

section
/- Package rat: Neg, Add. -/
open Go.RowKit
set_option maxRecDepth 100000
namespace Go.Proofs.YtfcamfkimnlfgaaGreatDoor
section
variable {W : World} {b b' s s' : Bool} {A A' B B' : Option Addr} {n n' c c' m m' k k' e e' : Nat} {z z' : Int} {r r' : Rat} {K L d d' : Nat}
set_option maxHeartbeats 2000000 in
theorem rneg_h (h : QA W b A n c A' n' c' r K) (hK : 0 < K) (hK2 : K ≤ 20000) : Calls Tryz.prog 22 #[.agg #[.bool b, .slice A n c, .slice A' n' c']] W (QR W (-r)) := by
  have CT : Hid (∀ W', Bel W W' → Calls Tryz.prog 74 #[.agg #[.bool b, .slice A n c, .slice A' n' c']] W' (TermsR W' r K)) := fun W' hb => terms_h (h.up hb) hK
  have CN : Hid (∀ W' s B k e z v, ZA W' s B k e z → Hid (v = -z) → Calls Tryz.prog 91 #[.agg #[.bool s, .slice B k e]] W' (ZR W' v)) := fun W' s B k e z v hz hv => zneg_h hz hv.out.symm
  have CL : Hid (∀ W' s B k e B' k' e' z d v, ZA W' s B k e v → Hid (v = -z) → Nm W' B' k' e' d → Hid (TT z d r K) → Calls Tryz.prog 81 #[.agg #[.bool s, .slice B k e], .agg #[.slice B' k' e']] W' (QR W' (-r))) := fun W' s B k e B' k' e' z d v hz hv hd ht => lowest_t (show ZA W' s B k e (-z) by rw [← hv.out]; exact hz) hd (tt_neg ht.out) (by omega) (by omega)
  clear h
  have HB := Bel.refl W
  go_enter Tryz.func22, Tryz.ntmps22
  go_wp2_with (first | (go_at_call 74; (with_reducible refine (CT.out _ ((HB.al _).al _)).mono ?_); rintro e w1 ⟨ps, pA, pn, pc, pB, pm, pe, pz, pd, rfl, pzz, pnn, ph, hbk⟩; have HR := At.up (at_new1 _ _ _ _) hbk; replace HB := ((HB.al _).al _).up hbk; replace ph : Hid (TT pz pd r K) := ph; have hLR := HR.lt) | fail)
  go_region_held3 (fun w' => w'.cell? ⟨w1.heap.size, 0, none⟩ = some (.bool ps) ∧ w'.cell? ⟨w1.heap.size, 1, none⟩ = some (.slice pA pn pc) ∧ w'.cell? ⟨w1.heap.size + 1, 0, none⟩ = some (.slice pB pm pe))
    (first | exact ⟨((at_new0 _ _ _).al _).dr.c0, ((at_new0 _ _ _).al _).dr.c1, (at_new1 _ _ _ _).dr.c0⟩ | exact ⟨HP.c0, HP.c1, HN.c0⟩ | exact ⟨(((HP.far (by omega) _).far (by omega) _).far (by omega) _).c0, (((HP.far (by omega) _).far (by omega) _).far (by omega) _).c1, (((HN.far (by omega) _).far (by omega) _).far (by omega) _).c0⟩)
    (first | (go_at_call 91; obtain ⟨nv, hnv⟩ : ∃ v : Int, Hid (v = -pz) := ⟨_, rfl⟩; (with_reducible refine (CN.out _ _ _ _ _ _ nv ((pzz.al _).al _).dr hnv).mono ?_); rintro e w2 ⟨nA, nc, rfl, nzz, hbk⟩; have HP := At.up ((at_new0 _ _ _).al _).dr hbk; have HN := At.up (at_new1 _ _ _ _).dr hbk; replace HB := ((HB.al _).al _).dr.up hbk; replace HR := ((HR.al _).al _).dr.up hbk; replace pnn := ((pnn.al _).al _).dr.up hbk; have hL := HP.lt; have hL1 := HN.lt) | (go_at_call 81; (with_reducible refine (CL.out _ _ _ _ _ _ _ _ _ _ _ nzz hnv pnn ph).mono ?_); rintro e w3 ⟨B, e1, B', e2, rfl, nz, nd, hbk⟩; replace HB := HB.up hbk; replace HR := HR.up hbk; replace HP := HP.up hbk; replace HN := HN.up hbk; have hr_0 := HR.c0; have hr_1 := HR.c1; have hr_2 := HR.c2; have hr_l := HR.lt; have hr_f0 := HR.f0; have hr_f1 := HR.f1; have hr_f2 := HR.f2) | fail)
  go_wp2_with fail
  refine bodyPost_ret (v := .agg #[.bool (decide ((-r).num < 0)), .slice B (dl (-r).num.natAbs) e1, .slice B' (dl (-r).den) e2]) (by simp [results, Tryz.results22, go_sem, hr_0, hr_1, hr_2]) rfl ?_
  exact ⟨B, e1, B', e2, rfl, zr_of (nz.1.put3 HR now3), nd.put3 HR now3, below3 HB (by first | omega | simp | (simp; omega)) _ _ _⟩

set_option maxHeartbeats 4000000 in
theorem radd_h (h : QA W b A n c A' n' c' r K) (h' : QA W b' B k e B' k' e' r' K) (hK : 0 < K) (hK2 : K ≤ 20000) : Calls Tryz.prog 24 #[.agg #[.bool b, .slice A n c, .slice A' n' c'], .agg #[.bool b', .slice B k e, .slice B' k' e']] W (QR W (r + r')) := by
  have CTa : Hid (∀ W', Bel W W' → Calls Tryz.prog 74 #[.agg #[.bool b, .slice A n c, .slice A' n' c']] W' (TermsR W' r K)) := fun W' hb => terms_h (h.up hb) hK
  have CTb : Hid (∀ W', Bel W W' → Calls Tryz.prog 74 #[.agg #[.bool b', .slice B k e, .slice B' k' e']] W' (TermsR W' r' K)) := fun W' hb => terms_h (h'.up hb) hK
  have CX : Hid (∀ W' s B k e B' k' e' (z : Int) (d : Nat) r1 r2 (z2 : Int) (d2 : Nat) (v : Int), Hid (v = z * (d : Int)) → ZA W' s B k e z → Nm W' B' k' e' d → Hid (TT z d2 r1 K) → Hid (TT z2 d r2 K) → Calls Tryz.prog 90 #[.agg #[.bool s, .slice B k e], .agg #[.slice B' k' e']] W' (ZR W' v)) := fun W' s B k e B' k' e' z d r1 r2 z2 d2 v hv hz hd h1 h2 => by rw [hv.out]; exact times_b hz hd h1.out.2.2.1 h2.out.2.2.2 (by omega)
  have CA : Hid (∀ W' s B k e s' B' k' e' (z : Int) (d : Nat) (z' : Int) (d' : Nat) (x y : Int), Hid (x = z * (d' : Int)) → Hid (y = z' * (d : Int)) → ZA W' s B k e x → ZA W' s' B' k' e' y → Hid (TT z d r K) → Hid (TT z' d' r' K) → ∀ v, Hid (v = x + y) → Calls Tryz.prog 93 #[.agg #[.bool s, .slice B k e], .agg #[.bool s', .slice B' k' e']] W' (ZR W' v)) := fun W' s B k e s' B' k' e' z d z' d' x y hx hy h1 h2 t1 t2 v hv => zadd_h h1 h2 hv.out.symm (by rw [hv.out, hx.out, hy.out]; exact Nat.le_trans (dl_bd2 (tt_add t1.out t2.out).2.2.1 (by omega)) (by omega))
  have CM : Hid (∀ W' B k e B' k' e' z d z' d', Nm W' B k e d → Nm W' B' k' e' d' → Hid (TT z d r K) → Hid (TT z' d' r' K) → Calls Tryz.prog 94 #[.agg #[.slice B k e], .agg #[.slice B' k' e']] W' (NumR W' (d * d'))) := fun W' B k e B' k' e' z d z' d' h1 h2 t1 t2 => mul_h h1 h2 rfl (Nat.le_trans (dl_bd2 (tt_add t1.out t2.out).2.2.2 (by omega)) (by omega))
  have CL : Hid (∀ W' s B k e B' k' e' (z : Int) (d : Nat) (z' : Int) (d' : Nat) (x y v : Int), Hid (x = z * (d' : Int)) → Hid (y = z' * (d : Int)) → Hid (v = x + y) → ZA W' s B k e v → Nm W' B' k' e' (d * d') → Hid (TT z d r K) → Hid (TT z' d' r' K) → Calls Tryz.prog 81 #[.agg #[.bool s, .slice B k e], .agg #[.slice B' k' e']] W' (QR W' (r + r'))) := fun W' s B k e B' k' e' z d z' d' x y v hx hy hv h1 h2 t1 t2 => lowest_t (show ZA W' s B k e (z * (d' : Int) + z' * (d : Int)) by rw [← hx.out, ← hy.out, ← hv.out]; exact h1) h2 (tt_add t1.out t2.out) (by omega) (by omega)
  clear h h'
  have HB := Bel.refl W
  go_enter Tryz.func24, Tryz.ntmps24
  go_wp2_with (first | (go_at_call 74; (with_reducible refine (CTa.out _ (((HB.al _).al _).al _)).mono ?_); rintro e w1 ⟨ps, pA, pn, pc, pB, pm, pe, pz, pd, rfl, pzz, pnn, ph, hbk⟩; have HX := At.up (((at_new0 _ _ _).al _).al _) hbk; have HY := At.up ((at_new1 _ _ _ _).al _) hbk; have HR := At.up (at_new2 _ _ _ _ _) hbk; replace HB := (((HB.al _).al _).al _).up hbk; have hy_0 := HY.c0; have hy_1 := HY.c1; have hy_2 := HY.c2; have hy_l := HY.lt; have hy2 : W.heap.size < w1.heap.size := (by omega); replace ph : Hid (TT pz pd r K) := ph; have hLR := HR.lt) | (go_at_call 74; (with_reducible refine (CTb.out _ ((HB.al _).al _)).mono ?_); rintro e w2 ⟨qs, qA, qn, qc, qB, qm, qe, qz, qd, rfl, qzz, qnn, qh, hbk⟩; have HP := At.up ((at_new0 _ _ _).al _) hbk; have HN := At.up (at_new1 _ _ _ _) hbk; replace HB := ((HB.al _).al _).up hbk; replace pzz := ((pzz.al _).al _).up hbk; replace pnn := ((pnn.al _).al _).up hbk; replace HR := ((HR.al _).al _).up hbk; clear hy_0 hy_1 hy_2 hy_l hy2; have hp_l := HP.lt; have hn_l := HN.lt; replace qh : Hid (TT qz qd r' K) := qh; have hLR2 := HR.lt) | fail)
  go_region_held3 (fun w' => w'.cell? ⟨w1.heap.size, 0, none⟩ = some (.bool ps) ∧ w'.cell? ⟨w1.heap.size, 1, none⟩ = some (.slice pA pn pc) ∧ w'.cell? ⟨w1.heap.size + 1, 0, none⟩ = some (.slice pB pm pe) ∧ w'.cell? ⟨w2.heap.size, 0, none⟩ = some (.bool qs) ∧ w'.cell? ⟨w2.heap.size, 1, none⟩ = some (.slice qA qn qc) ∧ w'.cell? ⟨w2.heap.size + 1, 0, none⟩ = some (.slice qB qm qe))
    (first | exact ⟨((HP.al _).al _).dr.c0, ((HP.al _).al _).dr.c1, ((HN.al _).al _).dr.c0, ((at_new0 _ _ _).al _).dr.c0, ((at_new0 _ _ _).al _).dr.c1, (at_new1 _ _ _ _).dr.c0⟩ | exact ⟨HP.c0, HP.c1, HN.c0, HV.c0, HV.c1, HM.c0⟩ | exact ⟨(((HP.far (by omega) _).far (by omega) _).far (by omega) _).c0, (((HP.far (by omega) _).far (by omega) _).far (by omega) _).c1, (((HN.far (by omega) _).far (by omega) _).far (by omega) _).c0, (((HV.far (by omega) _).far (by omega) _).far (by omega) _).c0, (((HV.far (by omega) _).far (by omega) _).far (by omega) _).c1, (((HM.far (by omega) _).far (by omega) _).far (by omega) _).c0⟩)
    (first | (go_at_call 90; obtain ⟨xv, hxv⟩ : ∃ v : Int, Hid (v = pz * (qd : Int)) := ⟨_, rfl⟩; (with_reducible refine (CX.out _ _ _ _ _ _ _ _ _ _ _ _ _ _ xv hxv ((pzz.al _).al _).dr ((qnn.al _).al _).dr ph qh).mono ?_); rintro e w3 ⟨xA, xc, rfl, x1, hbk⟩; have HV := At.up ((at_new0 _ _ _).al _).dr hbk; have HM := At.up (at_new1 _ _ _ _).dr hbk; replace HB := ((HB.al _).al _).dr.up hbk; replace HP := ((HP.al _).al _).dr.up hbk; replace HN := ((HN.al _).al _).dr.up hbk; replace HR := ((HR.al _).al _).dr.up hbk; replace pzz := ((pzz.al _).al _).dr.up hbk; replace pnn := ((pnn.al _).al _).dr.up hbk; replace qzz := ((qzz.al _).al _).dr.up hbk; replace qnn := ((qnn.al _).al _).dr.up hbk) | (go_at_call 90; obtain ⟨yv, hyv⟩ : ∃ v : Int, Hid (v = qz * (pd : Int)) := ⟨_, rfl⟩; (with_reducible refine (CX.out _ _ _ _ _ _ _ _ _ _ _ _ _ _ yv hyv qzz pnn qh ph).mono ?_); rintro e w4 ⟨yA, yc, rfl, y1, hbk⟩; replace HB := HB.up hbk; replace HP := HP.up hbk; replace HN := HN.up hbk; replace HR := HR.up hbk; replace HV := HV.up hbk; replace HM := HM.up hbk; replace pzz := pzz.up hbk; replace pnn := pnn.up hbk; replace qzz := qzz.up hbk; replace qnn := qnn.up hbk; replace x1 := x1.up hbk) | (go_at_call 93; obtain ⟨av, hav⟩ : ∃ v : Int, Hid (v = xv + yv) := ⟨_, rfl⟩; (with_reducible refine (CA.out _ _ _ _ _ _ _ _ _ _ _ _ _ _ _ hxv hyv x1 y1 ph qh av hav).mono ?_); rintro e w5 ⟨aA, ac, rfl, a1, hbk⟩; replace HB := HB.up hbk; replace HP := HP.up hbk; replace HN := HN.up hbk; replace HR := HR.up hbk; replace HV := HV.up hbk; replace HM := HM.up hbk; replace pnn := pnn.up hbk; replace qnn := qnn.up hbk) | (go_at_call 94; (with_reducible refine (CM.out _ _ _ _ _ _ _ _ _ _ _ pnn qnn ph qh).mono ?_); rintro e w6 ⟨mA, mc, rfl, m1, hbk⟩; replace HB := HB.up hbk; replace HP := HP.up hbk; replace HN := HN.up hbk; replace HR := HR.up hbk; replace HV := HV.up hbk; replace HM := HM.up hbk; replace a1 := a1.up hbk; have hL := HP.lt; have hL1 := HN.lt; have hL2 := HV.lt; have hL3 := HM.lt) | (go_at_call 81; (with_reducible refine (CL.out _ _ _ _ _ _ _ _ _ _ _ _ _ _ _ hxv hyv hav a1 m1 ph qh).mono ?_); rintro e w7 ⟨B, e1, B', e2, rfl, nz, nd, hbk⟩; replace HB := HB.up hbk; replace HR := HR.up hbk; replace HP := HP.up hbk; replace HN := HN.up hbk; replace HV := HV.up hbk; replace HM := HM.up hbk; have hr_0 := HR.c0; have hr_1 := HR.c1; have hr_2 := HR.c2; have hr_l := HR.lt; have hr_f0 := HR.f0; have hr_f1 := HR.f1; have hr_f2 := HR.f2) | fail)
  go_wp2_with fail
  refine bodyPost_ret (v := .agg #[.bool (decide ((r + r').num < 0)), .slice B (dl (r + r').num.natAbs) e1, .slice B' (dl (r + r').den) e2]) (by simp [results, Tryz.results24, go_sem, hr_0, hr_1, hr_2]) rfl ?_
  exact ⟨B, e1, B', e2, rfl, zr_of (nz.1.put3 HR now3), nd.put3 HR now3, below3 HB (by first | omega | simp | (simp; omega)) _ _ _⟩
end
end Go.Proofs.YtfcamfkimnlfgaaGreatDoor
end

section
/- Package rat: Text, Parse of what Text shows. -/
open Go.RowKit
set_option maxRecDepth 100000
namespace Go.Proofs.YtfcamfkimnlfgaaGreatDoor
section
variable {W : World} {b b' : Bool} {A A' : Option Addr} {n n' c c' m m' : Nat} {z z' : Int} {r : Rat} {K : Nat}
set_option maxHeartbeats 2000000 in
theorem rtext_h (h : QA W b A n c A' n' c' r K) (hK : 0 < K) (hK2 : K ≤ 9000) : Calls Tryz.prog 31 #[.agg #[.bool b, .slice A n c, .slice A' n' c']] W (TxR W (decQ r)) := by
  have HL1 : Hid ((decZ r.num).length ≤ 90002) := Nat.le_trans (decZ_bd (qa_bd h hK).1) (by omega)
  have HL2 : Hid ((decL r.den).length ≤ 90001) := Nat.le_trans (dec_bd (qa_bd h hK).2) (by omega)
  have CT : Hid (∀ W', Bel W W' → Calls Tryz.prog 74 #[.agg #[.bool b, .slice A n c, .slice A' n' c']] W' (TermsR W' r K)) := fun W' hb => terms_h (h.up hb) hK
  have CL : Hid (∀ W' s B k e B' k' e' z d, ZA W' s B k e z → Nm W' B' k' e' d → Hid (TT z d r K) → Calls Tryz.prog 81 #[.agg #[.bool s, .slice B k e], .agg #[.slice B' k' e']] W' (QR W' r)) := fun W' s B k e B' k' e' z d hz hd ht => lowest_t hz hd ht.out (by omega) (by omega)
  have CO : Hid (∀ W' B k e, Nm W' B k e r.den → Calls Tryz.prog 101 #[.agg #[.slice B k e]] W' (RetB W' (decide (r.den = 1)))) := fun W' B k e hn => rone_h hn
  have CZ : Hid (∀ W' s B k e, ZA W' s B k e r.num → Calls Tryz.prog 102 #[.agg #[.bool s, .slice B k e]] W' (TxR W' (decZ r.num))) := fun W' s B k e hz => ztext_h hz
  have CN : Hid (∀ W' B k e, Nm W' B k e r.den → Calls Tryz.prog 103 #[.agg #[.slice B k e]] W' (TxR W' (decL r.den))) := fun W' B k e hz => text_h hz
  clear h
  obtain ⟨sg, hsg⟩ : ∃ s, s = decide (r.num < 0) := ⟨_, rfl⟩
  have HSG := hide hsg
  clear hsg
  have CL2 : Hid (∀ W' s B k e B' k' e' z d, ZA W' s B k e z → Nm W' B' k' e' d → Hid (TT z d r K) → Calls Tryz.prog 81 #[.agg #[.bool s, .slice B k e], .agg #[.slice B' k' e']] W' (QRs W' sg r)) := fun W' s B k e B' k' e' z d hz hd ht => by rw [HSG.out]; exact CL.out _ _ _ _ _ _ _ _ _ _ hz hd ht
  have HB := Bel.refl W
  by_cases h1 : r.den = 1
  · rw [decide_eq_true h1] at CO
    have HD : Hid (decQ r = decZ r.num) := if_pos h1
    clear h1 CL
    go_enter Tryz.func31, Tryz.ntmps31
    go_wp2_with (first | (go_at_call 74; (with_reducible refine (CT.out _ (HB.al _)).mono ?_); rintro e w1 ⟨ps, pA, pn, pc, pB, pm, pe, pz, pd, rfl, pzz, pnn, ph, hbk⟩; have HX := At.up (at_new0 _ _ _) hbk; replace HB := (HB.al _).up hbk; replace ph : Hid (TT pz pd r K) := ph) | (go_at_call 81; (with_reducible refine (CL2.out _ _ _ _ _ _ _ _ _ _ pzz pnn ph).mono ?_); rintro e w2 ⟨B, e1, B', e2, rfl, nz, nd, hbk⟩; replace HB := HB.up hbk) | (go_at_call 101; (with_reducible refine (CO.out _ _ _ _ (nd.al _)).mono ?_); rintro e w3 ⟨rfl, hbk⟩; have HQ := At.up (at_new0 _ _ _) hbk; replace HB := (HB.al _).up hbk; replace nz := (nz.al _).up hbk; replace nd := (nd.al _).up hbk; have hq_0 := HQ.c0; have hq_1 := HQ.c1; have hq_2 := HQ.c2; have hq_l := HQ.lt) | (go_at_call 102; (with_reducible refine (CZ.out _ _ _ _ _ nz).mono ?_); rintro e w4 ⟨t, rfl, ht, hbk⟩; replace HB := HB.up hbk) | fail)
    go_ret
    exact ⟨t, rfl, by unfold Hid; rw [HD.out]; exact ht.out, HB⟩
  · rw [decide_eq_false h1] at CO
    have HD : Hid (decQ r = decZ r.num ++ (47 :: decL r.den)) := if_neg h1
    clear h1 CL
    go_enter Tryz.func31, Tryz.ntmps31
    go_wp2_with (first | (go_at_call 74; (with_reducible refine (CT.out _ (HB.al _)).mono ?_); rintro e w1 ⟨ps, pA, pn, pc, pB, pm, pe, pz, pd, rfl, pzz, pnn, ph, hbk⟩; have HX := At.up (at_new0 _ _ _) hbk; replace HB := (HB.al _).up hbk; replace ph : Hid (TT pz pd r K) := ph) | (go_at_call 81; (with_reducible refine (CL2.out _ _ _ _ _ _ _ _ _ _ pzz pnn ph).mono ?_); rintro e w2 ⟨B, e1, B', e2, rfl, nz, nd, hbk⟩; replace HB := HB.up hbk) | (go_at_call 101; (with_reducible refine (CO.out _ _ _ _ (nd.al _)).mono ?_); rintro e w3 ⟨rfl, hbk⟩; have HQ := At.up (at_new0 _ _ _) hbk; replace HB := (HB.al _).up hbk; replace nz := (nz.al _).up hbk; replace nd := (nd.al _).up hbk; have hq_0 := HQ.c0; have hq_1 := HQ.c1; have hq_2 := HQ.c2; have hq_l := HQ.lt) | fail)
    go_region_held3 (fun w' => w'.cell? ⟨w2.heap.size, 0, none⟩ = some (.bool sg) ∧ w'.cell? ⟨w2.heap.size, 1, none⟩ = some (.slice B (dl r.num.natAbs) e1) ∧ w'.cell? ⟨w2.heap.size, 2, none⟩ = some (.slice B' (dl r.den) e2))
    (first | exact ⟨HQ.dr.c0, HQ.dr.c1, HQ.dr.c2⟩ | exact ⟨HQ.c0, HQ.c1, HQ.c2⟩)
    (first | (go_at_call 102; (with_reducible refine (CZ.out _ _ _ _ _ nz.dr).mono ?_); rintro e w4 ⟨t, rfl, ht, hbk⟩; replace HB := HB.dr.up hbk; replace HQ := HQ.dr.up hbk; replace nd := nd.dr.up hbk; have hts : t.size ≤ 90002 := (by rw [size_list, ht.out]; exact HL1.out); have hc1 : ¬ 9223372036854775807 < t.size + 1 := (by omega); have hc2 : t.size + 1 ≤ 9223372036854775807 := (by omega)) | (go_at_call 103; (with_reducible refine (CN.out _ _ _ _ nd).mono ?_); rintro e w5 ⟨t2, rfl, ht2, hbk⟩; replace HB := HB.up hbk; replace HQ := HQ.up hbk; have hts2 : t2.size ≤ 90001 := (by rw [size_list, ht2.out]; exact HL2.out); have hd1 : ¬ 9223372036854775807 < t.size + 1 + t2.size := (by omega); have hd2 : t.size + 1 + t2.size ≤ 9223372036854775807 := (by omega)) | fail)
    go_wp2
    go_ret
    refine ⟨_, rfl, ?_, HB⟩
    unfold Hid
    rw [HD.out, ← ht.out, ← ht2.out]
    simp
set_option maxHeartbeats 2000000 in
theorem rparse_frac {s t u : ByteArray} {v : Int} {d : Nat} (hs : s.size ≤ 99999) (h : s.data.toList = t.data.toList ++ 47 :: u.data.toList) (ht : ¬ (47 : UInt8) ∈ t.data.toList) (hz : ∀ W', Calls Tryz.prog 76 #[.string t] W' (ZPR W' v)) (hd : digB u.data.toList = true) (hv : numL u.data.toList = d) (h0 : 0 < d) (bv : dl v.natAbs ≤ 99999) (bd : dl d ≤ 99999) (hr : mkRat v d = r) :
    Calls Tryz.prog 10 #[.string s] W (OfYes W r) := by
  have CC := hide (fun W' => slash_hit (s := s) (t := t) (u := u) W' (by omega) h ht)
  have CZ := hide hz
  have CN : Hid (∀ W', Calls Tryz.prog 78 #[.string u] W' (NPR W' d)) := fun W' => npar_h (by have h1 := congrArg List.length h; rw [← size_list, List.length_append, List.length_cons, ← size_list, ← size_list] at h1; omega) hd hv (by omega)
  have CF : Hid (∀ W' s B k e B' k' e', ZA W' s B k e v → Nm W' B' k' e' d → Calls Tryz.prog 17 #[.agg #[.bool s, .slice B k e], .agg #[.slice B' k' e']] W' (OfYes W' r)) := fun W' s B k e B' k' e' h1 h2 => of_yes h1 h2 h0 hr bv bd
  clear hs h ht hz hd hv h0 bv bd hr
  obtain ⟨sg, hsg⟩ : ∃ s, s = decide (r.num < 0) := ⟨_, rfl⟩
  have HSG := hide hsg
  clear hsg
  have CF2 : Hid (∀ W' s B k e B' k' e', ZA W' s B k e v → Nm W' B' k' e' d → Calls Tryz.prog 17 #[.agg #[.bool s, .slice B k e], .agg #[.slice B' k' e']] W' (OfYs W' sg r)) := fun W' s B k e B' k' e' h1 h2 => by rw [HSG.out]; exact CF.out _ _ _ _ _ _ _ _ h1 h2
  have HB := Bel.refl W
  go_enter Tryz.func10, Tryz.ntmps10
  go_wp2_with (first | (go_at_call 75; (with_reducible refine (CC.out _).mono ?_); rintro e w1 ⟨rfl, hbk⟩; have HR := At.up (at_new0 _ _ _) hbk; replace HB := (HB.al _).up hbk) | (go_at_call 76; (with_reducible refine (CZ.out _).mono ?_); rintro e w2 ⟨pA, pc, rfl, pz, hbk⟩; replace HB := HB.up hbk; replace HR := HR.up hbk) | (go_at_call 78; (with_reducible refine (CN.out _).mono ?_); rintro e w3 ⟨nA, nc, rfl, nn, hbk⟩; have HP := At.up (at_new0 _ _ _) hbk; replace HB := (HB.al _).up hbk; replace HR := (HR.al _).up hbk; replace pz := (pz.al _).up hbk; have hp_0 := HP.c0; have hp_1 := HP.c1; have hp_l := HP.lt) | (go_at_call 17; (with_reducible refine (CF2.out _ _ _ _ _ _ _ _ (pz.al _) (nn.al _)).mono ?_); rintro e w4 ⟨B, e1, B', e2, rfl, nz, nd, hbk⟩; replace HB := (HB.al _).up hbk; replace HR := (HR.al _).up hbk; clear hp_0 hp_1 hp_l; have hr_0 := HR.c0; have hr_1 := HR.c1; have hr_2 := HR.c2; have hr_l := HR.lt; have hr_f0 := HR.f0; have hr_f1 := HR.f1; have hr_f2 := HR.f2) | fail)
  refine bodyPost_ret (v := .tuple #[.agg #[.bool sg, .slice B (dl r.num.natAbs) e1, .slice B' (dl r.den) e2], .bool true]) (by simp [results, Tryz.results10, go_sem, hr_0, hr_1, hr_2]) rfl ?_
  refine ⟨B, e1, B', e2, by rw [HSG.out], zr_of (nz.1.put3 HR now3), nd.put3 HR now3, below3 HB (Nat.le_refl _) _ _ _⟩
set_option maxHeartbeats 2000000 in
theorem rparse_int {s : ByteArray} {v : Int} (hs : s.size ≤ 99999) (ht : ¬ (47 : UInt8) ∈ s.data.toList) (hz : ∀ W', Calls Tryz.prog 76 #[.string s] W' (ZPR W' v)) (bv : dl v.natAbs ≤ 99999) (hr : mkRat v 1 = r) :
    Calls Tryz.prog 10 #[.string s] W (OfYes W r) := by
  have CC := hide (fun W' => slash_miss (s := s) W' (by omega) ht)
  have CZ := hide hz
  have C1 : Hid (∀ W', Calls Tryz.prog 77 #[.int .u64 1] W' (NumR W' 1)) := fun W' => of_h (v := 1) (by omega)
  have CF : Hid (∀ W' s B k e B' k' e', ZA W' s B k e v → Nm W' B' k' e' 1 → Calls Tryz.prog 17 #[.agg #[.bool s, .slice B k e], .agg #[.slice B' k' e']] W' (OfYes W' r)) := fun W' s B k e B' k' e' h1 h2 => of_yes h1 h2 (by decide) hr bv (by rw [dl_one]; decide)
  clear hs ht hz bv hr
  obtain ⟨sg, hsg⟩ : ∃ s, s = decide (r.num < 0) := ⟨_, rfl⟩
  obtain ⟨sv, hsv⟩ : ∃ s, s = decide (v < 0) := ⟨_, rfl⟩
  have HSG := hide hsg
  have CZ2 : Hid (∀ W', Calls Tryz.prog 76 #[.string s] W' (ZPRs W' sv v)) := fun W' => by rw [hsv]; exact CZ.out W'
  clear hsg hsv CZ
  have CF2 : Hid (∀ W' s B k e B' k' e', ZA W' s B k e v → Nm W' B' k' e' 1 → Calls Tryz.prog 17 #[.agg #[.bool s, .slice B k e], .agg #[.slice B' k' e']] W' (OfYs W' sg r)) := fun W' s B k e B' k' e' h1 h2 => by rw [HSG.out]; exact CF.out _ _ _ _ _ _ _ _ h1 h2
  have HB := Bel.refl W
  go_enter Tryz.func10, Tryz.ntmps10
  go_wp2_with (first | (go_at_call 75; (with_reducible refine (CC.out _).mono ?_); rintro e w1 ⟨u, rfl, hbk⟩; have HR := At.up (at_new0 _ _ _) hbk; replace HB := (HB.al _).up hbk) | (go_at_call 76; (with_reducible refine (CZ2.out _).mono ?_); rintro e w2 ⟨pA, pc, rfl, pz, hbk⟩; replace HB := HB.up hbk; replace HR := HR.up hbk; have hLR := HR.lt) | fail)
  go_region_held3 (fun w' => w'.cell? ⟨w2.heap.size, 0, none⟩ = some (.bool sv) ∧ w'.cell? ⟨w2.heap.size, 1, none⟩ = some (.slice pA (dl v.natAbs) pc))
    (first | exact ⟨(at_new0 _ _ _).dr.c0, (at_new0 _ _ _).dr.c1⟩ | exact ⟨HP.c0, HP.c1⟩ | exact ⟨(((HP.far (by omega) _).far (by omega) _).far (by omega) _).c0, (((HP.far (by omega) _).far (by omega) _).far (by omega) _).c1⟩)
    (first | (go_at_call 77; (with_reducible refine (C1.out _).mono ?_); rintro e w3 ⟨nA, nc, rfl, nn, hbk⟩; have HP := At.up (at_new0 _ _ _).dr hbk; replace HB := (HB.al _).dr.up hbk; replace HR := (HR.al _).dr.up hbk; replace pz := (pz.al _).dr.up hbk; have hLP := HP.lt) | (go_at_call 17; (with_reducible refine (CF2.out _ _ _ _ _ _ _ _ pz nn).mono ?_); rintro e w4 ⟨B, e1, B', e2, rfl, nz, nd, hbk⟩; replace HB := HB.up hbk; replace HR := HR.up hbk; replace HP := HP.up hbk; have hr_0 := HR.c0; have hr_1 := HR.c1; have hr_2 := HR.c2; have hr_l := HR.lt; have hr_f0 := HR.f0; have hr_f1 := HR.f1; have hr_f2 := HR.f2) | fail)
  go_wp2_with fail
  refine bodyPost_ret (v := .tuple #[.agg #[.bool sg, .slice B (dl r.num.natAbs) e1, .slice B' (dl r.den) e2], .bool true]) (by simp [results, Tryz.results10, go_sem, hr_0, hr_1, hr_2]) rfl ?_
  refine ⟨B, e1, B', e2, by rw [HSG.out], zr_of (nz.1.put3 HR now3), nd.put3 HR now3, below3 HB (Nat.le_refl _) _ _ _⟩
end
end Go.Proofs.YtfcamfkimnlfgaaGreatDoor
end

section
/- Statements of rat: is, zis. Conditions: less than 4000 words. -/
open Go.RowKit
set_option maxRecDepth 100000
namespace Go.Proofs.YtfcamfkimnlfgaaGreatDoor
/-- Is a number, told just, the document's own? -/
theorem is3_any {A A' : Option Addr} {c c' m n : Nat} {w : World} (h : Can w w.heap.size A c m) (h' : RN w w.heap.size A' c' n) (hl : dl m < 4000) (hq : dq n ≤ 100000) :
    Calls Tryz.prog 84 #[.agg #[.slice A (dl m) c], .slice A' (dq n) c'] w fun e w' => e = .returned (.bool (decide (m = n))) ∧ Below w.heap.size w w' := by
  have HX : Hid (∀ o, Rd U32 (w.alloc o) (w.alloc o).heap.size A (digs W32 m)) := fun o => ((h.below ((Below.refl _ _).alloc (Nat.le_refl _) _)).more (by simp)).2
  have HY : Hid (∀ o, RN (w.alloc o) (w.alloc o).heap.size A' c' n) := fun o => (h'.below ((Below.refl _ _).alloc (Nat.le_refl _) _)).more (by simp)
  have HA : Hid (∀ o, Below w.heap.size w (w.alloc o)) := fun o => (Below.refl _ _).alloc (Nat.le_refl _) _
  have hqm : Hid (dq m ≤ 100000) := by have := dq_words (lt_pow_digs (b := W32) (by decide) m); unfold dl at hl; unfold Hid; omega
  have HG := hide (goodB_digs m)
  have hl2 : dl m ≤ 4000 := by omega
  have CW : Hid (∀ o W, Hid (Below (w.alloc o).heap.size (w.alloc o) W) → Calls Tryz.prog 18 #[.slice A (dl m) c] W (RefPost W m)) := fun o W hb => by
    have h1 := Words_any (c := c) (show dl m = (digs W32 m).length from rfl) (((HX.out o).below hb.out).more hb.out.size) (good_digs m) hl2
    rw [val_digs32] at h1
    exact h1
  clear h h'
  go_enter Tryz.func84, Tryz.ntmps84
  go_wp2_with (first | (go_at_call 114; go_must (refine (Good_any (show dl m = (digs W32 m).length from rfl) (HX.out _) (by omega)).mono ?_); rintro e w1 ⟨rfl, hb1⟩; have HB1 := hide hb1; have hg1 := HG.out; have hc1 : w1.cell? ⟨w.heap.size, 0, none⟩ = some (.slice A (dl m) c) := (hb1.cell (by simp)).trans (one_cell (heap_alloc_new w _)).1; clear hb1) | (go_at_call 18; go_must (refine (CW.out _ _ HB1).mono ?_); rintro e w2 ⟨A2, c2, rfl, hr2, hb2⟩) | (go_at_call 115; go_must (refine (rCmp_any hr2.out (((HY.out _).below HB1.out).below (hb2.out.mono HB1.out.size) |>.more (Nat.le_trans HB1.out.size hb2.out.size)) (Nat.le_trans hqm.out (by omega)) (by omega)).mono ?_); rintro e w3 ⟨rfl, q, rfl⟩))
  go_ret
  refine ⟨bool_ret ?_, below_drewN (((HA.out _).trans (HB1.out.mono (by simp))).trans (hb2.out.mono (Nat.le_trans (by simp) HB1.out.size))) q⟩
  exact cmpI_beq m n

theorem is3_same {W : World} {A A' : Option Addr} {c c' m : Nat} (h : Nm W A (dl m) c m) (h' : Hid (RN W W.heap.size A' c' m)) (hl : dl m < 4000) : Calls Tryz.prog 84 #[.agg #[.slice A (dl m) c], .slice A' (dq m) c'] W (BoolR W true) := by
  have hq : dq m ≤ 100000 := by have := dq_words (lt_pow_digs (b := W32) (by decide) m); unfold dl at hl; omega
  refine (is3_any (h.out.digs).1 h'.out hl hq).mono fun e w' ⟨he, hb⟩ => ⟨by rw [he, decide_eq_true rfl], hb⟩
section
variable {W : World} {z : Int}
set_option maxHeartbeats 2000000 in
theorem zis3_h {A A' : Option Addr} {c c' : Nat} (h : ZA W (decide (z < 0)) A (dl z.natAbs) c z) (h' : Hid (RN W W.heap.size A' c' z.natAbs)) (hl : dl z.natAbs < 4000) : Calls Tryz.prog 28 #[.agg #[.bool (decide (z < 0)), .slice A (dl z.natAbs) c], .agg #[.bool (decide (z < 0)), .slice A' (dq z.natAbs) c']] W (BoolR W true) := by
  have CG : Hid (∀ W', Below W.heap.size W W' → Calls Tryz.prog 98 #[.agg #[.bool (decide (z < 0)), .slice A (dl z.natAbs) c]] W' (BoolR W' true)) := fun W' hb => zgood_h (h.up hb)
  have CI : Hid (∀ W', Below W.heap.size W W' → Calls Tryz.prog 84 #[.agg #[.slice A (dl z.natAbs) c], .slice A' (dq z.natAbs) c'] W' (BoolR W' true)) := fun W' hb => is3_same (h.up hb).1 ((h'.out.below hb).more hb.size) hl
  clear h h' hl
  cases hb : decide (z < 0)
  all_goals
    rw [hb] at CG
    clear hb
    go_enter Tryz.func28, Tryz.ntmps28
    go_wp2_with (first | (go_at_call 98; (with_reducible refine (CG.out _ (al2 _ _ _)).mono ?_); rintro e w1 ⟨rfl, hbk⟩; have HA := hide (((zc_new _ _ _ _ _ _).al _).up hbk); have HA' := hide ((zc_new1 _ _ _ _ _ _ _).up hbk); have HW := hide ((al2 W _ _).trans (hbk.out.mono (al2 W _ _).size)); have a0 := HA.out.c0; have a1 := HA.out.c1; have b0 := HA'.out.c0; have b1 := HA'.out.c1) | (go_at_call 84; (with_reducible refine (CI.out _ HW.out).mono ?_); rintro e w2 ⟨rfl, hbk2⟩) | fail)
    go_ret
    exact ⟨rfl, chain HW hbk2.out⟩
end
end Go.Proofs.YtfcamfkimnlfgaaGreatDoor
end

section
/- Statements of rat: qis, long, what the document tells of six over four. No conditions. -/
open Go.RowKit
set_option maxRecDepth 100000
namespace Go.Proofs.YtfcamfkimnlfgaaGreatDoor
def RQs (W : World) (sg : Bool) (r : Rat) (e : Ending) (w' : World) : Prop := ∃ A c A' c', e = .returned (.agg #[.bool sg, .slice A (dq r.num.natAbs) c, .slice A' (dq r.den) c']) ∧ Rn w' A c r.num.natAbs ∧ Rn w' A' c' r.den ∧ Hid (Below W.heap.size W w')
def RZs (W : World) (sg : Bool) (z : Int) (e : Ending) (w' : World) : Prop := ∃ A c, e = .returned (.agg #[.bool sg, .slice A (dq z.natAbs) c]) ∧ Hid (RN w' w'.heap.size A c z.natAbs) ∧ Hid (Below W.heap.size W w')
def ZRs (W : World) (sg : Bool) (z : Int) (e : Ending) (w' : World) : Prop := ∃ A c, e = .returned (.agg #[.bool sg, .slice A (dl z.natAbs) c]) ∧ ZA w' sg A (dl z.natAbs) c z ∧ Hid (Below W.heap.size W w')
theorem qa_of {W : World} {sg : Bool} {A A' : Option Addr} {n c n' c' K : Nat} {r : Rat} (nz : ZA W sg A n c r.num) (nd : Nm W A' n' c' r.den) (hb : r.num.natAbs < W32 ^ K ∧ r.den < W32 ^ K) : QA W sg A n c A' n' c' r K := ⟨r.num, r.den, nz, nd, Rat.mkRat_self r, hb⟩
section
variable {W : World} {A A' B B' : Option Addr} {c c' n n' d d' : Nat} {r : Rat} {sg : Bool}
set_option maxHeartbeats 2000000 in
theorem qis_h (nz : ZA W sg A (dl r.num.natAbs) c r.num) (nd : Nm W A' (dl r.den) c' r.den) (mz : Rn W B d r.num.natAbs) (md : Rn W B' d' r.den) (hs : sg = decide (r.num < 0)) (h1 : dl r.num.natAbs < 4000) (h2 : dl r.den < 4000) :
    Calls Tryz.prog 15 #[.agg #[.bool sg, .slice A (dl r.num.natAbs) c, .slice A' (dl r.den) c'], .agg #[.bool sg, .slice B (dq r.num.natAbs) d, .slice B' (dq r.den) d']] W (BoolR W true) := by
  have CZ : Hid (∀ W', Bel W W' → Calls Tryz.prog 28 #[.agg #[.bool sg, .slice A (dl r.num.natAbs) c], .agg #[.bool sg, .slice B (dq r.num.natAbs) d]] W' (BoolR W' true)) := fun W' hb => by
    subst hs
    exact zis3_h (nz.up hb) (mz.up hb) h1
  have CI : Hid (∀ W', Bel W W' → Calls Tryz.prog 84 #[.agg #[.slice A' (dl r.den) c'], .slice B' (dq r.den) d'] W' (BoolR W' true)) := fun W' hb => is3_same (nd.up hb) (md.up hb) h2
  clear nz nd mz md hs h1 h2
  have HB := Bel.refl W
  go_enter Tryz.func15, Tryz.ntmps15
  go_wp2_with (first | (go_at_call 28; (with_reducible refine (CZ.out _ ((HB.al _).al _)).mono ?_); rintro e w1 ⟨rfl, hbk⟩; have HP := At.up ((at_new0 _ _ _).al _) hbk; have HQ := At.up (at_new1 _ _ _ _) hbk; replace HB := ((HB.al _).al _).up hbk; have hp_0 := HP.c0; have hp_1 := HP.c1; have hp_2 := HP.c2; have hp_l := HP.lt; have hq_0 := HQ.c0; have hq_1 := HQ.c1; have hq_2 := HQ.c2; have hq_l := HQ.lt) | (go_at_call 84; (with_reducible refine (CI.out _ HB).mono ?_); rintro e w2 ⟨rfl, hbk⟩; replace HB := HB.up hbk) | fail)
  go_ret
  exact ⟨rfl, HB⟩
theorem rlong_h {b : Bool} (h1 : n ≤ 12) (h2 : n' ≤ 12) : Calls Tryz.prog 7 #[.agg #[.bool b, .slice A n c, .slice A' n' c']] W (BoolR W false) := by
  have hf : decide ((12 : Int) < (n : Int)) = false := decide_eq_false (by omega)
  have hg : decide ((12 : Int) < (n' : Int)) = false := decide_eq_false (by omega)
  clear h1 h2
  go_enter Tryz.func7, Tryz.ntmps7
  go_wp2
  go_ret
  exact ⟨rfl, (Below.refl _ _).alloc (Nat.le_refl _) _⟩
theorem rlong_n {b : Bool} (h : ¬ (n ≤ 12 ∧ n' ≤ 12)) : Calls Tryz.prog 7 #[.agg #[.bool b, .slice A n c, .slice A' n' c']] W (BoolR W true) := by
  by_cases h1 : n ≤ 12
  · have hf : decide ((12 : Int) < (n : Int)) = false := decide_eq_false (by omega)
    have hg : decide ((12 : Int) < (n' : Int)) = true := decide_eq_true (by omega)
    clear h h1
    go_enter Tryz.func7, Tryz.ntmps7
    go_wp2
    go_ret
    exact ⟨rfl, (Below.refl _ _).alloc (Nat.le_refl _) _⟩
  · have hf : decide ((12 : Int) < (n : Int)) = true := decide_eq_true (by omega)
    clear h h1
    go_enter Tryz.func7, Tryz.ntmps7
    go_wp2
    go_ret
    exact ⟨rfl, (Below.refl _ _).alloc (Nat.le_refl _) _⟩
end
/-- Three over two; with its other sign; three; minus two. -/
def r32 : Rat := mkRat 3 2
def rm32 : Rat := -r32
def i3 : Int := 3
def im2 : Int := -2
theorem r32_num : r32.num = 3 := by decide +kernel
theorem r32_den : r32.den = 2 := by decide +kernel
theorem rm32_num : rm32.num = -3 := by decide +kernel
theorem rm32_den : rm32.den = 2 := by decide +kernel
theorem rm32_floor : rm32.floor = im2 := by decide +kernel
theorem dig1 {d : Nat} (h0 : 0 < d) (h : d < 10) : decL d = [letter d] := by
  unfold decL
  rw [if_neg (by omega), digs_pos (by decide) h0, Nat.mod_eq_of_lt h, Nat.div_eq_of_lt h, digs_zero]
  rfl
theorem decQ_r32 : decQ r32 = [51, 47, 50] := by
  unfold decQ
  rw [r32_den, r32_num, if_neg (by decide)]
  unfold decZ
  rw [if_neg (by decide), show (3 : Int).natAbs = 3 from rfl, dig1 (by decide) (by decide), dig1 (by decide) (by decide)]
  rfl
def StrR (W : World) (s : ByteArray) (e : Ending) (w' : World) : Prop := e = .returned (.string s) ∧ Hid (Below W.heap.size W w')
theorem str_of {W : World} {l : List UInt8} {s : ByteArray} {e : Ending} {w' : World} (h : TxR W l e w') (hs : s.data.toList = l) : StrR W s e w' := by
  obtain ⟨t, rfl, ht, hb⟩ := h
  exact ⟨by rw [show t = s from ByteArray.ext (Array.ext' (ht.out.trans hs.symm))], hb⟩
theorem w32_two {x K : Nat} (hx : x < 4294967296) (hK : 0 < K) : x < W32 ^ K := Nat.lt_of_lt_of_le hx (by
  have h := Nat.pow_le_pow_right (n := W32) (by decide) hK
  rw [Nat.pow_succ, Nat.pow_zero, Nat.one_mul] at h
  exact h)
theorem r32_bd : r32.num.natAbs < W32 ^ 1 ∧ r32.den < W32 ^ 1 := by rw [r32_num, r32_den]; exact ⟨w32_two (by decide) (by decide), w32_two (by decide) (by decide)⟩
theorem rm32_bd : rm32.num.natAbs < W32 ^ 1 ∧ rm32.den < W32 ^ 1 := by rw [rm32_num, rm32_den]; exact ⟨w32_two (by decide) (by decide), w32_two (by decide) (by decide)⟩

set_option maxHeartbeats 4000000 in
/-- What the document tells of six over four: it holds. -/
theorem awake3_any (W : World) : Calls Tryz.prog 6 #[] W (BoolR W true) := by
  obtain ⟨sg, hsg⟩ : ∃ s, s = decide (r32.num < 0) := ⟨_, rfl⟩
  obtain ⟨sn, hsn⟩ : ∃ s, s = decide (rm32.num < 0) := ⟨_, rfl⟩
  obtain ⟨s2, hs2⟩ : ∃ s, s = decide (im2 < 0) := ⟨_, rfl⟩
  obtain ⟨s3, hs3⟩ : ∃ s, s = decide (i3 < 0) := ⟨_, rfl⟩
  have CP : Hid (∀ W', Calls Tryz.prog 10 #[.string ⟨#[54, 47, 52]⟩] W' (OfYs W' sg r32)) := fun W' => by
    rw [hsg]
    exact rparse_frac (t := ⟨#[54]⟩) (u := ⟨#[52]⟩) (v := 6) (d := 4) (by decide) rfl (by decide) (fun W2 => zparse_h (b := false) (l := [54]) (by decide) rfl (by intro _; decide) (by decide) (by decide)) (by decide) (by decide) (by decide) (Nat.le_trans (dl_le (k := 1) (by decide)) (by decide)) (Nat.le_trans (dl_le (k := 1) (by decide)) (by decide)) (by decide +kernel)
  have CT : Hid (∀ W' A n c A' n' c', ZA W' sg A n c r32.num → Nm W' A' n' c' r32.den → Calls Tryz.prog 31 #[.agg #[.bool sg, .slice A n c, .slice A' n' c']] W' (StrR W' ⟨#[51, 47, 50]⟩)) := fun W' A n c A' n' c' h1 h2 => (rtext_h (qa_of h1 h2 r32_bd) (by decide) (by decide)).mono fun _ _ h => str_of h decQ_r32.symm
  have CI3 : Hid (∀ W', Calls Tryz.prog 70 #[.int .i64 3] W' (RZs W' s3 i3)) := fun W' => by rw [hs3]; exact zint_h (z := i3) (by decide) (by decide)
  have CS2 : Hid (∀ W', Calls Tryz.prog 71 #[.int .u64 2] W' (RefPost W' 2)) := fun W' => Small_any (n := 2) (by decide)
  have CQ : Hid (∀ W' A c A' c', Rn W' A c i3.natAbs → Rn W' A' c' 2 → Calls Tryz.prog 69 #[.agg #[.bool s3, .slice A (dq i3.natAbs) c], .slice A' (dq 2) c'] W' (RQs W' sg r32)) := fun W' A c A' c' h1 h2 => by
    rw [hsg]
    exact rqof_h h1 h2 (by rw [hs3]; exact zi_dec i3) (by decide) rfl (Nat.le_trans (dq_u64 (by decide)) (by decide)) (Nat.le_trans (dq_u64 (by decide)) (by decide))
  have CQI : Hid (∀ W' A c A' c' B d B' d', ZA W' sg A (dl r32.num.natAbs) c r32.num → Nm W' A' (dl r32.den) c' r32.den → Rn W' B d r32.num.natAbs → Rn W' B' d' r32.den → Calls Tryz.prog 15 #[.agg #[.bool sg, .slice A (dl r32.num.natAbs) c, .slice A' (dl r32.den) c'], .agg #[.bool sg, .slice B (dq r32.num.natAbs) d, .slice B' (dq r32.den) d']] W' (BoolR W' true)) := fun W' A c A' c' B d B' d' h1 h2 h3 h4 => qis_h h1 h2 h3 h4 hsg (Nat.lt_of_le_of_lt (dl_le r32_bd.1) (by decide)) (Nat.lt_of_le_of_lt (dl_le r32_bd.2) (by decide))
  have CN : Hid (∀ W' A n c A' n' c', ZA W' sg A n c r32.num → Nm W' A' n' c' r32.den → Calls Tryz.prog 22 #[.agg #[.bool sg, .slice A n c, .slice A' n' c']] W' (QRs W' sn rm32)) := fun W' A n c A' n' c' h1 h2 => by rw [hsn]; exact rneg_h (qa_of h1 h2 r32_bd) (by decide) (by decide)
  have CF : Hid (∀ W' A n c A' n' c', ZA W' sn A n c rm32.num → Nm W' A' n' c' rm32.den → Calls Tryz.prog 29 #[.agg #[.bool sn, .slice A n c, .slice A' n' c']] W' (ZRs W' s2 im2)) := fun W' A n c A' n' c' h1 h2 => by rw [hs2]; exact floor_h (qa_of h1 h2 rm32_bd) (by decide) (by decide) rm32_floor
  have CI2 : Hid (∀ W', Calls Tryz.prog 70 #[.int .i64 (-2)] W' (RZs W' s2 im2)) := fun W' => by rw [hs2]; exact zint_h (z := im2) (by decide) (by decide)
  have CZI : Hid (∀ W' A c B d, ZA W' s2 A (dl im2.natAbs) c im2 → Rn W' B d im2.natAbs → Calls Tryz.prog 28 #[.agg #[.bool s2, .slice A (dl im2.natAbs) c], .agg #[.bool s2, .slice B (dq im2.natAbs) d]] W' (BoolR W' true)) := fun W' A c B d h1 h2 => by rw [hs2] at h1 ⊢; exact zis3_h h1 h2 (Nat.lt_of_le_of_lt (dl_le (k := 1) (by decide)) (by decide))
  clear hsg hsn hs2 hs3
  have HB := Bel.refl W
  go_enter Tryz.func6, Tryz.ntmps6
  go_wp2_with (first | (go_at_call 10; (with_reducible refine (CP.out _).mono ?_); rintro e w1 ⟨A, c, A', c', rfl, nz, nd, hbk⟩; replace HB := HB.up hbk) | fail)
  go_region_held3 (fun w' => w'.cell? ⟨w1.heap.size, 0, none⟩ = some (.bool sg) ∧ w'.cell? ⟨w1.heap.size, 1, none⟩ = some (.slice A (dl r32.num.natAbs) c) ∧ w'.cell? ⟨w1.heap.size, 2, none⟩ = some (.slice A' (dl r32.den) c'))
    (first | exact ⟨(at_new0 _ _ _).dr.c0, (at_new0 _ _ _).dr.c1, (at_new0 _ _ _).dr.c2⟩ | exact ⟨HP.c0, HP.c1, HP.c2⟩)
    (first | (go_at_call 31; (with_reducible refine (CT.out _ _ _ _ _ _ _ (nz.al _).dr (nd.al _).dr).mono ?_); rintro e w2 ⟨rfl, hbk⟩; have HP := At.up (at_new0 _ _ _).dr hbk; replace HB := (HB.al _).dr.up hbk; replace nz := (nz.al _).dr.up hbk; replace nd := (nd.al _).dr.up hbk) | (go_at_call 70; (with_reducible refine (CI3.out _).mono ?_); rintro e w3 ⟨B3, d3, rfl, k3, hbk⟩; replace HB := HB.up hbk; replace HP := HP.up hbk; replace nz := nz.up hbk; replace nd := nd.up hbk; replace k3 := Rn.of k3) | (go_at_call 71; (with_reducible refine (CS2.out _).mono ?_); rintro e w4 ⟨B4, d4, rfl, k4, hbk⟩; replace HB := HB.up hbk; replace HP := HP.up hbk; replace nz := nz.up hbk; replace nd := nd.up hbk; replace k3 := k3.up hbk; replace k4 := Rn.of k4) | (go_at_call 69; (with_reducible refine (CQ.out _ _ _ _ _ k3 k4).mono ?_); rintro e w5 ⟨B5, d5, B6, d6, rfl, k5, k6, hbk⟩; replace HB := HB.up hbk; replace HP := HP.up hbk; replace nz := nz.up hbk; replace nd := nd.up hbk) | (go_at_call 15; (with_reducible refine (CQI.out _ _ _ _ _ _ _ _ _ nz nd k5 k6).mono ?_); rintro e w6 ⟨rfl, hbk⟩; replace HB := HB.up hbk; replace HP := HP.up hbk; replace nz := nz.up hbk; replace nd := nd.up hbk) | (go_at_call 22; (with_reducible refine (CN.out _ _ _ _ _ _ _ nz nd).mono ?_); rintro e w7 ⟨B7, d7, B8, d8, rfl, mz, md, hbk⟩; replace HB := HB.up hbk; replace HP := HP.up hbk; replace nz := nz.up hbk; replace nd := nd.up hbk) | (go_at_call 29; (with_reducible refine (CF.out _ _ _ _ _ _ _ mz md).mono ?_); rintro e w8 ⟨B9, d9, rfl, fz, hbk⟩; replace HB := HB.up hbk; replace HP := HP.up hbk; replace nz := nz.up hbk; replace nd := nd.up hbk) | (go_at_call 70; (with_reducible refine (CI2.out _).mono ?_); rintro e w9 ⟨Ba, da, rfl, ka, hbk⟩; replace HB := HB.up hbk; replace HP := HP.up hbk; replace nz := nz.up hbk; replace nd := nd.up hbk; replace fz := fz.up hbk; replace ka := Rn.of ka) | (go_at_call 28; (with_reducible refine (CZI.out _ _ _ _ _ fz ka).mono ?_); rintro e wa ⟨rfl, hbk⟩; replace HB := HB.up hbk; replace HP := HP.up hbk; replace nz := nz.up hbk; replace nd := nd.up hbk) | fail)
  go_wp2
  go_ret
  exact ⟨rfl, HB⟩
end Go.Proofs.YtfcamfkimnlfgaaGreatDoor
end
