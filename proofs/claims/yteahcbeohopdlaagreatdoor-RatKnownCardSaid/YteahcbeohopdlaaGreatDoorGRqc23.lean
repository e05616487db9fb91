/- Several texts in one, each with its own sentence and conditions. -/
import Derived.Test.YteahcbeohopdlaaGreatDoorGRqc15
import Derived.Test.YteahcbeohopdlaaGreatDoorZgl
import Derived.Test.YteahcbeohopdlaaGreatDoorQe
import Derived.Test.YteahcbeohopdlaaGreatDoorQf
import Derived.Test.YteahcbeohopdlaaGreatDoorGRqc8
import Derived.Maps.AppendAt
section
/- Package rat: Int, Floor. -/
open Go.RowKit
set_option maxRecDepth 100000
namespace Go.Proofs.YteahcbeohopdlaaGreatDoor
section
variable {W : World} {b b' : Bool} {A A' : Option Addr} {n n' c c' m m' : Nat} {z z' : Int} {r : Rat} {K : Nat}
set_option maxHeartbeats 2000000 in
theorem int_h {k : Int} (h1 : -9223372036854775808 ≤ k) (h2 : k ≤ 9223372036854775807) : Calls Tryz.prog 12 #[.int .i64 k] W (QR W (k : Rat)) := by
  have CO : Hid (∀ W', Calls Tryz.prog 9 #[.int .i64 k] W' (ZR W' k)) := fun W' => zof_h h1 h2
  have C1 : Hid (∀ W', Calls Tryz.prog 10 #[.int .u64 1] W' (NumR W' 1)) := fun W' => of_h (v := 1) (by omega)
  have HB := Bel.refl W
  go_enter Tryz.func12, Tryz.ntmps12
  go_wp2_with (first | (go_at_call 9; (with_reducible refine (CO.out _).mono ?_); rintro e w1 ⟨B, e1, rfl, nz, hbk⟩; have HR := At.up (at_new0 _ _ _) hbk; replace HB := (HB.al _).up hbk) | (go_at_call 10; (with_reducible refine (C1.out _).mono ?_); rintro e w2 ⟨B', e2, rfl, nd, hbk⟩; replace HB := HB.up hbk; replace HR := HR.up hbk; replace nz := nz.up hbk; have hr_0 := HR.c0; have hr_1 := HR.c1; have hr_2 := HR.c2; have hr_l := HR.lt; have hr_f0 := HR.f0; have hr_f1 := HR.f1; have hr_f2 := HR.f2) | fail)
  refine bodyPost_ret (v := .agg #[.bool (decide (k < 0)), .slice B (dl k.natAbs) e1, .slice B' (dl 1) e2]) (by simp [results, Tryz.results12, go_sem, hr_0, hr_1, hr_2]) rfl ?_
  exact ⟨B, e1, B', e2, rfl, zr_of (nz.1.put3 HR now3), nd.put3 HR now3, below3 HB (Nat.le_refl _) _ _ _⟩
set_option maxHeartbeats 2000000 in
theorem floor_h {v : Int} (h : QA W b A n c A' n' c' r K) (hK : 0 < K) (hK2 : K ≤ 20000) (hv : r.floor = v) : Calls Tryz.prog 36 #[.agg #[.bool b, .slice A n c, .slice A' n' c']] W (ZR W v) := by
  have CT : Hid (∀ W', Bel W W' → Calls Tryz.prog 81 #[.agg #[.bool b, .slice A n c, .slice A' n' c']] W' (TermsR W' r K)) := fun W' hb => terms_h (h.up hb) hK
  have CD : Hid (∀ W' s B k e B' k' e' z d, ZA W' s B k e z → Nm W' B' k' e' d → Hid (0 < d ∧ mkRat z d = r ∧ z.natAbs < W32 ^ K ∧ d < W32 ^ K) → ∃ rm, Calls Tryz.prog 109 #[.agg #[.bool s, .slice B k e], .agg #[.bool false, .slice B' k' e']] W' (ZDivR W' v rm)) := fun W' s B k e B' k' e' z d hz hd hp => by
    refine ⟨z % (d : Int), zdiv_h hz (za_of (b := false) hd) (by have := hp.out.1; rw [zi_false]; omega) (Nat.le_trans (dl_le hp.out.2.2.1) (by omega)) ?_ (by rw [zi_false])⟩
    rw [zi_false, ← hv, ← hp.out.2.1, floor_mk hp.out.1]
  clear h hv
  have HB := Bel.refl W
  go_enter Tryz.func36, Tryz.ntmps36
  go_wp2_with (first | (go_at_call 81; (with_reducible refine (CT.out _ ((HB.al _).al _)).mono ?_); rintro e w1 ⟨s, B, k, e1, B', k', e2, zv, d, rfl, zp, np, hp, hbk⟩; have HR := At.up (at_new1 _ _ _ _) hbk; replace HB := ((HB.al _).al _).up hbk; have HR0 := HR) | (go_at_call 109; obtain ⟨rm, CDv⟩ := CD.out _ _ _ _ _ _ _ _ _ _ ((zp.al _).al _) ((np.al _).al _) hp; (with_reducible refine (CDv).mono ?_); rintro e w2 ⟨Bq, eq, Br, er, rfl, zq, zr, hbk⟩; replace HB := ((HB.al _).al _).up hbk; replace HR := ((HR.al _).al _).up hbk; have hr_0 := HR.c0; have hr_1 := HR.c1; have hr_l := HR.lt; have hr_f0 := HR.f0; have hr_f1 := HR.f1; have hr_l2 : W.heap.size < w2.heap.size := by omega) | fail)
  refine bodyPost_ret (v := .agg #[.bool (decide (v < 0)), .slice Bq (dl v.natAbs) eq]) (by simp [results, Tryz.results36, go_sem, hr_0, hr_1, hr_l, hr_l2]) rfl ?_
  exact ((ret_z HB (by omega) HR now2 zq).al _).al _
end
end Go.Proofs.YteahcbeohopdlaaGreatDoor
end

section
/- Package rat: Neg, Add. -/
open Go.RowKit
set_option maxRecDepth 100000
namespace Go.Proofs.YteahcbeohopdlaaGreatDoor
section
variable {W : World} {b b' s s' : Bool} {A A' B B' : Option Addr} {n n' c c' m m' k k' e e' : Nat} {z z' : Int} {r r' : Rat} {K L d d' : Nat}
set_option maxHeartbeats 2000000 in
theorem rneg_h (h : QA W b A n c A' n' c' r K) (hK : 0 < K) (hK2 : K ≤ 20000) : Calls Tryz.prog 29 #[.agg #[.bool b, .slice A n c, .slice A' n' c']] W (QR W (-r)) := by
  have CT : Hid (∀ W', Bel W W' → Calls Tryz.prog 81 #[.agg #[.bool b, .slice A n c, .slice A' n' c']] W' (TermsR W' r K)) := fun W' hb => terms_h (h.up hb) hK
  have CN : Hid (∀ W' s B k e z v, ZA W' s B k e z → Hid (v = -z) → Calls Tryz.prog 102 #[.agg #[.bool s, .slice B k e]] W' (ZR W' v)) := fun W' s B k e z v hz hv => zneg_h hz hv.out.symm
  have CL : Hid (∀ W' s B k e B' k' e' z d v, ZA W' s B k e v → Hid (v = -z) → Nm W' B' k' e' d → Hid (TT z d r K) → Calls Tryz.prog 79 #[.agg #[.bool s, .slice B k e], .agg #[.slice B' k' e']] W' (QR W' (-r))) := fun W' s B k e B' k' e' z d v hz hv hd ht => lowest_t (show ZA W' s B k e (-z) by rw [← hv.out]; exact hz) hd (tt_neg ht.out) (by omega) (by omega)
  clear h
  have HB := Bel.refl W
  go_enter Tryz.func29, Tryz.ntmps29
  go_wp2_with (first | (go_at_call 81; (with_reducible refine (CT.out _ ((HB.al _).al _)).mono ?_); rintro e w1 ⟨ps, pA, pn, pc, pB, pm, pe, pz, pd, rfl, pzz, pnn, ph, hbk⟩; have HR := At.up (at_new1 _ _ _ _) hbk; replace HB := ((HB.al _).al _).up hbk; replace ph : Hid (TT pz pd r K) := ph; have hLR := HR.lt) | fail)
  go_region_held3 (fun w' => w'.cell? ⟨w1.heap.size, 0, none⟩ = some (.bool ps) ∧ w'.cell? ⟨w1.heap.size, 1, none⟩ = some (.slice pA pn pc) ∧ w'.cell? ⟨w1.heap.size + 1, 0, none⟩ = some (.slice pB pm pe))
    (first | exact ⟨((at_new0 _ _ _).al _).dr.c0, ((at_new0 _ _ _).al _).dr.c1, (at_new1 _ _ _ _).dr.c0⟩ | exact ⟨HP.c0, HP.c1, HN.c0⟩ | exact ⟨(((HP.far (by omega) _).far (by omega) _).far (by omega) _).c0, (((HP.far (by omega) _).far (by omega) _).far (by omega) _).c1, (((HN.far (by omega) _).far (by omega) _).far (by omega) _).c0⟩)
    (first | (go_at_call 102; obtain ⟨nv, hnv⟩ : ∃ v : Int, Hid (v = -pz) := ⟨_, rfl⟩; (with_reducible refine (CN.out _ _ _ _ _ _ nv ((pzz.al _).al _).dr hnv).mono ?_); rintro e w2 ⟨nA, nc, rfl, nzz, hbk⟩; have HP := At.up ((at_new0 _ _ _).al _).dr hbk; have HN := At.up (at_new1 _ _ _ _).dr hbk; replace HB := ((HB.al _).al _).dr.up hbk; replace HR := ((HR.al _).al _).dr.up hbk; replace pnn := ((pnn.al _).al _).dr.up hbk; have hL := HP.lt; have hL1 := HN.lt) | (go_at_call 79; (with_reducible refine (CL.out _ _ _ _ _ _ _ _ _ _ _ nzz hnv pnn ph).mono ?_); rintro e w3 ⟨B, e1, B', e2, rfl, nz, nd, hbk⟩; replace HB := HB.up hbk; replace HR := HR.up hbk; replace HP := HP.up hbk; replace HN := HN.up hbk; have hr_0 := HR.c0; have hr_1 := HR.c1; have hr_2 := HR.c2; have hr_l := HR.lt; have hr_f0 := HR.f0; have hr_f1 := HR.f1; have hr_f2 := HR.f2) | fail)
  go_wp2_with fail
  refine bodyPost_ret (v := .agg #[.bool (decide ((-r).num < 0)), .slice B (dl (-r).num.natAbs) e1, .slice B' (dl (-r).den) e2]) (by simp [results, Tryz.results29, go_sem, hr_0, hr_1, hr_2]) rfl ?_
  exact ⟨B, e1, B', e2, rfl, zr_of (nz.1.put3 HR now3), nd.put3 HR now3, below3 HB (by first | omega | simp | (simp; omega)) _ _ _⟩

set_option maxHeartbeats 4000000 in
theorem radd_h (h : QA W b A n c A' n' c' r K) (h' : QA W b' B k e B' k' e' r' K) (hK : 0 < K) (hK2 : K ≤ 20000) : Calls Tryz.prog 31 #[.agg #[.bool b, .slice A n c, .slice A' n' c'], .agg #[.bool b', .slice B k e, .slice B' k' e']] W (QR W (r + r')) := by
  have CTa : Hid (∀ W', Bel W W' → Calls Tryz.prog 81 #[.agg #[.bool b, .slice A n c, .slice A' n' c']] W' (TermsR W' r K)) := fun W' hb => terms_h (h.up hb) hK
  have CTb : Hid (∀ W', Bel W W' → Calls Tryz.prog 81 #[.agg #[.bool b', .slice B k e, .slice B' k' e']] W' (TermsR W' r' K)) := fun W' hb => terms_h (h'.up hb) hK
  have CX : Hid (∀ W' s B k e B' k' e' (z : Int) (d : Nat) r1 r2 (z2 : Int) (d2 : Nat) (v : Int), Hid (v = z * (d : Int)) → ZA W' s B k e z → Nm W' B' k' e' d → Hid (TT z d2 r1 K) → Hid (TT z2 d r2 K) → Calls Tryz.prog 94 #[.agg #[.bool s, .slice B k e], .agg #[.slice B' k' e']] W' (ZR W' v)) := fun W' s B k e B' k' e' z d r1 r2 z2 d2 v hv hz hd h1 h2 => by rw [hv.out]; exact times_b hz hd h1.out.2.2.1 h2.out.2.2.2 (by omega)
  have CA : Hid (∀ W' s B k e s' B' k' e' (z : Int) (d : Nat) (z' : Int) (d' : Nat) (x y : Int), Hid (x = z * (d' : Int)) → Hid (y = z' * (d : Int)) → ZA W' s B k e x → ZA W' s' B' k' e' y → Hid (TT z d r K) → Hid (TT z' d' r' K) → ∀ v, Hid (v = x + y) → Calls Tryz.prog 104 #[.agg #[.bool s, .slice B k e], .agg #[.bool s', .slice B' k' e']] W' (ZR W' v)) := fun W' s B k e s' B' k' e' z d z' d' x y hx hy h1 h2 t1 t2 v hv => zadd_h h1 h2 hv.out.symm (by rw [hv.out, hx.out, hy.out]; exact Nat.le_trans (dl_bd2 (tt_add t1.out t2.out).2.2.1 (by omega)) (by omega))
  have CM : Hid (∀ W' B k e B' k' e' z d z' d', Nm W' B k e d → Nm W' B' k' e' d' → Hid (TT z d r K) → Hid (TT z' d' r' K) → Calls Tryz.prog 105 #[.agg #[.slice B k e], .agg #[.slice B' k' e']] W' (NumR W' (d * d'))) := fun W' B k e B' k' e' z d z' d' h1 h2 t1 t2 => mul_h h1 h2 rfl (Nat.le_trans (dl_bd2 (tt_add t1.out t2.out).2.2.2 (by omega)) (by omega))
  have CL : Hid (∀ W' s B k e B' k' e' (z : Int) (d : Nat) (z' : Int) (d' : Nat) (x y v : Int), Hid (x = z * (d' : Int)) → Hid (y = z' * (d : Int)) → Hid (v = x + y) → ZA W' s B k e v → Nm W' B' k' e' (d * d') → Hid (TT z d r K) → Hid (TT z' d' r' K) → Calls Tryz.prog 79 #[.agg #[.bool s, .slice B k e], .agg #[.slice B' k' e']] W' (QR W' (r + r'))) := fun W' s B k e B' k' e' z d z' d' x y v hx hy hv h1 h2 t1 t2 => lowest_t (show ZA W' s B k e (z * (d' : Int) + z' * (d : Int)) by rw [← hx.out, ← hy.out, ← hv.out]; exact h1) h2 (tt_add t1.out t2.out) (by omega) (by omega)
  clear h h'
  have HB := Bel.refl W
  go_enter Tryz.func31, Tryz.ntmps31
  go_wp2_with (first | (go_at_call 81; (with_reducible refine (CTa.out _ (((HB.al _).al _).al _)).mono ?_); rintro e w1 ⟨ps, pA, pn, pc, pB, pm, pe, pz, pd, rfl, pzz, pnn, ph, hbk⟩; have HX := At.up (((at_new0 _ _ _).al _).al _) hbk; have HY := At.up ((at_new1 _ _ _ _).al _) hbk; have HR := At.up (at_new2 _ _ _ _ _) hbk; replace HB := (((HB.al _).al _).al _).up hbk; have hy_0 := HY.c0; have hy_1 := HY.c1; have hy_2 := HY.c2; have hy_l := HY.lt; have hy2 : W.heap.size < w1.heap.size := (by omega); replace ph : Hid (TT pz pd r K) := ph; have hLR := HR.lt) | (go_at_call 81; (with_reducible refine (CTb.out _ ((HB.al _).al _)).mono ?_); rintro e w2 ⟨qs, qA, qn, qc, qB, qm, qe, qz, qd, rfl, qzz, qnn, qh, hbk⟩; have HP := At.up ((at_new0 _ _ _).al _) hbk; have HN := At.up (at_new1 _ _ _ _) hbk; replace HB := ((HB.al _).al _).up hbk; replace pzz := ((pzz.al _).al _).up hbk; replace pnn := ((pnn.al _).al _).up hbk; replace HR := ((HR.al _).al _).up hbk; clear hy_0 hy_1 hy_2 hy_l hy2; have hp_l := HP.lt; have hn_l := HN.lt; replace qh : Hid (TT qz qd r' K) := qh; have hLR2 := HR.lt) | fail)
  go_region_held3 (fun w' => w'.cell? ⟨w1.heap.size, 0, none⟩ = some (.bool ps) ∧ w'.cell? ⟨w1.heap.size, 1, none⟩ = some (.slice pA pn pc) ∧ w'.cell? ⟨w1.heap.size + 1, 0, none⟩ = some (.slice pB pm pe) ∧ w'.cell? ⟨w2.heap.size, 0, none⟩ = some (.bool qs) ∧ w'.cell? ⟨w2.heap.size, 1, none⟩ = some (.slice qA qn qc) ∧ w'.cell? ⟨w2.heap.size + 1, 0, none⟩ = some (.slice qB qm qe))
    (first | exact ⟨((HP.al _).al _).dr.c0, ((HP.al _).al _).dr.c1, ((HN.al _).al _).dr.c0, ((at_new0 _ _ _).al _).dr.c0, ((at_new0 _ _ _).al _).dr.c1, (at_new1 _ _ _ _).dr.c0⟩ | exact ⟨HP.c0, HP.c1, HN.c0, HV.c0, HV.c1, HM.c0⟩ | exact ⟨(((HP.far (by omega) _).far (by omega) _).far (by omega) _).c0, (((HP.far (by omega) _).far (by omega) _).far (by omega) _).c1, (((HN.far (by omega) _).far (by omega) _).far (by omega) _).c0, (((HV.far (by omega) _).far (by omega) _).far (by omega) _).c0, (((HV.far (by omega) _).far (by omega) _).far (by omega) _).c1, (((HM.far (by omega) _).far (by omega) _).far (by omega) _).c0⟩)
    (first | (go_at_call 94; obtain ⟨xv, hxv⟩ : ∃ v : Int, Hid (v = pz * (qd : Int)) := ⟨_, rfl⟩; (with_reducible refine (CX.out _ _ _ _ _ _ _ _ _ _ _ _ _ _ xv hxv ((pzz.al _).al _).dr ((qnn.al _).al _).dr ph qh).mono ?_); rintro e w3 ⟨xA, xc, rfl, x1, hbk⟩; have HV := At.up ((at_new0 _ _ _).al _).dr hbk; have HM := At.up (at_new1 _ _ _ _).dr hbk; replace HB := ((HB.al _).al _).dr.up hbk; replace HP := ((HP.al _).al _).dr.up hbk; replace HN := ((HN.al _).al _).dr.up hbk; replace HR := ((HR.al _).al _).dr.up hbk; replace pzz := ((pzz.al _).al _).dr.up hbk; replace pnn := ((pnn.al _).al _).dr.up hbk; replace qzz := ((qzz.al _).al _).dr.up hbk; replace qnn := ((qnn.al _).al _).dr.up hbk) | (go_at_call 94; obtain ⟨yv, hyv⟩ : ∃ v : Int, Hid (v = qz * (pd : Int)) := ⟨_, rfl⟩; (with_reducible refine (CX.out _ _ _ _ _ _ _ _ _ _ _ _ _ _ yv hyv qzz pnn qh ph).mono ?_); rintro e w4 ⟨yA, yc, rfl, y1, hbk⟩; replace HB := HB.up hbk; replace HP := HP.up hbk; replace HN := HN.up hbk; replace HR := HR.up hbk; replace HV := HV.up hbk; replace HM := HM.up hbk; replace pzz := pzz.up hbk; replace pnn := pnn.up hbk; replace qzz := qzz.up hbk; replace qnn := qnn.up hbk; replace x1 := x1.up hbk) | (go_at_call 104; obtain ⟨av, hav⟩ : ∃ v : Int, Hid (v = xv + yv) := ⟨_, rfl⟩; (with_reducible refine (CA.out _ _ _ _ _ _ _ _ _ _ _ _ _ _ _ hxv hyv x1 y1 ph qh av hav).mono ?_); rintro e w5 ⟨aA, ac, rfl, a1, hbk⟩; replace HB := HB.up hbk; replace HP := HP.up hbk; replace HN := HN.up hbk; replace HR := HR.up hbk; replace HV := HV.up hbk; replace HM := HM.up hbk; replace pnn := pnn.up hbk; replace qnn := qnn.up hbk) | (go_at_call 105; (with_reducible refine (CM.out _ _ _ _ _ _ _ _ _ _ _ pnn qnn ph qh).mono ?_); rintro e w6 ⟨mA, mc, rfl, m1, hbk⟩; replace HB := HB.up hbk; replace HP := HP.up hbk; replace HN := HN.up hbk; replace HR := HR.up hbk; replace HV := HV.up hbk; replace HM := HM.up hbk; replace a1 := a1.up hbk; have hL := HP.lt; have hL1 := HN.lt; have hL2 := HV.lt; have hL3 := HM.lt) | (go_at_call 79; (with_reducible refine (CL.out _ _ _ _ _ _ _ _ _ _ _ _ _ _ _ hxv hyv hav a1 m1 ph qh).mono ?_); rintro e w7 ⟨B, e1, B', e2, rfl, nz, nd, hbk⟩; replace HB := HB.up hbk; replace HR := HR.up hbk; replace HP := HP.up hbk; replace HN := HN.up hbk; replace HV := HV.up hbk; replace HM := HM.up hbk; have hr_0 := HR.c0; have hr_1 := HR.c1; have hr_2 := HR.c2; have hr_l := HR.lt; have hr_f0 := HR.f0; have hr_f1 := HR.f1; have hr_f2 := HR.f2) | fail)
  go_wp2_with fail
  refine bodyPost_ret (v := .agg #[.bool (decide ((r + r').num < 0)), .slice B (dl (r + r').num.natAbs) e1, .slice B' (dl (r + r').den) e2]) (by simp [results, Tryz.results31, go_sem, hr_0, hr_1, hr_2]) rfl ?_
  exact ⟨B, e1, B', e2, rfl, zr_of (nz.1.put3 HR now3), nd.put3 HR now3, below3 HB (by first | omega | simp | (simp; omega)) _ _ _⟩
end
end Go.Proofs.YteahcbeohopdlaaGreatDoor
end

section
/- Package rat: Text, Parse of what Text shows. -/
open Go.RowKit
set_option maxRecDepth 100000
namespace Go.Proofs.YteahcbeohopdlaaGreatDoor
section
variable {W : World} {b b' : Bool} {A A' : Option Addr} {n n' c c' m m' : Nat} {z z' : Int} {r : Rat} {K : Nat}
set_option maxHeartbeats 2000000 in
theorem rtext_h (h : QA W b A n c A' n' c' r K) (hK : 0 < K) (hK2 : K ≤ 9000) : Calls Tryz.prog 17 #[.agg #[.bool b, .slice A n c, .slice A' n' c']] W (TxR W (decQ r)) := by
  have HL1 : Hid ((decZ r.num).length ≤ 90002) := Nat.le_trans (decZ_bd (qa_bd h hK).1) (by omega)
  have HL2 : Hid ((decL r.den).length ≤ 90001) := Nat.le_trans (dec_bd (qa_bd h hK).2) (by omega)
  have CT : Hid (∀ W', Bel W W' → Calls Tryz.prog 81 #[.agg #[.bool b, .slice A n c, .slice A' n' c']] W' (TermsR W' r K)) := fun W' hb => terms_h (h.up hb) hK
  have CL : Hid (∀ W' s B k e B' k' e' z d, ZA W' s B k e z → Nm W' B' k' e' d → Hid (TT z d r K) → Calls Tryz.prog 79 #[.agg #[.bool s, .slice B k e], .agg #[.slice B' k' e']] W' (QR W' r)) := fun W' s B k e B' k' e' z d hz hd ht => lowest_t hz hd ht.out (by omega) (by omega)
  have CO : Hid (∀ W' B k e, Nm W' B k e r.den → Calls Tryz.prog 87 #[.agg #[.slice B k e]] W' (RetB W' (decide (r.den = 1)))) := fun W' B k e hn => rone_h hn
  have CZ : Hid (∀ W' s B k e, ZA W' s B k e r.num → Calls Tryz.prog 88 #[.agg #[.bool s, .slice B k e]] W' (TxR W' (decZ r.num))) := fun W' s B k e hz => ztext_h hz
  have CN : Hid (∀ W' B k e, Nm W' B k e r.den → Calls Tryz.prog 89 #[.agg #[.slice B k e]] W' (TxR W' (decL r.den))) := fun W' B k e hz => text_h hz
  clear h
  obtain ⟨sg, hsg⟩ : ∃ s, s = decide (r.num < 0) := ⟨_, rfl⟩
  have HSG := hide hsg
  clear hsg
  have CL2 : Hid (∀ W' s B k e B' k' e' z d, ZA W' s B k e z → Nm W' B' k' e' d → Hid (TT z d r K) → Calls Tryz.prog 79 #[.agg #[.bool s, .slice B k e], .agg #[.slice B' k' e']] W' (QRs W' sg r)) := fun W' s B k e B' k' e' z d hz hd ht => by rw [HSG.out]; exact CL.out _ _ _ _ _ _ _ _ _ _ hz hd ht
  have HB := Bel.refl W
  by_cases h1 : r.den = 1
  · rw [decide_eq_true h1] at CO
    have HD : Hid (decQ r = decZ r.num) := if_pos h1
    clear h1 CL
    go_enter Tryz.func17, Tryz.ntmps17
    go_wp2_with (first | (go_at_call 81; (with_reducible refine (CT.out _ (HB.al _)).mono ?_); rintro e w1 ⟨ps, pA, pn, pc, pB, pm, pe, pz, pd, rfl, pzz, pnn, ph, hbk⟩; have HX := At.up (at_new0 _ _ _) hbk; replace HB := (HB.al _).up hbk; replace ph : Hid (TT pz pd r K) := ph) | (go_at_call 79; (with_reducible refine (CL2.out _ _ _ _ _ _ _ _ _ _ pzz pnn ph).mono ?_); rintro e w2 ⟨B, e1, B', e2, rfl, nz, nd, hbk⟩; replace HB := HB.up hbk) | (go_at_call 87; (with_reducible refine (CO.out _ _ _ _ (nd.al _)).mono ?_); rintro e w3 ⟨rfl, hbk⟩; have HQ := At.up (at_new0 _ _ _) hbk; replace HB := (HB.al _).up hbk; replace nz := (nz.al _).up hbk; replace nd := (nd.al _).up hbk; have hq_0 := HQ.c0; have hq_1 := HQ.c1; have hq_2 := HQ.c2; have hq_l := HQ.lt) | (go_at_call 88; (with_reducible refine (CZ.out _ _ _ _ _ nz).mono ?_); rintro e w4 ⟨t, rfl, ht, hbk⟩; replace HB := HB.up hbk) | fail)
    go_ret
    exact ⟨t, rfl, by unfold Hid; rw [HD.out]; exact ht.out, HB⟩
  · rw [decide_eq_false h1] at CO
    have HD : Hid (decQ r = decZ r.num ++ (47 :: decL r.den)) := if_neg h1
    clear h1 CL
    go_enter Tryz.func17, Tryz.ntmps17
    go_wp2_with (first | (go_at_call 81; (with_reducible refine (CT.out _ (HB.al _)).mono ?_); rintro e w1 ⟨ps, pA, pn, pc, pB, pm, pe, pz, pd, rfl, pzz, pnn, ph, hbk⟩; have HX := At.up (at_new0 _ _ _) hbk; replace HB := (HB.al _).up hbk; replace ph : Hid (TT pz pd r K) := ph) | (go_at_call 79; (with_reducible refine (CL2.out _ _ _ _ _ _ _ _ _ _ pzz pnn ph).mono ?_); rintro e w2 ⟨B, e1, B', e2, rfl, nz, nd, hbk⟩; replace HB := HB.up hbk) | (go_at_call 87; (with_reducible refine (CO.out _ _ _ _ (nd.al _)).mono ?_); rintro e w3 ⟨rfl, hbk⟩; have HQ := At.up (at_new0 _ _ _) hbk; replace HB := (HB.al _).up hbk; replace nz := (nz.al _).up hbk; replace nd := (nd.al _).up hbk; have hq_0 := HQ.c0; have hq_1 := HQ.c1; have hq_2 := HQ.c2; have hq_l := HQ.lt) | fail)
    go_region_held3 (fun w' => w'.cell? ⟨w2.heap.size, 0, none⟩ = some (.bool sg) ∧ w'.cell? ⟨w2.heap.size, 1, none⟩ = some (.slice B (dl r.num.natAbs) e1) ∧ w'.cell? ⟨w2.heap.size, 2, none⟩ = some (.slice B' (dl r.den) e2))
    (first | exact ⟨HQ.dr.c0, HQ.dr.c1, HQ.dr.c2⟩ | exact ⟨HQ.c0, HQ.c1, HQ.c2⟩)
    (first | (go_at_call 88; (with_reducible refine (CZ.out _ _ _ _ _ nz.dr).mono ?_); rintro e w4 ⟨t, rfl, ht, hbk⟩; replace HB := HB.dr.up hbk; replace HQ := HQ.dr.up hbk; replace nd := nd.dr.up hbk; have hts : t.size ≤ 90002 := (by rw [size_list, ht.out]; exact HL1.out); have hc1 : ¬ 9223372036854775807 < t.size + 1 := (by omega); have hc2 : t.size + 1 ≤ 9223372036854775807 := (by omega)) | (go_at_call 89; (with_reducible refine (CN.out _ _ _ _ nd).mono ?_); rintro e w5 ⟨t2, rfl, ht2, hbk⟩; replace HB := HB.up hbk; replace HQ := HQ.up hbk; have hts2 : t2.size ≤ 90001 := (by rw [size_list, ht2.out]; exact HL2.out); have hd1 : ¬ 9223372036854775807 < t.size + 1 + t2.size := (by omega); have hd2 : t.size + 1 + t2.size ≤ 9223372036854775807 := (by omega)) | fail)
    go_wp2
    go_ret
    refine ⟨_, rfl, ?_, HB⟩
    unfold Hid
    rw [HD.out, ← ht.out, ← ht2.out]
    simp
set_option maxHeartbeats 2000000 in
theorem rparse_frac {s t u : ByteArray} {v : Int} {d : Nat} (hs : s.size ≤ 99999) (h : s.data.toList = t.data.toList ++ 47 :: u.data.toList) (ht : ¬ (47 : UInt8) ∈ t.data.toList) (hz : ∀ W', Calls Tryz.prog 84 #[.string t] W' (ZPR W' v)) (hd : digB u.data.toList = true) (hv : numL u.data.toList = d) (h0 : 0 < d) (bv : dl v.natAbs ≤ 99999) (bd : dl d ≤ 99999) (hr : mkRat v d = r) :
    Calls Tryz.prog 14 #[.string s] W (OfYes W r) := by
  have CC := hide (fun W' => slash_hit (s := s) (t := t) (u := u) W' (by omega) h ht)
  have CZ := hide hz
  have CN : Hid (∀ W', Calls Tryz.prog 85 #[.string u] W' (NPR W' d)) := fun W' => npar_h (by have h1 := congrArg List.length h; rw [← size_list, List.length_append, List.length_cons, ← size_list, ← size_list] at h1; omega) hd hv (by omega)
  have CF : Hid (∀ W' s B k e B' k' e', ZA W' s B k e v → Nm W' B' k' e' d → Calls Tryz.prog 8 #[.agg #[.bool s, .slice B k e], .agg #[.slice B' k' e']] W' (OfYes W' r)) := fun W' s B k e B' k' e' h1 h2 => of_yes h1 h2 h0 hr bv bd
  clear hs h ht hz hd hv h0 bv bd hr
  obtain ⟨sg, hsg⟩ : ∃ s, s = decide (r.num < 0) := ⟨_, rfl⟩
  have HSG := hide hsg
  clear hsg
  have CF2 : Hid (∀ W' s B k e B' k' e', ZA W' s B k e v → Nm W' B' k' e' d → Calls Tryz.prog 8 #[.agg #[.bool s, .slice B k e], .agg #[.slice B' k' e']] W' (OfYs W' sg r)) := fun W' s B k e B' k' e' h1 h2 => by rw [HSG.out]; exact CF.out _ _ _ _ _ _ _ _ h1 h2
  have HB := Bel.refl W
  go_enter Tryz.func14, Tryz.ntmps14
  go_wp2_with (first | (go_at_call 83; (with_reducible refine (CC.out _).mono ?_); rintro e w1 ⟨rfl, hbk⟩; have HR := At.up (at_new0 _ _ _) hbk; replace HB := (HB.al _).up hbk) | (go_at_call 84; (with_reducible refine (CZ.out _).mono ?_); rintro e w2 ⟨pA, pc, rfl, pz, hbk⟩; replace HB := HB.up hbk; replace HR := HR.up hbk) | (go_at_call 85; (with_reducible refine (CN.out _).mono ?_); rintro e w3 ⟨nA, nc, rfl, nn, hbk⟩; have HP := At.up (at_new0 _ _ _) hbk; replace HB := (HB.al _).up hbk; replace HR := (HR.al _).up hbk; replace pz := (pz.al _).up hbk; have hp_0 := HP.c0; have hp_1 := HP.c1; have hp_l := HP.lt) | (go_at_call 8; (with_reducible refine (CF2.out _ _ _ _ _ _ _ _ (pz.al _) (nn.al _)).mono ?_); rintro e w4 ⟨B, e1, B', e2, rfl, nz, nd, hbk⟩; replace HB := (HB.al _).up hbk; replace HR := (HR.al _).up hbk; clear hp_0 hp_1 hp_l; have hr_0 := HR.c0; have hr_1 := HR.c1; have hr_2 := HR.c2; have hr_l := HR.lt; have hr_f0 := HR.f0; have hr_f1 := HR.f1; have hr_f2 := HR.f2) | fail)
  refine bodyPost_ret (v := .tuple #[.agg #[.bool sg, .slice B (dl r.num.natAbs) e1, .slice B' (dl r.den) e2], .bool true]) (by simp [results, Tryz.results14, go_sem, hr_0, hr_1, hr_2]) rfl ?_
  refine ⟨B, e1, B', e2, by rw [HSG.out], zr_of (nz.1.put3 HR now3), nd.put3 HR now3, below3 HB (Nat.le_refl _) _ _ _⟩
set_option maxHeartbeats 2000000 in
theorem rparse_int {s : ByteArray} {v : Int} (hs : s.size ≤ 99999) (ht : ¬ (47 : UInt8) ∈ s.data.toList) (hz : ∀ W', Calls Tryz.prog 84 #[.string s] W' (ZPR W' v)) (bv : dl v.natAbs ≤ 99999) (hr : mkRat v 1 = r) :
    Calls Tryz.prog 14 #[.string s] W (OfYes W r) := by
  have CC := hide (fun W' => slash_miss (s := s) W' (by omega) ht)
  have CZ := hide hz
  have C1 : Hid (∀ W', Calls Tryz.prog 10 #[.int .u64 1] W' (NumR W' 1)) := fun W' => of_h (v := 1) (by omega)
  have CF : Hid (∀ W' s B k e B' k' e', ZA W' s B k e v → Nm W' B' k' e' 1 → Calls Tryz.prog 8 #[.agg #[.bool s, .slice B k e], .agg #[.slice B' k' e']] W' (OfYes W' r)) := fun W' s B k e B' k' e' h1 h2 => of_yes h1 h2 (by decide) hr bv (by rw [dl_one]; decide)
  clear hs ht hz bv hr
  obtain ⟨sg, hsg⟩ : ∃ s, s = decide (r.num < 0) := ⟨_, rfl⟩
  obtain ⟨sv, hsv⟩ : ∃ s, s = decide (v < 0) := ⟨_, rfl⟩
  have HSG := hide hsg
  have CZ2 : Hid (∀ W', Calls Tryz.prog 84 #[.string s] W' (ZPRs W' sv v)) := fun W' => by rw [hsv]; exact CZ.out W'
  clear hsg hsv CZ
  have CF2 : Hid (∀ W' s B k e B' k' e', ZA W' s B k e v → Nm W' B' k' e' 1 → Calls Tryz.prog 8 #[.agg #[.bool s, .slice B k e], .agg #[.slice B' k' e']] W' (OfYs W' sg r)) := fun W' s B k e B' k' e' h1 h2 => by rw [HSG.out]; exact CF.out _ _ _ _ _ _ _ _ h1 h2
  have HB := Bel.refl W
  go_enter Tryz.func14, Tryz.ntmps14
  go_wp2_with (first | (go_at_call 83; (with_reducible refine (CC.out _).mono ?_); rintro e w1 ⟨u, rfl, hbk⟩; have HR := At.up (at_new0 _ _ _) hbk; replace HB := (HB.al _).up hbk) | (go_at_call 84; (with_reducible refine (CZ2.out _).mono ?_); rintro e w2 ⟨pA, pc, rfl, pz, hbk⟩; replace HB := HB.up hbk; replace HR := HR.up hbk; have hLR := HR.lt) | fail)
  go_region_held3 (fun w' => w'.cell? ⟨w2.heap.size, 0, none⟩ = some (.bool sv) ∧ w'.cell? ⟨w2.heap.size, 1, none⟩ = some (.slice pA (dl v.natAbs) pc))
    (first | exact ⟨(at_new0 _ _ _).dr.c0, (at_new0 _ _ _).dr.c1⟩ | exact ⟨HP.c0, HP.c1⟩ | exact ⟨(((HP.far (by omega) _).far (by omega) _).far (by omega) _).c0, (((HP.far (by omega) _).far (by omega) _).far (by omega) _).c1⟩)
    (first | (go_at_call 10; (with_reducible refine (C1.out _).mono ?_); rintro e w3 ⟨nA, nc, rfl, nn, hbk⟩; have HP := At.up (at_new0 _ _ _).dr hbk; replace HB := (HB.al _).dr.up hbk; replace HR := (HR.al _).dr.up hbk; replace pz := (pz.al _).dr.up hbk; have hLP := HP.lt) | (go_at_call 8; (with_reducible refine (CF2.out _ _ _ _ _ _ _ _ pz nn).mono ?_); rintro e w4 ⟨B, e1, B', e2, rfl, nz, nd, hbk⟩; replace HB := HB.up hbk; replace HR := HR.up hbk; replace HP := HP.up hbk; have hr_0 := HR.c0; have hr_1 := HR.c1; have hr_2 := HR.c2; have hr_l := HR.lt; have hr_f0 := HR.f0; have hr_f1 := HR.f1; have hr_f2 := HR.f2) | fail)
  go_wp2_with fail
  refine bodyPost_ret (v := .tuple #[.agg #[.bool sg, .slice B (dl r.num.natAbs) e1, .slice B' (dl r.den) e2], .bool true]) (by simp [results, Tryz.results14, go_sem, hr_0, hr_1, hr_2]) rfl ?_
  refine ⟨B, e1, B', e2, by rw [HSG.out], zr_of (nz.1.put3 HR now3), nd.put3 HR now3, below3 HB (Nat.le_refl _) _ _ _⟩
end
end Go.Proofs.YteahcbeohopdlaaGreatDoor
end

section
/- The document's own numbers: Sub. Conditions: at most 100000 fours of digits; a is at least b. -/
open Go.RowKit
set_option maxRecDepth 100000
namespace Go.Proofs.YteahcbeohopdlaaGreatDoor
theorem rsub_end {V m n k cr : Nat} (h : V + n = m + D4 ^ k * cr) (hV : V < D4 ^ k) (hnm : n ≤ m) (hc : cr ≤ 1) : V = m - n := by
  rcases Nat.eq_zero_or_pos cr with h0 | h0
  · rw [h0, Nat.mul_zero] at h; omega
  · obtain rfl : cr = 1 := by omega
    rw [Nat.mul_one] at h; omega
set_option maxHeartbeats 2000000 in
theorem rSub_any {A A' : Option Addr} {m n c c' : Nat} {w : World} (h : RN w w.heap.size A c m) (h' : RN w w.heap.size A' c' n) (hl : dq m ≤ 100000) (hnm : n ≤ m) :
    Calls Tryz.prog 150 #[.slice A (dq m) c, .slice A' (dq n) c'] w (RefPost w (m - n)) := by
  have HX := hide h
  have HY := hide h'
  have HNM := hide hnm
  have HLN : Hid (dq n ≤ dq m) := digs_len_mono (by decide) hnm
  obtain ⟨i0, hi0, hz0, hz1, hz2⟩ := info_parts Tryz.infoInt
  have I0 := hide hi0
  have Z0 := hide hz0
  have Z1 := hide hz1
  have Z2 := hide hz2
  clear hi0 hz0 hz1 hz2 h h' hnm
  go_enter Tryz.func150, Tryz.ntmps150
  go_wp2
  go_loopw [5, 6, 7] (fun dv cv iv wr => ∃ (i cr : Nat) (dd : List Nat), i ≤ dq m ∧ cr ≤ 1 ∧ cv = .int .i64 (cr : Int) ∧ iv = .int .i64 (i : Int) ∧ Hid (dd.length = i) ∧ Hid (Good4 dd) ∧
      Hid (val D4 dd + val D4 ((digs D4 n).take i) = val D4 ((digs D4 m).take i) + D4 ^ i * cr) ∧ Hid (wr.ownsRow w.heap.size 3 1 dv dd.length (dd.map I64)) ∧ Hid (Below w.heap.size w wr))
    (fun _ _ iv _ => dq m - (intOf iv).toNat)
  case atStart => exact ⟨0, 0, [], Nat.zero_le _, by omega, rfl, rfl, rfl, by intro x hx; simp at hx, by simp [Hid, val], World.ownsRow_nil _ _ _ _, Below.refl _ _⟩
  case round =>
    obtain ⟨i, cr, dd, hi, hcr, rfl, rfl, hdl, hdg, hval, hown, hbel⟩ := hrel
    by_cases hlt : i < dq m
    · obtain ⟨x, hx⟩ : ∃ x, x = (digs D4 m)[i]?.getD 0 := ⟨_, rfl⟩
      obtain ⟨y, hy⟩ : ∃ y, y = (digs D4 n)[i]?.getD 0 := ⟨_, rfl⟩
      have hx9 : x ≤ 9999 := by rw [hx]; exact getD_lt (good4_digs m) i
      have hy9 : y ≤ 9999 := by rw [hy]; exact getD_lt (good4_digs n) i
      have CX := hide (at_any (i := i) (c := c) (show dq m = (digs D4 m).length from rfl) (HX.out.below hbel.out).2)
      have CY := hide (at_any (i := i) (c := c') (show dq n = (digs D4 n).length from rfl) (HY.out.below hbel.out).2)
      have RX := hide (val_take_getD D4 (digs D4 m) i)
      have RY := hide (val_take_getD D4 (digs D4 n) i)
      rw [← hx] at CX RX
      rw [← hy] at CY RY
      have hdl2 : dd.length ≤ 300000 := by rw [hdl.out]; omega
      have H63 : Hid (dd.length + 1 ≤ maxLen) := by simp only [maxLen, Hid]; omega
      have HB : Hid (∀ u : Value, w.heap.size ≤ (wr.alloc (.cells #[u] 3)).heap.size) := fun u => by have := hbel.out.size; simp; omega
      have FIN : Hid (∀ (d cr' : Nat) (v2 : Value) (w3 : World), d + (cr + y) = x + D4 * cr' → d ≤ 9999 → w3.ownsRow w.heap.size 3 1 v2 (dd.length + 1) (dd.map I64 ++ [.int .i64 (d : Int)]) → Below w.heap.size w w3 →
          ∃ de : List Nat, Hid (de.length = i + 1) ∧ Hid (Good4 de) ∧ Hid (val D4 de + val D4 ((digs D4 n).take (i + 1)) = val D4 ((digs D4 m).take (i + 1)) + D4 ^ (i + 1) * cr') ∧ Hid (w3.ownsRow w.heap.size 3 1 v2 de.length (de.map I64)) ∧ Hid (Below w.heap.size w w3)) := by
        intro d cr' v2 w3 hd hd9 ho hb
        refine ⟨dd ++ [d], by unfold Hid; rw [List.length_append, hdl.out]; rfl, ?_, ?_, ?_, hb⟩
        · intro z hz
          rcases List.mem_append.1 hz with hz | hz
          · exact hdg.out z hz
          · simp at hz; subst hz; rw [D4_eq]; omega
        · unfold Hid
          rw [val_snoc, hdl.out, Nat.pow_succ, RX.out, RY.out]
          exact sub_math hval.out rfl hd
        · unfold Hid
          rw [List.length_append, List.map_append]
          exact ho
      clear hx hy
      by_cases hneg : x < y + cr
      · obtain ⟨d, hd⟩ : ∃ d, d + (y + cr) = x + 10000 := ⟨x + 10000 - (y + cr), by omega⟩
        have e1 : (x : Int) - (y : Int) - (cr : Int) + 10000 = (d : Int) := by omega
        have hneg2 : (x : Int) - (y : Int) - (cr : Int) < 0 := by omega
        have hneg3 : (x : Int) - (y : Int) < (cr : Int) := by omega
        have HD : Hid (d + (cr + y) = x + D4 * 1 ∧ d ≤ 9999) := by unfold Hid; rw [D4_eq]; omega
        clear hd
        go_wp2_with (first | (go_at_call 147; first | ((with_reducible refine CX.out.mono ?_); rintro e w' ⟨rfl, rfl⟩) | ((with_reducible refine CY.out.mono ?_); rintro e w' ⟨rfl, rfl⟩)) | (at_builtin; go_must (refine wpList_append_own _ rfl (.tmp 28) (.tmp 30) 41 rfl w.heap.size 3 i0 (.int .i64 0) 1 8 Tryz.underlying41 I0.out Z0.out Z1.out Z2.out rfl (by decide) _ _ _ rfl (hown.out.alloc _) ⟨wr.heap.size, 0, none⟩ 1 1 [.int .i64 (d : Int)] rfl rfl (cell_one_new _ _ _) (by intro u hu; simp at hu; subst hu; rfl) H63.out (by omega) (HB.out _) ?_; intro v2 w3 hown' hgrow hnil)))
        go_roundw
        case rel =>
          obtain ⟨de, g1, g2, g3, g4, g5⟩ := FIN.out d 1 v2 w3 HD.out.1 HD.out.2 hown' (app_below hown.out hbel.out (Nat.le_refl _) hgrow)
          exact ⟨i + 1, 1, de, by omega, by omega, rfl, by go_num, g1, g2, g3, g4, g5⟩
        case measure => simp [intOf]; omega
      · obtain ⟨d, hd⟩ : ∃ d, d + (y + cr) = x := ⟨x - (y + cr), by omega⟩
        have e1 : (x : Int) - (y : Int) - (cr : Int) = (d : Int) := by omega
        have HD : Hid (d + (cr + y) = x + D4 * 0 ∧ d ≤ 9999) := by unfold Hid; rw [D4_eq]; omega
        have hd0 : ¬ (d : Int) < 0 := by omega
        clear hd
        go_wp2_with (first | (go_at_call 147; first | ((with_reducible refine CX.out.mono ?_); rintro e w' ⟨rfl, rfl⟩) | ((with_reducible refine CY.out.mono ?_); rintro e w' ⟨rfl, rfl⟩)) | (at_builtin; go_must (refine wpList_append_own _ rfl (.tmp 28) (.tmp 30) 41 rfl w.heap.size 3 i0 (.int .i64 0) 1 8 Tryz.underlying41 I0.out Z0.out Z1.out Z2.out rfl (by decide) _ _ _ rfl (hown.out.alloc _) ⟨wr.heap.size, 0, none⟩ 1 1 [.int .i64 (d : Int)] rfl rfl (cell_one_new _ _ _) (by intro u hu; simp at hu; subst hu; rfl) H63.out (by omega) (HB.out _) ?_; intro v2 w3 hown' hgrow hnil)))
        go_roundw
        case rel =>
          obtain ⟨de, g1, g2, g3, g4, g5⟩ := FIN.out d 0 v2 w3 HD.out.1 HD.out.2 hown' (app_below hown.out hbel.out (Nat.le_refl _) hgrow)
          exact ⟨i + 1, 0, de, by omega, by omega, rfl, by go_num, g1, g2, g3, g4, g5⟩
        case measure => simp [intOf]; omega
    · obtain rfl : i = dq m := by omega
      have HV : Hid (val D4 dd = m - n) := by
        have h1 := hval.out
        rw [List.take_of_length_le (show (digs D4 m).length ≤ dq m from Nat.le_refl _), List.take_of_length_le (show (digs D4 n).length ≤ dq m from HLN.out), val_digs4, val_digs4] at h1
        have h2 := val_lt dd hdg.out
        rw [hdl.out] at h2
        exact rsub_end h1 h2 HNM.out hcr
      obtain ⟨A2, c2, he, hc, hr⟩ := row_rd hown.out
      cases he
      have HR := hide hr
      have hdl2 : dd.length ≤ 300000 := by rw [hdl.out]; omega
      go_wp2_with (first | (go_at_call 146; go_must (refine (rtrim_post rfl HV.out HR.out hdg.out (by omega) hc).mono ?_); rintro e w2 ⟨rfl, rfl⟩))
      go_ret
      exact ⟨A2, c2, rfl, rn_of rfl HV.out HR.out hdg.out hc, hbel⟩
end Go.Proofs.YteahcbeohopdlaaGreatDoor
end

section
/- Words for the document's own division: the reckoning, and append of any slice that reads as a list. No conditions. -/
open Go.RowKit
set_option maxRecDepth 100000
namespace Go.Proofs.YteahcbeohopdlaaGreatDoor
section
variable {P : Program} {w : World}
/-- Of a nil slice append adds nothing. -/
theorem app_nil (base : Nat) (t ty e : TypeId) (i : TypeInfo) (size : Nat) (ht : P.underlying t = some (.slice e)) (hi : P.info? e = some i)
    (v : Value) (n : Nat) (xs : List Value) (hown : w.ownsRow base e size v n xs) (c : Nat) : (Builtin.append_ #[t, t] ty #[v, .slice none 0 c]).run P w = .ok v w := by
  rcases hown.2 with ⟨rfl, rfl⟩ | ⟨g, cap, cur, rfl, _, _, hnc, _⟩
  · simp [Builtin.append_, run_underlying ht, sizeOf, typeInfo, hi, Builtin.lenOf, Builtin.firstCells]
  · simp [Builtin.append_, run_underlying ht, sizeOf, typeInfo, hi, Builtin.lenOf, Builtin.firstCells, hnc, storeCells]
theorem app_run {f : Nat → Value} (hf : ∀ x, (f x).oneCell' = true) (base : Nat) (t ty e : TypeId) (i : TypeInfo) (z : Value) (bytes : Nat) (ht : P.underlying t = some (.slice e)) (hi : P.info? e = some i) (hz : i.zero = some z)
    (hsize : i.size = 1) (hby : i.bytes = bytes) (hzs : z.cells.size = 1) {v : Value} {n : Nat} {xs : List Value} (hown : w.ownsRow base e 1 v n xs)
    {B : Nat} {A : Option Addr} {m c : Nat} {ws : List Nat} (hm : m = ws.length) (hr : Rd f w B A ws) (h63 : n + m ≤ maxLen) (hbytes : (n + m) * bytes ≤ 140737488355328) (hbase : base ≤ w.heap.size) :
    ∃ v' w', (Builtin.append_ #[t, t] ty #[v, .slice A m c]).run P w = .ok v' w' ∧ w'.ownsRow base e 1 v' (n + m) (xs ++ ws.map f) ∧ w.grownBy w' v.ownBlock ∧ (v'.ownBlock = v.ownBlock ∨ v'.ownBlock = some w.heap.size) := by
  subst hm
  by_cases h0 : ws = []
  · subst h0
    cases A with
    | none => exact ⟨v, w, app_nil base t ty e i 1 ht hi v n xs hown c, by simpa using hown, World.grownBy.refl w _, .inl rfl⟩
    | some ad =>
      obtain ⟨v', w', h1, h2, h3, _, h5⟩ := run_append_own_at (P := P) w base t ty e i z 1 bytes ht hi hz hsize hby hzs (by decide) v n xs hown ad 0 c [] (by simp) (by simp) (by simp) h63 hbytes hbase
      exact ⟨v', w', h1, by simpa using h2, h3, h5⟩
  · obtain ⟨ad, rfl, _, hc⟩ := hr (List.length_pos_iff.2 h0)
    obtain ⟨v', w', h1, h2, h3, _, h5⟩ := run_append_own_at (P := P) w base t ty e i z 1 bytes ht hi hz hsize hby hzs (by decide) v n xs hown ad ws.length c (ws.map f) (by simp) (fun j u hu => by
      rw [List.getElem?_map] at hu
      cases hj : ws[j]? with
      | none => rw [hj] at hu; cases hu
      | some x => rw [hj] at hu; injection hu with hu; rw [← hu]; exact hc j x hj) (by intro u hu; obtain ⟨x, _, rfl⟩ := List.mem_map.1 hu; exact hf x) h63 hbytes hbase
    exact ⟨v', w', h1, h2, h3, h5⟩
theorem wpList_app {f : Nat → Value} (hf : ∀ x, (f x).oneCell' = true) {ops : Array Oper} {rest : List Oper} {o : Oper} {a : Act} {Q : Exit → Act → World → Prop} (hgd : o.guard = none) (s x : Operand) (t : TypeId)
    (ho : o.op = .call { callee := .builtin .append, args := #[s, x], argTypes := #[t, t] }) (base : Nat) (e : TypeId) (i : TypeInfo) (z : Value) (bytes : Nat) (ht : P.underlying t = some (.slice e)) (hi : P.info? e = some i) (hz : i.zero = some z)
    (hsize : i.size = 1) (hby : i.bytes = bytes) (hzs : z.cells.size = 1) {v : Value} {n : Nat} {xs : List Value} (hs : a.eval s = v) (hown : w.ownsRow base e 1 v n xs)
    {B : Nat} {A : Option Addr} {m c : Nat} {ws : List Nat} (hx : a.eval x = .slice A m c) (hm : m = ws.length) (hr : Rd f w B A ws) (h63 : n + m ≤ maxLen) (hbytes : (n + m) * bytes ≤ 140737488355328) (hbase : base ≤ w.heap.size)
    (h : ∀ v' w', w'.ownsRow base e 1 v' (n + m) (xs ++ ws.map f) → w.grownBy w' v.ownBlock → (v'.ownBlock = v.ownBlock ∨ v'.ownBlock = some w.heap.size) → wpList P ops Q rest (a.put o.dst v') w') : wpList P ops Q (o :: rest) a w := by
  refine wpList_plain hgd fun K hK => ?_
  obtain ⟨v', w', h1, h2, h3, h4⟩ := app_run (P := P) hf base t o.type e i z bytes ht hi hz hsize hby hzs hown hm hr h63 hbytes hbase
  unfold Oper.wp execOp
  simp only [ho, resolve, invoke, builtin, Sem.run_bind, Sem.run_pure, Result.andThen_ok, List.map_toArray, List.map_cons, List.map_nil, hs, hx]
  rw [h1]
  exact hK _ _ (h v' w' h2 h3 h4)
end
/-- One digit of the quotient. -/
theorem rdiv_digit {n r x : Nat} (hr : r < n) (hx : x ≤ 9999) : (x + D4 * r) / n ≤ 9999 ∧ (x + D4 * r) - n * ((x + D4 * r) / n) < n ∧ n * ((x + D4 * r) / n) ≤ x + D4 * r := by
  have h0 : 0 < n := by omega
  have h1 : (x + D4 * r) / n < 10000 := by
    rw [Nat.div_lt_iff_lt_mul h0]
    have : D4 * (r + 1) ≤ 10000 * n := Nat.mul_le_mul (by decide) hr
    rw [Nat.mul_add, D4_eq] at this
    rw [D4_eq]; omega
  have h2 := Nat.div_add_mod (x + D4 * r) n
  have h3 := Nat.mod_lt (x + D4 * r) h0
  omega
theorem rdiv_step {n H r x M t r' : Nat} (hM : M = n * H + r) (ht : n * t + r' = x + D4 * r) : x + D4 * M = n * (t + D4 * H) + r' := by
  have e1 : n * (t + D4 * H) = n * t + D4 * (n * H) := by rw [Nat.mul_add, Nat.mul_left_comm]
  rw [hM, e1, Nat.mul_add]; omega
theorem rdiv_end {m n Q r : Nat} (hM : m = n * Q + r) (hr : r < n) : m / n = Q ∧ m % n = r := by
  exact (Nat.div_mod_unique (a := m) (b := n) (by omega)).2 ⟨by rw [hM, Nat.add_comm], hr⟩
theorem zeros_set {hi : List Nat} {i v : Nat} : (List.replicate (i + 1) 0 ++ hi).set i v = List.replicate i 0 ++ (v :: hi) := by
  rw [List.replicate_succ']
  rw [List.append_assoc, List.set_append_right _ _ (by simp)]
  simp
theorem val_drop_lt {m top : Nat} (h : top ≤ dq m) : val D4 ((digs D4 m).drop top) < D4 ^ (dq m - top) := by
  have := val_lt ((digs D4 m).drop top) (fun x hx => good4_digs m x (List.mem_of_mem_drop hx))
  rwa [List.length_drop] at this
/-- The bisection's step. -/
theorem bis_le {n s t : Nat} (h0 : 0 < n) : n * s ≤ t ↔ s ≤ t / n := by rw [Nat.mul_comm]; exact (Nat.le_div_iff_mul_le h0).symm
end Go.Proofs.YteahcbeohopdlaaGreatDoor
end
