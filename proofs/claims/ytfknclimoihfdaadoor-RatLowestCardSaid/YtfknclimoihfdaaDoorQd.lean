/- Package rat: Of, Int, Sign, Floor. Conditions: less than 100000 words. -/
import Derived.Test.YtfknclimoihfdaaDoorGLwc315
import Derived.Test.YtfknclimoihfdaaDoorZgl
open Go.RowKit
set_option maxRecDepth 100000
namespace Go.Proofs.YtfknclimoihfdaaDoor
def OfYes (W : World) (r : Rat) (e : Ending) (w' : World) : Prop := ∃ A c A' c', e = .returned (.tuple #[.agg #[.bool (decide (r.num < 0)), .slice A (dl r.num.natAbs) c, .slice A' (dl r.den) c'], .bool true]) ∧ ZA w' (decide (r.num < 0)) A (dl r.num.natAbs) c r.num ∧ Nm w' A' (dl r.den) c' r.den ∧ Hid (Below W.heap.size W w')
def OfNo (W : World) (e : Ending) (w' : World) : Prop := e = .returned (.tuple #[.agg #[.bool false, .slice none 0 0, .slice none 0 0], .bool false]) ∧ Hid (Below W.heap.size W w')
theorem ZR.al {W w' : World} {v : Int} {e : Ending} (h : ZR W v e w') (o : Obj) : ZR W v e (w'.alloc o) := by
  obtain ⟨A, c, he, h1, h2⟩ := h
  exact ⟨A, c, he, h1.al o, (Bel.al (Bel.of h2) o).hid⟩
section
variable {W : World} {b b' : Bool} {A A' : Option Addr} {n n' c c' m m' : Nat} {z z' : Int} {r : Rat} {K : Nat}
set_option maxHeartbeats 2000000 in
theorem of_no (hd : Nm W A' n' c' 0) : Calls Tryd.prog 60 #[.agg #[.bool b, .slice A n c], .agg #[.slice A' n' c']] W (OfNo W) := by
  have CZ : Hid (∀ W', Bel W W' → Calls Tryd.prog 95 #[.agg #[.slice A' n' c']] W' (RetB W' true)) := fun W' hb => rzero_h (m := 0) (hd.up hb)
  clear hd
  have HB := Bel.refl W
  go_enter Tryd.func60, Tryd.ntmps60
  go_wp2_with (first | (go_at_call 95; (with_reducible refine (CZ.out _ (((HB.al _).al _).al _)).mono ?_); rintro e w1 ⟨rfl, hbk⟩; have HP := At.up (((at_new0 _ _ _).al _).al _) hbk; have HN := At.up ((at_new1 _ _ _ _).al _) hbk; have HR := At.up (at_new2 _ _ _ _ _) hbk; replace HB := (((HB.al _).al _).al _).up hbk; have hr_0 := HR.c0; have hr_1 := HR.c1; have hr_2 := HR.c2; have hr_l := HR.lt; have hr_f0 := HR.f0; have hr_f1 := HR.f1; have hr_f2 := HR.f2) | fail)
  refine bodyPost_ret (v := .tuple #[.agg #[.bool false, .slice none 0 0, .slice none 0 0], .bool false]) (by simp [results, Tryd.results60, go_sem, hr_0, hr_1, hr_2]) rfl ?_
  exact ⟨rfl, below3 HB (by omega) _ _ _⟩
set_option maxHeartbeats 2000000 in
theorem of_yes {d : Nat} (hz : ZA W b A n c z) (hd : Nm W A' n' c' d) (h0 : 0 < d) (hr : mkRat z d = r) (bz : dl z.natAbs ≤ 99999) (bd : dl d ≤ 99999) :
    Calls Tryd.prog 60 #[.agg #[.bool b, .slice A n c], .agg #[.slice A' n' c']] W (OfYes W r) := by
  have CZ : Hid (∀ W', Bel W W' → Calls Tryd.prog 95 #[.agg #[.slice A' n' c']] W' (RetB W' false)) := fun W' hb => by
    have h1 := rzero_h (hd.up hb)
    rwa [decide_eq_false (by omega)] at h1
  have CL : Hid (∀ W', Bel W W' → Calls Tryd.prog 96 #[.agg #[.bool b, .slice A n c], .agg #[.slice A' n' c']] W' (QR W' r)) := fun W' hb => lowest_h (hz.up hb) (hd.up hb) h0 hr bz bd
  clear hz hd h0 hr bz bd
  have HB := Bel.refl W
  go_enter Tryd.func60, Tryd.ntmps60
  go_wp2_with (first | (go_at_call 95; (with_reducible refine (CZ.out _ (((HB.al _).al _).al _)).mono ?_); rintro e w1 ⟨rfl, hbk⟩; have HP := At.up (((at_new0 _ _ _).al _).al _) hbk; have HN := At.up ((at_new1 _ _ _ _).al _) hbk; have HR := At.up (at_new2 _ _ _ _ _) hbk; replace HB := (((HB.al _).al _).al _).up hbk; have hp_0 := HP.c0; have hp_1 := HP.c1; have hp_l := HP.lt; have hn_0 := HN.c0; have hn_l := HN.lt) | (go_at_call 96; (with_reducible refine (CL.out _ HB).mono ?_); rintro e w2 ⟨B, e1, B', e2, rfl, nz, nd, hbk⟩; replace HB := HB.up hbk; replace HR := HR.up hbk; clear hp_0 hp_1 hp_l hn_0 hn_l; have hr_0 := HR.c0; have hr_1 := HR.c1; have hr_2 := HR.c2; have hr_l := HR.lt; have hr_f0 := HR.f0; have hr_f1 := HR.f1; have hr_f2 := HR.f2) | fail)
  refine bodyPost_ret (v := .tuple #[.agg #[.bool (decide (r.num < 0)), .slice B (dl r.num.natAbs) e1, .slice B' (dl r.den) e2], .bool true]) (by simp [results, Tryd.results60, go_sem, hr_0, hr_1, hr_2]) rfl ?_
  exact ⟨B, e1, B', e2, rfl, zr_of (nz.1.put3 HR now3), nd.put3 HR now3, below3 HB (by first | omega | simp | (simp; omega)) _ _ _⟩
set_option maxHeartbeats 2000000 in
theorem int_h {k : Int} (h1 : -9223372036854775808 ≤ k) (h2 : k ≤ 9223372036854775807) : Calls Tryd.prog 63 #[.int .i64 k] W (QR W (k : Rat)) := by
  have CO : Hid (∀ W', Calls Tryd.prog 37 #[.int .i64 k] W' (ZR W' k)) := fun W' => zof_h h1 h2
  have C1 : Hid (∀ W', Calls Tryd.prog 11 #[.int .u64 1] W' (NumR W' 1)) := fun W' => of_h (v := 1) (by omega)
  have HB := Bel.refl W
  go_enter Tryd.func63, Tryd.ntmps63
  go_wp2_with (first | (go_at_call 37; (with_reducible refine (CO.out _).mono ?_); rintro e w1 ⟨B, e1, rfl, nz, hbk⟩; have HR := At.up (at_new0 _ _ _) hbk; replace HB := (HB.al _).up hbk) | (go_at_call 11; (with_reducible refine (C1.out _).mono ?_); rintro e w2 ⟨B', e2, rfl, nd, hbk⟩; replace HB := HB.up hbk; replace HR := HR.up hbk; replace nz := nz.up hbk; have hr_0 := HR.c0; have hr_1 := HR.c1; have hr_2 := HR.c2; have hr_l := HR.lt; have hr_f0 := HR.f0; have hr_f1 := HR.f1; have hr_f2 := HR.f2) | fail)
  refine bodyPost_ret (v := .agg #[.bool (decide (k < 0)), .slice B (dl k.natAbs) e1, .slice B' (dl 1) e2]) (by simp [results, Tryd.results63, go_sem, hr_0, hr_1, hr_2]) rfl ?_
  exact ⟨B, e1, B', e2, rfl, zr_of (nz.1.put3 HR now3), nd.put3 HR now3, below3 HB (Nat.le_refl _) _ _ _⟩
set_option maxHeartbeats 2000000 in
theorem rsign_h {v : Int} (h : QA W b A n c A' n' c' r K) (hK : 0 < K) (hv : r.num.sign = v) : Calls Tryd.prog 66 #[.agg #[.bool b, .slice A n c, .slice A' n' c']] W (IntPost W v) := by
  have CT : Hid (∀ W', Bel W W' → Calls Tryd.prog 94 #[.agg #[.bool b, .slice A n c, .slice A' n' c']] W' (TermsR W' r K)) := fun W' hb => terms_h (h.up hb) hK
  have CS : Hid (∀ W' s B k e z d, ZA W' s B k e z → Hid (0 < d ∧ mkRat z d = r ∧ z.natAbs < W32 ^ K ∧ d < W32 ^ K) → Calls Tryd.prog 39 #[.agg #[.bool s, .slice B k e]] W' (IntPost W' v)) := fun W' s B k e z d hz hd => sign_h hz (by rw [← hv, ← hd.out.2.1, sign_mk hd.out.1])
  clear h hv
  have HB := Bel.refl W
  go_enter Tryd.func66, Tryd.ntmps66
  go_wp2_with (first | (go_at_call 94; (with_reducible refine (CT.out _ (HB.al _)).mono ?_); rintro e w1 ⟨s, B, k, e1, B', k', e2, zv, d, rfl, zp, np, hp, hbk⟩; replace HB := (HB.al _).up hbk) | (go_at_call 39; (with_reducible refine (CS.out _ _ _ _ _ _ _ ((zp.al _).al _) hp).mono ?_); rintro e w2 ⟨rfl, hbk⟩; replace HB := ((HB.al _).al _).up hbk) | fail)
  go_ret
  exact ⟨rfl, HB⟩
set_option maxHeartbeats 2000000 in
theorem floor_h {v : Int} (h : QA W b A n c A' n' c' r K) (hK : 0 < K) (hK2 : K ≤ 20000) (hv : r.floor = v) : Calls Tryd.prog 59 #[.agg #[.bool b, .slice A n c, .slice A' n' c']] W (ZR W v) := by
  have CT : Hid (∀ W', Bel W W' → Calls Tryd.prog 94 #[.agg #[.bool b, .slice A n c, .slice A' n' c']] W' (TermsR W' r K)) := fun W' hb => terms_h (h.up hb) hK
  have CD : Hid (∀ W' s B k e B' k' e' z d, ZA W' s B k e z → Nm W' B' k' e' d → Hid (0 < d ∧ mkRat z d = r ∧ z.natAbs < W32 ^ K ∧ d < W32 ^ K) → ∃ rm, Calls Tryd.prog 36 #[.agg #[.bool s, .slice B k e], .agg #[.bool false, .slice B' k' e']] W' (ZDivR W' v rm)) := fun W' s B k e B' k' e' z d hz hd hp => by
    refine ⟨z % (d : Int), zdiv_h hz (za_of (b := false) hd) (by have := hp.out.1; rw [zi_false]; omega) (Nat.le_trans (dl_le hp.out.2.2.1) (by omega)) ?_ (by rw [zi_false])⟩
    rw [zi_false, ← hv, ← hp.out.2.1, floor_mk hp.out.1]
  clear h hv
  have HB := Bel.refl W
  go_enter Tryd.func59, Tryd.ntmps59
  go_wp2_with (first | (go_at_call 94; (with_reducible refine (CT.out _ ((HB.al _).al _)).mono ?_); rintro e w1 ⟨s, B, k, e1, B', k', e2, zv, d, rfl, zp, np, hp, hbk⟩; have HR := At.up (at_new1 _ _ _ _) hbk; replace HB := ((HB.al _).al _).up hbk; have HR0 := HR) | (go_at_call 36; obtain ⟨rm, CDv⟩ := CD.out _ _ _ _ _ _ _ _ _ _ ((zp.al _).al _) ((np.al _).al _) hp; (with_reducible refine (CDv).mono ?_); rintro e w2 ⟨Bq, eq, Br, er, rfl, zq, zr, hbk⟩; replace HB := ((HB.al _).al _).up hbk; replace HR := ((HR.al _).al _).up hbk; have hr_0 := HR.c0; have hr_1 := HR.c1; have hr_l := HR.lt; have hr_f0 := HR.f0; have hr_f1 := HR.f1; have hr_l2 : W.heap.size < w2.heap.size := by omega) | fail)
  refine bodyPost_ret (v := .agg #[.bool (decide (v < 0)), .slice Bq (dl v.natAbs) eq]) (by simp [results, Tryd.results59, go_sem, hr_0, hr_1, hr_l, hr_l2]) rfl ?_
  exact ((ret_z HB (by omega) HR now2 zq).al _).al _
end
end Go.Proofs.YtfknclimoihfdaaDoor
