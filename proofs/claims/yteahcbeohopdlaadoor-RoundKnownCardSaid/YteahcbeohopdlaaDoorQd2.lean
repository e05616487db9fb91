/- Package rat: Int, Floor. -/
import Derived.Test.YteahcbeohopdlaaDoorGRkc16
import Derived.Test.YteahcbeohopdlaaDoorZgl
open Go.RowKit
set_option maxRecDepth 100000
namespace Go.Proofs.YteahcbeohopdlaaDoor
section
variable {W : World} {b b' : Bool} {A A' : Option Addr} {n n' c c' m m' : Nat} {z z' : Int} {r : Rat} {K : Nat}
set_option maxHeartbeats 2000000 in
theorem int_h {k : Int} (h1 : -9223372036854775808 ≤ k) (h2 : k ≤ 9223372036854775807) : Calls Tryd.prog 123 #[.int .i64 k] W (QR W (k : Rat)) := by
  have CO : Hid (∀ W', Calls Tryd.prog 30 #[.int .i64 k] W' (ZR W' k)) := fun W' => zof_h h1 h2
  have C1 : Hid (∀ W', Calls Tryd.prog 40 #[.int .u64 1] W' (NumR W' 1)) := fun W' => of_h (v := 1) (by omega)
  have HB := Bel.refl W
  go_enter Tryd.func123, Tryd.ntmps123
  go_wp2_with (first | (go_at_call 30; (with_reducible refine (CO.out _).mono ?_); rintro e w1 ⟨B, e1, rfl, nz, hbk⟩; have HR := At.up (at_new0 _ _ _) hbk; replace HB := (HB.al _).up hbk) | (go_at_call 40; (with_reducible refine (C1.out _).mono ?_); rintro e w2 ⟨B', e2, rfl, nd, hbk⟩; replace HB := HB.up hbk; replace HR := HR.up hbk; replace nz := nz.up hbk; have hr_0 := HR.c0; have hr_1 := HR.c1; have hr_2 := HR.c2; have hr_l := HR.lt; have hr_f0 := HR.f0; have hr_f1 := HR.f1; have hr_f2 := HR.f2) | fail)
  refine bodyPost_ret (v := .agg #[.bool (decide (k < 0)), .slice B (dl k.natAbs) e1, .slice B' (dl 1) e2]) (by simp [results, Tryd.results123, go_sem, hr_0, hr_1, hr_2]) rfl ?_
  exact ⟨B, e1, B', e2, rfl, zr_of (nz.1.put3 HR now3), nd.put3 HR now3, below3 HB (Nat.le_refl _) _ _ _⟩
set_option maxHeartbeats 2000000 in
theorem floor_h {v : Int} (h : QA W b A n c A' n' c' r K) (hK : 0 < K) (hK2 : K ≤ 20000) (hv : r.floor = v) : Calls Tryd.prog 47 #[.agg #[.bool b, .slice A n c, .slice A' n' c']] W (ZR W v) := by
  have CT : Hid (∀ W', Bel W W' → Calls Tryd.prog 92 #[.agg #[.bool b, .slice A n c, .slice A' n' c']] W' (TermsR W' r K)) := fun W' hb => terms_h (h.up hb) hK
  have CD : Hid (∀ W' s B k e B' k' e' z d, ZA W' s B k e z → Nm W' B' k' e' d → Hid (0 < d ∧ mkRat z d = r ∧ z.natAbs < W32 ^ K ∧ d < W32 ^ K) → ∃ rm, Calls Tryd.prog 13 #[.agg #[.bool s, .slice B k e], .agg #[.bool false, .slice B' k' e']] W' (ZDivR W' v rm)) := fun W' s B k e B' k' e' z d hz hd hp => by
    refine ⟨z % (d : Int), zdiv_h hz (za_of (b := false) hd) (by have := hp.out.1; rw [zi_false]; omega) (Nat.le_trans (dl_le hp.out.2.2.1) (by omega)) ?_ (by rw [zi_false])⟩
    rw [zi_false, ← hv, ← hp.out.2.1, floor_mk hp.out.1]
  clear h hv
  have HB := Bel.refl W
  go_enter Tryd.func47, Tryd.ntmps47
  go_wp2_with (first | (go_at_call 92; (with_reducible refine (CT.out _ ((HB.al _).al _)).mono ?_); rintro e w1 ⟨s, B, k, e1, B', k', e2, zv, d, rfl, zp, np, hp, hbk⟩; have HR := At.up (at_new1 _ _ _ _) hbk; replace HB := ((HB.al _).al _).up hbk; have HR0 := HR) | (go_at_call 13; obtain ⟨rm, CDv⟩ := CD.out _ _ _ _ _ _ _ _ _ _ ((zp.al _).al _) ((np.al _).al _) hp; (with_reducible refine (CDv).mono ?_); rintro e w2 ⟨Bq, eq, Br, er, rfl, zq, zr, hbk⟩; replace HB := ((HB.al _).al _).up hbk; replace HR := ((HR.al _).al _).up hbk; have hr_0 := HR.c0; have hr_1 := HR.c1; have hr_l := HR.lt; have hr_f0 := HR.f0; have hr_f1 := HR.f1; have hr_l2 : W.heap.size < w2.heap.size := by omega) | fail)
  refine bodyPost_ret (v := .agg #[.bool (decide (v < 0)), .slice Bq (dl v.natAbs) eq]) (by simp [results, Tryd.results47, go_sem, hr_0, hr_1, hr_l, hr_l2]) rfl ?_
  exact ((ret_z HB (by omega) HR now2 zq).al _).al _
end
end Go.Proofs.YteahcbeohopdlaaDoor
