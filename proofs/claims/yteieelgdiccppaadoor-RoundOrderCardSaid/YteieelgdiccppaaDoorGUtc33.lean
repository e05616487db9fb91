/- Several texts in one, each with its own sentence and conditions. -/
import Derived.Test.YteieelgdiccppaaDoorGUtc24
import Derived.Test.YteieelgdiccppaaDoorGUtc32
section
/- Package rat: Inv. -/
open Go.RowKit
set_option maxRecDepth 100000
namespace Go.Proofs.YteieelgdiccppaaDoor
section
variable {W w : World} {b : Bool} {A A' : Option Addr} {n c n' c' K m m' : Nat} {r : Rat} {z : Int}
theorem tt_inv {s : Bool} {z : Int} {d : Nat} {B : Option Addr} {k e : Nat} (hz : ZA W s B k e z) (h : TT z d r K) (h0 : r ≠ 0) : z ≠ 0 ∧ mkRat (zi s d) z.natAbs = r⁻¹ := by
  obtain ⟨h1, h2, _, _⟩ := h
  have hz0 : z ≠ 0 := by
    intro e
    apply h0
    rw [← h2, e]; simp
  refine ⟨hz0, ?_⟩
  have hs := za_sign hz hz0
  rw [← h2, inv_mk hz0 h1, hs]
  by_cases hn : z < 0
  · rw [if_pos hn, decide_eq_true hn, zi_true]
  · rw [if_neg hn, decide_eq_false hn, zi_false]

set_option maxHeartbeats 2000000 in
theorem inv_yes (h : QA W b A n c A' n' c' r K) (hK : 0 < K) (hK2 : K ≤ 20000) (h0 : r ≠ 0) : Calls Tryd.prog 113 #[.agg #[.bool b, .slice A n c, .slice A' n' c']] W (OfYes W r⁻¹) := by
  obtain ⟨si, hsi⟩ : ∃ s, s = decide ((r⁻¹).num < 0) := ⟨_, rfl⟩
  obtain ⟨v, hv⟩ : ∃ v, v = r⁻¹ := ⟨_, rfl⟩
  rw [← hv] at hsi
  have CT : Hid (∀ W', Bel W W' → Calls Tryd.prog 112 #[.agg #[.bool b, .slice A n c, .slice A' n' c']] W' (TermsR W' r K)) := fun W' hb => terms_h (h.up hb) hK
  have CO : Hid (∀ W' s B k e B' k' e' z d, ZA W' s B k e z → Nm W' B' k' e' d → Hid (TT z d r K) → Calls Tryd.prog 70 #[.agg #[.bool s, .slice B' k' e'], .agg #[.slice B k e]] W' (OfYs2 W' si v)) := fun W' s B k e B' k' e' z d h1 h2 h3 => by
    obtain ⟨e1, e2⟩ := tt_inv h1 h3.out h0
    rw [hsi, hv]
    exact of_yes (za_of h2) h1.1 (by omega) e2 (by rw [zi_abs]; exact dl_bd2 h3.out.2.2.2 (by omega)) (dl_bd2 h3.out.2.2.1 (by omega))
  rw [← hv]
  have HSI := hide hsi
  clear h h0 hsi hv
  have HB := Bel.refl W
  go_enter Tryd.func113, Tryd.ntmps113
  go_wp2_with (first | (go_at_call 112; (with_reducible refine (CT.out _ ((HB.al _).al _)).mono ?_); rintro e w1 ⟨ps, pA, pn, pc, pB, pm, pe, pz, pd, rfl, pzz, pnn, ph, hbk⟩; have HR := At.up (at_new1 _ _ _ _) hbk; replace HB := ((HB.al _).al _).up hbk; replace ph : Hid (TT pz pd r K) := ph) | (go_at_call 70; (with_reducible refine (CO.out _ _ _ _ _ _ _ _ _ _ ((pzz.al _).al _) ((pnn.al _).al _) ph).mono ?_); rintro e w2 ⟨B, e1, B', e2, rfl, nz, nd, hbk⟩; replace HB := ((HB.al _).al _).up hbk; replace HR := ((HR.al _).al _).up hbk; have hr_0 := HR.c0; have hr_1 := HR.c1; have hr_2 := HR.c2; have hr_l := HR.lt; have hr_f0 := HR.f0; have hr_f1 := HR.f1; have hr_f2 := HR.f2) | fail)
  refine bodyPost_ret (v := .tuple #[.agg #[.bool si, .slice B (dl v.num.natAbs) e1, .slice B' (dl v.den) e2], .bool true]) (by simp [results, Tryd.results113, go_sem, hr_0, hr_1, hr_2]) rfl ?_
  exact ⟨B, e1, B', e2, by rw [HSI.out], zr_of (nz.1.put3 HR now3), nd.put3 HR now3, below3 HB (by omega) _ _ _⟩
set_option maxHeartbeats 2000000 in
theorem inv_no (h : QA W b A n c A' n' c' r K) (hK : 0 < K) (h0 : r = 0) : Calls Tryd.prog 113 #[.agg #[.bool b, .slice A n c, .slice A' n' c']] W (OfNo W) := by
  have CT : Hid (∀ W', Bel W W' → Calls Tryd.prog 112 #[.agg #[.bool b, .slice A n c, .slice A' n' c']] W' (TermsR W' r K)) := fun W' hb => terms_h (h.up hb) hK
  have CO : Hid (∀ W' s B k e B' k' e' z d, ZA W' s B k e z → Nm W' B' k' e' d → Hid (TT z d r K) → Calls Tryd.prog 70 #[.agg #[.bool s, .slice B' k' e'], .agg #[.slice B k e]] W' (OfNo W')) := fun W' s B k e B' k' e' z d h1 h2 h3 => by
    have e1 : z = 0 := (Rat.mkRat_eq_zero (by have := h3.out.1; omega)).1 (h3.out.2.1.trans h0)
    subst e1
    exact of_no h1.1
  clear h h0
  have HB := Bel.refl W
  go_enter Tryd.func113, Tryd.ntmps113
  go_wp2_with (first | (go_at_call 112; (with_reducible refine (CT.out _ ((HB.al _).al _)).mono ?_); rintro e w1 ⟨ps, pA, pn, pc, pB, pm, pe, pz, pd, rfl, pzz, pnn, ph, hbk⟩; have HR := At.up (at_new1 _ _ _ _) hbk; replace HB := ((HB.al _).al _).up hbk; replace ph : Hid (TT pz pd r K) := ph) | (go_at_call 70; (with_reducible refine (CO.out _ _ _ _ _ _ _ _ _ _ ((pzz.al _).al _) ((pnn.al _).al _) ph).mono ?_); rintro e w2 ⟨rfl, hbk⟩; replace HB := ((HB.al _).al _).up hbk; replace HR := ((HR.al _).al _).up hbk; have hr_0 := HR.c0; have hr_1 := HR.c1; have hr_2 := HR.c2; have hr_l := HR.lt; have hr_f0 := HR.f0; have hr_f1 := HR.f1; have hr_f2 := HR.f2) | fail)
  refine bodyPost_ret (v := .tuple #[.agg #[.bool false, .slice none 0 0, .slice none 0 0], .bool false]) (by simp [results, Tryd.results113, go_sem, hr_0, hr_1, hr_2]) rfl ?_
  exact ⟨rfl, below3 HB (by omega) _ _ _⟩
end
end Go.Proofs.YteieelgdiccppaaDoor
end

section
/- RoundNear's walk. No conditions. -/
open Go.RowKit
set_option maxRecDepth 100000
namespace Go.Proofs.YteieelgdiccppaaDoor
section
variable {W w : World} {b : Bool} {A A' : Option Addr} {n c n' c' s : Nat} {m : Int} {r : Rat}
theorem long5_h (h1 : n ≤ 12) (h2 : n' ≤ 12) : Calls Tryd.prog 63 #[.agg #[.bool b, .slice A n c, .slice A' n' c']] W (BoolR W false) := by
  have g1 : decide ((12 : Int) < (n : Int)) = false := decide_eq_false (by omega)
  have g2 : decide ((12 : Int) < (n' : Int)) = false := decide_eq_false (by omega)
  have g3 : ¬ (12 : Int) < (n : Int) := by omega
  have g4 : ¬ (12 : Int) < (n' : Int) := by omega
  have HB := Bel.refl W
  go_enter Tryd.func63, Tryd.ntmps63
  go_wp2
  go_ret
  exact ⟨rfl, HB.al _⟩
theorem long5_n (h : ¬ (n ≤ 12 ∧ n' ≤ 12)) : Calls Tryd.prog 63 #[.agg #[.bool b, .slice A n c, .slice A' n' c']] W (BoolR W true) := by
  have HB := Bel.refl W
  by_cases h1 : n ≤ 12
  · have g1 : decide ((12 : Int) < (n : Int)) = false := decide_eq_false (by omega)
    have g2 : decide ((12 : Int) < (n' : Int)) = true := decide_eq_true (by omega)
    have g3 : ¬ (12 : Int) < (n : Int) := by omega
    have g4 : (12 : Int) < (n' : Int) := by omega
    clear h
    go_enter Tryd.func63, Tryd.ntmps63
    go_wp2
    go_ret
    exact ⟨rfl, HB.al _⟩
  · have g1 : decide ((12 : Int) < (n : Int)) = true := decide_eq_true (by omega)
    have g3 : (12 : Int) < (n : Int) := by omega
    clear h
    go_enter Tryd.func63, Tryd.ntmps63
    go_wp2
    go_ret
    exact ⟨rfl, HB.al _⟩
set_option maxHeartbeats 4000000 in
theorem near_x0 (w : World) {sc : Int} (h : ¬ (n ≤ 12 ∧ n' ≤ 12)) : Calls Tryd.prog 8 #[.agg #[.bool b, .slice A n c, .slice A' n' c'], .int .i64 sc, .int .i64 m] w fun e w' => e = .returned (.bool true) ∧ Below w.heap.size w w' := by
  have CL : Hid (∀ W, Calls Tryd.prog 63 #[.agg #[.bool b, .slice A n c, .slice A' n' c']] W (BoolR W true)) := fun W => long5_n h
  clear h
  have HB := Bel.refl w
  go_enter Tryd.func8, Tryd.ntmps8
  go_wp2_with (first | (go_at_call 55; (with_reducible refine (awake5_any _).mono ?_); rintro e w1 ⟨rfl, hbk⟩; (with_reducible (have HA : At w1 w.heap.size [.bool b, .slice A n c, .slice A' n' c'] := At.up (at_new0 _ _ _) hbk; replace HB := (HB.al _).up hbk)); have ha_0 := HA.c0; have ha_1 := HA.c1; have ha_2 := HA.c2; have ha_l := HA.lt) | (go_at_call 63; (with_reducible refine (CL.out _).mono ?_); rintro e w2 ⟨rfl, hbk⟩; (with_reducible (replace HB := HB.up hbk; replace HA := HA.up hbk)); clear ha_0 ha_1 ha_2 ha_l; have ha_0 := HA.c0; have ha_1 := HA.c1; have ha_2 := HA.c2; have ha_l := HA.lt) | fail)
  go_ret
  exact ⟨rfl, HB⟩
set_option maxHeartbeats 4000000 in
theorem near_x1 (w : World) {sc : Int} (h : n ≤ 12 ∧ n' ≤ 12) (h1 : sc < 0) : Calls Tryd.prog 8 #[.agg #[.bool b, .slice A n c, .slice A' n' c'], .int .i64 sc, .int .i64 m] w fun e w' => e = .returned (.bool true) ∧ Below w.heap.size w w' := by
  have CL : Hid (∀ W, Calls Tryd.prog 63 #[.agg #[.bool b, .slice A n c, .slice A' n' c']] W (BoolR W false)) := fun W => long5_h h.1 h.2
  clear h
  have g1 : decide (sc < 0) = true := decide_eq_true (by omega)
  have g1' : (sc < 0) := by omega
  have HB := Bel.refl w
  go_enter Tryd.func8, Tryd.ntmps8
  go_wp2_with (first | (go_at_call 55; (with_reducible refine (awake5_any _).mono ?_); rintro e w1 ⟨rfl, hbk⟩; (with_reducible (have HA : At w1 w.heap.size [.bool b, .slice A n c, .slice A' n' c'] := At.up (at_new0 _ _ _) hbk; replace HB := (HB.al _).up hbk)); have ha_0 := HA.c0; have ha_1 := HA.c1; have ha_2 := HA.c2; have ha_l := HA.lt) | (go_at_call 63; (with_reducible refine (CL.out _).mono ?_); rintro e w2 ⟨rfl, hbk⟩; (with_reducible (replace HB := HB.up hbk; replace HA := HA.up hbk)); clear ha_0 ha_1 ha_2 ha_l; have ha_0 := HA.c0; have ha_1 := HA.c1; have ha_2 := HA.c2; have ha_l := HA.lt) | fail)
  go_ret
  exact ⟨rfl, HB⟩
set_option maxHeartbeats 4000000 in
theorem near_x2 (w : World) {sc : Int} (h : n ≤ 12 ∧ n' ≤ 12) (h1 : 0 ≤ sc) (h2 : 20 < sc) : Calls Tryd.prog 8 #[.agg #[.bool b, .slice A n c, .slice A' n' c'], .int .i64 sc, .int .i64 m] w fun e w' => e = .returned (.bool true) ∧ Below w.heap.size w w' := by
  have CL : Hid (∀ W, Calls Tryd.prog 63 #[.agg #[.bool b, .slice A n c, .slice A' n' c']] W (BoolR W false)) := fun W => long5_h h.1 h.2
  clear h
  have g1 : decide (sc < 0) = false := decide_eq_false (by omega)
  have g1' : ¬ (sc < 0) := by omega
  have g2 : decide ((20 : Int) < sc) = true := decide_eq_true (by omega)
  have g2' : ((20 : Int) < sc) := by omega
  have HB := Bel.refl w
  go_enter Tryd.func8, Tryd.ntmps8
  go_wp2_with (first | (go_at_call 55; (with_reducible refine (awake5_any _).mono ?_); rintro e w1 ⟨rfl, hbk⟩; (with_reducible (have HA : At w1 w.heap.size [.bool b, .slice A n c, .slice A' n' c'] := At.up (at_new0 _ _ _) hbk; replace HB := (HB.al _).up hbk)); have ha_0 := HA.c0; have ha_1 := HA.c1; have ha_2 := HA.c2; have ha_l := HA.lt) | (go_at_call 63; (with_reducible refine (CL.out _).mono ?_); rintro e w2 ⟨rfl, hbk⟩; (with_reducible (replace HB := HB.up hbk; replace HA := HA.up hbk)); clear ha_0 ha_1 ha_2 ha_l; have ha_0 := HA.c0; have ha_1 := HA.c1; have ha_2 := HA.c2; have ha_l := HA.lt) | fail)
  go_ret
  exact ⟨rfl, HB⟩
set_option maxHeartbeats 4000000 in
theorem near_x3 (w : World) {sc : Int} (h : n ≤ 12 ∧ n' ≤ 12) (h1 : 0 ≤ sc) (h2 : sc ≤ 20) (h3 : m < 1) : Calls Tryd.prog 8 #[.agg #[.bool b, .slice A n c, .slice A' n' c'], .int .i64 sc, .int .i64 m] w fun e w' => e = .returned (.bool true) ∧ Below w.heap.size w w' := by
  have CL : Hid (∀ W, Calls Tryd.prog 63 #[.agg #[.bool b, .slice A n c, .slice A' n' c']] W (BoolR W false)) := fun W => long5_h h.1 h.2
  clear h
  have g1 : decide (sc < 0) = false := decide_eq_false (by omega)
  have g1' : ¬ (sc < 0) := by omega
  have g2 : decide ((20 : Int) < sc) = false := decide_eq_false (by omega)
  have g2' : ¬ ((20 : Int) < sc) := by omega
  have g3 : decide (m < 1) = true := decide_eq_true (by omega)
  have g3' : (m < 1) := by omega
  have HB := Bel.refl w
  go_enter Tryd.func8, Tryd.ntmps8
  go_wp2_with (first | (go_at_call 55; (with_reducible refine (awake5_any _).mono ?_); rintro e w1 ⟨rfl, hbk⟩; (with_reducible (have HA : At w1 w.heap.size [.bool b, .slice A n c, .slice A' n' c'] := At.up (at_new0 _ _ _) hbk; replace HB := (HB.al _).up hbk)); have ha_0 := HA.c0; have ha_1 := HA.c1; have ha_2 := HA.c2; have ha_l := HA.lt) | (go_at_call 63; (with_reducible refine (CL.out _).mono ?_); rintro e w2 ⟨rfl, hbk⟩; (with_reducible (replace HB := HB.up hbk; replace HA := HA.up hbk)); clear ha_0 ha_1 ha_2 ha_l; have ha_0 := HA.c0; have ha_1 := HA.c1; have ha_2 := HA.c2; have ha_l := HA.lt) | fail)
  go_ret
  exact ⟨rfl, HB⟩
set_option maxHeartbeats 4000000 in
theorem near_x4 (w : World) {sc : Int} (h : n ≤ 12 ∧ n' ≤ 12) (h1 : 0 ≤ sc) (h2 : sc ≤ 20) (h3 : 1 ≤ m) (h4 : 7 < m) : Calls Tryd.prog 8 #[.agg #[.bool b, .slice A n c, .slice A' n' c'], .int .i64 sc, .int .i64 m] w fun e w' => e = .returned (.bool true) ∧ Below w.heap.size w w' := by
  have CL : Hid (∀ W, Calls Tryd.prog 63 #[.agg #[.bool b, .slice A n c, .slice A' n' c']] W (BoolR W false)) := fun W => long5_h h.1 h.2
  clear h
  have g1 : decide (sc < 0) = false := decide_eq_false (by omega)
  have g1' : ¬ (sc < 0) := by omega
  have g2 : decide ((20 : Int) < sc) = false := decide_eq_false (by omega)
  have g2' : ¬ ((20 : Int) < sc) := by omega
  have g3 : decide (m < 1) = false := decide_eq_false (by omega)
  have g3' : ¬ (m < 1) := by omega
  have g4 : decide ((7 : Int) < m) = true := decide_eq_true (by omega)
  have g4' : ((7 : Int) < m) := by omega
  have HB := Bel.refl w
  go_enter Tryd.func8, Tryd.ntmps8
  go_wp2_with (first | (go_at_call 55; (with_reducible refine (awake5_any _).mono ?_); rintro e w1 ⟨rfl, hbk⟩; (with_reducible (have HA : At w1 w.heap.size [.bool b, .slice A n c, .slice A' n' c'] := At.up (at_new0 _ _ _) hbk; replace HB := (HB.al _).up hbk)); have ha_0 := HA.c0; have ha_1 := HA.c1; have ha_2 := HA.c2; have ha_l := HA.lt) | (go_at_call 63; (with_reducible refine (CL.out _).mono ?_); rintro e w2 ⟨rfl, hbk⟩; (with_reducible (replace HB := HB.up hbk; replace HA := HA.up hbk)); clear ha_0 ha_1 ha_2 ha_l; have ha_0 := HA.c0; have ha_1 := HA.c1; have ha_2 := HA.c2; have ha_l := HA.lt) | fail)
  go_ret
  exact ⟨rfl, HB⟩
end
end Go.Proofs.YteieelgdiccppaaDoor
end

section
/- RoundOrder's walk: what is true at once. No conditions. -/
open Go.RowKit
set_option maxRecDepth 100000
namespace Go.Proofs.YteieelgdiccppaaDoor
section
variable {w : World} {b b' : Bool} {A A' B B' : Option Addr} {n c n' c' m1 d m1' d' s : Nat} {m : Int} {ra rb : Rat}
theorem rd_bd {r : Rat} {P : Nat} (h : Bd r 24) (bP : P < W32 ^ 24) : (rdR m (r * mkRat (P : Int) 1)).natAbs < W32 ^ 49 := by
  have bX : Bd (r * mkRat (P : Int) 1) 48 := h.mul (tt_bd ⟨by decide, rfl, by rw [Int.natAbs_natCast]; exact bP, Nat.one_lt_pow (by decide) (by decide)⟩)
  have h1 := rd_abs (m := m) (p := (r * mkRat (P : Int) 1).num) (q := (r * mkRat (P : Int) 1).den)
  have h2 : W32 ^ 48 + 1 ≤ W32 ^ 49 := Nat.pow_lt_pow_right (by decide) (by decide)
  have h3 := bX.1
  unfold rdR
  omega
theorem bd_pow {t : Int} {P : Nat} {r : Rat} (hP : 0 < P) (bt : t.natAbs < W32 ^ 49) (bP : P < W32 ^ 24) (hr : mkRat t P = r) : Bd r 49 := by
  rw [← hr]; exact tt_bd ⟨hP, rfl, bt, Nat.lt_of_lt_of_le bP (Nat.pow_le_pow_right (by decide) (by decide))⟩
theorem mk_neg {t : Int} {P : Nat} : mkRat (-t) P = -mkRat t P := (neg_mk).symm
theorem mk_mono {t t' : Int} {P : Nat} (hP : 0 < P) (h : t ≤ t') : cmpR (mkRat t P) (mkRat t' P) ≤ 0 := by
  refine cmpR_le ?_
  rw [mk_lt hP hP]
  exact Int.not_lt.2 (Int.mul_le_mul_of_nonneg_right h (by omega))
theorem cmp_gt {a b : Rat} (h : cmpR a b ≤ 0) : a ≤ b := by
  unfold cmpR at h
  by_cases h1 : a < b
  · exact Rat.le_of_lt h1
  · rw [if_neg h1] at h
    by_cases h2 : b < a
    · rw [if_pos h2] at h; omega
    · exact Rat.not_lt.1 h2
set_option maxHeartbeats 4000000 in
theorem order_x0 (w : World) {sc : Int} (h : ¬ (n ≤ 12 ∧ n' ≤ 12)) : Calls Tryd.prog 9 #[.agg #[.bool b, .slice A n c, .slice A' n' c'], .agg #[.bool b', .slice B m1 d, .slice B' m1' d'], .int .i64 sc, .int .i64 m] w fun e w' => e = .returned (.bool true) ∧ Below w.heap.size w w' := by
  have CL : Hid (∀ W, Calls Tryd.prog 63 #[.agg #[.bool b, .slice A n c, .slice A' n' c']] W (BoolR W true)) := fun W => long5_n h
  clear h
  have HB := Bel.refl w
  go_enter Tryd.func9, Tryd.ntmps9
  go_wp2_with (first | (go_at_call 55; (with_reducible refine (awake5_any _).mono ?_); rintro e w1 ⟨rfl, hbk⟩; (with_reducible (have HA : At w1 w.heap.size [.bool b, .slice A n c, .slice A' n' c'] := At.up ((at_new0 _ _ _).al _) hbk; have HC : At w1 (w.heap.size + 1) [.bool b', .slice B m1 d, .slice B' m1' d'] := At.up (at_new1 _ _ _ _) hbk; replace HB := ((HB.al _).al _).up hbk)); have ha_0 := HA.c0; have ha_1 := HA.c1; have ha_2 := HA.c2; have ha_l := HA.lt; have hc_0 := HC.c0; have hc_1 := HC.c1; have hc_2 := HC.c2; have hc_l := HC.lt) | (go_at_call 63; (with_reducible refine (CL.out _).mono ?_); rintro e w2 ⟨rfl, hbk⟩; (with_reducible (replace HB := HB.up hbk; replace HA := HA.up hbk; replace HC := HC.up hbk)); clear ha_0 ha_1 ha_2 ha_l hc_0 hc_1 hc_2 hc_l; have ha_0 := HA.c0; have ha_1 := HA.c1; have ha_2 := HA.c2; have ha_l := HA.lt; have hc_0 := HC.c0; have hc_1 := HC.c1; have hc_2 := HC.c2; have hc_l := HC.lt) | fail)
  go_ret
  exact ⟨rfl, HB⟩
set_option maxHeartbeats 4000000 in
theorem order_x00 (w : World) {sc : Int} (h : n ≤ 12 ∧ n' ≤ 12) (h' : ¬ (m1 ≤ 12 ∧ m1' ≤ 12)) : Calls Tryd.prog 9 #[.agg #[.bool b, .slice A n c, .slice A' n' c'], .agg #[.bool b', .slice B m1 d, .slice B' m1' d'], .int .i64 sc, .int .i64 m] w fun e w' => e = .returned (.bool true) ∧ Below w.heap.size w w' := by
  have CL : Hid (∀ W, Calls Tryd.prog 63 #[.agg #[.bool b, .slice A n c, .slice A' n' c']] W (BoolR W false)) := fun W => long5_h h.1 h.2
  have CL2 : Hid (∀ W, Calls Tryd.prog 63 #[.agg #[.bool b', .slice B m1 d, .slice B' m1' d']] W (BoolR W true)) := fun W => long5_n h'
  clear h h'
  have HB := Bel.refl w
  go_enter Tryd.func9, Tryd.ntmps9
  go_wp2_with (first | (go_at_call 55; (with_reducible refine (awake5_any _).mono ?_); rintro e w1 ⟨rfl, hbk⟩; (with_reducible (have HA : At w1 w.heap.size [.bool b, .slice A n c, .slice A' n' c'] := At.up ((at_new0 _ _ _).al _) hbk; have HC : At w1 (w.heap.size + 1) [.bool b', .slice B m1 d, .slice B' m1' d'] := At.up (at_new1 _ _ _ _) hbk; replace HB := ((HB.al _).al _).up hbk)); have ha_0 := HA.c0; have ha_1 := HA.c1; have ha_2 := HA.c2; have ha_l := HA.lt; have hc_0 := HC.c0; have hc_1 := HC.c1; have hc_2 := HC.c2; have hc_l := HC.lt) | (go_at_call 63; (with_reducible refine (CL.out _).mono ?_); rintro e w2 ⟨rfl, hbk⟩; (with_reducible (replace HB := HB.up hbk; replace HA := HA.up hbk; replace HC := HC.up hbk)); clear ha_0 ha_1 ha_2 ha_l hc_0 hc_1 hc_2 hc_l; have ha_0 := HA.c0; have ha_1 := HA.c1; have ha_2 := HA.c2; have ha_l := HA.lt; have hc_0 := HC.c0; have hc_1 := HC.c1; have hc_2 := HC.c2; have hc_l := HC.lt) | (go_at_call 63; (with_reducible refine (CL2.out _).mono ?_); rintro e w2' ⟨rfl, hbk⟩; (with_reducible (replace HB := HB.up hbk; replace HA := HA.up hbk; replace HC := HC.up hbk)); clear ha_0 ha_1 ha_2 ha_l hc_0 hc_1 hc_2 hc_l; have ha_0 := HA.c0; have ha_1 := HA.c1; have ha_2 := HA.c2; have ha_l := HA.lt; have hc_0 := HC.c0; have hc_1 := HC.c1; have hc_2 := HC.c2; have hc_l := HC.lt) | fail)
  go_ret
  exact ⟨rfl, HB⟩
set_option maxHeartbeats 4000000 in
theorem order_x1 (w : World) {sc : Int} (h : n ≤ 12 ∧ n' ≤ 12) (h' : m1 ≤ 12 ∧ m1' ≤ 12) (h1 : sc < 0) : Calls Tryd.prog 9 #[.agg #[.bool b, .slice A n c, .slice A' n' c'], .agg #[.bool b', .slice B m1 d, .slice B' m1' d'], .int .i64 sc, .int .i64 m] w fun e w' => e = .returned (.bool true) ∧ Below w.heap.size w w' := by
  have CL : Hid (∀ W, Calls Tryd.prog 63 #[.agg #[.bool b, .slice A n c, .slice A' n' c']] W (BoolR W false)) := fun W => long5_h h.1 h.2
  have CL2 : Hid (∀ W, Calls Tryd.prog 63 #[.agg #[.bool b', .slice B m1 d, .slice B' m1' d']] W (BoolR W false)) := fun W => long5_h h'.1 h'.2
  clear h h'
  have g1 : decide (sc < 0) = true := decide_eq_true (by omega)
  have g1' : (sc < 0) := by omega
  have HB := Bel.refl w
  go_enter Tryd.func9, Tryd.ntmps9
  go_wp2_with (first | (go_at_call 55; (with_reducible refine (awake5_any _).mono ?_); rintro e w1 ⟨rfl, hbk⟩; (with_reducible (have HA : At w1 w.heap.size [.bool b, .slice A n c, .slice A' n' c'] := At.up ((at_new0 _ _ _).al _) hbk; have HC : At w1 (w.heap.size + 1) [.bool b', .slice B m1 d, .slice B' m1' d'] := At.up (at_new1 _ _ _ _) hbk; replace HB := ((HB.al _).al _).up hbk)); have ha_0 := HA.c0; have ha_1 := HA.c1; have ha_2 := HA.c2; have ha_l := HA.lt; have hc_0 := HC.c0; have hc_1 := HC.c1; have hc_2 := HC.c2; have hc_l := HC.lt) | (go_at_call 63; (with_reducible refine (CL.out _).mono ?_); rintro e w2 ⟨rfl, hbk⟩; (with_reducible (replace HB := HB.up hbk; replace HA := HA.up hbk; replace HC := HC.up hbk)); clear ha_0 ha_1 ha_2 ha_l hc_0 hc_1 hc_2 hc_l; have ha_0 := HA.c0; have ha_1 := HA.c1; have ha_2 := HA.c2; have ha_l := HA.lt; have hc_0 := HC.c0; have hc_1 := HC.c1; have hc_2 := HC.c2; have hc_l := HC.lt) | (go_at_call 63; (with_reducible refine (CL2.out _).mono ?_); rintro e w2' ⟨rfl, hbk⟩; (with_reducible (replace HB := HB.up hbk; replace HA := HA.up hbk; replace HC := HC.up hbk)); clear ha_0 ha_1 ha_2 ha_l hc_0 hc_1 hc_2 hc_l; have ha_0 := HA.c0; have ha_1 := HA.c1; have ha_2 := HA.c2; have ha_l := HA.lt; have hc_0 := HC.c0; have hc_1 := HC.c1; have hc_2 := HC.c2; have hc_l := HC.lt) | fail)
  go_ret
  exact ⟨rfl, HB⟩
set_option maxHeartbeats 4000000 in
theorem order_x2 (w : World) {sc : Int} (h : n ≤ 12 ∧ n' ≤ 12) (h' : m1 ≤ 12 ∧ m1' ≤ 12) (h1 : 0 ≤ sc) (h2 : 10 < sc) : Calls Tryd.prog 9 #[.agg #[.bool b, .slice A n c, .slice A' n' c'], .agg #[.bool b', .slice B m1 d, .slice B' m1' d'], .int .i64 sc, .int .i64 m] w fun e w' => e = .returned (.bool true) ∧ Below w.heap.size w w' := by
  have CL : Hid (∀ W, Calls Tryd.prog 63 #[.agg #[.bool b, .slice A n c, .slice A' n' c']] W (BoolR W false)) := fun W => long5_h h.1 h.2
  have CL2 : Hid (∀ W, Calls Tryd.prog 63 #[.agg #[.bool b', .slice B m1 d, .slice B' m1' d']] W (BoolR W false)) := fun W => long5_h h'.1 h'.2
  clear h h'
  have g1 : decide (sc < 0) = false := decide_eq_false (by omega)
  have g1' : ¬ (sc < 0) := by omega
  have g2 : decide ((10 : Int) < sc) = true := decide_eq_true (by omega)
  have g2' : ((10 : Int) < sc) := by omega
  have HB := Bel.refl w
  go_enter Tryd.func9, Tryd.ntmps9
  go_wp2_with (first | (go_at_call 55; (with_reducible refine (awake5_any _).mono ?_); rintro e w1 ⟨rfl, hbk⟩; (with_reducible (have HA : At w1 w.heap.size [.bool b, .slice A n c, .slice A' n' c'] := At.up ((at_new0 _ _ _).al _) hbk; have HC : At w1 (w.heap.size + 1) [.bool b', .slice B m1 d, .slice B' m1' d'] := At.up (at_new1 _ _ _ _) hbk; replace HB := ((HB.al _).al _).up hbk)); have ha_0 := HA.c0; have ha_1 := HA.c1; have ha_2 := HA.c2; have ha_l := HA.lt; have hc_0 := HC.c0; have hc_1 := HC.c1; have hc_2 := HC.c2; have hc_l := HC.lt) | (go_at_call 63; (with_reducible refine (CL.out _).mono ?_); rintro e w2 ⟨rfl, hbk⟩; (with_reducible (replace HB := HB.up hbk; replace HA := HA.up hbk; replace HC := HC.up hbk)); clear ha_0 ha_1 ha_2 ha_l hc_0 hc_1 hc_2 hc_l; have ha_0 := HA.c0; have ha_1 := HA.c1; have ha_2 := HA.c2; have ha_l := HA.lt; have hc_0 := HC.c0; have hc_1 := HC.c1; have hc_2 := HC.c2; have hc_l := HC.lt) | (go_at_call 63; (with_reducible refine (CL2.out _).mono ?_); rintro e w2' ⟨rfl, hbk⟩; (with_reducible (replace HB := HB.up hbk; replace HA := HA.up hbk; replace HC := HC.up hbk)); clear ha_0 ha_1 ha_2 ha_l hc_0 hc_1 hc_2 hc_l; have ha_0 := HA.c0; have ha_1 := HA.c1; have ha_2 := HA.c2; have ha_l := HA.lt; have hc_0 := HC.c0; have hc_1 := HC.c1; have hc_2 := HC.c2; have hc_l := HC.lt) | fail)
  go_ret
  exact ⟨rfl, HB⟩
set_option maxHeartbeats 4000000 in
theorem order_x3 (w : World) {sc : Int} (h : n ≤ 12 ∧ n' ≤ 12) (h' : m1 ≤ 12 ∧ m1' ≤ 12) (h1 : 0 ≤ sc) (h2 : sc ≤ 10) (h3 : m < 1) : Calls Tryd.prog 9 #[.agg #[.bool b, .slice A n c, .slice A' n' c'], .agg #[.bool b', .slice B m1 d, .slice B' m1' d'], .int .i64 sc, .int .i64 m] w fun e w' => e = .returned (.bool true) ∧ Below w.heap.size w w' := by
  have CL : Hid (∀ W, Calls Tryd.prog 63 #[.agg #[.bool b, .slice A n c, .slice A' n' c']] W (BoolR W false)) := fun W => long5_h h.1 h.2
  have CL2 : Hid (∀ W, Calls Tryd.prog 63 #[.agg #[.bool b', .slice B m1 d, .slice B' m1' d']] W (BoolR W false)) := fun W => long5_h h'.1 h'.2
  clear h h'
  have g1 : decide (sc < 0) = false := decide_eq_false (by omega)
  have g1' : ¬ (sc < 0) := by omega
  have g2 : decide ((10 : Int) < sc) = false := decide_eq_false (by omega)
  have g2' : ¬ ((10 : Int) < sc) := by omega
  have g3 : decide (m < 1) = true := decide_eq_true (by omega)
  have g3' : (m < 1) := by omega
  have HB := Bel.refl w
  go_enter Tryd.func9, Tryd.ntmps9
  go_wp2_with (first | (go_at_call 55; (with_reducible refine (awake5_any _).mono ?_); rintro e w1 ⟨rfl, hbk⟩; (with_reducible (have HA : At w1 w.heap.size [.bool b, .slice A n c, .slice A' n' c'] := At.up ((at_new0 _ _ _).al _) hbk; have HC : At w1 (w.heap.size + 1) [.bool b', .slice B m1 d, .slice B' m1' d'] := At.up (at_new1 _ _ _ _) hbk; replace HB := ((HB.al _).al _).up hbk)); have ha_0 := HA.c0; have ha_1 := HA.c1; have ha_2 := HA.c2; have ha_l := HA.lt; have hc_0 := HC.c0; have hc_1 := HC.c1; have hc_2 := HC.c2; have hc_l := HC.lt) | (go_at_call 63; (with_reducible refine (CL.out _).mono ?_); rintro e w2 ⟨rfl, hbk⟩; (with_reducible (replace HB := HB.up hbk; replace HA := HA.up hbk; replace HC := HC.up hbk)); clear ha_0 ha_1 ha_2 ha_l hc_0 hc_1 hc_2 hc_l; have ha_0 := HA.c0; have ha_1 := HA.c1; have ha_2 := HA.c2; have ha_l := HA.lt; have hc_0 := HC.c0; have hc_1 := HC.c1; have hc_2 := HC.c2; have hc_l := HC.lt) | (go_at_call 63; (with_reducible refine (CL2.out _).mono ?_); rintro e w2' ⟨rfl, hbk⟩; (with_reducible (replace HB := HB.up hbk; replace HA := HA.up hbk; replace HC := HC.up hbk)); clear ha_0 ha_1 ha_2 ha_l hc_0 hc_1 hc_2 hc_l; have ha_0 := HA.c0; have ha_1 := HA.c1; have ha_2 := HA.c2; have ha_l := HA.lt; have hc_0 := HC.c0; have hc_1 := HC.c1; have hc_2 := HC.c2; have hc_l := HC.lt) | fail)
  go_ret
  exact ⟨rfl, HB⟩
set_option maxHeartbeats 4000000 in
theorem order_x4 (w : World) {sc : Int} (h : n ≤ 12 ∧ n' ≤ 12) (h' : m1 ≤ 12 ∧ m1' ≤ 12) (h1 : 0 ≤ sc) (h2 : sc ≤ 10) (h3 : 1 ≤ m) (h4 : 7 < m) : Calls Tryd.prog 9 #[.agg #[.bool b, .slice A n c, .slice A' n' c'], .agg #[.bool b', .slice B m1 d, .slice B' m1' d'], .int .i64 sc, .int .i64 m] w fun e w' => e = .returned (.bool true) ∧ Below w.heap.size w w' := by
  have CL : Hid (∀ W, Calls Tryd.prog 63 #[.agg #[.bool b, .slice A n c, .slice A' n' c']] W (BoolR W false)) := fun W => long5_h h.1 h.2
  have CL2 : Hid (∀ W, Calls Tryd.prog 63 #[.agg #[.bool b', .slice B m1 d, .slice B' m1' d']] W (BoolR W false)) := fun W => long5_h h'.1 h'.2
  clear h h'
  have g1 : decide (sc < 0) = false := decide_eq_false (by omega)
  have g1' : ¬ (sc < 0) := by omega
  have g2 : decide ((10 : Int) < sc) = false := decide_eq_false (by omega)
  have g2' : ¬ ((10 : Int) < sc) := by omega
  have g3 : decide (m < 1) = false := decide_eq_false (by omega)
  have g3' : ¬ (m < 1) := by omega
  have g4 : decide ((7 : Int) < m) = true := decide_eq_true (by omega)
  have g4' : ((7 : Int) < m) := by omega
  have HB := Bel.refl w
  go_enter Tryd.func9, Tryd.ntmps9
  go_wp2_with (first | (go_at_call 55; (with_reducible refine (awake5_any _).mono ?_); rintro e w1 ⟨rfl, hbk⟩; (with_reducible (have HA : At w1 w.heap.size [.bool b, .slice A n c, .slice A' n' c'] := At.up ((at_new0 _ _ _).al _) hbk; have HC : At w1 (w.heap.size + 1) [.bool b', .slice B m1 d, .slice B' m1' d'] := At.up (at_new1 _ _ _ _) hbk; replace HB := ((HB.al _).al _).up hbk)); have ha_0 := HA.c0; have ha_1 := HA.c1; have ha_2 := HA.c2; have ha_l := HA.lt; have hc_0 := HC.c0; have hc_1 := HC.c1; have hc_2 := HC.c2; have hc_l := HC.lt) | (go_at_call 63; (with_reducible refine (CL.out _).mono ?_); rintro e w2 ⟨rfl, hbk⟩; (with_reducible (replace HB := HB.up hbk; replace HA := HA.up hbk; replace HC := HC.up hbk)); clear ha_0 ha_1 ha_2 ha_l hc_0 hc_1 hc_2 hc_l; have ha_0 := HA.c0; have ha_1 := HA.c1; have ha_2 := HA.c2; have ha_l := HA.lt; have hc_0 := HC.c0; have hc_1 := HC.c1; have hc_2 := HC.c2; have hc_l := HC.lt) | (go_at_call 63; (with_reducible refine (CL2.out _).mono ?_); rintro e w2' ⟨rfl, hbk⟩; (with_reducible (replace HB := HB.up hbk; replace HA := HA.up hbk; replace HC := HC.up hbk)); clear ha_0 ha_1 ha_2 ha_l hc_0 hc_1 hc_2 hc_l; have ha_0 := HA.c0; have ha_1 := HA.c1; have ha_2 := HA.c2; have ha_l := HA.lt; have hc_0 := HC.c0; have hc_1 := HC.c1; have hc_2 := HC.c2; have hc_l := HC.lt) | fail)
  go_ret
  exact ⟨rfl, HB⟩
end
end Go.Proofs.YteieelgdiccppaaDoor
end
