/- Several texts in one, each with its own sentence and conditions. -/
import Derived.Test.YtfknclimoihfdaaDoorQe
import Derived.Test.YtfknclimoihfdaaDoorGLwc321
import Derived.Test.YtfknclimoihfdaaDoorGLwc324
section
/- Package rat: Good of any fraction, Inv. Conditions: terms of at most 20000 words. -/
open Go.RowKit
set_option maxRecDepth 100000
namespace Go.Proofs.YtfknclimoihfdaaDoor
section
variable {W w : World} {b : Bool} {A A' : Option Addr} {n c n' c' K m m' : Nat} {r : Rat} {z : Int}
/-- Whether the words of a number are valid: one answer in every later world. -/
theorem ngood_e (h : Nm w A n c m) : ∃ g, ∀ W', Bel w W' → Calls Tryd.prog 19 #[.agg #[.slice A n c]] W' (RetB W' g) := by
  obtain ⟨ws, h1, h2, h3, hr, h4⟩ := h.out
  refine ⟨goodB ws, fun W' hb => ?_⟩
  exact (Good_any (c := c) h1 ((hr.below hb).more (Below.size hb)) (by omega)).mono fun e w' ⟨he, hb2⟩ => ⟨he, hb2⟩
set_option maxHeartbeats 1000000 in
theorem zgood_f (hn : ∀ W', Bel W W' → Calls Tryd.prog 19 #[.agg #[.slice A n c]] W' (RetB W' false)) :
    Calls Tryd.prog 38 #[.agg #[.bool b, .slice A n c]] W (RetB W false) := by
  have CG := hide hn
  clear hn
  have HB := Bel.refl W
  go_enter Tryd.func38, Tryd.ntmps38
  go_wp2_with (first | (go_at_call 19; (with_reducible refine (CG.out _ (HB.al _)).mono ?_); rintro e w1 ⟨rfl, hbk⟩; have HP := At.up (at_new0 _ _ _) hbk; replace HB := (HB.al _).up hbk; have hp_0 := HP.c0; have hp_1 := HP.c1; have hp_l := HP.lt) | fail)
  go_ret
  exact ⟨rfl, HB⟩
set_option maxHeartbeats 1000000 in
theorem zgood_p (hn : ∀ W', Bel W W' → Calls Tryd.prog 19 #[.agg #[.slice A n c]] W' (RetB W' true)) :
    Calls Tryd.prog 38 #[.agg #[.bool false, .slice A n c]] W (RetB W true) := by
  have CG := hide hn
  clear hn
  have HB := Bel.refl W
  go_enter Tryd.func38, Tryd.ntmps38
  go_wp2_with (first | (go_at_call 19; (with_reducible refine (CG.out _ (HB.al _)).mono ?_); rintro e w1 ⟨rfl, hbk⟩; have HP := At.up (at_new0 _ _ _) hbk; replace HB := (HB.al _).up hbk; have hp_0 := HP.c0; have hp_1 := HP.c1; have hp_l := HP.lt) | fail)
  go_ret
  exact ⟨rfl, HB⟩
set_option maxHeartbeats 1000000 in
theorem zgood_t (hn : ∀ W', Bel W W' → Calls Tryd.prog 19 #[.agg #[.slice A n c]] W' (RetB W' true)) (hz : ∀ W', Bel W W' → Calls Tryd.prog 86 #[.agg #[.slice A n c]] W' (BoolR W' false)) :
    Calls Tryd.prog 38 #[.agg #[.bool true, .slice A n c]] W (RetB W true) := by
  have CG := hide hn
  have CZ := hide hz
  clear hz
  clear hn
  have HB := Bel.refl W
  go_enter Tryd.func38, Tryd.ntmps38
  go_wp2_with (first | (go_at_call 19; (with_reducible refine (CG.out _ (HB.al _)).mono ?_); rintro e w1 ⟨rfl, hbk⟩; have HP := At.up (at_new0 _ _ _) hbk; replace HB := (HB.al _).up hbk; have hp_0 := HP.c0; have hp_1 := HP.c1; have hp_l := HP.lt) | (go_at_call 86; (with_reducible refine (CZ.out _ HB).mono ?_); rintro e w2 ⟨rfl, hbk⟩; replace HB := HB.up hbk) | fail)
  go_ret
  exact ⟨rfl, HB⟩
set_option maxHeartbeats 1000000 in
theorem zgood_n (hn : ∀ W', Bel W W' → Calls Tryd.prog 19 #[.agg #[.slice A n c]] W' (RetB W' true)) (hz : ∀ W', Bel W W' → Calls Tryd.prog 86 #[.agg #[.slice A n c]] W' (BoolR W' true)) :
    Calls Tryd.prog 38 #[.agg #[.bool true, .slice A n c]] W (RetB W false) := by
  have CG := hide hn
  have CZ := hide hz
  clear hz
  clear hn
  have HB := Bel.refl W
  go_enter Tryd.func38, Tryd.ntmps38
  go_wp2_with (first | (go_at_call 19; (with_reducible refine (CG.out _ (HB.al _)).mono ?_); rintro e w1 ⟨rfl, hbk⟩; have HP := At.up (at_new0 _ _ _) hbk; replace HB := (HB.al _).up hbk; have hp_0 := HP.c0; have hp_1 := HP.c1; have hp_l := HP.lt) | (go_at_call 86; (with_reducible refine (CZ.out _ HB).mono ?_); rintro e w2 ⟨rfl, hbk⟩; replace HB := HB.up hbk) | fail)
  go_ret
  exact ⟨rfl, HB⟩
theorem zisz_e (h : Nm w A n c m) : ∃ f, ∀ W', Bel w W' → Calls Tryd.prog 86 #[.agg #[.slice A n c]] W' (BoolR W' f) := by
  by_cases h0 : m = 0
  · exact ⟨true, fun W' hb => isZero_yes (h.up hb) h0⟩
  · exact ⟨false, fun W' hb => isZero_no (h.up hb) (by omega)⟩
/-- One of num.Good's two walks, in every later world with one answer. -/
theorem zgood_e (h : ZA w b A n c z) : ∃ u, ∀ W', Bel w W' → Calls Tryd.prog 38 #[.agg #[.bool b, .slice A n c]] W' (RetB W' u) := by
  obtain ⟨g, hg⟩ := ngood_e h.1
  obtain ⟨f, hf⟩ := zisz_e h.1
  cases g
  · refine ⟨false, fun W' hb => ?_⟩
    exact zgood_f (fun W2 hb2 => hg W2 (Bel.up hb hb2))
  · cases b
    · exact ⟨true, fun W' hb => zgood_p (fun W2 hb2 => hg W2 (Bel.up hb hb2))⟩
    · cases f
      · exact ⟨true, fun W' hb => zgood_t (fun W2 hb2 => hg W2 (Bel.up hb hb2)) (fun W2 hb2 => hf W2 (Bel.up hb hb2))⟩
      · exact ⟨false, fun W' hb => zgood_n (fun W2 hb2 => hg W2 (Bel.up hb hb2)) (fun W2 hb2 => hf W2 (Bel.up hb hb2))⟩
set_option maxHeartbeats 1000000 in
theorem rgood_1 (h1 : ∀ W', Bel W W' → Calls Tryd.prog 38 #[.agg #[.bool b, .slice A n c]] W' (RetB W' false)) :
    Calls Tryd.prog 64 #[.agg #[.bool b, .slice A n c, .slice A' n' c']] W (RetB W false) := by
  have C1 := hide h1
  clear h1
  have HB := Bel.refl W
  go_enter Tryd.func64, Tryd.ntmps64
  go_wp2_with (first | (go_at_call 38; (with_reducible refine (C1.out _ (HB.al _)).mono ?_); rintro e w1 ⟨rfl, hbk⟩; have HQ := At.up (at_new0 _ _ _) hbk; replace HB := (HB.al _).up hbk; have hq_0 := HQ.c0; have hq_1 := HQ.c1; have hq_2 := HQ.c2; have hq_l := HQ.lt) | fail)
  go_ret
  exact ⟨rfl, HB⟩
set_option maxHeartbeats 1000000 in
theorem rgood_2 (h1 : ∀ W', Bel W W' → Calls Tryd.prog 38 #[.agg #[.bool b, .slice A n c]] W' (RetB W' true)) (h2 : ∀ W', Bel W W' → Calls Tryd.prog 19 #[.agg #[.slice A' n' c']] W' (RetB W' false)) :
    Calls Tryd.prog 64 #[.agg #[.bool b, .slice A n c, .slice A' n' c']] W (RetB W false) := by
  have C1 := hide h1
  clear h1
  have C2 := hide h2
  clear h2
  have HB := Bel.refl W
  go_enter Tryd.func64, Tryd.ntmps64
  go_wp2_with (first | (go_at_call 38; (with_reducible refine (C1.out _ (HB.al _)).mono ?_); rintro e w1 ⟨rfl, hbk⟩; have HQ := At.up (at_new0 _ _ _) hbk; replace HB := (HB.al _).up hbk; have hq_0 := HQ.c0; have hq_1 := HQ.c1; have hq_2 := HQ.c2; have hq_l := HQ.lt) | (go_at_call 19; (with_reducible refine (C2.out _ HB).mono ?_); rintro e w2 ⟨rfl, hbk⟩; replace HB := HB.up hbk; replace HQ := HQ.up hbk; clear hq_0 hq_1 hq_2 hq_l; have hq_0 := HQ.c0; have hq_1 := HQ.c1; have hq_2 := HQ.c2; have hq_l := HQ.lt) | fail)
  go_ret
  exact ⟨rfl, HB⟩
set_option maxHeartbeats 1000000 in
theorem rgood_3 (h1 : ∀ W', Bel W W' → Calls Tryd.prog 38 #[.agg #[.bool b, .slice A n c]] W' (RetB W' true)) (h2 : ∀ W', Bel W W' → Calls Tryd.prog 19 #[.agg #[.slice A' n' c']] W' (RetB W' true)) (h3 : ∀ W', Bel W W' → Calls Tryd.prog 95 #[.agg #[.slice A' n' c']] W' (RetB W' true)) :
    Calls Tryd.prog 64 #[.agg #[.bool b, .slice A n c, .slice A' n' c']] W (RetB W false) := by
  have C1 := hide h1
  clear h1
  have C2 := hide h2
  clear h2
  have C3 := hide h3
  clear h3
  have HB := Bel.refl W
  go_enter Tryd.func64, Tryd.ntmps64
  go_wp2_with (first | (go_at_call 38; (with_reducible refine (C1.out _ (HB.al _)).mono ?_); rintro e w1 ⟨rfl, hbk⟩; have HQ := At.up (at_new0 _ _ _) hbk; replace HB := (HB.al _).up hbk; have hq_0 := HQ.c0; have hq_1 := HQ.c1; have hq_2 := HQ.c2; have hq_l := HQ.lt) | (go_at_call 19; (with_reducible refine (C2.out _ HB).mono ?_); rintro e w2 ⟨rfl, hbk⟩; replace HB := HB.up hbk; replace HQ := HQ.up hbk; clear hq_0 hq_1 hq_2 hq_l; have hq_0 := HQ.c0; have hq_1 := HQ.c1; have hq_2 := HQ.c2; have hq_l := HQ.lt) | (go_at_call 95; (with_reducible refine (C3.out _ HB).mono ?_); rintro e w3 ⟨rfl, hbk⟩; replace HB := HB.up hbk; replace HQ := HQ.up hbk; clear hq_0 hq_1 hq_2 hq_l; have hq_0 := HQ.c0; have hq_1 := HQ.c1; have hq_2 := HQ.c2; have hq_l := HQ.lt) | fail)
  go_ret
  exact ⟨rfl, HB⟩
set_option maxHeartbeats 1000000 in
theorem rgood_4 (h1 : ∀ W', Bel W W' → Calls Tryd.prog 38 #[.agg #[.bool b, .slice A n c]] W' (RetB W' true)) (h2 : ∀ W', Bel W W' → Calls Tryd.prog 19 #[.agg #[.slice A' n' c']] W' (RetB W' true)) (h3 : ∀ W', Bel W W' → Calls Tryd.prog 95 #[.agg #[.slice A' n' c']] W' (RetB W' false)) {g : Nat} {u : Bool} (h4 : ∀ W', Bel W W' → Calls Tryd.prog 20 #[.agg #[.slice A n c], .agg #[.slice A' n' c']] W' (NumR W' g)) (h5 : ∀ W' B e, Nm W' B (dl g) e g → Calls Tryd.prog 98 #[.agg #[.slice B (dl g) e]] W' (RetB W' u)) :
    Calls Tryd.prog 64 #[.agg #[.bool b, .slice A n c, .slice A' n' c']] W (RetB W u) := by
  have C1 := hide h1
  clear h1
  have C2 := hide h2
  clear h2
  have C3 := hide h3
  clear h3
  have C4 := hide h4
  clear h4
  have C5 := hide h5
  clear h5
  have HB := Bel.refl W
  go_enter Tryd.func64, Tryd.ntmps64
  go_wp2_with (first | (go_at_call 38; (with_reducible refine (C1.out _ (HB.al _)).mono ?_); rintro e w1 ⟨rfl, hbk⟩; have HQ := At.up (at_new0 _ _ _) hbk; replace HB := (HB.al _).up hbk; have hq_0 := HQ.c0; have hq_1 := HQ.c1; have hq_2 := HQ.c2; have hq_l := HQ.lt) | (go_at_call 19; (with_reducible refine (C2.out _ HB).mono ?_); rintro e w2 ⟨rfl, hbk⟩; replace HB := HB.up hbk; replace HQ := HQ.up hbk; clear hq_0 hq_1 hq_2 hq_l; have hq_0 := HQ.c0; have hq_1 := HQ.c1; have hq_2 := HQ.c2; have hq_l := HQ.lt) | (go_at_call 95; (with_reducible refine (C3.out _ HB).mono ?_); rintro e w3 ⟨rfl, hbk⟩; replace HB := HB.up hbk; replace HQ := HQ.up hbk; clear hq_0 hq_1 hq_2 hq_l; have hq_0 := HQ.c0; have hq_1 := HQ.c1; have hq_2 := HQ.c2; have hq_l := HQ.lt) | (go_at_call 20; (with_reducible refine (C4.out _ HB).mono ?_); rintro e w4 ⟨gA, gc, rfl, gn, hbk⟩; replace HB := HB.up hbk; replace HQ := HQ.up hbk; clear hq_0 hq_1 hq_2 hq_l; have hq_0 := HQ.c0; have hq_1 := HQ.c1; have hq_2 := HQ.c2; have hq_l := HQ.lt) | (go_at_call 98; (with_reducible refine (C5.out _ _ _ gn).mono ?_); rintro e w5 ⟨rfl, hbk⟩; replace HB := HB.up hbk) | fail)
  go_ret
  exact ⟨rfl, HB⟩

/-- Whether a fraction is valid: one answer in every later world. -/
theorem rgood_e (h : QA w b A n c A' n' c' r K) (hK : K ≤ 20000) : ∃ u, ∀ W', Bel w W' → Calls Tryd.prog 64 #[.agg #[.bool b, .slice A n c, .slice A' n' c']] W' (RetB W' u) := by
  obtain ⟨z, d, hz, hd, h1, h2, h3⟩ := h
  obtain ⟨u1, hu1⟩ := zgood_e hz
  obtain ⟨u2, hu2⟩ := ngood_e hd
  have e1 : ∀ W', Bel w W' → ∀ W2, Bel W' W2 → Calls Tryd.prog 38 #[.agg #[.bool b, .slice A n c]] W2 (RetB W2 u1) := fun W' hb W2 hb2 => hu1 W2 (Bel.up hb hb2)
  have e2 : ∀ W', Bel w W' → ∀ W2, Bel W' W2 → Calls Tryd.prog 19 #[.agg #[.slice A' n' c']] W2 (RetB W2 u2) := fun W' hb W2 hb2 => hu2 W2 (Bel.up hb hb2)
  have e3 : ∀ W', Bel w W' → ∀ W2, Bel W' W2 → Calls Tryd.prog 95 #[.agg #[.slice A' n' c']] W2 (RetB W2 (decide (d = 0))) := fun W' hb W2 hb2 => rzero_h (hd.up (Bel.up hb hb2))
  cases u1
  · exact ⟨false, fun W' hb => rgood_1 (e1 W' hb)⟩
  · cases u2
    · exact ⟨false, fun W' hb => rgood_2 (e1 W' hb) (e2 W' hb)⟩
    · by_cases h0 : d = 0
      · rw [decide_eq_true h0] at e3
        exact ⟨false, fun W' hb => rgood_3 (e1 W' hb) (e2 W' hb) (e3 W' hb)⟩
      · rw [decide_eq_false h0] at e3
        exact ⟨decide (Nat.gcd z.natAbs d = 1), fun W' hb => rgood_4 (g := Nat.gcd z.natAbs d) (e1 W' hb) (e2 W' hb) (e3 W' hb) (fun W2 hb2 => gcd_h (hz.up (Bel.up hb hb2)).1 (hd.up (Bel.up hb hb2)) rfl (dl_bd2 h2 (by omega)) (dl_bd2 h3 (by omega))) (fun W2 B e hn => rone_h hn)⟩
/-- What is valid is. -/
theorem rgood_yes (nz : ZA W (decide (r.num < 0)) A (dl r.num.natAbs) c r.num) (nd : Nm W A' (dl r.den) c' r.den) (hb : Bd r K) (hK : K ≤ 20000) : Calls Tryd.prog 64 #[.agg #[.bool (decide (r.num < 0)), .slice A (dl r.num.natAbs) c, .slice A' (dl r.den) c']] W (RetB W true) :=
  rgood_4 (g := 1) (u := true) (fun W2 hb2 => zgood_h (nz.up hb2)) (fun W2 hb2 => good_h (nd.up hb2)) (fun W2 hb2 => by
    have h1 := rzero_h (nd.up hb2)
    rw [decide_eq_false r.den_nz] at h1
    exact h1) (fun W2 hb2 => gcd_h (nz.up hb2).1 (nd.up hb2) r.reduced (dl_bd2 hb.1 (by omega)) (dl_bd2 hb.2 (by omega))) (fun W2 B e hn => by
    have h1 := rone_h hn
    rw [decide_eq_true rfl] at h1
    exact h1)
def OfYs2 (W : World) (sg : Bool) (r : Rat) (e : Ending) (w' : World) : Prop := ∃ A c A' c', e = .returned (.tuple #[.agg #[.bool sg, .slice A (dl r.num.natAbs) c, .slice A' (dl r.den) c'], .bool true]) ∧ ZA w' sg A (dl r.num.natAbs) c r.num ∧ Nm w' A' (dl r.den) c' r.den ∧ Hid (Below W.heap.size W w')
theorem tt_inv {s : Bool} {z : Int} {d : Nat} {B : Option Addr} {k e : Nat} (hz : ZA W s B k e z) (h : TT z d r K) (h0 : r ≠ 0) : z ≠ 0 ∧ mkRat (zi s d) z.natAbs = r⁻¹ := by
  obtain ⟨h1, h2, _, _⟩ := h
  have hz0 : z ≠ 0 := by
    intro e
    apply h0
    rw [← h2, e]; simp
  refine ⟨hz0, ?_⟩
  have hs := za_sign hz hz0
  rw [← h2, inv_mk hz0 h1, hs]
  by_cases hn : z < 0
  · rw [if_pos hn, decide_eq_true hn, zi_true]
  · rw [if_neg hn, decide_eq_false hn, zi_false]

set_option maxHeartbeats 2000000 in
theorem inv_yes (h : QA W b A n c A' n' c' r K) (hK : 0 < K) (hK2 : K ≤ 20000) (h0 : r ≠ 0) : Calls Tryd.prog 67 #[.agg #[.bool b, .slice A n c, .slice A' n' c']] W (OfYes W r⁻¹) := by
  obtain ⟨si, hsi⟩ : ∃ s, s = decide ((r⁻¹).num < 0) := ⟨_, rfl⟩
  obtain ⟨v, hv⟩ : ∃ v, v = r⁻¹ := ⟨_, rfl⟩
  rw [← hv] at hsi
  have CT : Hid (∀ W', Bel W W' → Calls Tryd.prog 94 #[.agg #[.bool b, .slice A n c, .slice A' n' c']] W' (TermsR W' r K)) := fun W' hb => terms_h (h.up hb) hK
  have CO : Hid (∀ W' s B k e B' k' e' z d, ZA W' s B k e z → Nm W' B' k' e' d → Hid (TT z d r K) → Calls Tryd.prog 60 #[.agg #[.bool s, .slice B' k' e'], .agg #[.slice B k e]] W' (OfYs2 W' si v)) := fun W' s B k e B' k' e' z d h1 h2 h3 => by
    obtain ⟨e1, e2⟩ := tt_inv h1 h3.out h0
    rw [hsi, hv]
    exact of_yes (za_of h2) h1.1 (by omega) e2 (by rw [zi_abs]; exact dl_bd2 h3.out.2.2.2 (by omega)) (dl_bd2 h3.out.2.2.1 (by omega))
  rw [← hv]
  have HSI := hide hsi
  clear h h0 hsi hv
  have HB := Bel.refl W
  go_enter Tryd.func67, Tryd.ntmps67
  go_wp2_with (first | (go_at_call 94; (with_reducible refine (CT.out _ ((HB.al _).al _)).mono ?_); rintro e w1 ⟨ps, pA, pn, pc, pB, pm, pe, pz, pd, rfl, pzz, pnn, ph, hbk⟩; have HR := At.up (at_new1 _ _ _ _) hbk; replace HB := ((HB.al _).al _).up hbk; replace ph : Hid (TT pz pd r K) := ph) | (go_at_call 60; (with_reducible refine (CO.out _ _ _ _ _ _ _ _ _ _ ((pzz.al _).al _) ((pnn.al _).al _) ph).mono ?_); rintro e w2 ⟨B, e1, B', e2, rfl, nz, nd, hbk⟩; replace HB := ((HB.al _).al _).up hbk; replace HR := ((HR.al _).al _).up hbk; have hr_0 := HR.c0; have hr_1 := HR.c1; have hr_2 := HR.c2; have hr_l := HR.lt; have hr_f0 := HR.f0; have hr_f1 := HR.f1; have hr_f2 := HR.f2) | fail)
  refine bodyPost_ret (v := .tuple #[.agg #[.bool si, .slice B (dl v.num.natAbs) e1, .slice B' (dl v.den) e2], .bool true]) (by simp [results, Tryd.results67, go_sem, hr_0, hr_1, hr_2]) rfl ?_
  exact ⟨B, e1, B', e2, by rw [HSI.out], zr_of (nz.1.put3 HR now3), nd.put3 HR now3, below3 HB (by omega) _ _ _⟩
set_option maxHeartbeats 2000000 in
theorem inv_no (h : QA W b A n c A' n' c' r K) (hK : 0 < K) (h0 : r = 0) : Calls Tryd.prog 67 #[.agg #[.bool b, .slice A n c, .slice A' n' c']] W (OfNo W) := by
  have CT : Hid (∀ W', Bel W W' → Calls Tryd.prog 94 #[.agg #[.bool b, .slice A n c, .slice A' n' c']] W' (TermsR W' r K)) := fun W' hb => terms_h (h.up hb) hK
  have CO : Hid (∀ W' s B k e B' k' e' z d, ZA W' s B k e z → Nm W' B' k' e' d → Hid (TT z d r K) → Calls Tryd.prog 60 #[.agg #[.bool s, .slice B' k' e'], .agg #[.slice B k e]] W' (OfNo W')) := fun W' s B k e B' k' e' z d h1 h2 h3 => by
    have e1 : z = 0 := (Rat.mkRat_eq_zero (by have := h3.out.1; omega)).1 (h3.out.2.1.trans h0)
    subst e1
    exact of_no h1.1
  clear h h0
  have HB := Bel.refl W
  go_enter Tryd.func67, Tryd.ntmps67
  go_wp2_with (first | (go_at_call 94; (with_reducible refine (CT.out _ ((HB.al _).al _)).mono ?_); rintro e w1 ⟨ps, pA, pn, pc, pB, pm, pe, pz, pd, rfl, pzz, pnn, ph, hbk⟩; have HR := At.up (at_new1 _ _ _ _) hbk; replace HB := ((HB.al _).al _).up hbk; replace ph : Hid (TT pz pd r K) := ph) | (go_at_call 60; (with_reducible refine (CO.out _ _ _ _ _ _ _ _ _ _ ((pzz.al _).al _) ((pnn.al _).al _) ph).mono ?_); rintro e w2 ⟨rfl, hbk⟩; replace HB := ((HB.al _).al _).up hbk; replace HR := ((HR.al _).al _).up hbk; have hr_0 := HR.c0; have hr_1 := HR.c1; have hr_2 := HR.c2; have hr_l := HR.lt; have hr_f0 := HR.f0; have hr_f1 := HR.f1; have hr_f2 := HR.f2) | fail)
  refine bodyPost_ret (v := .tuple #[.agg #[.bool false, .slice none 0 0, .slice none 0 0], .bool false]) (by simp [results, Tryd.results67, go_sem, hr_0, hr_1, hr_2]) rfl ?_
  exact ⟨rfl, below3 HB (by omega) _ _ _⟩
end
end Go.Proofs.YtfknclimoihfdaaDoor
end

section
/- RatLowest's walk. No conditions. -/
open Go.RowKit
set_option maxRecDepth 100000
namespace Go.Proofs.YtfknclimoihfdaaDoor
theorem dl_u64 {m : Nat} (h : m ≤ 18446744073709551615) : dl m ≤ 2 := dl_le (k := 2) (by rw [show W32 ^ 2 = 18446744073709551616 from rfl]; omega)
theorem u64_bd {m : Nat} (h : m ≤ 18446744073709551615) : m < W32 ^ 2 := by rw [show W32 ^ 2 = 18446744073709551616 from rfl]; omega
def QRv3 (W : World) (sg : Bool) (r : Rat) (e : Ending) (w' : World) : Prop := ∃ A c A' c', e = .returned (.tuple #[.agg #[.bool sg, .slice A (dl r.num.natAbs) c, .slice A' (dl r.den) c'], .bool true]) ∧ ZA w' sg A (dl r.num.natAbs) c r.num ∧ Nm w' A' (dl r.den) c' r.den ∧ Hid (Below W.heap.size W w')
def ZRv (W : World) (sg : Bool) (z : Int) (e : Ending) (w' : World) : Prop := ∃ A c, e = .returned (.agg #[.bool sg, .slice A (dl z.natAbs) c]) ∧ ZA w' sg A (dl z.natAbs) c z ∧ Hid (Below W.heap.size W w')
def StrV (W : World) (s : ByteArray) (e : Ending) (w' : World) : Prop := e = .returned (.string s) ∧ Hid (Below W.heap.size W w')
set_option maxHeartbeats 8000000 in
theorem rlowest_main (w : World) {p : Int} {q k : Nat} (hp1 : -9223372036854775808 ≤ p) (hp2 : p ≤ 9223372036854775807) (hq : q ≤ 18446744073709551615) (hk : k ≤ 18446744073709551615) (hq0 : 0 < q) (hk0 : 0 < k) :
    Calls Tryd.prog 9 #[.int .i64 p, .int .u64 (q : Int), .int .u64 (k : Int)] w fun e w' => e = .returned (.bool true) ∧ Below w.heap.size w w' := by
  obtain ⟨r, hr⟩ : ∃ r, r = mkRat p q := ⟨_, rfl⟩
  obtain ⟨m, hm⟩ : ∃ m, m = p * (k : Int) := ⟨_, rfl⟩
  obtain ⟨v, hv⟩ : ∃ v, v = q * k := ⟨_, rfl⟩
  obtain ⟨sg, hsg⟩ : ∃ s, s = decide (r.num < 0) := ⟨_, rfl⟩
  obtain ⟨sp, hsp⟩ : ∃ s, s = decide (p < 0) := ⟨_, rfl⟩
  obtain ⟨sm, hsm⟩ : ∃ s, s = decide (m < 0) := ⟨_, rfl⟩
  obtain ⟨tx, htx⟩ : ∃ t : ByteArray, t.data.toList = decQ r := ⟨⟨(decQ r).toArray⟩, rfl⟩
  have bp : p.natAbs < W32 ^ 2 := u64_bd (by omega)
  have bq : q < W32 ^ 2 := u64_bd hq
  have bk : k < W32 ^ 2 := u64_bd hk
  have bm : m.natAbs < W32 ^ 4 := by rw [hm]; exact bd_zmul bp bk
  have bv : v < W32 ^ 4 := by rw [hv]; exact bd_mul bq bk
  have br : Bd r 2 := tt_bd ⟨hq0, hr.symm, bp, bq⟩
  have hr2 : mkRat m v = r := by rw [hm, hv, hr]; exact Rat.mkRat_mul_right (by omega)
  have CPo : Hid (∀ W, Calls Tryd.prog 37 #[.int .i64 p] W (ZRv W sp p)) := fun W => by rw [hsp]; exact zof_h hp1 hp2
  have CQo : Hid (∀ W, Calls Tryd.prog 11 #[.int .u64 (q : Int)] W (NumR W q)) := fun W => of_h hq
  have CKo : Hid (∀ W, Calls Tryd.prog 11 #[.int .u64 (k : Int)] W (NumR W k)) := fun W => of_h hk
  have C1 : Hid (∀ W, Calls Tryd.prog 11 #[.int .u64 1] W (NumR W 1)) := fun W => of_h (v := 1) (by omega)
  have CO1 : Hid (∀ W B kk e B' k' e', ZA W sp B kk e p → Nm W B' k' e' q → Calls Tryd.prog 60 #[.agg #[.bool sp, .slice B kk e], .agg #[.slice B' k' e']] W (QRv3 W sg r)) := fun W B kk e B' k' e' h1 h2 => by
    rw [hsg]
    exact of_yes h1 h2 hq0 hr.symm (dl_bd2 bp (by decide)) (dl_bd2 bq (by decide))
  have CM : Hid (∀ W B kk e B' k' e', ZA W sp B kk e p → Nm W B' k' e' k → Calls Tryd.prog 54 #[.agg #[.bool sp, .slice B kk e], .agg #[.bool false, .slice B' k' e']] W (ZRv W sm m)) := fun W B kk e B' k' e' h1 h2 => by
    rw [hsm]
    exact zmul_h h1 (za_of (b := false) h2) (by rw [zi_false, hm]) (Nat.le_trans (dl_bd2 bm (by decide)) (by decide))
  have CV : Hid (∀ W B kk e B' k' e', Nm W B kk e q → Nm W B' k' e' k → Calls Tryd.prog 30 #[.agg #[.slice B kk e], .agg #[.slice B' k' e']] W (NumR W v)) := fun W B kk e B' k' e' h1 h2 => mul_h h1 h2 hv.symm (Nat.le_trans (dl_bd2 bv (by decide)) (by decide))
  have CO2 : Hid (∀ W B kk e B' k' e', ZA W sm B kk e m → Nm W B' k' e' v → Calls Tryd.prog 60 #[.agg #[.bool sm, .slice B kk e], .agg #[.slice B' k' e']] W (QRv3 W sg r)) := fun W B kk e B' k' e' h1 h2 => by
    rw [hsg]
    exact of_yes h1 h2 (by rw [hv]; exact Nat.mul_pos hq0 hk0) hr2 (dl_bd2 bm (by decide)) (dl_bd2 bv (by decide))
  have CG : Hid (∀ W B e B' e', ZA W sg B (dl r.num.natAbs) e r.num → Nm W B' (dl r.den) e' r.den → Calls Tryd.prog 64 #[.agg #[.bool sg, .slice B (dl r.num.natAbs) e, .slice B' (dl r.den) e']] W (RetB W true)) := fun W B e B' e' h1 h2 => by
    rw [hsg] at h1 ⊢
    exact rgood_yes h1 h2 br (by decide)
  have CT : Hid (∀ W B e B' e', ZA W sg B (dl r.num.natAbs) e r.num → Nm W B' (dl r.den) e' r.den → Calls Tryd.prog 68 #[.agg #[.bool sg, .slice B (dl r.num.natAbs) e, .slice B' (dl r.den) e']] W (StrV W tx)) := fun W B e B' e' h1 h2 => (rtext_h (qa_of h1 h2 br) (by decide) (by decide)).mono fun _ _ h => str_of h htx
  have CGc : Hid (∀ W B e B' e', ZA W sg B (dl r.num.natAbs) e r.num → Nm W B' (dl r.den) e' r.den → Calls Tryd.prog 20 #[.agg #[.slice B (dl r.num.natAbs) e], .agg #[.slice B' (dl r.den) e']] W (NumR W 1)) := fun W B e B' e' h1 h2 => gcd_h h1.1 h2 r.reduced (dl_bd2 br.1 (by decide)) (dl_bd2 br.2 (by decide))
  have CC : Hid (∀ W B e B' e', Nm W B (dl 1) e 1 → Nm W B' (dl 1) e' 1 → Calls Tryd.prog 23 #[.agg #[.slice B (dl 1) e], .agg #[.slice B' (dl 1) e']] W (IntPost W 0)) := fun W B e B' e' h1 h2 => cmp_h h1 h2 (cmpI_eq rfl)
  have k0 : ((k : Int) == 0) = false := by simp; omega
  have k1 : ¬ (k : Int) = 0 := by omega
  clear hp1 hp2 hq hk hq0 hk0 hr hm hv hsg hsp hsm htx bp bq bk bm bv br hr2
  have HB := Bel.refl w
  go_enter Tryd.func9, Tryd.ntmps9
  go_wp2_with (first | (go_at_call 57; (with_reducible refine (awake3_any _).mono ?_); rintro e w1 ⟨rfl, hbk⟩; (with_reducible (replace HB := HB.up hbk))) | (go_at_call 37; (with_reducible refine (CPo.out _).mono ?_); rintro e w5 ⟨pA, pc, rfl, zp, hbk⟩; (with_reducible (have HX : At w5 w4.heap.size [.bool sg, .slice aA (dl r.num.natAbs) ac, .slice aB (dl r.den) ad] := At.up (at_new0 _ _ _) hbk; replace HB := (HB.al _).up hbk; replace az := (az.al _).up hbk; replace an := (an.al _).up hbk))) | (go_at_call 37; (with_reducible refine (CPo.out _).mono ?_); rintro e w2 ⟨pA, pc, rfl, zp, hbk⟩; (with_reducible (replace HB := HB.up hbk))) | (go_at_call 11; (with_reducible refine (CKo.out _).mono ?_); rintro e w9 ⟨kA, kc, rfl, nk, hbk⟩; (with_reducible (replace HB := HB.up hbk; replace az := az.up hbk; replace an := an.up hbk; replace HX := HX.up hbk; replace zm := zm.up hbk; replace nq := nq.up hbk))) | (go_at_call 11; (with_reducible refine (CKo.out _).mono ?_); rintro e w6 ⟨kA, kc, rfl, nk, hbk⟩; (with_reducible (replace HB := HB.up hbk; replace az := az.up hbk; replace an := an.up hbk; replace HX := HX.up hbk; replace zp := zp.up hbk))) | (go_at_call 11; (with_reducible refine (CQo.out _).mono ?_); rintro e w8 ⟨qA, qc, rfl, nq, hbk⟩; (with_reducible (replace HB := HB.up hbk; replace az := az.up hbk; replace an := an.up hbk; replace HX := HX.up hbk; replace zm := zm.up hbk))) | (go_at_call 11; (with_reducible refine (CQo.out _).mono ?_); rintro e w3 ⟨qA, qc, rfl, nq, hbk⟩; (with_reducible (replace HB := HB.up hbk; replace zp := zp.up hbk))) | (go_at_call 54; (with_reducible refine (CM.out _ _ _ _ _ _ _ zp nk).mono ?_); rintro e w7 ⟨mA, mc, rfl, zm, hbk⟩; (with_reducible (replace HB := HB.up hbk; replace az := az.up hbk; replace an := an.up hbk; replace HX := HX.up hbk)); clear zp nk) | (go_at_call 30; (with_reducible refine (CV.out _ _ _ _ _ _ _ nq nk).mono ?_); rintro e wa ⟨vA, vc, rfl, nv, hbk⟩; (with_reducible (replace HB := HB.up hbk; replace az := az.up hbk; replace an := an.up hbk; replace HX := HX.up hbk; replace zm := zm.up hbk)); clear nq nk) | (go_at_call 60; (with_reducible refine (CO2.out _ _ _ _ _ _ _ zm nv).mono ?_); rintro e wb ⟨bA, bc, bB, bd, rfl, bz, bn, hbk⟩; (with_reducible (replace HB := HB.up hbk; replace az := az.up hbk; replace an := an.up hbk; replace HX := HX.up hbk)); clear zm nv) | (go_at_call 60; (with_reducible refine (CO1.out _ _ _ _ _ _ _ zp nq).mono ?_); rintro e w4 ⟨aA, ac, aB, ad, rfl, az, an, hbk⟩; (with_reducible (replace HB := HB.up hbk)); clear zp nq) | fail)
  go_region_held3 (fun w' => w'.cell? ⟨w4.heap.size, 0, none⟩ = some (.bool sg) ∧ w'.cell? ⟨w4.heap.size, 1, none⟩ = some (.slice aA (dl r.num.natAbs) ac) ∧ w'.cell? ⟨w4.heap.size, 2, none⟩ = some (.slice aB (dl r.den) ad) ∧ w'.cell? ⟨wb.heap.size, 0, none⟩ = some (.bool sg) ∧ w'.cell? ⟨wb.heap.size, 1, none⟩ = some (.slice bA (dl r.num.natAbs) bc) ∧ w'.cell? ⟨wb.heap.size, 2, none⟩ = some (.slice bB (dl r.den) bd))
    (first | with_reducible exact ⟨(HX.al _).dr.c0, (HX.al _).dr.c1, (HX.al _).dr.c2, (at_new0 _ _ _).dr.c0, (at_new0 _ _ _).dr.c1, (at_new0 _ _ _).dr.c2⟩ | with_reducible exact ⟨HX.c0, HX.c1, HX.c2, HY.c0, HY.c1, HY.c2⟩)
    (first | (go_at_call 64; (with_reducible refine (CG.out _ _ _ _ _ (az.al _).dr (an.al _).dr).mono ?_); rintro e wc ⟨rfl, hbk⟩; replace hbk := Bel.hid hbk; (with_reducible (have HY : At wc wb.heap.size [.bool sg, .slice bA (dl r.num.natAbs) bc, .slice bB (dl r.den) bd] := At.up (at_new0 _ _ _).dr hbk; replace HB := (HB.al _).dr.up hbk; replace HX := (HX.al _).dr.up hbk; replace az := (az.al _).dr.up hbk; replace an := (an.al _).dr.up hbk; replace bz := (bz.al _).dr.up hbk; replace bn := (bn.al _).dr.up hbk))) | (go_at_call 64; (with_reducible refine (CG.out _ _ _ _ _ bz bn).mono ?_); rintro e wd ⟨rfl, hbk⟩; replace hbk := Bel.hid hbk; (with_reducible (replace HB := HB.up hbk; replace HX := HX.up hbk; replace HY := HY.up hbk; replace az := az.up hbk; replace an := an.up hbk; replace bz := bz.up hbk; replace bn := bn.up hbk))) | (go_at_call 68; (with_reducible refine (CT.out _ _ _ _ _ az an).mono ?_); rintro e we ⟨rfl, hbk⟩; (with_reducible (replace HB := HB.up hbk; replace HX := HX.up hbk; replace HY := HY.up hbk; replace az := az.up hbk; replace an := an.up hbk; replace bz := bz.up hbk; replace bn := bn.up hbk))) | (go_at_call 68; (with_reducible refine (CT.out _ _ _ _ _ bz bn).mono ?_); rintro e wf ⟨rfl, hbk⟩; (with_reducible (replace HB := HB.up hbk; replace HX := HX.up hbk; replace HY := HY.up hbk; replace az := az.up hbk; replace an := an.up hbk; replace bz := bz.up hbk; replace bn := bn.up hbk))) | (go_at_call 20; (with_reducible refine (CGc.out _ _ _ _ _ az an).mono ?_); rintro e wg ⟨gA, gc, rfl, gn, hbk⟩; (with_reducible (replace HB := HB.up hbk; replace HX := HX.up hbk; replace HY := HY.up hbk; replace az := az.up hbk; replace an := an.up hbk; replace bz := bz.up hbk; replace bn := bn.up hbk))) | (go_at_call 11; (with_reducible refine (C1.out _).mono ?_); rintro e wh ⟨oA, oc, rfl, on, hbk⟩; (with_reducible (replace HB := HB.up hbk; replace HX := HX.up hbk; replace HY := HY.up hbk; replace az := az.up hbk; replace an := an.up hbk; replace bz := bz.up hbk; replace bn := bn.up hbk; replace gn := gn.up hbk))) | (go_at_call 23; (with_reducible refine (CC.out _ _ _ _ _ gn on).mono ?_); rintro e wi ⟨rfl, hbk⟩; (with_reducible (replace HB := HB.up hbk; replace HX := HX.up hbk; replace HY := HY.up hbk; replace az := az.up hbk; replace an := an.up hbk; replace bz := bz.up hbk; replace bn := bn.up hbk))) | fail)
  go_wp2
  go_ret
  exact ⟨rfl, HB⟩

set_option maxHeartbeats 8000000 in
theorem rlowest_zero (w : World) {p : Int} {k : Nat} (hp1 : -9223372036854775808 ≤ p) (hp2 : p ≤ 9223372036854775807) (hk : k ≤ 18446744073709551615) (hk0 : 0 < k) :
    Calls Tryd.prog 9 #[.int .i64 p, .int .u64 0, .int .u64 (k : Int)] w fun e w' => e = .returned (.bool true) ∧ Below w.heap.size w w' := by
  obtain ⟨m, hm⟩ : ∃ m, m = p * (k : Int) := ⟨_, rfl⟩
  obtain ⟨sp, hsp⟩ : ∃ s, s = decide (p < 0) := ⟨_, rfl⟩
  obtain ⟨sm, hsm⟩ : ∃ s, s = decide (m < 0) := ⟨_, rfl⟩
  have bp : p.natAbs < W32 ^ 2 := u64_bd (by omega)
  have bk : k < W32 ^ 2 := u64_bd hk
  have bm : m.natAbs < W32 ^ 4 := by rw [hm]; exact bd_zmul bp bk
  have CPo : Hid (∀ W, Calls Tryd.prog 37 #[.int .i64 p] W (ZRv W sp p)) := fun W => by rw [hsp]; exact zof_h hp1 hp2
  have CQo : Hid (∀ W, Calls Tryd.prog 11 #[.int .u64 0] W (NumR W 0)) := fun W => of_h (v := 0) (by omega)
  have CKo : Hid (∀ W, Calls Tryd.prog 11 #[.int .u64 (k : Int)] W (NumR W k)) := fun W => of_h hk
  have CO1 : Hid (∀ W s B kk e B' k' e', Nm W B' k' e' 0 → Calls Tryd.prog 60 #[.agg #[.bool s, .slice B kk e], .agg #[.slice B' k' e']] W (OfNo W)) := fun W s B kk e B' k' e' h2 => of_no h2
  have CM : Hid (∀ W B kk e B' k' e', ZA W sp B kk e p → Nm W B' k' e' k → Calls Tryd.prog 54 #[.agg #[.bool sp, .slice B kk e], .agg #[.bool false, .slice B' k' e']] W (ZRv W sm m)) := fun W B kk e B' k' e' h1 h2 => by
    rw [hsm]
    exact zmul_h h1 (za_of (b := false) h2) (by rw [zi_false, hm]) (Nat.le_trans (dl_bd2 bm (by decide)) (by decide))
  have CV : Hid (∀ W B kk e B' k' e', Nm W B kk e 0 → Nm W B' k' e' k → Calls Tryd.prog 30 #[.agg #[.slice B kk e], .agg #[.slice B' k' e']] W (NumR W 0)) := fun W B kk e B' k' e' h1 h2 => mul_h h1 h2 (Nat.zero_mul _) (Nat.le_trans (dl_u64 (by omega)) (by decide))
  have k0 : ((k : Int) == 0) = false := by simp; omega
  have k1 : ¬ (k : Int) = 0 := by omega
  clear hp1 hp2 hk hk0 hm hsp hsm bp bk bm
  have HB := Bel.refl w
  go_enter Tryd.func9, Tryd.ntmps9
  go_wp2_with (first | (go_at_call 57; (with_reducible refine (awake3_any _).mono ?_); rintro e w1 ⟨rfl, hbk⟩; (with_reducible (replace HB := HB.up hbk))) | (go_at_call 37; (with_reducible refine (CPo.out _).mono ?_); rintro e w5 ⟨pA, pc, rfl, zp, hbk⟩; (with_reducible (replace HB := (HB.al _).up hbk))) | (go_at_call 37; (with_reducible refine (CPo.out _).mono ?_); rintro e w2 ⟨pA, pc, rfl, zp, hbk⟩; (with_reducible (replace HB := HB.up hbk))) | (go_at_call 11; (with_reducible refine (CKo.out _).mono ?_); rintro e w9 ⟨kA, kc, rfl, nk, hbk⟩; (with_reducible (replace HB := HB.up hbk; replace zm := zm.up hbk; replace nq := nq.up hbk))) | (go_at_call 11; (with_reducible refine (CKo.out _).mono ?_); rintro e w6 ⟨kA, kc, rfl, nk, hbk⟩; (with_reducible (replace HB := HB.up hbk; replace zp := zp.up hbk))) | (go_at_call 11; (with_reducible refine (CQo.out _).mono ?_); rintro e w8 ⟨qA, qc, rfl, nq, hbk⟩; (with_reducible (replace HB := HB.up hbk; replace zm := zm.up hbk))) | (go_at_call 11; (with_reducible refine (CQo.out _).mono ?_); rintro e w3 ⟨qA, qc, rfl, nq, hbk⟩; (with_reducible (replace HB := HB.up hbk; replace zp := zp.up hbk))) | (go_at_call 54; (with_reducible refine (CM.out _ _ _ _ _ _ _ zp nk).mono ?_); rintro e w7 ⟨mA, mc, rfl, zm, hbk⟩; (with_reducible (replace HB := HB.up hbk)); clear zp nk) | (go_at_call 30; (with_reducible refine (CV.out _ _ _ _ _ _ _ nq nk).mono ?_); rintro e wa ⟨vA, vc, rfl, nv, hbk⟩; (with_reducible (replace HB := HB.up hbk; replace zm := zm.up hbk)); clear nq nk) | (go_at_call 60; (with_reducible refine (CO1.out _ _ _ _ _ _ _ _ nv).mono ?_); rintro e wb ⟨rfl, hbk⟩; (with_reducible (replace HB := HB.up hbk)); clear zm nv) | (go_at_call 60; (with_reducible refine (CO1.out _ _ _ _ _ _ _ _ nq).mono ?_); rintro e w4 ⟨rfl, hbk⟩; (with_reducible (replace HB := HB.up hbk)); clear zp nq) | fail)
  go_ret
  exact ⟨rfl, HB.al _⟩
set_option maxHeartbeats 1000000 in
theorem rlowest_nok (w : World) {p q : Int} : Calls Tryd.prog 9 #[.int .i64 p, .int .u64 q, .int .u64 0] w fun e w' => e = .returned (.bool true) ∧ Below w.heap.size w w' := by
  have HB := Bel.refl w
  go_enter Tryd.func9, Tryd.ntmps9
  go_wp2_with (first | (go_at_call 57; (with_reducible refine (awake3_any _).mono ?_); rintro e w1 ⟨rfl, hbk⟩; (with_reducible (replace HB := HB.up hbk))) | fail)
  go_ret
  exact ⟨rfl, HB⟩
theorem rlowest_walk (w : World) {p q k : Int} (hp : -9223372036854775808 ≤ p ∧ p ≤ 9223372036854775807) (hq : 0 ≤ q ∧ q ≤ 18446744073709551615) (hk : 0 ≤ k ∧ k ≤ 18446744073709551615) :
    Calls Tryd.prog 9 #[.int .i64 p, .int .u64 q, .int .u64 k] w fun e w' => e = .returned (.bool true) ∧ Below w.heap.size w w' := by
  obtain ⟨q, rfl⟩ : ∃ n : Nat, q = (n : Int) := ⟨q.toNat, by omega⟩
  obtain ⟨k, rfl⟩ : ∃ n : Nat, k = (n : Int) := ⟨k.toNat, by omega⟩
  by_cases hk0 : k = 0
  · subst hk0; exact rlowest_nok w
  · by_cases hq0 : q = 0
    · subst hq0; exact rlowest_zero w hp.1 hp.2 (by omega) (by omega)
    · exact rlowest_main w hp.1 hp.2 (by omega) (by omega) (by omega) (by omega)
end Go.Proofs.YtfknclimoihfdaaDoor
end
