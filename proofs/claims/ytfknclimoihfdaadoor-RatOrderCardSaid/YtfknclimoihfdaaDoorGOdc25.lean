/- Several texts in one, each with its own sentence and conditions. -/
import Derived.Test.YtfknclimoihfdaaDoorQe
import Derived.Test.YtfknclimoihfdaaDoorGOdc21
import Derived.Test.YtfknclimoihfdaaDoorGOdc24
section
/- Package rat: Good of any fraction, Inv. Conditions: terms of at most 20000 words. -/
open Go.RowKit
set_option maxRecDepth 100000
namespace Go.Proofs.YtfknclimoihfdaaDoor
section
variable {W w : World} {b : Bool} {A A' : Option Addr} {n c n' c' K m m' : Nat} {r : Rat} {z : Int}
/-- Whether the words of a number are valid: one answer in every later world. -/
theorem ngood_e (h : Nm w A n c m) : ∃ g, ∀ W', Bel w W' → Calls Tryd.prog 19 #[.agg #[.slice A n c]] W' (RetB W' g) := by
  obtain ⟨ws, h1, h2, h3, hr, h4⟩ := h.out
  refine ⟨goodB ws, fun W' hb => ?_⟩
  exact (Good_any (c := c) h1 ((hr.below hb).more (Below.size hb)) (by omega)).mono fun e w' ⟨he, hb2⟩ => ⟨he, hb2⟩
set_option maxHeartbeats 1000000 in
theorem zgood_f (hn : ∀ W', Bel W W' → Calls Tryd.prog 19 #[.agg #[.slice A n c]] W' (RetB W' false)) :
    Calls Tryd.prog 38 #[.agg #[.bool b, .slice A n c]] W (RetB W false) := by
  have CG := hide hn
  clear hn
  have HB := Bel.refl W
  go_enter Tryd.func38, Tryd.ntmps38
  go_wp2_with (first | (go_at_call 19; (with_reducible refine (CG.out _ (HB.al _)).mono ?_); rintro e w1 ⟨rfl, hbk⟩; have HP := At.up (at_new0 _ _ _) hbk; replace HB := (HB.al _).up hbk; have hp_0 := HP.c0; have hp_1 := HP.c1; have hp_l := HP.lt) | fail)
  go_ret
  exact ⟨rfl, HB⟩
set_option maxHeartbeats 1000000 in
theorem zgood_p (hn : ∀ W', Bel W W' → Calls Tryd.prog 19 #[.agg #[.slice A n c]] W' (RetB W' true)) :
    Calls Tryd.prog 38 #[.agg #[.bool false, .slice A n c]] W (RetB W true) := by
  have CG := hide hn
  clear hn
  have HB := Bel.refl W
  go_enter Tryd.func38, Tryd.ntmps38
  go_wp2_with (first | (go_at_call 19; (with_reducible refine (CG.out _ (HB.al _)).mono ?_); rintro e w1 ⟨rfl, hbk⟩; have HP := At.up (at_new0 _ _ _) hbk; replace HB := (HB.al _).up hbk; have hp_0 := HP.c0; have hp_1 := HP.c1; have hp_l := HP.lt) | fail)
  go_ret
  exact ⟨rfl, HB⟩
set_option maxHeartbeats 1000000 in
theorem zgood_t (hn : ∀ W', Bel W W' → Calls Tryd.prog 19 #[.agg #[.slice A n c]] W' (RetB W' true)) (hz : ∀ W', Bel W W' → Calls Tryd.prog 86 #[.agg #[.slice A n c]] W' (BoolR W' false)) :
    Calls Tryd.prog 38 #[.agg #[.bool true, .slice A n c]] W (RetB W true) := by
  have CG := hide hn
  have CZ := hide hz
  clear hz
  clear hn
  have HB := Bel.refl W
  go_enter Tryd.func38, Tryd.ntmps38
  go_wp2_with (first | (go_at_call 19; (with_reducible refine (CG.out _ (HB.al _)).mono ?_); rintro e w1 ⟨rfl, hbk⟩; have HP := At.up (at_new0 _ _ _) hbk; replace HB := (HB.al _).up hbk; have hp_0 := HP.c0; have hp_1 := HP.c1; have hp_l := HP.lt) | (go_at_call 86; (with_reducible refine (CZ.out _ HB).mono ?_); rintro e w2 ⟨rfl, hbk⟩; replace HB := HB.up hbk) | fail)
  go_ret
  exact ⟨rfl, HB⟩
set_option maxHeartbeats 1000000 in
theorem zgood_n (hn : ∀ W', Bel W W' → Calls Tryd.prog 19 #[.agg #[.slice A n c]] W' (RetB W' true)) (hz : ∀ W', Bel W W' → Calls Tryd.prog 86 #[.agg #[.slice A n c]] W' (BoolR W' true)) :
    Calls Tryd.prog 38 #[.agg #[.bool true, .slice A n c]] W (RetB W false) := by
  have CG := hide hn
  have CZ := hide hz
  clear hz
  clear hn
  have HB := Bel.refl W
  go_enter Tryd.func38, Tryd.ntmps38
  go_wp2_with (first | (go_at_call 19; (with_reducible refine (CG.out _ (HB.al _)).mono ?_); rintro e w1 ⟨rfl, hbk⟩; have HP := At.up (at_new0 _ _ _) hbk; replace HB := (HB.al _).up hbk; have hp_0 := HP.c0; have hp_1 := HP.c1; have hp_l := HP.lt) | (go_at_call 86; (with_reducible refine (CZ.out _ HB).mono ?_); rintro e w2 ⟨rfl, hbk⟩; replace HB := HB.up hbk) | fail)
  go_ret
  exact ⟨rfl, HB⟩
theorem zisz_e (h : Nm w A n c m) : ∃ f, ∀ W', Bel w W' → Calls Tryd.prog 86 #[.agg #[.slice A n c]] W' (BoolR W' f) := by
  by_cases h0 : m = 0
  · exact ⟨true, fun W' hb => isZero_yes (h.up hb) h0⟩
  · exact ⟨false, fun W' hb => isZero_no (h.up hb) (by omega)⟩
/-- One of num.Good's two walks, in every later world with one answer. -/
theorem zgood_e (h : ZA w b A n c z) : ∃ u, ∀ W', Bel w W' → Calls Tryd.prog 38 #[.agg #[.bool b, .slice A n c]] W' (RetB W' u) := by
  obtain ⟨g, hg⟩ := ngood_e h.1
  obtain ⟨f, hf⟩ := zisz_e h.1
  cases g
  · refine ⟨false, fun W' hb => ?_⟩
    exact zgood_f (fun W2 hb2 => hg W2 (Bel.up hb hb2))
  · cases b
    · exact ⟨true, fun W' hb => zgood_p (fun W2 hb2 => hg W2 (Bel.up hb hb2))⟩
    · cases f
      · exact ⟨true, fun W' hb => zgood_t (fun W2 hb2 => hg W2 (Bel.up hb hb2)) (fun W2 hb2 => hf W2 (Bel.up hb hb2))⟩
      · exact ⟨false, fun W' hb => zgood_n (fun W2 hb2 => hg W2 (Bel.up hb hb2)) (fun W2 hb2 => hf W2 (Bel.up hb hb2))⟩
set_option maxHeartbeats 1000000 in
theorem rgood_1 (h1 : ∀ W', Bel W W' → Calls Tryd.prog 38 #[.agg #[.bool b, .slice A n c]] W' (RetB W' false)) :
    Calls Tryd.prog 64 #[.agg #[.bool b, .slice A n c, .slice A' n' c']] W (RetB W false) := by
  have C1 := hide h1
  clear h1
  have HB := Bel.refl W
  go_enter Tryd.func64, Tryd.ntmps64
  go_wp2_with (first | (go_at_call 38; (with_reducible refine (C1.out _ (HB.al _)).mono ?_); rintro e w1 ⟨rfl, hbk⟩; have HQ := At.up (at_new0 _ _ _) hbk; replace HB := (HB.al _).up hbk; have hq_0 := HQ.c0; have hq_1 := HQ.c1; have hq_2 := HQ.c2; have hq_l := HQ.lt) | fail)
  go_ret
  exact ⟨rfl, HB⟩
set_option maxHeartbeats 1000000 in
theorem rgood_2 (h1 : ∀ W', Bel W W' → Calls Tryd.prog 38 #[.agg #[.bool b, .slice A n c]] W' (RetB W' true)) (h2 : ∀ W', Bel W W' → Calls Tryd.prog 19 #[.agg #[.slice A' n' c']] W' (RetB W' false)) :
    Calls Tryd.prog 64 #[.agg #[.bool b, .slice A n c, .slice A' n' c']] W (RetB W false) := by
  have C1 := hide h1
  clear h1
  have C2 := hide h2
  clear h2
  have HB := Bel.refl W
  go_enter Tryd.func64, Tryd.ntmps64
  go_wp2_with (first | (go_at_call 38; (with_reducible refine (C1.out _ (HB.al _)).mono ?_); rintro e w1 ⟨rfl, hbk⟩; have HQ := At.up (at_new0 _ _ _) hbk; replace HB := (HB.al _).up hbk; have hq_0 := HQ.c0; have hq_1 := HQ.c1; have hq_2 := HQ.c2; have hq_l := HQ.lt) | (go_at_call 19; (with_reducible refine (C2.out _ HB).mono ?_); rintro e w2 ⟨rfl, hbk⟩; replace HB := HB.up hbk; replace HQ := HQ.up hbk; clear hq_0 hq_1 hq_2 hq_l; have hq_0 := HQ.c0; have hq_1 := HQ.c1; have hq_2 := HQ.c2; have hq_l := HQ.lt) | fail)
  go_ret
  exact ⟨rfl, HB⟩
set_option maxHeartbeats 1000000 in
theorem rgood_3 (h1 : ∀ W', Bel W W' → Calls Tryd.prog 38 #[.agg #[.bool b, .slice A n c]] W' (RetB W' true)) (h2 : ∀ W', Bel W W' → Calls Tryd.prog 19 #[.agg #[.slice A' n' c']] W' (RetB W' true)) (h3 : ∀ W', Bel W W' → Calls Tryd.prog 95 #[.agg #[.slice A' n' c']] W' (RetB W' true)) :
    Calls Tryd.prog 64 #[.agg #[.bool b, .slice A n c, .slice A' n' c']] W (RetB W false) := by
  have C1 := hide h1
  clear h1
  have C2 := hide h2
  clear h2
  have C3 := hide h3
  clear h3
  have HB := Bel.refl W
  go_enter Tryd.func64, Tryd.ntmps64
  go_wp2_with (first | (go_at_call 38; (with_reducible refine (C1.out _ (HB.al _)).mono ?_); rintro e w1 ⟨rfl, hbk⟩; have HQ := At.up (at_new0 _ _ _) hbk; replace HB := (HB.al _).up hbk; have hq_0 := HQ.c0; have hq_1 := HQ.c1; have hq_2 := HQ.c2; have hq_l := HQ.lt) | (go_at_call 19; (with_reducible refine (C2.out _ HB).mono ?_); rintro e w2 ⟨rfl, hbk⟩; replace HB := HB.up hbk; replace HQ := HQ.up hbk; clear hq_0 hq_1 hq_2 hq_l; have hq_0 := HQ.c0; have hq_1 := HQ.c1; have hq_2 := HQ.c2; have hq_l := HQ.lt) | (go_at_call 95; (with_reducible refine (C3.out _ HB).mono ?_); rintro e w3 ⟨rfl, hbk⟩; replace HB := HB.up hbk; replace HQ := HQ.up hbk; clear hq_0 hq_1 hq_2 hq_l; have hq_0 := HQ.c0; have hq_1 := HQ.c1; have hq_2 := HQ.c2; have hq_l := HQ.lt) | fail)
  go_ret
  exact ⟨rfl, HB⟩
set_option maxHeartbeats 1000000 in
theorem rgood_4 (h1 : ∀ W', Bel W W' → Calls Tryd.prog 38 #[.agg #[.bool b, .slice A n c]] W' (RetB W' true)) (h2 : ∀ W', Bel W W' → Calls Tryd.prog 19 #[.agg #[.slice A' n' c']] W' (RetB W' true)) (h3 : ∀ W', Bel W W' → Calls Tryd.prog 95 #[.agg #[.slice A' n' c']] W' (RetB W' false)) {g : Nat} {u : Bool} (h4 : ∀ W', Bel W W' → Calls Tryd.prog 20 #[.agg #[.slice A n c], .agg #[.slice A' n' c']] W' (NumR W' g)) (h5 : ∀ W' B e, Nm W' B (dl g) e g → Calls Tryd.prog 98 #[.agg #[.slice B (dl g) e]] W' (RetB W' u)) :
    Calls Tryd.prog 64 #[.agg #[.bool b, .slice A n c, .slice A' n' c']] W (RetB W u) := by
  have C1 := hide h1
  clear h1
  have C2 := hide h2
  clear h2
  have C3 := hide h3
  clear h3
  have C4 := hide h4
  clear h4
  have C5 := hide h5
  clear h5
  have HB := Bel.refl W
  go_enter Tryd.func64, Tryd.ntmps64
  go_wp2_with (first | (go_at_call 38; (with_reducible refine (C1.out _ (HB.al _)).mono ?_); rintro e w1 ⟨rfl, hbk⟩; have HQ := At.up (at_new0 _ _ _) hbk; replace HB := (HB.al _).up hbk; have hq_0 := HQ.c0; have hq_1 := HQ.c1; have hq_2 := HQ.c2; have hq_l := HQ.lt) | (go_at_call 19; (with_reducible refine (C2.out _ HB).mono ?_); rintro e w2 ⟨rfl, hbk⟩; replace HB := HB.up hbk; replace HQ := HQ.up hbk; clear hq_0 hq_1 hq_2 hq_l; have hq_0 := HQ.c0; have hq_1 := HQ.c1; have hq_2 := HQ.c2; have hq_l := HQ.lt) | (go_at_call 95; (with_reducible refine (C3.out _ HB).mono ?_); rintro e w3 ⟨rfl, hbk⟩; replace HB := HB.up hbk; replace HQ := HQ.up hbk; clear hq_0 hq_1 hq_2 hq_l; have hq_0 := HQ.c0; have hq_1 := HQ.c1; have hq_2 := HQ.c2; have hq_l := HQ.lt) | (go_at_call 20; (with_reducible refine (C4.out _ HB).mono ?_); rintro e w4 ⟨gA, gc, rfl, gn, hbk⟩; replace HB := HB.up hbk; replace HQ := HQ.up hbk; clear hq_0 hq_1 hq_2 hq_l; have hq_0 := HQ.c0; have hq_1 := HQ.c1; have hq_2 := HQ.c2; have hq_l := HQ.lt) | (go_at_call 98; (with_reducible refine (C5.out _ _ _ gn).mono ?_); rintro e w5 ⟨rfl, hbk⟩; replace HB := HB.up hbk) | fail)
  go_ret
  exact ⟨rfl, HB⟩

/-- Whether a fraction is valid: one answer in every later world. -/
theorem rgood_e (h : QA w b A n c A' n' c' r K) (hK : K ≤ 20000) : ∃ u, ∀ W', Bel w W' → Calls Tryd.prog 64 #[.agg #[.bool b, .slice A n c, .slice A' n' c']] W' (RetB W' u) := by
  obtain ⟨z, d, hz, hd, h1, h2, h3⟩ := h
  obtain ⟨u1, hu1⟩ := zgood_e hz
  obtain ⟨u2, hu2⟩ := ngood_e hd
  have e1 : ∀ W', Bel w W' → ∀ W2, Bel W' W2 → Calls Tryd.prog 38 #[.agg #[.bool b, .slice A n c]] W2 (RetB W2 u1) := fun W' hb W2 hb2 => hu1 W2 (Bel.up hb hb2)
  have e2 : ∀ W', Bel w W' → ∀ W2, Bel W' W2 → Calls Tryd.prog 19 #[.agg #[.slice A' n' c']] W2 (RetB W2 u2) := fun W' hb W2 hb2 => hu2 W2 (Bel.up hb hb2)
  have e3 : ∀ W', Bel w W' → ∀ W2, Bel W' W2 → Calls Tryd.prog 95 #[.agg #[.slice A' n' c']] W2 (RetB W2 (decide (d = 0))) := fun W' hb W2 hb2 => rzero_h (hd.up (Bel.up hb hb2))
  cases u1
  · exact ⟨false, fun W' hb => rgood_1 (e1 W' hb)⟩
  · cases u2
    · exact ⟨false, fun W' hb => rgood_2 (e1 W' hb) (e2 W' hb)⟩
    · by_cases h0 : d = 0
      · rw [decide_eq_true h0] at e3
        exact ⟨false, fun W' hb => rgood_3 (e1 W' hb) (e2 W' hb) (e3 W' hb)⟩
      · rw [decide_eq_false h0] at e3
        exact ⟨decide (Nat.gcd z.natAbs d = 1), fun W' hb => rgood_4 (g := Nat.gcd z.natAbs d) (e1 W' hb) (e2 W' hb) (e3 W' hb) (fun W2 hb2 => gcd_h (hz.up (Bel.up hb hb2)).1 (hd.up (Bel.up hb hb2)) rfl (dl_bd2 h2 (by omega)) (dl_bd2 h3 (by omega))) (fun W2 B e hn => rone_h hn)⟩
/-- What is valid is. -/
theorem rgood_yes (nz : ZA W (decide (r.num < 0)) A (dl r.num.natAbs) c r.num) (nd : Nm W A' (dl r.den) c' r.den) (hb : Bd r K) (hK : K ≤ 20000) : Calls Tryd.prog 64 #[.agg #[.bool (decide (r.num < 0)), .slice A (dl r.num.natAbs) c, .slice A' (dl r.den) c']] W (RetB W true) :=
  rgood_4 (g := 1) (u := true) (fun W2 hb2 => zgood_h (nz.up hb2)) (fun W2 hb2 => good_h (nd.up hb2)) (fun W2 hb2 => by
    have h1 := rzero_h (nd.up hb2)
    rw [decide_eq_false r.den_nz] at h1
    exact h1) (fun W2 hb2 => gcd_h (nz.up hb2).1 (nd.up hb2) r.reduced (dl_bd2 hb.1 (by omega)) (dl_bd2 hb.2 (by omega))) (fun W2 B e hn => by
    have h1 := rone_h hn
    rw [decide_eq_true rfl] at h1
    exact h1)
def OfYs2 (W : World) (sg : Bool) (r : Rat) (e : Ending) (w' : World) : Prop := ∃ A c A' c', e = .returned (.tuple #[.agg #[.bool sg, .slice A (dl r.num.natAbs) c, .slice A' (dl r.den) c'], .bool true]) ∧ ZA w' sg A (dl r.num.natAbs) c r.num ∧ Nm w' A' (dl r.den) c' r.den ∧ Hid (Below W.heap.size W w')
theorem tt_inv {s : Bool} {z : Int} {d : Nat} {B : Option Addr} {k e : Nat} (hz : ZA W s B k e z) (h : TT z d r K) (h0 : r ≠ 0) : z ≠ 0 ∧ mkRat (zi s d) z.natAbs = r⁻¹ := by
  obtain ⟨h1, h2, _, _⟩ := h
  have hz0 : z ≠ 0 := by
    intro e
    apply h0
    rw [← h2, e]; simp
  refine ⟨hz0, ?_⟩
  have hs := za_sign hz hz0
  rw [← h2, inv_mk hz0 h1, hs]
  by_cases hn : z < 0
  · rw [if_pos hn, decide_eq_true hn, zi_true]
  · rw [if_neg hn, decide_eq_false hn, zi_false]

set_option maxHeartbeats 2000000 in
theorem inv_yes (h : QA W b A n c A' n' c' r K) (hK : 0 < K) (hK2 : K ≤ 20000) (h0 : r ≠ 0) : Calls Tryd.prog 67 #[.agg #[.bool b, .slice A n c, .slice A' n' c']] W (OfYes W r⁻¹) := by
  obtain ⟨si, hsi⟩ : ∃ s, s = decide ((r⁻¹).num < 0) := ⟨_, rfl⟩
  obtain ⟨v, hv⟩ : ∃ v, v = r⁻¹ := ⟨_, rfl⟩
  rw [← hv] at hsi
  have CT : Hid (∀ W', Bel W W' → Calls Tryd.prog 94 #[.agg #[.bool b, .slice A n c, .slice A' n' c']] W' (TermsR W' r K)) := fun W' hb => terms_h (h.up hb) hK
  have CO : Hid (∀ W' s B k e B' k' e' z d, ZA W' s B k e z → Nm W' B' k' e' d → Hid (TT z d r K) → Calls Tryd.prog 60 #[.agg #[.bool s, .slice B' k' e'], .agg #[.slice B k e]] W' (OfYs2 W' si v)) := fun W' s B k e B' k' e' z d h1 h2 h3 => by
    obtain ⟨e1, e2⟩ := tt_inv h1 h3.out h0
    rw [hsi, hv]
    exact of_yes (za_of h2) h1.1 (by omega) e2 (by rw [zi_abs]; exact dl_bd2 h3.out.2.2.2 (by omega)) (dl_bd2 h3.out.2.2.1 (by omega))
  rw [← hv]
  have HSI := hide hsi
  clear h h0 hsi hv
  have HB := Bel.refl W
  go_enter Tryd.func67, Tryd.ntmps67
  go_wp2_with (first | (go_at_call 94; (with_reducible refine (CT.out _ ((HB.al _).al _)).mono ?_); rintro e w1 ⟨ps, pA, pn, pc, pB, pm, pe, pz, pd, rfl, pzz, pnn, ph, hbk⟩; have HR := At.up (at_new1 _ _ _ _) hbk; replace HB := ((HB.al _).al _).up hbk; replace ph : Hid (TT pz pd r K) := ph) | (go_at_call 60; (with_reducible refine (CO.out _ _ _ _ _ _ _ _ _ _ ((pzz.al _).al _) ((pnn.al _).al _) ph).mono ?_); rintro e w2 ⟨B, e1, B', e2, rfl, nz, nd, hbk⟩; replace HB := ((HB.al _).al _).up hbk; replace HR := ((HR.al _).al _).up hbk; have hr_0 := HR.c0; have hr_1 := HR.c1; have hr_2 := HR.c2; have hr_l := HR.lt; have hr_f0 := HR.f0; have hr_f1 := HR.f1; have hr_f2 := HR.f2) | fail)
  refine bodyPost_ret (v := .tuple #[.agg #[.bool si, .slice B (dl v.num.natAbs) e1, .slice B' (dl v.den) e2], .bool true]) (by simp [results, Tryd.results67, go_sem, hr_0, hr_1, hr_2]) rfl ?_
  exact ⟨B, e1, B', e2, by rw [HSI.out], zr_of (nz.1.put3 HR now3), nd.put3 HR now3, below3 HB (by omega) _ _ _⟩
set_option maxHeartbeats 2000000 in
theorem inv_no (h : QA W b A n c A' n' c' r K) (hK : 0 < K) (h0 : r = 0) : Calls Tryd.prog 67 #[.agg #[.bool b, .slice A n c, .slice A' n' c']] W (OfNo W) := by
  have CT : Hid (∀ W', Bel W W' → Calls Tryd.prog 94 #[.agg #[.bool b, .slice A n c, .slice A' n' c']] W' (TermsR W' r K)) := fun W' hb => terms_h (h.up hb) hK
  have CO : Hid (∀ W' s B k e B' k' e' z d, ZA W' s B k e z → Nm W' B' k' e' d → Hid (TT z d r K) → Calls Tryd.prog 60 #[.agg #[.bool s, .slice B' k' e'], .agg #[.slice B k e]] W' (OfNo W')) := fun W' s B k e B' k' e' z d h1 h2 h3 => by
    have e1 : z = 0 := (Rat.mkRat_eq_zero (by have := h3.out.1; omega)).1 (h3.out.2.1.trans h0)
    subst e1
    exact of_no h1.1
  clear h h0
  have HB := Bel.refl W
  go_enter Tryd.func67, Tryd.ntmps67
  go_wp2_with (first | (go_at_call 94; (with_reducible refine (CT.out _ ((HB.al _).al _)).mono ?_); rintro e w1 ⟨ps, pA, pn, pc, pB, pm, pe, pz, pd, rfl, pzz, pnn, ph, hbk⟩; have HR := At.up (at_new1 _ _ _ _) hbk; replace HB := ((HB.al _).al _).up hbk; replace ph : Hid (TT pz pd r K) := ph) | (go_at_call 60; (with_reducible refine (CO.out _ _ _ _ _ _ _ _ _ _ ((pzz.al _).al _) ((pnn.al _).al _) ph).mono ?_); rintro e w2 ⟨rfl, hbk⟩; replace HB := ((HB.al _).al _).up hbk; replace HR := ((HR.al _).al _).up hbk; have hr_0 := HR.c0; have hr_1 := HR.c1; have hr_2 := HR.c2; have hr_l := HR.lt; have hr_f0 := HR.f0; have hr_f1 := HR.f1; have hr_f2 := HR.f2) | fail)
  refine bodyPost_ret (v := .tuple #[.agg #[.bool false, .slice none 0 0, .slice none 0 0], .bool false]) (by simp [results, Tryd.results67, go_sem, hr_0, hr_1, hr_2]) rfl ?_
  exact ⟨rfl, below3 HB (by omega) _ _ _⟩
end
end Go.Proofs.YtfknclimoihfdaaDoor
end

section
/- RatOrder's walk. No conditions. -/
open Go.RowKit
set_option maxRecDepth 100000
namespace Go.Proofs.YtfknclimoihfdaaDoor
theorem cmpR_add (a b c : Rat) : cmpR (a + c) (b + c) = cmpR a b := by
  unfold cmpR
  simp only [Rat.add_lt_add_right]
theorem cmpR_neg (a b : Rat) : cmpR (-b) (-a) = cmpR a b := by
  unfold cmpR
  simp only [Rat.neg_lt_neg_iff]
theorem inv_lt {a b : Rat} (ha : 0 < a) (hb : 0 < b) : b⁻¹ < a⁻¹ ↔ a < b := by
  have hc : 0 < a * b := Rat.mul_pos ha hb
  rw [← Rat.mul_lt_mul_left hc]
  have e1 : a * b * b⁻¹ = a := by rw [Rat.mul_assoc, Rat.mul_inv_cancel b (Rat.ne_of_gt hb), Rat.mul_one]
  have e2 : a * b * a⁻¹ = b := by rw [Rat.mul_comm a b, Rat.mul_assoc, Rat.mul_inv_cancel a (Rat.ne_of_gt ha), Rat.mul_one]
  rw [e1, e2]
theorem cmpR_inv {a b : Rat} (ha : 0 < a) (hb : 0 < b) : cmpR b⁻¹ a⁻¹ = cmpR a b := by
  unfold cmpR
  simp only [inv_lt ha hb, inv_lt hb ha]
theorem pos_of_sign {r : Rat} (h : ¬ r.num.sign ≤ 0) : 0 < r := by
  have h1 : 0 < r.num := by
    rcases Int.lt_trichotomy r.num 0 with h2 | h2 | h2
    · exact absurd (by rw [Int.sign_eq_neg_one_of_neg h2]; decide) h
    · exact absurd (by rw [h2]; decide) h
    · exact h2
  have h2 : ¬ r ≤ 0 := by
    rw [Rat.le_iff]
    simp
    exact h1
  exact Rat.not_le.1 h2
theorem Bd.inv {r : Rat} {K : Nat} (h : Bd r K) (h0 : r ≠ 0) : Bd r⁻¹ K := by
  have hn : r.num ≠ 0 := fun e => h0 (Rat.num_eq_zero.1 e)
  refine ⟨?_, ?_⟩
  · rw [Rat.num_inv, Int.natAbs_mul, Int.natAbs_sign_of_ne_zero hn, Nat.one_mul, Int.natAbs_natCast]; exact h.2
  · rw [Rat.den_inv, if_neg hn]; exact h.1
section
variable {b0 b1 b2 : Bool} {A A' B B' C C' : Option Addr} {n c n' c' m d m' d' k e k' e' : Nat} {ra rb rc : Rat}
set_option maxHeartbeats 2000000 in
theorem ratorder_x0 (w : World) (CLa : ∀ W, Calls Tryd.prog 58 #[.agg #[.bool b0, .slice A n c, .slice A' n' c']] W (BoolR W true)) :
    Calls Tryd.prog 8 #[.agg #[.bool b0, .slice A n c, .slice A' n' c'], .agg #[.bool b1, .slice B m d, .slice B' m' d'], .agg #[.bool b2, .slice C k e, .slice C' k' e']] w fun e w' => e = .returned (.bool true) ∧ Below w.heap.size w w' := by
  have CLa' := hide CLa
  clear CLa
  have CLa := CLa'
  clear CLa'
  have HB := Bel.refl w
  go_enter Tryd.func8, Tryd.ntmps8
  go_wp2_with (first | (go_at_call 57; (with_reducible refine (awake3_any _).mono ?_); rintro e w1 ⟨rfl, hbk⟩; (with_reducible (have HA : At w1 w.heap.size [.bool b0, .slice A n c, .slice A' n' c'] := At.up ((at_new0 _ _ _).al _ |>.al _) hbk; have HD : At w1 (w.heap.size + 1) [.bool b1, .slice B m d, .slice B' m' d'] := At.up ((at_new1 _ _ _ _).al _) hbk; have HE : At w1 (w.heap.size + 1 + 1) [.bool b2, .slice C k e, .slice C' k' e'] := At.up (at_new2 _ _ _ _ _) hbk; replace HB := (((HB.al _).al _).al _).up hbk)); have ha_0 := HA.c0; have ha_1 := HA.c1; have ha_2 := HA.c2; have ha_l := HA.lt; have hd_0 := HD.c0; have hd_1 := HD.c1; have hd_2 := HD.c2; have hd_l := HD.lt; have he_0 := HE.c0; have he_1 := HE.c1; have he_2 := HE.c2; have he_l := HE.lt) | (go_at_call 58; (with_reducible refine (CLa.out _).mono ?_); rintro e w2a ⟨rfl, hbk⟩; (with_reducible (replace HB := HB.up hbk; replace HA := HA.up hbk; replace HD := HD.up hbk; replace HE := HE.up hbk)); clear ha_0 ha_1 ha_2 ha_l hd_0 hd_1 hd_2 hd_l he_0 he_1 he_2 he_l; have ha_0 := HA.c0; have ha_1 := HA.c1; have ha_2 := HA.c2; have ha_l := HA.lt; have hd_0 := HD.c0; have hd_1 := HD.c1; have hd_2 := HD.c2; have hd_l := HD.lt; have he_0 := HE.c0; have he_1 := HE.c1; have he_2 := HE.c2; have he_l := HE.lt) | fail)
  go_ret
  exact ⟨rfl, HB⟩
set_option maxHeartbeats 2000000 in
theorem ratorder_x1 (w : World) (CLa : ∀ W, Calls Tryd.prog 58 #[.agg #[.bool b0, .slice A n c, .slice A' n' c']] W (BoolR W false))
    (CLb : ∀ W, Calls Tryd.prog 58 #[.agg #[.bool b1, .slice B m d, .slice B' m' d']] W (BoolR W true)) :
    Calls Tryd.prog 8 #[.agg #[.bool b0, .slice A n c, .slice A' n' c'], .agg #[.bool b1, .slice B m d, .slice B' m' d'], .agg #[.bool b2, .slice C k e, .slice C' k' e']] w fun e w' => e = .returned (.bool true) ∧ Below w.heap.size w w' := by
  have CLa' := hide CLa
  have CLb' := hide CLb
  clear CLa CLb
  have CLa := CLa'
  clear CLa'
  have CLb := CLb'
  clear CLb'
  have HB := Bel.refl w
  go_enter Tryd.func8, Tryd.ntmps8
  go_wp2_with (first | (go_at_call 57; (with_reducible refine (awake3_any _).mono ?_); rintro e w1 ⟨rfl, hbk⟩; (with_reducible (have HA : At w1 w.heap.size [.bool b0, .slice A n c, .slice A' n' c'] := At.up ((at_new0 _ _ _).al _ |>.al _) hbk; have HD : At w1 (w.heap.size + 1) [.bool b1, .slice B m d, .slice B' m' d'] := At.up ((at_new1 _ _ _ _).al _) hbk; have HE : At w1 (w.heap.size + 1 + 1) [.bool b2, .slice C k e, .slice C' k' e'] := At.up (at_new2 _ _ _ _ _) hbk; replace HB := (((HB.al _).al _).al _).up hbk)); have ha_0 := HA.c0; have ha_1 := HA.c1; have ha_2 := HA.c2; have ha_l := HA.lt; have hd_0 := HD.c0; have hd_1 := HD.c1; have hd_2 := HD.c2; have hd_l := HD.lt; have he_0 := HE.c0; have he_1 := HE.c1; have he_2 := HE.c2; have he_l := HE.lt) | (go_at_call 58; (with_reducible refine (CLa.out _).mono ?_); rintro e w2a ⟨rfl, hbk⟩; (with_reducible (replace HB := HB.up hbk; replace HA := HA.up hbk; replace HD := HD.up hbk; replace HE := HE.up hbk)); clear ha_0 ha_1 ha_2 ha_l hd_0 hd_1 hd_2 hd_l he_0 he_1 he_2 he_l; have ha_0 := HA.c0; have ha_1 := HA.c1; have ha_2 := HA.c2; have ha_l := HA.lt; have hd_0 := HD.c0; have hd_1 := HD.c1; have hd_2 := HD.c2; have hd_l := HD.lt; have he_0 := HE.c0; have he_1 := HE.c1; have he_2 := HE.c2; have he_l := HE.lt) | (go_at_call 58; (with_reducible refine (CLb.out _).mono ?_); rintro e w2b ⟨rfl, hbk⟩; (with_reducible (replace HB := HB.up hbk; replace HA := HA.up hbk; replace HD := HD.up hbk; replace HE := HE.up hbk)); clear ha_0 ha_1 ha_2 ha_l hd_0 hd_1 hd_2 hd_l he_0 he_1 he_2 he_l; have ha_0 := HA.c0; have ha_1 := HA.c1; have ha_2 := HA.c2; have ha_l := HA.lt; have hd_0 := HD.c0; have hd_1 := HD.c1; have hd_2 := HD.c2; have hd_l := HD.lt; have he_0 := HE.c0; have he_1 := HE.c1; have he_2 := HE.c2; have he_l := HE.lt) | fail)
  go_ret
  exact ⟨rfl, HB⟩
set_option maxHeartbeats 2000000 in
theorem ratorder_x2 (w : World) (CLa : ∀ W, Calls Tryd.prog 58 #[.agg #[.bool b0, .slice A n c, .slice A' n' c']] W (BoolR W false))
    (CLb : ∀ W, Calls Tryd.prog 58 #[.agg #[.bool b1, .slice B m d, .slice B' m' d']] W (BoolR W false))
    (CLc : ∀ W, Calls Tryd.prog 58 #[.agg #[.bool b2, .slice C k e, .slice C' k' e']] W (BoolR W true)) :
    Calls Tryd.prog 8 #[.agg #[.bool b0, .slice A n c, .slice A' n' c'], .agg #[.bool b1, .slice B m d, .slice B' m' d'], .agg #[.bool b2, .slice C k e, .slice C' k' e']] w fun e w' => e = .returned (.bool true) ∧ Below w.heap.size w w' := by
  have CLa' := hide CLa
  have CLb' := hide CLb
  have CLc' := hide CLc
  clear CLa CLb CLc
  have CLa := CLa'
  clear CLa'
  have CLb := CLb'
  clear CLb'
  have CLc := CLc'
  clear CLc'
  have HB := Bel.refl w
  go_enter Tryd.func8, Tryd.ntmps8
  go_wp2_with (first | (go_at_call 57; (with_reducible refine (awake3_any _).mono ?_); rintro e w1 ⟨rfl, hbk⟩; (with_reducible (have HA : At w1 w.heap.size [.bool b0, .slice A n c, .slice A' n' c'] := At.up ((at_new0 _ _ _).al _ |>.al _) hbk; have HD : At w1 (w.heap.size + 1) [.bool b1, .slice B m d, .slice B' m' d'] := At.up ((at_new1 _ _ _ _).al _) hbk; have HE : At w1 (w.heap.size + 1 + 1) [.bool b2, .slice C k e, .slice C' k' e'] := At.up (at_new2 _ _ _ _ _) hbk; replace HB := (((HB.al _).al _).al _).up hbk)); have ha_0 := HA.c0; have ha_1 := HA.c1; have ha_2 := HA.c2; have ha_l := HA.lt; have hd_0 := HD.c0; have hd_1 := HD.c1; have hd_2 := HD.c2; have hd_l := HD.lt; have he_0 := HE.c0; have he_1 := HE.c1; have he_2 := HE.c2; have he_l := HE.lt) | (go_at_call 58; (with_reducible refine (CLa.out _).mono ?_); rintro e w2a ⟨rfl, hbk⟩; (with_reducible (replace HB := HB.up hbk; replace HA := HA.up hbk; replace HD := HD.up hbk; replace HE := HE.up hbk)); clear ha_0 ha_1 ha_2 ha_l hd_0 hd_1 hd_2 hd_l he_0 he_1 he_2 he_l; have ha_0 := HA.c0; have ha_1 := HA.c1; have ha_2 := HA.c2; have ha_l := HA.lt; have hd_0 := HD.c0; have hd_1 := HD.c1; have hd_2 := HD.c2; have hd_l := HD.lt; have he_0 := HE.c0; have he_1 := HE.c1; have he_2 := HE.c2; have he_l := HE.lt) | (go_at_call 58; (with_reducible refine (CLb.out _).mono ?_); rintro e w2b ⟨rfl, hbk⟩; (with_reducible (replace HB := HB.up hbk; replace HA := HA.up hbk; replace HD := HD.up hbk; replace HE := HE.up hbk)); clear ha_0 ha_1 ha_2 ha_l hd_0 hd_1 hd_2 hd_l he_0 he_1 he_2 he_l; have ha_0 := HA.c0; have ha_1 := HA.c1; have ha_2 := HA.c2; have ha_l := HA.lt; have hd_0 := HD.c0; have hd_1 := HD.c1; have hd_2 := HD.c2; have hd_l := HD.lt; have he_0 := HE.c0; have he_1 := HE.c1; have he_2 := HE.c2; have he_l := HE.lt) | (go_at_call 58; (with_reducible refine (CLc.out _).mono ?_); rintro e w2c ⟨rfl, hbk⟩; (with_reducible (replace HB := HB.up hbk; replace HA := HA.up hbk; replace HD := HD.up hbk; replace HE := HE.up hbk)); clear ha_0 ha_1 ha_2 ha_l hd_0 hd_1 hd_2 hd_l he_0 he_1 he_2 he_l; have ha_0 := HA.c0; have ha_1 := HA.c1; have ha_2 := HA.c2; have ha_l := HA.lt; have hd_0 := HD.c0; have hd_1 := HD.c1; have hd_2 := HD.c2; have hd_l := HD.lt; have he_0 := HE.c0; have he_1 := HE.c1; have he_2 := HE.c2; have he_l := HE.lt) | fail)
  go_ret
  exact ⟨rfl, HB⟩
set_option maxHeartbeats 2000000 in
theorem ratorder_x3 (w : World) (CLa : ∀ W, Calls Tryd.prog 58 #[.agg #[.bool b0, .slice A n c, .slice A' n' c']] W (BoolR W false))
    (CLb : ∀ W, Calls Tryd.prog 58 #[.agg #[.bool b1, .slice B m d, .slice B' m' d']] W (BoolR W false))
    (CLc : ∀ W, Calls Tryd.prog 58 #[.agg #[.bool b2, .slice C k e, .slice C' k' e']] W (BoolR W false))
    (CGa : ∀ W, Bel w W → Calls Tryd.prog 64 #[.agg #[.bool b0, .slice A n c, .slice A' n' c']] W (RetB W false)) :
    Calls Tryd.prog 8 #[.agg #[.bool b0, .slice A n c, .slice A' n' c'], .agg #[.bool b1, .slice B m d, .slice B' m' d'], .agg #[.bool b2, .slice C k e, .slice C' k' e']] w fun e w' => e = .returned (.bool true) ∧ Below w.heap.size w w' := by
  have CLa' := hide CLa
  have CLb' := hide CLb
  have CLc' := hide CLc
  have CGa' := hide CGa
  clear CLa CLb CLc CGa
  have CLa := CLa'
  clear CLa'
  have CLb := CLb'
  clear CLb'
  have CLc := CLc'
  clear CLc'
  have CGa := CGa'
  clear CGa'
  have HB := Bel.refl w
  go_enter Tryd.func8, Tryd.ntmps8
  go_wp2_with (first | (go_at_call 57; (with_reducible refine (awake3_any _).mono ?_); rintro e w1 ⟨rfl, hbk⟩; (with_reducible (have HA : At w1 w.heap.size [.bool b0, .slice A n c, .slice A' n' c'] := At.up ((at_new0 _ _ _).al _ |>.al _) hbk; have HD : At w1 (w.heap.size + 1) [.bool b1, .slice B m d, .slice B' m' d'] := At.up ((at_new1 _ _ _ _).al _) hbk; have HE : At w1 (w.heap.size + 1 + 1) [.bool b2, .slice C k e, .slice C' k' e'] := At.up (at_new2 _ _ _ _ _) hbk; replace HB := (((HB.al _).al _).al _).up hbk)); have ha_0 := HA.c0; have ha_1 := HA.c1; have ha_2 := HA.c2; have ha_l := HA.lt; have hd_0 := HD.c0; have hd_1 := HD.c1; have hd_2 := HD.c2; have hd_l := HD.lt; have he_0 := HE.c0; have he_1 := HE.c1; have he_2 := HE.c2; have he_l := HE.lt) | (go_at_call 58; (with_reducible refine (CLa.out _).mono ?_); rintro e w2a ⟨rfl, hbk⟩; (with_reducible (replace HB := HB.up hbk; replace HA := HA.up hbk; replace HD := HD.up hbk; replace HE := HE.up hbk)); clear ha_0 ha_1 ha_2 ha_l hd_0 hd_1 hd_2 hd_l he_0 he_1 he_2 he_l; have ha_0 := HA.c0; have ha_1 := HA.c1; have ha_2 := HA.c2; have ha_l := HA.lt; have hd_0 := HD.c0; have hd_1 := HD.c1; have hd_2 := HD.c2; have hd_l := HD.lt; have he_0 := HE.c0; have he_1 := HE.c1; have he_2 := HE.c2; have he_l := HE.lt) | (go_at_call 58; (with_reducible refine (CLb.out _).mono ?_); rintro e w2b ⟨rfl, hbk⟩; (with_reducible (replace HB := HB.up hbk; replace HA := HA.up hbk; replace HD := HD.up hbk; replace HE := HE.up hbk)); clear ha_0 ha_1 ha_2 ha_l hd_0 hd_1 hd_2 hd_l he_0 he_1 he_2 he_l; have ha_0 := HA.c0; have ha_1 := HA.c1; have ha_2 := HA.c2; have ha_l := HA.lt; have hd_0 := HD.c0; have hd_1 := HD.c1; have hd_2 := HD.c2; have hd_l := HD.lt; have he_0 := HE.c0; have he_1 := HE.c1; have he_2 := HE.c2; have he_l := HE.lt) | (go_at_call 58; (with_reducible refine (CLc.out _).mono ?_); rintro e w2c ⟨rfl, hbk⟩; (with_reducible (replace HB := HB.up hbk; replace HA := HA.up hbk; replace HD := HD.up hbk; replace HE := HE.up hbk)); clear ha_0 ha_1 ha_2 ha_l hd_0 hd_1 hd_2 hd_l he_0 he_1 he_2 he_l; have ha_0 := HA.c0; have ha_1 := HA.c1; have ha_2 := HA.c2; have ha_l := HA.lt; have hd_0 := HD.c0; have hd_1 := HD.c1; have hd_2 := HD.c2; have hd_l := HD.lt; have he_0 := HE.c0; have he_1 := HE.c1; have he_2 := HE.c2; have he_l := HE.lt) | (go_at_call 64; (with_reducible refine (CGa.out _ HB).mono ?_); rintro e w3a ⟨rfl, hbk⟩; replace hbk := Bel.hid hbk; (with_reducible (replace HB := HB.up hbk; replace HA := HA.up hbk; replace HD := HD.up hbk; replace HE := HE.up hbk)); clear ha_0 ha_1 ha_2 ha_l hd_0 hd_1 hd_2 hd_l he_0 he_1 he_2 he_l; have ha_0 := HA.c0; have ha_1 := HA.c1; have ha_2 := HA.c2; have ha_l := HA.lt; have hd_0 := HD.c0; have hd_1 := HD.c1; have hd_2 := HD.c2; have hd_l := HD.lt; have he_0 := HE.c0; have he_1 := HE.c1; have he_2 := HE.c2; have he_l := HE.lt) | fail)
  go_ret
  exact ⟨rfl, HB⟩
set_option maxHeartbeats 2000000 in
theorem ratorder_x4 (w : World) (CLa : ∀ W, Calls Tryd.prog 58 #[.agg #[.bool b0, .slice A n c, .slice A' n' c']] W (BoolR W false))
    (CLb : ∀ W, Calls Tryd.prog 58 #[.agg #[.bool b1, .slice B m d, .slice B' m' d']] W (BoolR W false))
    (CLc : ∀ W, Calls Tryd.prog 58 #[.agg #[.bool b2, .slice C k e, .slice C' k' e']] W (BoolR W false))
    (CGa : ∀ W, Bel w W → Calls Tryd.prog 64 #[.agg #[.bool b0, .slice A n c, .slice A' n' c']] W (RetB W true))
    (CGb : ∀ W, Bel w W → Calls Tryd.prog 64 #[.agg #[.bool b1, .slice B m d, .slice B' m' d']] W (RetB W false)) :
    Calls Tryd.prog 8 #[.agg #[.bool b0, .slice A n c, .slice A' n' c'], .agg #[.bool b1, .slice B m d, .slice B' m' d'], .agg #[.bool b2, .slice C k e, .slice C' k' e']] w fun e w' => e = .returned (.bool true) ∧ Below w.heap.size w w' := by
  have CLa' := hide CLa
  have CLb' := hide CLb
  have CLc' := hide CLc
  have CGa' := hide CGa
  have CGb' := hide CGb
  clear CLa CLb CLc CGa CGb
  have CLa := CLa'
  clear CLa'
  have CLb := CLb'
  clear CLb'
  have CLc := CLc'
  clear CLc'
  have CGa := CGa'
  clear CGa'
  have CGb := CGb'
  clear CGb'
  have HB := Bel.refl w
  go_enter Tryd.func8, Tryd.ntmps8
  go_wp2_with (first | (go_at_call 57; (with_reducible refine (awake3_any _).mono ?_); rintro e w1 ⟨rfl, hbk⟩; (with_reducible (have HA : At w1 w.heap.size [.bool b0, .slice A n c, .slice A' n' c'] := At.up ((at_new0 _ _ _).al _ |>.al _) hbk; have HD : At w1 (w.heap.size + 1) [.bool b1, .slice B m d, .slice B' m' d'] := At.up ((at_new1 _ _ _ _).al _) hbk; have HE : At w1 (w.heap.size + 1 + 1) [.bool b2, .slice C k e, .slice C' k' e'] := At.up (at_new2 _ _ _ _ _) hbk; replace HB := (((HB.al _).al _).al _).up hbk)); have ha_0 := HA.c0; have ha_1 := HA.c1; have ha_2 := HA.c2; have ha_l := HA.lt; have hd_0 := HD.c0; have hd_1 := HD.c1; have hd_2 := HD.c2; have hd_l := HD.lt; have he_0 := HE.c0; have he_1 := HE.c1; have he_2 := HE.c2; have he_l := HE.lt) | (go_at_call 58; (with_reducible refine (CLa.out _).mono ?_); rintro e w2a ⟨rfl, hbk⟩; (with_reducible (replace HB := HB.up hbk; replace HA := HA.up hbk; replace HD := HD.up hbk; replace HE := HE.up hbk)); clear ha_0 ha_1 ha_2 ha_l hd_0 hd_1 hd_2 hd_l he_0 he_1 he_2 he_l; have ha_0 := HA.c0; have ha_1 := HA.c1; have ha_2 := HA.c2; have ha_l := HA.lt; have hd_0 := HD.c0; have hd_1 := HD.c1; have hd_2 := HD.c2; have hd_l := HD.lt; have he_0 := HE.c0; have he_1 := HE.c1; have he_2 := HE.c2; have he_l := HE.lt) | (go_at_call 58; (with_reducible refine (CLb.out _).mono ?_); rintro e w2b ⟨rfl, hbk⟩; (with_reducible (replace HB := HB.up hbk; replace HA := HA.up hbk; replace HD := HD.up hbk; replace HE := HE.up hbk)); clear ha_0 ha_1 ha_2 ha_l hd_0 hd_1 hd_2 hd_l he_0 he_1 he_2 he_l; have ha_0 := HA.c0; have ha_1 := HA.c1; have ha_2 := HA.c2; have ha_l := HA.lt; have hd_0 := HD.c0; have hd_1 := HD.c1; have hd_2 := HD.c2; have hd_l := HD.lt; have he_0 := HE.c0; have he_1 := HE.c1; have he_2 := HE.c2; have he_l := HE.lt) | (go_at_call 58; (with_reducible refine (CLc.out _).mono ?_); rintro e w2c ⟨rfl, hbk⟩; (with_reducible (replace HB := HB.up hbk; replace HA := HA.up hbk; replace HD := HD.up hbk; replace HE := HE.up hbk)); clear ha_0 ha_1 ha_2 ha_l hd_0 hd_1 hd_2 hd_l he_0 he_1 he_2 he_l; have ha_0 := HA.c0; have ha_1 := HA.c1; have ha_2 := HA.c2; have ha_l := HA.lt; have hd_0 := HD.c0; have hd_1 := HD.c1; have hd_2 := HD.c2; have hd_l := HD.lt; have he_0 := HE.c0; have he_1 := HE.c1; have he_2 := HE.c2; have he_l := HE.lt) | (go_at_call 64; (with_reducible refine (CGa.out _ HB).mono ?_); rintro e w3a ⟨rfl, hbk⟩; replace hbk := Bel.hid hbk; (with_reducible (replace HB := HB.up hbk; replace HA := HA.up hbk; replace HD := HD.up hbk; replace HE := HE.up hbk)); clear ha_0 ha_1 ha_2 ha_l hd_0 hd_1 hd_2 hd_l he_0 he_1 he_2 he_l; have ha_0 := HA.c0; have ha_1 := HA.c1; have ha_2 := HA.c2; have ha_l := HA.lt; have hd_0 := HD.c0; have hd_1 := HD.c1; have hd_2 := HD.c2; have hd_l := HD.lt; have he_0 := HE.c0; have he_1 := HE.c1; have he_2 := HE.c2; have he_l := HE.lt) | (go_at_call 64; (with_reducible refine (CGb.out _ HB).mono ?_); rintro e w3b ⟨rfl, hbk⟩; replace hbk := Bel.hid hbk; (with_reducible (replace HB := HB.up hbk; replace HA := HA.up hbk; replace HD := HD.up hbk; replace HE := HE.up hbk)); clear ha_0 ha_1 ha_2 ha_l hd_0 hd_1 hd_2 hd_l he_0 he_1 he_2 he_l; have ha_0 := HA.c0; have ha_1 := HA.c1; have ha_2 := HA.c2; have ha_l := HA.lt; have hd_0 := HD.c0; have hd_1 := HD.c1; have hd_2 := HD.c2; have hd_l := HD.lt; have he_0 := HE.c0; have he_1 := HE.c1; have he_2 := HE.c2; have he_l := HE.lt) | fail)
  go_ret
  exact ⟨rfl, HB⟩
set_option maxHeartbeats 2000000 in
theorem ratorder_x5 (w : World) (CLa : ∀ W, Calls Tryd.prog 58 #[.agg #[.bool b0, .slice A n c, .slice A' n' c']] W (BoolR W false))
    (CLb : ∀ W, Calls Tryd.prog 58 #[.agg #[.bool b1, .slice B m d, .slice B' m' d']] W (BoolR W false))
    (CLc : ∀ W, Calls Tryd.prog 58 #[.agg #[.bool b2, .slice C k e, .slice C' k' e']] W (BoolR W false))
    (CGa : ∀ W, Bel w W → Calls Tryd.prog 64 #[.agg #[.bool b0, .slice A n c, .slice A' n' c']] W (RetB W true))
    (CGb : ∀ W, Bel w W → Calls Tryd.prog 64 #[.agg #[.bool b1, .slice B m d, .slice B' m' d']] W (RetB W true))
    (CGc : ∀ W, Bel w W → Calls Tryd.prog 64 #[.agg #[.bool b2, .slice C k e, .slice C' k' e']] W (RetB W false)) :
    Calls Tryd.prog 8 #[.agg #[.bool b0, .slice A n c, .slice A' n' c'], .agg #[.bool b1, .slice B m d, .slice B' m' d'], .agg #[.bool b2, .slice C k e, .slice C' k' e']] w fun e w' => e = .returned (.bool true) ∧ Below w.heap.size w w' := by
  have CLa' := hide CLa
  have CLb' := hide CLb
  have CLc' := hide CLc
  have CGa' := hide CGa
  have CGb' := hide CGb
  have CGc' := hide CGc
  clear CLa CLb CLc CGa CGb CGc
  have CLa := CLa'
  clear CLa'
  have CLb := CLb'
  clear CLb'
  have CLc := CLc'
  clear CLc'
  have CGa := CGa'
  clear CGa'
  have CGb := CGb'
  clear CGb'
  have CGc := CGc'
  clear CGc'
  have HB := Bel.refl w
  go_enter Tryd.func8, Tryd.ntmps8
  go_wp2_with (first | (go_at_call 57; (with_reducible refine (awake3_any _).mono ?_); rintro e w1 ⟨rfl, hbk⟩; (with_reducible (have HA : At w1 w.heap.size [.bool b0, .slice A n c, .slice A' n' c'] := At.up ((at_new0 _ _ _).al _ |>.al _) hbk; have HD : At w1 (w.heap.size + 1) [.bool b1, .slice B m d, .slice B' m' d'] := At.up ((at_new1 _ _ _ _).al _) hbk; have HE : At w1 (w.heap.size + 1 + 1) [.bool b2, .slice C k e, .slice C' k' e'] := At.up (at_new2 _ _ _ _ _) hbk; replace HB := (((HB.al _).al _).al _).up hbk)); have ha_0 := HA.c0; have ha_1 := HA.c1; have ha_2 := HA.c2; have ha_l := HA.lt; have hd_0 := HD.c0; have hd_1 := HD.c1; have hd_2 := HD.c2; have hd_l := HD.lt; have he_0 := HE.c0; have he_1 := HE.c1; have he_2 := HE.c2; have he_l := HE.lt) | (go_at_call 58; (with_reducible refine (CLa.out _).mono ?_); rintro e w2a ⟨rfl, hbk⟩; (with_reducible (replace HB := HB.up hbk; replace HA := HA.up hbk; replace HD := HD.up hbk; replace HE := HE.up hbk)); clear ha_0 ha_1 ha_2 ha_l hd_0 hd_1 hd_2 hd_l he_0 he_1 he_2 he_l; have ha_0 := HA.c0; have ha_1 := HA.c1; have ha_2 := HA.c2; have ha_l := HA.lt; have hd_0 := HD.c0; have hd_1 := HD.c1; have hd_2 := HD.c2; have hd_l := HD.lt; have he_0 := HE.c0; have he_1 := HE.c1; have he_2 := HE.c2; have he_l := HE.lt) | (go_at_call 58; (with_reducible refine (CLb.out _).mono ?_); rintro e w2b ⟨rfl, hbk⟩; (with_reducible (replace HB := HB.up hbk; replace HA := HA.up hbk; replace HD := HD.up hbk; replace HE := HE.up hbk)); clear ha_0 ha_1 ha_2 ha_l hd_0 hd_1 hd_2 hd_l he_0 he_1 he_2 he_l; have ha_0 := HA.c0; have ha_1 := HA.c1; have ha_2 := HA.c2; have ha_l := HA.lt; have hd_0 := HD.c0; have hd_1 := HD.c1; have hd_2 := HD.c2; have hd_l := HD.lt; have he_0 := HE.c0; have he_1 := HE.c1; have he_2 := HE.c2; have he_l := HE.lt) | (go_at_call 58; (with_reducible refine (CLc.out _).mono ?_); rintro e w2c ⟨rfl, hbk⟩; (with_reducible (replace HB := HB.up hbk; replace HA := HA.up hbk; replace HD := HD.up hbk; replace HE := HE.up hbk)); clear ha_0 ha_1 ha_2 ha_l hd_0 hd_1 hd_2 hd_l he_0 he_1 he_2 he_l; have ha_0 := HA.c0; have ha_1 := HA.c1; have ha_2 := HA.c2; have ha_l := HA.lt; have hd_0 := HD.c0; have hd_1 := HD.c1; have hd_2 := HD.c2; have hd_l := HD.lt; have he_0 := HE.c0; have he_1 := HE.c1; have he_2 := HE.c2; have he_l := HE.lt) | (go_at_call 64; (with_reducible refine (CGa.out _ HB).mono ?_); rintro e w3a ⟨rfl, hbk⟩; replace hbk := Bel.hid hbk; (with_reducible (replace HB := HB.up hbk; replace HA := HA.up hbk; replace HD := HD.up hbk; replace HE := HE.up hbk)); clear ha_0 ha_1 ha_2 ha_l hd_0 hd_1 hd_2 hd_l he_0 he_1 he_2 he_l; have ha_0 := HA.c0; have ha_1 := HA.c1; have ha_2 := HA.c2; have ha_l := HA.lt; have hd_0 := HD.c0; have hd_1 := HD.c1; have hd_2 := HD.c2; have hd_l := HD.lt; have he_0 := HE.c0; have he_1 := HE.c1; have he_2 := HE.c2; have he_l := HE.lt) | (go_at_call 64; (with_reducible refine (CGb.out _ HB).mono ?_); rintro e w3b ⟨rfl, hbk⟩; replace hbk := Bel.hid hbk; (with_reducible (replace HB := HB.up hbk; replace HA := HA.up hbk; replace HD := HD.up hbk; replace HE := HE.up hbk)); clear ha_0 ha_1 ha_2 ha_l hd_0 hd_1 hd_2 hd_l he_0 he_1 he_2 he_l; have ha_0 := HA.c0; have ha_1 := HA.c1; have ha_2 := HA.c2; have ha_l := HA.lt; have hd_0 := HD.c0; have hd_1 := HD.c1; have hd_2 := HD.c2; have hd_l := HD.lt; have he_0 := HE.c0; have he_1 := HE.c1; have he_2 := HE.c2; have he_l := HE.lt) | (go_at_call 64; (with_reducible refine (CGc.out _ HB).mono ?_); rintro e w3c ⟨rfl, hbk⟩; replace hbk := Bel.hid hbk; (with_reducible (replace HB := HB.up hbk; replace HA := HA.up hbk; replace HD := HD.up hbk; replace HE := HE.up hbk)); clear ha_0 ha_1 ha_2 ha_l hd_0 hd_1 hd_2 hd_l he_0 he_1 he_2 he_l; have ha_0 := HA.c0; have ha_1 := HA.c1; have ha_2 := HA.c2; have ha_l := HA.lt; have hd_0 := HD.c0; have hd_1 := HD.c1; have hd_2 := HD.c2; have hd_l := HD.lt; have he_0 := HE.c0; have he_1 := HE.c1; have he_2 := HE.c2; have he_l := HE.lt) | fail)
  go_ret
  exact ⟨rfl, HB⟩
end
end Go.Proofs.YtfknclimoihfdaaDoor
end
