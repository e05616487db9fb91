/- Several texts in one, each with its own sentence and conditions. -/
import Derived.Test.YtfcamfkimnlfgaaGreatDoorGRsmc37
import Derived.Test.YtfcamfkimnlfgaaGreatDoorGRsmc39
import Derived.Test.YtfcamfkimnlfgaaGreatDoorGRsmc25
import Derived.Test.YtfcamfkimnlfgaaGreatDoorGRsmc28
import Derived.Test.YtfcamfkimnlfgaaGreatDoorGRsmc29
section
/- Package rat: Pow of what is below 0. Conditions: terms of at most 20000 words, powers of at most 90000 words. -/
open Go.RowKit
set_option maxRecDepth 100000
namespace Go.Proofs.YtfcamfkimnlfgaaGreatDoor
theorem num_neg_of {r : Rat} (h : r < 0) : r.num < 0 := by
  have h1 : ¬ 0 ≤ r.num := fun h2 => absurd (Rat.num_nonneg.1 h2) (Rat.not_le.2 h)
  omega
theorem inv_neg_of {r : Rat} (h : r.num < 0) : r⁻¹.num < 0 := by
  rw [Rat.num_inv, Int.sign_eq_neg_one_of_neg h]
  have := r.den_pos
  omega
theorem pow_sign {z : Int} (h : z < 0) (k : Nat) : (z ^ k < 0 ↔ k % 2 = 1) ∧ z ^ k ≠ 0 := by
  induction k with
  | zero => simp
  | succ k ih =>
    obtain ⟨h1, h2⟩ := ih
    rw [Int.pow_succ]
    refine ⟨?_, Int.mul_ne_zero h2 (by omega)⟩
    rcases Int.lt_or_gt_of_ne h2 with h3 | h3
    · have h4 := h1.1 h3
      have h5 : 0 < z ^ k * z := Int.mul_pos_of_neg_of_neg h3 h
      constructor
      · intro h6; omega
      · intro h6; omega
    · have h4 : ¬ k % 2 = 1 := fun h6 => by have := h1.2 h6; omega
      have h5 : z ^ k * z < 0 := Int.mul_neg_of_pos_of_neg h3 h
      constructor
      · intro _; omega
      · intro _; exact h5
theorem tmod_p {z : Int} (h : z < 0) {k : Nat} : ((k : Int).tmod 2 == 0) = !decide (z ^ k < 0) := by
  have h1 := (pow_sign h k).1
  have h2 : (k : Int).tmod 2 = ((k % 2 : Nat) : Int) := by rw [Int.tmod_eq_emod_of_nonneg (by omega)]; omega
  rw [h2]
  rcases Nat.mod_two_eq_zero_or_one k with h3 | h3
  · rw [decide_eq_false (fun h4 => by have := h1.1 h4; omega), h3]; rfl
  · rw [decide_eq_true (h1.2 h3), h3]; rfl
theorem emod_p {z : Int} (h : z < 0) {k : Nat} : ((k : Int) % 2 != 0) = decide (z ^ k < 0) := by
  have h1 := (pow_sign h k).1
  rcases Nat.mod_two_eq_zero_or_one k with h3 | h3
  · rw [decide_eq_false (fun h4 => by have := h1.1 h4; omega), show (k : Int) % 2 = 0 by omega]; rfl
  · rw [decide_eq_true (h1.2 h3), show (k : Int) % 2 = 1 by omega]; rfl
theorem tmod_n {z : Int} (h : z < 0) {k : Nat} : ((-(k : Int)).tmod 2 == 0) = !decide (z ^ k < 0) := by
  have h1 := (pow_sign h k).1
  have h2 : (-(k : Int)).tmod 2 = -((k % 2 : Nat) : Int) := by rw [Int.neg_tmod, Int.tmod_eq_emod_of_nonneg (by omega)]; omega
  rw [h2]
  rcases Nat.mod_two_eq_zero_or_one k with h3 | h3
  · rw [decide_eq_false (fun h4 => by have := h1.1 h4; omega), h3]; rfl
  · rw [decide_eq_true (h1.2 h3), h3]; rfl
theorem zi_pow {r : Rat} (h : r.num < 0) {k : Nat} : zi (decide ((r ^ k).num < 0)) (r.num.natAbs ^ k) = (r ^ k).num := by
  rw [Rat.num_pow, ← Int.natAbs_pow]
  by_cases h1 : r.num ^ k < 0
  · rw [decide_eq_true h1, zi_true]; omega
  · rw [decide_eq_false h1, zi_false]; omega
section
variable {W : World} {b b' sg : Bool} {A A' A2 : Option Addr} {n n' n2 c c' c2 m2 s K q d : Nat} {m z e sc : Int} {r pw : Rat}
set_option maxHeartbeats 16000000 in
theorem rpow_pm {k : Nat} {so : Bool} (h : QA W b A n c A' n' c' r K) (h0 : r < 0) (hso : so = decide ((r ^ k).num < 0)) (hb : Bd r K) (hK0 : 0 < K) (hK2 : K ≤ 20000) (hk : K * k ≤ 90000) : Calls Tryz.prog 12 #[.agg #[.bool b, .slice A n c, .slice A' n' c'], .int .i64 (k : Int)] W (OfYw W so (r ^ k)) := by
  have hn0 : r.num < 0 := num_neg_of h0
  have HO : Hid (((k : Int) % 2 != 0) = so) := by rw [hso, Rat.num_pow]; exact emod_p hn0
  have hkk : k ≤ 1000000 := by
    have : 1 * k ≤ K * k := Nat.mul_le_mul_right k hK0
    omega
  have CT : Hid (∀ W', Bel W W' → Calls Tryz.prog 74 #[.agg #[.bool b, .slice A n c, .slice A' n' c']] W' (TermsR W' r K)) := fun W' hw => terms_h (h.up hw.hid) hK0
  have CL : Hid (∀ W' s B k e B' k' e' z d, ZA W' s B k e z → Nm W' B' k' e' d → Hid (0 < d ∧ mkRat z d = r ∧ z.natAbs < W32 ^ K ∧ d < W32 ^ K) → Calls Tryz.prog 81 #[.agg #[.bool s, .slice B k e], .agg #[.slice B' k' e']] W' (QRw W' true r)) := fun W' s B k e B' k' e' z d hz hd hp => by
    have h1 := lowest_t hz hd hp.out (by omega) (by omega)
    unfold QR at h1
    rw [decide_eq_true (show r.num < 0 by omega)] at h1
    exact h1
  obtain ⟨x, hx⟩ : ∃ x : Nat, x = r.num.natAbs := ⟨_, rfl⟩
  obtain ⟨y, hy⟩ : ∃ y : Nat, y = r.den := ⟨_, rfl⟩
  obtain ⟨u, hu⟩ : ∃ u : Nat, x ^ k = u := ⟨_, rfl⟩
  obtain ⟨v, hv⟩ : ∃ v : Nat, y ^ k = v := ⟨_, rfl⟩
  have bx : x < W32 ^ K := by rw [hx]; exact hb.1
  have by_ : y < W32 ^ K := by rw [hy]; exact hb.2
  have CX : Hid (∀ W' B n e, Nm W' B n e x → Calls Tryz.prog 82 #[.agg #[.slice B n e], .int .i64 (k : Int)] W' (NumR W' u)) := fun W' B n e h1 => by rw [← hu]; exact qpower_h h1 hkk (fun i hi => pow_bd bx hk hi)
  have CY : Hid (∀ W' B n e, Nm W' B n e y → Calls Tryz.prog 82 #[.agg #[.slice B n e], .int .i64 (k : Int)] W' (NumR W' v)) := fun W' B n e h1 => by rw [← hv]; exact qpower_h h1 hkk (fun i hi => pow_bd by_ hk hi)
  have HX : Hid ((r ^ k).num.natAbs = u ∧ (r ^ k).den = v ∧ zi so u = (r ^ k).num) := by
    unfold Hid
    refine ⟨by rw [Rat.num_pow, Int.natAbs_pow, ← hx, hu], by rw [Rat.den_pow, ← hy, hv], ?_⟩
    rw [← hu, hx, hso]
    exact zi_pow hn0
  have hsg : decide ((k : Int) < 0) = false := decide_eq_false (by omega)
  have HXR := hide hx
  have HYR := hide hy
  clear hso h h0 hb hK0 hK2 hk hn0 hkk hu hv bx by_ hx hy
  have HB := Bel.refl W
  go_enter Tryz.func12, Tryz.ntmps12
  go_wp2_with (first | (go_at_call 74; (with_reducible refine (CT.out _ ((HB.al _).al _)).mono ?_); rintro e w1 ⟨s, B, k1, e1, B', k2, e2, zv, d, rfl, zp, np, hp, hbk⟩; (with_reducible (have HR : At w1 (W.heap.size + 1) [.bool false, .slice none 0 0, .slice none 0 0] := At.up (at_new1 _ _ _ _) hbk; replace HB := ((HB.al _).al _).up hbk))) | (go_at_call 81; (with_reducible refine (CL.out _ _ _ _ _ _ _ _ _ _ zp np hp).mono ?_); rintro e w2 ⟨Bx, ex, By, ey, rfl, zx, ny, hbk⟩; (with_reducible (replace HB := HB.up hbk; replace HR := HR.up hbk))) | fail)
  have nx := zx.1
  rw [← HXR.out] at nx ⊢
  rw [← HYR.out] at ny ⊢
  obtain ⟨W1, hW1⟩ : ∃ X, X = w2.alloc (.cells #[.bool true, .slice Bx (dl x) ex, .slice By (dl y) ey] 28) := ⟨_, rfl⟩
  rw [← hW1]
  obtain ⟨pb, hpb⟩ : ∃ p, p = w2.heap.size := ⟨_, rfl⟩
  rw [← hpb]
  have H0 : At W1 pb [.bool true, .slice Bx (dl x) ex, .slice By (dl y) ey] := by rw [hW1, hpb]; exact at_new0 _ _ _
  have hpb2 : W.heap.size + 1 < pb := by rw [hpb]; exact HR.lt
  replace HR : At W1 (W.heap.size + 1) [.bool false, .slice none 0 0, .slice none 0 0] := by rw [hW1]; exact HR.al _
  replace nx : Nm W1 Bx (dl x) ex x := by rw [hW1]; exact nx.al _
  replace ny : Nm W1 By (dl y) ey y := by rw [hW1]; exact ny.al _
  replace HB : Bel W W1 := by rw [hW1]; exact HB.al _
  clear hW1 hpb zx zp np hp
  have l0 := H0.lt
  have l2 := HR.lt
  go_cut [9, 10] from 27 to 35 (fun o o' w => ∃ p q B e B' e', o = .pointer (some ⟨p, 0, none⟩) ∧ o' = .pointer (some ⟨q, 0, none⟩) ∧ W.heap.size + 1 < p ∧ W.heap.size + 1 < q ∧ At w p [.slice B (dl u) e] ∧ At w q [.slice B' (dl v) e'] ∧ Nm w B (dl u) e u ∧ Nm w B' (dl v) e' v ∧ Bel W1 w)
  case first =>
    have HW := Bel.refl W1
    go_region_held3 (fun w' => w'.cell? ⟨pb, 0, none⟩ = some (.bool true) ∧ w'.cell? ⟨pb, 1, none⟩ = some (.slice Bx (dl x) ex) ∧ w'.cell? ⟨pb, 2, none⟩ = some (.slice By (dl y) ey))
      (refine ⟨(?_ : At _ pb [.bool true, .slice Bx (dl x) ex, .slice By (dl y) ey]).c0, (?_ : At _ pb [.bool true, .slice Bx (dl x) ex, .slice By (dl y) ey]).c1, (?_ : At _ pb [.bool true, .slice Bx (dl x) ex, .slice By (dl y) ey]).c2⟩ <;> (repeat (first | with_reducible exact H0 | (with_reducible refine At.dr ?_) | (with_reducible refine At.al ?_ _) | (with_reducible refine At.far ?_ (by omega) _))))
      (first | (go_at_call 82; (with_reducible refine (CX.out _ _ _ _ nx.dr).mono ?_); rintro e w4 ⟨Bu, eu, rfl, nu, hbk⟩; (with_reducible (replace HB := HB.dr.up hbk; replace HW := HW.dr.up hbk; replace H0 := H0.dr.up hbk; replace nx := nx.dr.up hbk; replace ny := ny.dr.up hbk)); have lz0 := H0.lt; (try have lz2 := HP0.lt); (try have lz3 := HP1.lt); have zs1 := Below.size HW) | (go_at_call 82; (with_reducible refine (CX.out _ _ _ _ (nx.al _).dr).mono ?_); rintro e w4 ⟨Bu, eu, rfl, nu, hbk⟩; (with_reducible (have HP0 := At.up (at_new0 _ [.slice none 0 0] _).dr hbk; replace HB := (HB.al _).dr.up hbk; replace HW := (HW.al _).dr.up hbk; replace H0 := (H0.al _).dr.up hbk; replace nx := (nx.al _).dr.up hbk; replace ny := (ny.al _).dr.up hbk)); have lz0 := H0.lt; (try have lz2 := HP0.lt); (try have lz3 := HP1.lt); have zs1 := Below.size HW) | (go_at_call 82; (with_reducible refine (CX.out _ _ _ _ ((nx.al _).al _).dr).mono ?_); rintro e w4 ⟨Bu, eu, rfl, nu, hbk⟩; (with_reducible (have HP0 := At.up ((at_new0 _ [.slice none 0 0] _).al _).dr hbk; have HP1 := At.up (at_new1 _ _ [.slice none 0 0] _).dr hbk; replace HB := ((HB.al _).al _).dr.up hbk; replace HW := ((HW.al _).al _).dr.up hbk; replace H0 := ((H0.al _).al _).dr.up hbk; replace nx := ((nx.al _).al _).dr.up hbk; replace ny := ((ny.al _).al _).dr.up hbk)); have lz0 := H0.lt; (try have lz2 := HP0.lt); (try have lz3 := HP1.lt); have zs1 := Below.size HW) | (go_at_call 82; (with_reducible refine (CY.out _ _ _ _ ny).mono ?_); rintro e w5 ⟨Bv, ev, rfl, nv, hbk⟩; (with_reducible (replace HB := HB.up hbk; replace HW := HW.up hbk; replace H0 := H0.up hbk; replace nu := nu.up hbk)); (try (with_reducible replace HP0 := HP0.up hbk)); (try (with_reducible replace HP1 := HP1.up hbk)); (try have hp0_0 := HP0.c0); (try have fhp0_0 := HP0.f0); (try have lhp0 := HP0.lt); (try have hp1_0 := HP1.c0); (try have fhp1_0 := HP1.f0); (try have lhp1 := HP1.lt); (try have hq0_0 := HQ0.c0); (try have fhq0_0 := HQ0.f0); (try have lhq0 := HQ0.lt); (try have hq1_0 := HQ1.c0); (try have fhq1_0 := HQ1.f0); (try have lhq1 := HQ1.lt); have lz4 := H0.lt; have zs2 := Below.size HW) | (go_at_call 82; (with_reducible refine (CY.out _ _ _ _ (ny.al _)).mono ?_); rintro e w5 ⟨Bv, ev, rfl, nv, hbk⟩; (with_reducible (have HQ0 := At.up (at_new0 _ [.slice none 0 0] _) hbk; replace HB := (HB.al _).up hbk; replace HW := (HW.al _).up hbk; replace H0 := (H0.al _).up hbk; replace nu := (nu.al _).up hbk)); (try (with_reducible replace HP0 := (HP0.al _).up hbk)); (try (with_reducible replace HP1 := (HP1.al _).up hbk)); (try have hp0_0 := HP0.c0); (try have fhp0_0 := HP0.f0); (try have lhp0 := HP0.lt); (try have hp1_0 := HP1.c0); (try have fhp1_0 := HP1.f0); (try have lhp1 := HP1.lt); (try have hq0_0 := HQ0.c0); (try have fhq0_0 := HQ0.f0); (try have lhq0 := HQ0.lt); (try have hq1_0 := HQ1.c0); (try have fhq1_0 := HQ1.f0); (try have lhq1 := HQ1.lt); have lz4 := H0.lt; have zs2 := Below.size HW) | (go_at_call 82; (with_reducible refine (CY.out _ _ _ _ ((ny.al _).al _)).mono ?_); rintro e w5 ⟨Bv, ev, rfl, nv, hbk⟩; (with_reducible (have HQ0 := At.up ((at_new0 _ [.slice none 0 0] _).al _) hbk; have HQ1 := At.up (at_new1 _ _ [.slice none 0 0] _) hbk; replace HB := ((HB.al _).al _).up hbk; replace HW := ((HW.al _).al _).up hbk; replace H0 := ((H0.al _).al _).up hbk; replace nu := ((nu.al _).al _).up hbk)); (try (with_reducible replace HP0 := ((HP0.al _).al _).up hbk)); (try (with_reducible replace HP1 := ((HP1.al _).al _).up hbk)); (try have hp0_0 := HP0.c0); (try have fhp0_0 := HP0.f0); (try have lhp0 := HP0.lt); (try have hp1_0 := HP1.c0); (try have fhp1_0 := HP1.f0); (try have lhp1 := HP1.lt); (try have hq0_0 := HQ0.c0); (try have fhq0_0 := HQ0.f0); (try have lhq0 := HQ0.lt); (try have hq1_0 := HQ1.c0); (try have fhq1_0 := HQ1.f0); (try have lhq1 := HQ1.lt); have lz4 := H0.lt; have zs2 := Below.size HW) | fail)
    all_goals
      go_wp2_with fail
      go_meet
      case rel =>
        refine ⟨_, _, Bu, eu, Bv, ev, rfl, rfl, (by first | omega | (show _ < W1.heap.size; omega) | (show _ < W1.heap.size + 1; omega) | (simp; omega)), (by first | omega | (show _ < W1.heap.size; omega) | (show _ < W1.heap.size + 1; omega) | (simp; omega)), ?_, ?_, ?_, ?_, ?_⟩ <;> (repeat (first | with_reducible exact nu | with_reducible exact nv | with_reducible exact HW | with_reducible exact HP0 | with_reducible exact HP1 | with_reducible exact HQ0 | with_reducible exact HQ1 | with_reducible exact at_new0 _ _ _ | with_reducible exact at_new1 _ _ _ _ | with_reducible exact at_newS _ _ _ _ | (with_reducible refine Bel.dr ?_) | (with_reducible refine Bel.al ?_ _) | (with_reducible refine Bel.put ?_ (by omega) _) | (with_reducible refine Nm.dr ?_) | (with_reducible refine Nm.al ?_ _) | (with_reducible refine Nm.putx ?_ ⟨.slice none 0 0, At.c0 (vs := []) ?_, not_u32⟩ _) | (with_reducible refine At.dr ?_) | (with_reducible refine At.al ?_ _) | (with_reducible refine At.put1 (v := .slice none 0 0) ?_ _) | (with_reducible refine At.far ?_ (by omega) _)))
  case rest =>
    obtain ⟨p, q, Bu, eu, Bv, ev, rfl, rfl, hp, hq, HP, HQ, nu, nv, hW⟩ := hcut
    replace HB := HB.up hW.hid
    replace H0 := H0.up hW.hid
    replace HR := HR.up hW.hid
    clear hW l0 l2 nx ny
    have hx0 := H0.c0
    have hx1 := H0.lt
    have hp_0 := HP.c0
    have hp_l := HP.lt
    have hq_0 := HQ.c0
    have hq_l := HQ.lt
    have hr_0 := HR.c0
    have hr_1 := HR.c1
    have hr_2 := HR.c2
    have hr_l := HR.lt
    have hr_f0 := HR.f0
    have hr_f1 := HR.f1
    have hr_f2 := HR.f2
    have ho := HO.out
    go_wp2_with fail
    refine bodyPost_ret (v := .tuple #[.agg #[.bool so, .slice Bu (dl u) eu, .slice Bv (dl v) ev], .bool true]) (by simp [results, Tryz.results12, go_sem, hr_0, hr_1, hr_2, ho]) rfl ?_
    obtain ⟨g1, g2, g3⟩ := HX.out
    refine ⟨Bu, eu, Bv, ev, by rw [g1, g2], ⟨by rw [g1]; exact nu.putq HR _ _ _ _ _ _ _, ?_⟩, by rw [g2]; exact nv.putq HR _ _ _ _ _ _ _, (HB.put3 (by omega) _ _ _).hid⟩
    unfold Hid
    rw [g1]
    exact g3.symm
set_option maxHeartbeats 16000000 in
theorem rpow_nm {k : Nat} {so : Bool} {i : Int} (hi : -(k : Int) = i) (hk0 : 0 < k) (h : QA W b A n c A' n' c' r K) (h0 : r < 0) (hso : so = decide ((r⁻¹ ^ k).num < 0)) (hb : Bd r K) (hbi : Bd r⁻¹ K) (hK0 : 0 < K) (hK2 : K ≤ 20000) (hk : K * k ≤ 90000) : Calls Tryz.prog 12 #[.agg #[.bool b, .slice A n c, .slice A' n' c'], .int .i64 i] W (OfYw W so (r⁻¹ ^ k)) := by
  have hn0 : r.num < 0 := num_neg_of h0
  have hi0 : r⁻¹.num < 0 := inv_neg_of hn0
  obtain ⟨ri, hri⟩ : ∃ x : Rat, r⁻¹ = x := ⟨_, rfl⟩
  rw [hri] at hbi hi0 hso ⊢
  have HO : Hid ((i.tmod 2 != 0) = so) := by rw [hso, Rat.num_pow, ← hi]; unfold bne; rw [tmod_n hi0, Bool.not_not]; exact rfl
  have hkk : k ≤ 1000000 := by
    have : 1 * k ≤ K * k := Nat.mul_le_mul_right k hK0
    omega
  have CT : Hid (∀ W', Bel W W' → Calls Tryz.prog 74 #[.agg #[.bool b, .slice A n c, .slice A' n' c']] W' (TermsR W' r K)) := fun W' hw => terms_h (h.up hw.hid) hK0
  have CL : Hid (∀ W' s B k e B' k' e' z d, ZA W' s B k e z → Nm W' B' k' e' d → Hid (0 < d ∧ mkRat z d = r ∧ z.natAbs < W32 ^ K ∧ d < W32 ^ K) → Calls Tryz.prog 81 #[.agg #[.bool s, .slice B k e], .agg #[.slice B' k' e']] W' (QRw W' true r)) := fun W' s B k e B' k' e' z d hz hd hp => by
    have h1 := lowest_t hz hd hp.out (by omega) (by omega)
    unfold QR at h1
    rw [decide_eq_true (show r.num < 0 by omega)] at h1
    exact h1
  have CV : Hid (∀ W' B e B' e', ZA W' true B (dl r.num.natAbs) e r.num → Nm W' B' (dl r.den) e' r.den → Calls Tryz.prog 9 #[.agg #[.bool true, .slice B (dl r.num.natAbs) e, .slice B' (dl r.den) e']] W' (OfYw W' true ri)) := fun W' B e B' e' h1 h2 => by
    have h3 := inv_yes (qa_self h1 h2 hb) hK0 hK2 (fun e0 => by rw [e0] at h0; exact absurd h0 Rat.lt_irrefl)
    unfold OfYes at h3
    rw [hri, decide_eq_true (show ri.num < 0 by omega)] at h3
    exact h3
  obtain ⟨x, hx⟩ : ∃ x : Nat, x = ri.num.natAbs := ⟨_, rfl⟩
  obtain ⟨y, hy⟩ : ∃ y : Nat, y = ri.den := ⟨_, rfl⟩
  obtain ⟨u, hu⟩ : ∃ u : Nat, x ^ k = u := ⟨_, rfl⟩
  obtain ⟨v, hv⟩ : ∃ v : Nat, y ^ k = v := ⟨_, rfl⟩
  have bx : x < W32 ^ K := by rw [hx]; exact hbi.1
  have by_ : y < W32 ^ K := by rw [hy]; exact hbi.2
  have CX : Hid (∀ W' B n e, Nm W' B n e x → Calls Tryz.prog 82 #[.agg #[.slice B n e], .int .i64 i] W' (NumR W' u)) := fun W' B n e h1 => by rw [← hu]; exact qpower_n h1 hi hk0 hkk (fun i hi => pow_bd bx hk hi)
  have CY : Hid (∀ W' B n e, Nm W' B n e y → Calls Tryz.prog 82 #[.agg #[.slice B n e], .int .i64 i] W' (NumR W' v)) := fun W' B n e h1 => by rw [← hv]; exact qpower_n h1 hi hk0 hkk (fun i hi => pow_bd by_ hk hi)
  have HX : Hid ((ri ^ k).num.natAbs = u ∧ (ri ^ k).den = v ∧ zi so u = (ri ^ k).num) := by
    unfold Hid
    refine ⟨by rw [Rat.num_pow, Int.natAbs_pow, ← hx, hu], by rw [Rat.den_pow, ← hy, hv], ?_⟩
    rw [← hu, hx, hso]
    exact zi_pow hi0
  have g1 : decide (i < 0) = true := decide_eq_true (by omega)
  have g1' : i < 0 := by omega
  have HXR := hide hx
  have HYR := hide hy
  clear hso hri h h0 hb hbi hK0 hK2 hk hn0 hi0 hkk hu hv bx by_ hx hy hi hk0
  have HB := Bel.refl W
  go_enter Tryz.func12, Tryz.ntmps12
  go_wp2_with (first | (go_at_call 74; (with_reducible refine (CT.out _ ((HB.al _).al _)).mono ?_); rintro e w1 ⟨s, B, k1, e1, B', k2, e2, zv, d, rfl, zp, np, hp, hbk⟩; (with_reducible (have HR : At w1 (W.heap.size + 1) [.bool false, .slice none 0 0, .slice none 0 0] := At.up (at_new1 _ _ _ _) hbk; replace HB := ((HB.al _).al _).up hbk))) | (go_at_call 81; (with_reducible refine (CL.out _ _ _ _ _ _ _ _ _ _ zp np hp).mono ?_); rintro e w2 ⟨B0, e0, B1, e1', rfl, z0, n0, hbk⟩; (with_reducible (replace HB := HB.up hbk; replace HR := HR.up hbk)); have hne := HR.lt) | (go_at_call 9; (with_reducible refine (CV.out _ _ _ _ _ (z0.al _) (n0.al _)).mono ?_); rintro e w3 ⟨Bx, ex, By, ey, rfl, zx, ny, hbk⟩; (with_reducible (have H0 : At w3 w2.heap.size [.bool true, .slice B0 (dl r.num.natAbs) e0, .slice B1 (dl r.den) e1'] := At.up (at_new0 _ _ _) hbk; replace HB := (HB.al _).up hbk; replace HR := (HR.al _).up hbk)); have h0_0 := H0.c0; have h0_1 := H0.c1; have h0_2 := H0.c2; have h0_l := H0.lt; have h0_f0 := H0.f0; have h0_f1 := H0.f1; have h0_f2 := H0.f2) | fail)
  have nx := zx.1
  have hrl := HR.lt
  rw [← HXR.out] at nx ⊢
  rw [← HYR.out] at ny ⊢
  refine wp_named ?_
  intro W1 hW1
  have H1 : At W1 w2.heap.size [.bool true, .slice Bx (dl x) ex, .slice By (dl y) ey] := by rw [hW1]; first | exact (H0.put3 _ _ _).al _ | exact (H0.al _).put3 _ _ _
  have HR1 : At W1 (W.heap.size + 1) [.bool false, .slice none 0 0, .slice none 0 0] := by rw [hW1]; first | exact (HR.far3 (by omega) _ _ _).al _ | exact (HR.al _).far3 (by omega) _ _ _
  have HB1 : Bel W W1 := by rw [hW1]; first | exact (HB.uput3 (by omega) _ _ _).al _ | exact (HB.al _).uput3 (by omega) _ _ _
  have nx1 : Nm W1 Bx (dl x) ex x := by rw [hW1]; first | exact (nx.put3 H0 now3).al _ | exact (nx.al _).put3 (H0.al _) now3
  have ny1 : Nm W1 By (dl y) ey y := by rw [hW1]; first | exact (ny.put3 H0 now3).al _ | exact (ny.al _).put3 (H0.al _) now3
  clear hW1 zx zp np hp nx ny HB HR h0_0 h0_1 h0_2 h0_l h0_f0 h0_f1 h0_f2 H0 z0 n0
  rename Bel W W1 => HB
  have HR := HR1
  have H0 := H1
  have nx := nx1
  have ny := ny1
  clear HR1 H1 nx1 ny1
  obtain ⟨pb, hpb⟩ : ∃ p, p = w2.heap.size := ⟨_, rfl⟩
  rw [← hpb] at H0 hne ⊢
  clear hpb hrl
  have l0 := H0.lt
  have l2 := HR.lt
  go_cut [9, 10] from 27 to 35 (fun o o' w => ∃ p q B e B' e', o = .pointer (some ⟨p, 0, none⟩) ∧ o' = .pointer (some ⟨q, 0, none⟩) ∧ W.heap.size + 1 < p ∧ W.heap.size + 1 < q ∧ At w p [.slice B (dl u) e] ∧ At w q [.slice B' (dl v) e'] ∧ Nm w B (dl u) e u ∧ Nm w B' (dl v) e' v ∧ Bel W1 w)
  case first =>
    have HW := Bel.refl W1
    go_region_held3 (fun w' => w'.cell? ⟨pb, 0, none⟩ = some (.bool true) ∧ w'.cell? ⟨pb, 1, none⟩ = some (.slice Bx (dl x) ex) ∧ w'.cell? ⟨pb, 2, none⟩ = some (.slice By (dl y) ey))
      (refine ⟨(?_ : At _ pb [.bool true, .slice Bx (dl x) ex, .slice By (dl y) ey]).c0, (?_ : At _ pb [.bool true, .slice Bx (dl x) ex, .slice By (dl y) ey]).c1, (?_ : At _ pb [.bool true, .slice Bx (dl x) ex, .slice By (dl y) ey]).c2⟩ <;> (repeat (first | with_reducible exact H0 | (with_reducible refine At.dr ?_) | (with_reducible refine At.al ?_ _) | (with_reducible refine At.far ?_ (by omega) _))))
      (first | (go_at_call 82; (with_reducible refine (CX.out _ _ _ _ nx.dr).mono ?_); rintro e w4 ⟨Bu, eu, rfl, nu, hbk⟩; (with_reducible (replace HB := HB.dr.up hbk; replace HW := HW.dr.up hbk; replace H0 := H0.dr.up hbk; replace nx := nx.dr.up hbk; replace ny := ny.dr.up hbk)); have lz0 := H0.lt; (try have lz2 := HP0.lt); (try have lz3 := HP1.lt); have zs1 := Below.size HW) | (go_at_call 82; (with_reducible refine (CX.out _ _ _ _ (nx.al _).dr).mono ?_); rintro e w4 ⟨Bu, eu, rfl, nu, hbk⟩; (with_reducible (have HP0 := At.up (at_new0 _ [.slice none 0 0] _).dr hbk; replace HB := (HB.al _).dr.up hbk; replace HW := (HW.al _).dr.up hbk; replace H0 := (H0.al _).dr.up hbk; replace nx := (nx.al _).dr.up hbk; replace ny := (ny.al _).dr.up hbk)); have lz0 := H0.lt; (try have lz2 := HP0.lt); (try have lz3 := HP1.lt); have zs1 := Below.size HW) | (go_at_call 82; (with_reducible refine (CX.out _ _ _ _ ((nx.al _).al _).dr).mono ?_); rintro e w4 ⟨Bu, eu, rfl, nu, hbk⟩; (with_reducible (have HP0 := At.up ((at_new0 _ [.slice none 0 0] _).al _).dr hbk; have HP1 := At.up (at_new1 _ _ [.slice none 0 0] _).dr hbk; replace HB := ((HB.al _).al _).dr.up hbk; replace HW := ((HW.al _).al _).dr.up hbk; replace H0 := ((H0.al _).al _).dr.up hbk; replace nx := ((nx.al _).al _).dr.up hbk; replace ny := ((ny.al _).al _).dr.up hbk)); have lz0 := H0.lt; (try have lz2 := HP0.lt); (try have lz3 := HP1.lt); have zs1 := Below.size HW) | (go_at_call 82; (with_reducible refine (CY.out _ _ _ _ ny).mono ?_); rintro e w5 ⟨Bv, ev, rfl, nv, hbk⟩; (with_reducible (replace HB := HB.up hbk; replace HW := HW.up hbk; replace H0 := H0.up hbk; replace nu := nu.up hbk)); (try (with_reducible replace HP0 := HP0.up hbk)); (try (with_reducible replace HP1 := HP1.up hbk)); (try have hp0_0 := HP0.c0); (try have fhp0_0 := HP0.f0); (try have lhp0 := HP0.lt); (try have hp1_0 := HP1.c0); (try have fhp1_0 := HP1.f0); (try have lhp1 := HP1.lt); (try have hq0_0 := HQ0.c0); (try have fhq0_0 := HQ0.f0); (try have lhq0 := HQ0.lt); (try have hq1_0 := HQ1.c0); (try have fhq1_0 := HQ1.f0); (try have lhq1 := HQ1.lt); have lz4 := H0.lt; have zs2 := Below.size HW) | (go_at_call 82; (with_reducible refine (CY.out _ _ _ _ (ny.al _)).mono ?_); rintro e w5 ⟨Bv, ev, rfl, nv, hbk⟩; (with_reducible (have HQ0 := At.up (at_new0 _ [.slice none 0 0] _) hbk; replace HB := (HB.al _).up hbk; replace HW := (HW.al _).up hbk; replace H0 := (H0.al _).up hbk; replace nu := (nu.al _).up hbk)); (try (with_reducible replace HP0 := (HP0.al _).up hbk)); (try (with_reducible replace HP1 := (HP1.al _).up hbk)); (try have hp0_0 := HP0.c0); (try have fhp0_0 := HP0.f0); (try have lhp0 := HP0.lt); (try have hp1_0 := HP1.c0); (try have fhp1_0 := HP1.f0); (try have lhp1 := HP1.lt); (try have hq0_0 := HQ0.c0); (try have fhq0_0 := HQ0.f0); (try have lhq0 := HQ0.lt); (try have hq1_0 := HQ1.c0); (try have fhq1_0 := HQ1.f0); (try have lhq1 := HQ1.lt); have lz4 := H0.lt; have zs2 := Below.size HW) | (go_at_call 82; (with_reducible refine (CY.out _ _ _ _ ((ny.al _).al _)).mono ?_); rintro e w5 ⟨Bv, ev, rfl, nv, hbk⟩; (with_reducible (have HQ0 := At.up ((at_new0 _ [.slice none 0 0] _).al _) hbk; have HQ1 := At.up (at_new1 _ _ [.slice none 0 0] _) hbk; replace HB := ((HB.al _).al _).up hbk; replace HW := ((HW.al _).al _).up hbk; replace H0 := ((H0.al _).al _).up hbk; replace nu := ((nu.al _).al _).up hbk)); (try (with_reducible replace HP0 := ((HP0.al _).al _).up hbk)); (try (with_reducible replace HP1 := ((HP1.al _).al _).up hbk)); (try have hp0_0 := HP0.c0); (try have fhp0_0 := HP0.f0); (try have lhp0 := HP0.lt); (try have hp1_0 := HP1.c0); (try have fhp1_0 := HP1.f0); (try have lhp1 := HP1.lt); (try have hq0_0 := HQ0.c0); (try have fhq0_0 := HQ0.f0); (try have lhq0 := HQ0.lt); (try have hq1_0 := HQ1.c0); (try have fhq1_0 := HQ1.f0); (try have lhq1 := HQ1.lt); have lz4 := H0.lt; have zs2 := Below.size HW) | fail)
    all_goals
      go_wp2_with fail
      go_meet
      case rel =>
        refine ⟨_, _, Bu, eu, Bv, ev, rfl, rfl, (by first | omega | (show _ < W1.heap.size; omega) | (show _ < W1.heap.size + 1; omega) | (simp; omega)), (by first | omega | (show _ < W1.heap.size; omega) | (show _ < W1.heap.size + 1; omega) | (simp; omega)), ?_, ?_, ?_, ?_, ?_⟩ <;> (repeat (first | with_reducible exact nu | with_reducible exact nv | with_reducible exact HW | with_reducible exact HP0 | with_reducible exact HP1 | with_reducible exact HQ0 | with_reducible exact HQ1 | with_reducible exact at_new0 _ _ _ | with_reducible exact at_new1 _ _ _ _ | with_reducible exact at_newS _ _ _ _ | (with_reducible refine Bel.dr ?_) | (with_reducible refine Bel.al ?_ _) | (with_reducible refine Bel.put ?_ (by omega) _) | (with_reducible refine Nm.dr ?_) | (with_reducible refine Nm.al ?_ _) | (with_reducible refine Nm.putx ?_ ⟨.slice none 0 0, At.c0 (vs := []) ?_, not_u32⟩ _) | (with_reducible refine At.dr ?_) | (with_reducible refine At.al ?_ _) | (with_reducible refine At.put1 (v := .slice none 0 0) ?_ _) | (with_reducible refine At.far ?_ (by omega) _)))
  case rest =>
    obtain ⟨p, q, Bu, eu, Bv, ev, rfl, rfl, hp, hq, HP, HQ, nu, nv, hW⟩ := hcut
    replace HB := HB.up hW.hid
    replace H0 := H0.up hW.hid
    replace HR := HR.up hW.hid
    clear hW l0 l2 nx ny
    have hx0 := H0.c0
    have hx1 := H0.lt
    have hp_0 := HP.c0
    have hp_l := HP.lt
    have hq_0 := HQ.c0
    have hq_l := HQ.lt
    have hr_0 := HR.c0
    have hr_1 := HR.c1
    have hr_2 := HR.c2
    have hr_l := HR.lt
    have hr_f0 := HR.f0
    have hr_f1 := HR.f1
    have hr_f2 := HR.f2
    have ho := HO.out
    go_wp2_with fail
    refine bodyPost_ret (v := .tuple #[.agg #[.bool so, .slice Bu (dl u) eu, .slice Bv (dl v) ev], .bool true]) (by simp [results, Tryz.results12, go_sem, hr_0, hr_1, hr_2, ho]) rfl ?_
    obtain ⟨g1, g2, g3⟩ := HX.out
    refine ⟨Bu, eu, Bv, ev, by rw [g1, g2], ⟨by rw [g1]; exact nu.putq HR _ _ _ _ _ _ _, ?_⟩, by rw [g2]; exact nv.putq HR _ _ _ _ _ _ _, (HB.put3 (by omega) _ _ _).hid⟩
    unfold Hid
    rw [g1]
    exact g3.symm
end
end Go.Proofs.YtfcamfkimnlfgaaGreatDoor
end

section
/- RatSays: its calls' contracts, over all inputs. No conditions. -/
open Go.RowKit
set_option maxRecDepth 100000
namespace Go.Proofs.YtfcamfkimnlfgaaGreatDoor
theorem numL_dl3 {l : List UInt8} (hd : digB l = true) : numL l < W32 ^ (l.length + 1) := by
  have h1 := numL_lt l (by unfold digB at hd; rw [Bool.and_eq_true] at hd; exact hd.2)
  refine Nat.lt_of_lt_of_le h1 ?_
  rw [Nat.pow_succ]
  exact Nat.le_trans (Nat.pow_le_pow_left (show 10 ≤ W32 by decide) _) (Nat.le_mul_of_pos_right _ (by decide))
theorem w32_up {x i j : Nat} (h : x < W32 ^ i) (hij : i ≤ j) : x < W32 ^ j := Nat.lt_of_lt_of_le h (Nat.pow_le_pow_right (by decide) hij)
section
variable {s : ByteArray} {m : Nat}
/-- Where the first line stands. -/
theorem slash_at (s : ByteArray) : ∃ m, m ≤ s.size ∧ (∀ i (h : i < s.size), i < m → s[i] ≠ 47) ∧ (∀ h : m < s.size, s[m] = 47) := by
  refine ⟨s.data.toList.findIdx (fun c => c == 47), by rw [size_list]; exact List.findIdx_le_length, fun i h hi e => ?_, fun h => ?_⟩
  · have h1 := List.not_of_lt_findIdx hi
    have h2 : ¬ s.data[i] = 47 := by simpa using h1
    exact h2 e
  · have h1 := List.findIdx_getElem (p := fun c : UInt8 => c == 47) (xs := s.data.toList) (w := by rw [← size_list]; exact h)
    exact eq_of_beq h1
theorem slash_parts (h : m < s.size) (e : s[m] = 47) : s.data.toList = (s.extract 0 m).data.toList ++ 47 :: (s.extract (m + 1) s.size).data.toList := by
  have hl : m < s.data.toList.length := by rw [← size_list]; exact h
  have e1 : s.data.toList[m] = 47 := e
  rw [extract_list, extract_list, List.drop_zero, size_list, List.take_length]
  conv => lhs; rw [← List.take_append_drop m s.data.toList]
  rw [List.drop_eq_getElem_cons hl, e1]
theorem slash_free (hm : m ≤ s.size) (hpre : ∀ i (h : i < s.size), i < m → s[i] ≠ 47) : ¬ (47 : UInt8) ∈ (s.extract 0 m).data.toList := by
  rw [extract_list, List.drop_zero]
  intro h
  obtain ⟨i, hi, e⟩ := List.getElem_of_mem h
  rw [List.length_take] at hi
  rw [List.getElem_take] at e
  exact hpre i (by omega) (by omega) e
theorem slash_all (hm : m = s.size) : s.extract 0 m = s := by
  subst hm
  refine ByteArray.ext (Array.ext' ?_)
  rw [extract_list, List.drop_zero, size_list, List.take_length]
theorem slash_len (hm : m ≤ s.size) : (s.extract 0 m).size = m := by
  rw [size_list, extract_list, List.drop_zero, List.length_take, ← size_list]
  omega
theorem slash_rest : (s.extract (m + 1) s.size).size ≤ s.size := by
  rw [size_list, extract_list, List.length_drop, List.length_take, ← size_list]
  omega
/-- A text is read by both as one number, or by none. -/
theorem zparse_two (hs : s.size ≤ 60) :
    (∃ p : Int, p.natAbs < W32 ^ 61 ∧ (∀ W', Calls Tryz.prog 76 #[.string s] W' (ZPR W' p)) ∧ (∀ W', Calls Tryz.prog 79 #[.string s] W' (RzY W' p))) ∨
    ((∀ W', Calls Tryz.prog 76 #[.string s] W' (ZPN W')) ∧ (∀ W', Calls Tryz.prog 79 #[.string s] W' (RzN W'))) := by
  by_cases hm : s.data.toList.head? = some 45
  · obtain ⟨l, h⟩ : ∃ l, s.data.toList = 45 :: l := by
      cases e : s.data.toList with
      | nil => rw [e] at hm; cases hm
      | cons a l => rw [e] at hm; injection hm with hm; exact ⟨l, by rw [hm]⟩
    have hl : l.length + 1 ≤ 60 := by have := congrArg List.length h; rw [← size_list, List.length_cons] at this; omega
    by_cases hd : digB l = true
    · have hb := w32_up (numL_dl3 hd) (show l.length + 1 ≤ 61 by omega)
      have hq : dl (numL l) ≤ 99999 := Nat.le_trans (dl_le hb) (by decide)
      exact .inl ⟨zi true (numL l), by rw [zi_abs]; exact hb, fun W' => zparse_h (b := true) (l := l) (by omega) h (by intro h; cases h) hd rfl, fun W' => rzparse_minus _ (by omega) h hd rfl⟩
    · exact .inr ⟨fun W' => zparse_n (b := true) (l := l) (by omega) h (by intro h; cases h) hd, fun W' => rzparse_minus_no (by omega) h hd⟩
  · by_cases hd : digB s.data.toList = true
    · have hb := w32_up (numL_dl3 hd) (show s.data.toList.length + 1 ≤ 61 by rw [← size_list]; omega)
      exact .inl ⟨zi false (numL s.data.toList), by rw [zi_abs]; exact hb, fun W' => zparse_h (b := false) (l := s.data.toList) (by omega) rfl (fun _ => hm) hd rfl, fun W' => rzparse_plain _ (by omega) hm hd rfl⟩
    · exact .inr ⟨fun W' => zparse_n (b := false) (l := s.data.toList) (by omega) rfl (fun _ => hm) hd, fun W' => rzparse_plain_no (by omega) hm hd⟩
/-- A text is read by both as one fraction, or by none. -/
theorem qparse_two (hs : s.size ≤ 60) : ∃ fine sp rp, (fine = true → sp = decide (rp.num < 0) ∧ Bd rp 61) ∧
    (∀ W', Calls Tryz.prog 10 #[.string s] W' (OfV W' fine sp rp)) ∧ (∀ W', Calls Tryz.prog 11 #[.string s] W' (OfW W' fine sp rp)) := by
  obtain ⟨m, hm, hpre, hend⟩ := slash_at s
  have ht := slash_free hm hpre
  have hsz : (s.extract 0 m).size ≤ 60 := by rw [slash_len hm]; omega
  have no : (∀ W', Calls Tryz.prog 10 #[.string s] W' (OfNo W')) → (∀ W', Calls Tryz.prog 11 #[.string s] W' (RQno W')) → ∃ fine sp rp, (fine = true → sp = decide (rp.num < 0) ∧ Bd rp 61) ∧
    (∀ W', Calls Tryz.prog 10 #[.string s] W' (OfV W' fine sp rp)) ∧ (∀ W', Calls Tryz.prog 11 #[.string s] W' (OfW W' fine sp rp)) := fun h1 h2 =>
    ⟨false, false, 0, (fun h => by cases h), fun W' => (h1 W').mono fun _ _ x => ofv_no x, fun W' => (h2 W').mono fun _ _ x => ofw_no x⟩
  by_cases hlt : m < s.size
  · have e := hend hlt
    have hp := slash_parts hlt e
    have hu : (s.extract (m + 1) s.size).size ≤ 60 := Nat.le_trans slash_rest hs
    rcases zparse_two hsz with ⟨p, hpb, CZ, CRz⟩ | ⟨CZ, CRz⟩
    · by_cases hd : digB (s.extract (m + 1) s.size).data.toList = true
      · obtain ⟨d, hv⟩ : ∃ d, numL (s.extract (m + 1) s.size).data.toList = d := ⟨_, rfl⟩
        have hdb : d < W32 ^ 61 := by rw [← hv]; exact w32_up (numL_dl3 hd) (by rw [← size_list]; omega)
        have CP : ∀ W', Calls Tryz.prog 80 #[.string (s.extract (m + 1) s.size)] W' (RpY W' d) := fun W' => by rw [← hv]; exact rp_yes _ W' (by omega) hd
        by_cases h0 : d = 0
        · refine no (fun W' => rparse_n3 (by omega) hp ht CZ hd (by rw [hv, h0])) (fun W' => rqparse_4 (by omega) hm hpre hend hlt CRz (fun W' => by have := CP W'; rwa [h0] at this))
        · have h0' : 0 < d := by omega
          refine ⟨true, _, mkRat p d, fun _ => ⟨rfl, tt_bd ⟨h0', rfl, hpb, hdb⟩⟩, fun W' => (rparse_frac (by omega) hp ht CZ hd hv h0' (Nat.le_trans (dl_le hpb) (by decide)) (Nat.le_trans (dl_le hdb) (by decide)) rfl).mono fun _ _ x => ofv_y rfl x,
            fun W' => (rqparse_5 (by omega) hm hpre hend hlt CRz CP h0' (dq_bw hpb (by decide)) (dq_bw hdb (by decide)) rfl rfl).mono fun _ _ x => ofw_t rfl rfl x⟩
      · exact no (fun W' => rparse_n2 (by omega) hp ht CZ hd) (fun W' => rqparse_3 (by omega) hm hpre hend hlt CRz (fun W' => rp_no _ W' (by omega) hd))
    · exact no (fun W' => rparse_n1 (by omega) hp ht CZ) (fun W' => rqparse_1 (by omega) hm hpre hend CRz)
  · have hms : m = s.size := by omega
    have es := slash_all hms
    rw [es] at ht
    rcases zparse_two hs with ⟨p, hpb, CZ, CRz⟩ | ⟨CZ, CRz⟩
    · have hr : mkRat p 1 = (p : Rat) := by rw [Rat.mkRat_one]
      refine ⟨true, _, (p : Rat), fun _ => ⟨rfl, bd_int hpb (by decide)⟩, fun W' => (rparse_int (by omega) ht CZ (Nat.le_trans (dl_le hpb) (by decide)) hr).mono fun _ _ x => ofv_y rfl x,
        fun W' => (rqparse_2 (by omega) hms hpre hend (fun W' => by rw [es]; exact CRz W') rfl).mono fun _ _ x => ofw_t rfl rfl x⟩
    · exact no (fun W' => rparse_n0 (by omega) ht CZ) (fun W' => rqparse_1 (by omega) hm hpre hend (fun W' => by rw [es]; exact CRz W'))
end
section
variable {A A' : Option Addr} {n c n' c' : Nat} {b sx : Bool} {x : Rat} {k : Int}
theorem bd_inv3 {r : Rat} {K : Nat} (h : Bd r K) (h0 : r ≠ 0) : Bd r⁻¹ K := by
  have h1 : r.num ≠ 0 := fun e => h0 (Rat.num_eq_zero.1 e)
  refine ⟨?_, ?_⟩
  · rw [Rat.num_inv, Int.natAbs_mul, Int.natAbs_sign_of_ne_zero h1, Nat.one_mul, Int.natAbs_natCast]
    exact h.2
  · rw [Rat.den_inv, if_neg h1]
    exact h.1
theorem bd_pow5 {r : Rat} (h : Bd r 12) {k : Nat} (hk : k ≤ 5) : Bd (r ^ k) 61 := by
  have h1 : ∀ {y : Nat}, y < W32 ^ 12 → y ^ k < W32 ^ 61 := fun {y} hy => by
    have h2 : y ^ k ≤ (W32 ^ 12) ^ k := Nat.pow_le_pow_left (Nat.le_of_lt hy) k
    rw [← Nat.pow_mul] at h2
    have h3 : W32 ^ (12 * k) < W32 ^ 61 := Nat.pow_lt_pow_right (by decide) (by omega)
    omega
  refine ⟨?_, ?_⟩
  · rw [Rat.num_pow, Int.natAbs_pow]; exact h1 h.1
  · rw [Rat.den_pow]; exact h1 h.2
theorem ofv_sw {W : World} {sg sg' : Bool} {r : Rat} {e : Ending} {w' : World} (hs : sg = sg') (h : OfYw W sg r e w') : OfV W true sg' r e w' := hs ▸ ofv_w h
theorem qpow_two (hb : Bd x 12) (hk : -5 ≤ k ∧ k ≤ 5) : ∃ is1 sc rc, (is1 = true → sc = decide (rc.num < 0) ∧ Bd rc 61) ∧
    (∀ W', QA W' b A n c A' n' c' x 12 → Calls Tryz.prog 12 #[.agg #[.bool b, .slice A n c, .slice A' n' c'], .int .i64 k] W' (OfV W' is1 sc rc)) ∧
    (∀ W' D e D' e', Rz W' sx D e x.num → Rn W' D' e' x.den → Calls Tryz.prog 13 #[.agg #[.bool sx, .slice D (dq x.num.natAbs) e, .slice D' (dq x.den) e'], .int .i64 k] W' (OfW W' is1 sc rc)) := by
  by_cases h0 : 0 ≤ k
  · obtain ⟨i, rfl⟩ : ∃ i : Nat, k = (i : Int) := ⟨k.toNat, by omega⟩
    have hi : i ≤ 5 := by omega
    refine ⟨true, decide ((x ^ i).num < 0), x ^ i, fun _ => ⟨rfl, bd_pow5 hb hi⟩, fun W' hq => ?_, fun W' D e D' e' h1 h2 => (rqpow_p hb (by decide) (by omega) h1 h2 rfl rfl).mono fun _ _ y => ofw_t rfl rfl y⟩
    by_cases hx : x < 0
    · exact (rpow_pm hq hx rfl hb (by decide) (by decide) (by omega)).mono fun _ _ y => ofv_w y
    · have h9 : 0 ≤ x := Rat.not_lt.1 hx
      refine (rpow_p hq h9 hb (by decide) (by decide) (by omega)).mono fun _ _ y => ofv_sw ?_ y
      have h8 : 0 ≤ x.num ^ i := Int.pow_nonneg (Rat.num_nonneg.2 h9)
      rw [decide_eq_false]
      rw [Rat.num_pow]; omega
  · obtain ⟨i, hi⟩ : ∃ i : Nat, -(i : Int) = k := ⟨(-k).toNat, by omega⟩
    have hi5 : i ≤ 5 := by omega
    have hi0 : 0 < i := by omega
    by_cases hx0 : x = 0
    · refine ⟨false, false, 0, (fun h => by cases h), fun W' hq => ?_, fun W' D e D' e' h1 h2 => (rqpow_0 h1 h2 hx0 (by omega)).mono fun _ _ y => ofw_no y⟩
      rw [hx0] at hq
      exact (rpow_0 (K := 12) (by omega) hq (by decide) (by decide)).mono fun _ _ y => ofv_no y
    · have hbi := bd_inv3 hb hx0
      refine ⟨true, decide ((x⁻¹ ^ i).num < 0), x⁻¹ ^ i, fun _ => ⟨rfl, bd_pow5 hbi hi5⟩, fun W' hq => ?_, fun W' D e D' e' h1 h2 => ?_⟩
      · by_cases hx : x < 0
        · exact (rpow_nm hi hi0 hq hx rfl hb hbi (by decide) (by decide) (by omega)).mono fun _ _ y => ofv_w y
        · have h9 : 0 < x := Rat.not_le.1 (fun h => hx0 (Rat.le_antisymm h (Rat.not_lt.1 hx)))
          refine (rpow_n hi hi0 hq h9 hb hbi (by decide) (by decide) (by omega)).mono fun _ _ y => ofv_sw ?_ y
          have h7 : 0 ≤ x⁻¹.num := by rw [Rat.num_inv]; exact Int.mul_nonneg (Int.sign_nonneg_iff.2 (Rat.num_nonneg.2 (Rat.le_of_lt h9))) (by omega)
          have h8 : 0 ≤ x⁻¹.num ^ i := Int.pow_nonneg h7
          rw [decide_eq_false]
          rw [Rat.num_pow]; omega
      · have h3 := rqpow_n hi0 hx0 hbi (by decide) (by omega) h1 h2 rfl rfl
        rw [hi] at h3
        exact h3.mono fun _ _ y => ofw_t rfl rfl y
end
end Go.Proofs.YtfcamfkimnlfgaaGreatDoor
end

section
/- Words for the statements of rat. No conditions. -/
end

section
/- Package rat: Mul. Conditions: terms of at most 20000 words. -/
open Go.RowKit
set_option maxRecDepth 100000
namespace Go.Proofs.YtfcamfkimnlfgaaGreatDoor
section
variable {W : World} {b b' s s' : Bool} {A A' B B' : Option Addr} {n n' c c' m m' k k' e e' : Nat} {z z' : Int} {r r' : Rat} {K L d d' : Nat}

set_option maxHeartbeats 4000000 in
theorem rmul_h (h : QA W b A n c A' n' c' r K) (h' : QA W b' B k e B' k' e' r' K) (hK : 0 < K) (hK2 : K ≤ 20000) : Calls Tryz.prog 26 #[.agg #[.bool b, .slice A n c, .slice A' n' c'], .agg #[.bool b', .slice B k e, .slice B' k' e']] W (QR W (r * r')) := by
  have CTa : Hid (∀ W', Bel W W' → Calls Tryz.prog 74 #[.agg #[.bool b, .slice A n c, .slice A' n' c']] W' (TermsR W' r K)) := fun W' hb => terms_h (h.up hb) hK
  have CTb : Hid (∀ W', Bel W W' → Calls Tryz.prog 74 #[.agg #[.bool b', .slice B k e, .slice B' k' e']] W' (TermsR W' r' K)) := fun W' hb => terms_h (h'.up hb) hK
  have CA : Hid (∀ W' s B k e s' B' k' e' (z : Int) (d : Nat) (z' : Int) (d' : Nat), ZA W' s B k e z → ZA W' s' B' k' e' z' → Hid (TT z d r K) → Hid (TT z' d' r' K) → ∀ v, Hid (v = z * z') → Calls Tryz.prog 97 #[.agg #[.bool s, .slice B k e], .agg #[.bool s', .slice B' k' e']] W' (ZR W' v)) := fun W' s B k e s' B' k' e' z d z' d' h1 h2 t1 t2 v hv => zmul_h h1 h2 hv.out.symm (by rw [hv.out]; exact Nat.le_trans (dl_bd2 (tt_mul t1.out t2.out).2.2.1 (by omega)) (by omega))
  have CM : Hid (∀ W' B k e B' k' e' z d z' d', Nm W' B k e d → Nm W' B' k' e' d' → Hid (TT z d r K) → Hid (TT z' d' r' K) → Calls Tryz.prog 94 #[.agg #[.slice B k e], .agg #[.slice B' k' e']] W' (NumR W' (d * d'))) := fun W' B k e B' k' e' z d z' d' h1 h2 t1 t2 => mul_h h1 h2 rfl (Nat.le_trans (dl_bd2 (tt_mul t1.out t2.out).2.2.2 (by omega)) (by omega))
  have CL : Hid (∀ W' s B k e B' k' e' (z : Int) (d : Nat) (z' : Int) (d' : Nat) (v : Int), Hid (v = z * z') → ZA W' s B k e v → Nm W' B' k' e' (d * d') → Hid (TT z d r K) → Hid (TT z' d' r' K) → Calls Tryz.prog 81 #[.agg #[.bool s, .slice B k e], .agg #[.slice B' k' e']] W' (QR W' (r * r'))) := fun W' s B k e B' k' e' z d z' d' v hv h1 h2 t1 t2 => lowest_t (show ZA W' s B k e (z * z') by rw [← hv.out]; exact h1) h2 (tt_mul t1.out t2.out) (by omega) (by omega)
  clear h h'
  have HB := Bel.refl W
  go_enter Tryz.func26, Tryz.ntmps26
  go_wp2_with (first | (go_at_call 74; (with_reducible refine (CTa.out _ (((HB.al _).al _).al _)).mono ?_); rintro e w1 ⟨ps, pA, pn, pc, pB, pm, pe, pz, pd, rfl, pzz, pnn, ph, hbk⟩; have HX := At.up (((at_new0 _ _ _).al _).al _) hbk; have HY := At.up ((at_new1 _ _ _ _).al _) hbk; have HR := At.up (at_new2 _ _ _ _ _) hbk; replace HB := (((HB.al _).al _).al _).up hbk; have hy_0 := HY.c0; have hy_1 := HY.c1; have hy_2 := HY.c2; have hy_l := HY.lt; have hy2 : W.heap.size < w1.heap.size := (by omega); replace ph : Hid (TT pz pd r K) := ph; have hLR := HR.lt) | (go_at_call 74; (with_reducible refine (CTb.out _ ((HB.al _).al _)).mono ?_); rintro e w2 ⟨qs, qA, qn, qc, qB, qm, qe, qz, qd, rfl, qzz, qnn, qh, hbk⟩; have HP := At.up ((at_new0 _ _ _).al _) hbk; have HN := At.up (at_new1 _ _ _ _) hbk; replace HB := ((HB.al _).al _).up hbk; replace pzz := ((pzz.al _).al _).up hbk; replace pnn := ((pnn.al _).al _).up hbk; replace HR := ((HR.al _).al _).up hbk; clear hy_0 hy_1 hy_2 hy_l hy2; have hp_l := HP.lt; have hn_l := HN.lt; replace qh : Hid (TT qz qd r' K) := qh; have hLR2 := HR.lt) | fail)
  go_region_held3 (fun w' => w'.cell? ⟨w1.heap.size, 0, none⟩ = some (.bool ps) ∧ w'.cell? ⟨w1.heap.size, 1, none⟩ = some (.slice pA pn pc) ∧ w'.cell? ⟨w1.heap.size + 1, 0, none⟩ = some (.slice pB pm pe) ∧ w'.cell? ⟨w2.heap.size, 0, none⟩ = some (.bool qs) ∧ w'.cell? ⟨w2.heap.size, 1, none⟩ = some (.slice qA qn qc) ∧ w'.cell? ⟨w2.heap.size + 1, 0, none⟩ = some (.slice qB qm qe))
    (first | exact ⟨((HP.al _).al _).dr.c0, ((HP.al _).al _).dr.c1, ((HN.al _).al _).dr.c0, ((at_new0 _ _ _).al _).dr.c0, ((at_new0 _ _ _).al _).dr.c1, (at_new1 _ _ _ _).dr.c0⟩ | exact ⟨HP.c0, HP.c1, HN.c0, HV.c0, HV.c1, HM.c0⟩ | exact ⟨(((HP.far (by omega) _).far (by omega) _).far (by omega) _).c0, (((HP.far (by omega) _).far (by omega) _).far (by omega) _).c1, (((HN.far (by omega) _).far (by omega) _).far (by omega) _).c0, (((HV.far (by omega) _).far (by omega) _).far (by omega) _).c0, (((HV.far (by omega) _).far (by omega) _).far (by omega) _).c1, (((HM.far (by omega) _).far (by omega) _).far (by omega) _).c0⟩)
    (first | (go_at_call 97; obtain ⟨av, hav⟩ : ∃ v : Int, Hid (v = pz * qz) := ⟨_, rfl⟩; (with_reducible refine (CA.out _ _ _ _ _ _ _ _ _ _ _ _ _ ((pzz.al _).al _).dr ((qzz.al _).al _).dr ph qh av hav).mono ?_); rintro e w3 ⟨aA, ac, rfl, a1, hbk⟩; have HV := At.up ((at_new0 _ _ _).al _).dr hbk; have HM := At.up (at_new1 _ _ _ _).dr hbk; replace HB := ((HB.al _).al _).dr.up hbk; replace HP := ((HP.al _).al _).dr.up hbk; replace HN := ((HN.al _).al _).dr.up hbk; replace HR := ((HR.al _).al _).dr.up hbk; replace pnn := ((pnn.al _).al _).dr.up hbk; replace qnn := ((qnn.al _).al _).dr.up hbk) | (go_at_call 94; (with_reducible refine (CM.out _ _ _ _ _ _ _ _ _ _ _ pnn qnn ph qh).mono ?_); rintro e w6 ⟨mA, mc, rfl, m1, hbk⟩; replace HB := HB.up hbk; replace HP := HP.up hbk; replace HN := HN.up hbk; replace HR := HR.up hbk; replace HV := HV.up hbk; replace HM := HM.up hbk; replace a1 := a1.up hbk; have hL := HP.lt; have hL1 := HN.lt; have hL2 := HV.lt; have hL3 := HM.lt) | (go_at_call 81; (with_reducible refine (CL.out _ _ _ _ _ _ _ _ _ _ _ _ _ hav a1 m1 ph qh).mono ?_); rintro e w7 ⟨B, e1, B', e2, rfl, nz, nd, hbk⟩; replace HB := HB.up hbk; replace HR := HR.up hbk; replace HP := HP.up hbk; replace HN := HN.up hbk; replace HV := HV.up hbk; replace HM := HM.up hbk; have hr_0 := HR.c0; have hr_1 := HR.c1; have hr_2 := HR.c2; have hr_l := HR.lt; have hr_f0 := HR.f0; have hr_f1 := HR.f1; have hr_f2 := HR.f2) | fail)
  go_wp2_with fail
  refine bodyPost_ret (v := .agg #[.bool (decide ((r * r').num < 0)), .slice B (dl (r * r').num.natAbs) e1, .slice B' (dl (r * r').den) e2]) (by simp [results, Tryz.results26, go_sem, hr_0, hr_1, hr_2]) rfl ?_
  exact ⟨B, e1, B', e2, rfl, zr_of (nz.1.put3 HR now3), nd.put3 HR now3, below3 HB (by first | omega | simp | (simp; omega)) _ _ _⟩
end
end Go.Proofs.YtfcamfkimnlfgaaGreatDoor
end
