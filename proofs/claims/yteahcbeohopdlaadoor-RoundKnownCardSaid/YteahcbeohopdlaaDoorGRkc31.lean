/- Several texts in one, each with its own sentence and conditions. -/
import Derived.Test.YteahcbeohopdlaaDoorGRkc30
section
/- Package rat: Pow of a negative power of what is greater than 0. Package round: Sig of nought, Sig too small, Step of nought, Int of no mode. The statements' text. Conditions: see there. -/
open Go.RowKit
set_option maxRecDepth 100000
namespace Go.Proofs.YteahcbeohopdlaaDoor
theorem wp_named {P : Program} {c : Code} {Q : Exit → Act → World → Prop} {a : Act} {X : World} (h : ∀ W', W' = X → Code.wp P c Q a W') : Code.wp P c Q a X := h X rfl
section
variable {W : World} {b b' sg : Bool} {A A' A2 : Option Addr} {n n' n2 c c' c2 m2 s K q d : Nat} {m z e sc : Int} {r pw : Rat}
set_option maxHeartbeats 8000000 in
theorem qpower_n {k : Nat} {i : Int} (h : Nm W A n c q) (hi : -(k : Int) = i) (h0 : 0 < k) (hk : k ≤ 1000000) (hb : ∀ i, i ≤ k → dl (q ^ i) ≤ 100000) : Calls Tryd.prog 94 #[.agg #[.slice A n c], .int .i64 i] W (NumR W (q ^ k)) := by
  obtain ⟨j, rfl⟩ : ∃ j, k = j + 1 := ⟨k - 1, by omega⟩
  obtain ⟨u, hu⟩ : ∃ u, q ^ j = u := ⟨_, rfl⟩
  obtain ⟨v, hv⟩ : ∃ v, q ^ (j + 1) = v := ⟨_, rfl⟩
  have CP : Hid (∀ W', Bel W W' → Calls Tryd.prog 126 #[.agg #[.slice A n c], .int .i64 (j : Int)] W' (NumR W' u)) := fun W' hw => pow_h (h.up hw.hid) (by omega) (fun i hi => hb i (by omega)) hu
  have CM : Hid (∀ W' B e, Bel W W' → Nm W' B (dl u) e u → Calls Tryd.prog 78 #[.agg #[.slice B (dl u) e], .agg #[.slice A n c]] W' (NumR W' v)) := fun W' B e hw hn => mul_h hn (h.up hw.hid) (by rw [← hu, ← hv, Nat.pow_succ]) (by rw [← hv]; exact hb _ (Nat.le_refl _))
  have g1 : decide (i < 0) = true := decide_eq_true (by omega)
  have g1' : i < 0 := by omega
  have w1 : IntKind.i64.wrap (i + 1) = i + 1 := IntWalk.i64_in _ (by omega)
  have w2 : wrap64 (i + 1) = i + 1 := IntWalk.wrap64_in _ (by omega)
  have w3 : -(i + 1) = (j : Int) := by omega
  have w4 : wrap64 (j : Int) = (j : Int) := IntWalk.wrap64_in _ (by omega)
  have w5 : IntKind.i64.wrap (j : Int) = (j : Int) := IntWalk.i64_in _ (by omega)
  rw [hv]
  clear hu hv h hb hk hi h0
  have HB := Bel.refl W
  go_enter Tryd.func94, Tryd.ntmps94
  go_wp2_with fail
  obtain ⟨W1, hW1⟩ : ∃ X, X = (W.alloc (.cells #[.slice A n c] 24)).alloc (.cells #[.slice none 0 0] 24) := ⟨_, rfl⟩
  rw [← hW1]
  have H0 : At W1 W.heap.size [.slice A n c] := by rw [hW1]; exact (at_new0 _ _ _).al _
  have HR : At W1 (W.heap.size + 1) [.slice none 0 0] := by rw [hW1]; exact at_new1 _ _ _ _
  replace HB : Bel W W1 := by rw [hW1]; exact (HB.al _).al _
  clear hW1
  have l0 := H0.lt
  have l1 := HR.lt
  go_region_held3 (fun w' => w'.cell? ⟨W.heap.size, 0, none⟩ = some (.slice A n c))
    (refine (?_ : At _ W.heap.size [.slice A n c]).c0 <;> (repeat (first | with_reducible exact H0 | (with_reducible refine At.dr ?_) | (with_reducible refine At.al ?_ _) | (with_reducible refine At.far ?_ (by omega) _))))
    (first | (go_at_call 126; (with_reducible refine (CP.out _ HB.dr).mono ?_); rintro e w2 ⟨B2, e2, rfl, n2', hbk⟩; (with_reducible (replace HB := HB.dr.up hbk; replace H0 := H0.dr.up hbk; replace HR := HR.dr.up hbk))) | (go_at_call 78; (with_reducible refine (CM.out _ _ _ HB n2').mono ?_); rintro e w3 ⟨B3, e3, rfl, n3, hbk⟩; (with_reducible (replace HB := HB.up hbk; replace H0 := H0.up hbk; replace HR := HR.up hbk)); have hr_0 := HR.c0; have hr_l := HR.lt; have hr_f0 := HR.f0) | fail)
  go_wp2_with fail
  refine bodyPost_ret (v := .agg #[.slice B3 (dl v) e3]) (by simp [results, Tryd.results94, go_sem, hr_0]) rfl ?_
  exact ret_n HB (by omega) HR now1 n3
set_option maxHeartbeats 16000000 in
theorem rpow_n {k : Nat} {i : Int} (hi : -(k : Int) = i) (hk0 : 0 < k) (h : QA W b A n c A' n' c' r K) (h0 : 0 < r) (hb : Bd r K) (hbi : Bd r⁻¹ K) (hK0 : 0 < K) (hK2 : K ≤ 20000) (hk : K * k ≤ 90000) : Calls Tryd.prog 42 #[.agg #[.bool b, .slice A n c, .slice A' n' c'], .int .i64 i] W (OfYw W false (r⁻¹ ^ k)) := by
  have hn0 : 0 ≤ r.num := Rat.num_nonneg.2 (Rat.le_of_lt h0)
  have hi0 : 0 ≤ r⁻¹.num := by rw [Rat.num_inv]; exact Int.mul_nonneg (Int.sign_nonneg_iff.2 hn0) (by omega)
  obtain ⟨ri, hri⟩ : ∃ x : Rat, r⁻¹ = x := ⟨_, rfl⟩
  rw [hri] at hbi hi0 ⊢
  have hkk : k ≤ 1000000 := by
    have : 1 * k ≤ K * k := Nat.mul_le_mul_right k hK0
    omega
  have CT : Hid (∀ W', Bel W W' → Calls Tryd.prog 92 #[.agg #[.bool b, .slice A n c, .slice A' n' c']] W' (TermsR W' r K)) := fun W' hw => terms_h (h.up hw.hid) hK0
  have CL : Hid (∀ W' s B k e B' k' e' z d, ZA W' s B k e z → Nm W' B' k' e' d → Hid (0 < d ∧ mkRat z d = r ∧ z.natAbs < W32 ^ K ∧ d < W32 ^ K) → Calls Tryd.prog 91 #[.agg #[.bool s, .slice B k e], .agg #[.slice B' k' e']] W' (QRw W' false r)) := fun W' s B k e B' k' e' z d hz hd hp => by
    have h1 := lowest_t hz hd hp.out (by omega) (by omega)
    unfold QR at h1
    rw [decide_eq_false (show ¬ r.num < 0 by omega)] at h1
    exact h1
  have CV : Hid (∀ W' B e B' e', ZA W' false B (dl r.num.natAbs) e r.num → Nm W' B' (dl r.den) e' r.den → Calls Tryd.prog 93 #[.agg #[.bool false, .slice B (dl r.num.natAbs) e, .slice B' (dl r.den) e']] W' (OfYw W' false ri)) := fun W' B e B' e' h1 h2 => by
    have h3 := inv_yes (qa_self h1 h2 hb) hK0 hK2 (fun e0 => by rw [e0] at h0; exact absurd h0 Rat.lt_irrefl)
    unfold OfYes at h3
    rw [hri, decide_eq_false (show ¬ ri.num < 0 by omega)] at h3
    exact h3
  obtain ⟨x, hx⟩ : ∃ x : Nat, x = ri.num.natAbs := ⟨_, rfl⟩
  obtain ⟨y, hy⟩ : ∃ y : Nat, y = ri.den := ⟨_, rfl⟩
  obtain ⟨u, hu⟩ : ∃ u : Nat, x ^ k = u := ⟨_, rfl⟩
  obtain ⟨v, hv⟩ : ∃ v : Nat, y ^ k = v := ⟨_, rfl⟩
  have bx : x < W32 ^ K := by rw [hx]; exact hbi.1
  have by_ : y < W32 ^ K := by rw [hy]; exact hbi.2
  have CX : Hid (∀ W' B n e, Nm W' B n e x → Calls Tryd.prog 94 #[.agg #[.slice B n e], .int .i64 i] W' (NumR W' u)) := fun W' B n e h1 => by rw [← hu]; exact qpower_n h1 hi hk0 hkk (fun i hi => pow_bd bx hk hi)
  have CY : Hid (∀ W' B n e, Nm W' B n e y → Calls Tryd.prog 94 #[.agg #[.slice B n e], .int .i64 i] W' (NumR W' v)) := fun W' B n e h1 => by rw [← hv]; exact qpower_n h1 hi hk0 hkk (fun i hi => pow_bd by_ hk hi)
  have HX : Hid ((ri ^ k).num.natAbs = u ∧ (ri ^ k).den = v ∧ ¬ (ri ^ k).num < 0) := by
    unfold Hid
    rw [Rat.num_pow, Rat.den_pow, Int.natAbs_pow, ← hx, ← hy, hu, hv]
    refine ⟨rfl, rfl, ?_⟩
    have h9 : 0 ≤ ri.num ^ k := Int.pow_nonneg hi0
    omega
  have g1 : decide (i < 0) = true := decide_eq_true (by omega)
  have g1' : i < 0 := by omega
  have HXR := hide hx
  have HYR := hide hy
  clear hri h h0 hb hbi hK0 hK2 hk hn0 hi0 hkk hu hv bx by_ hx hy hi hk0
  have HB := Bel.refl W
  go_enter Tryd.func42, Tryd.ntmps42
  go_wp2_with (first | (go_at_call 92; (with_reducible refine (CT.out _ ((HB.al _).al _)).mono ?_); rintro e w1 ⟨s, B, k1, e1, B', k2, e2, zv, d, rfl, zp, np, hp, hbk⟩; (with_reducible (have HR : At w1 (W.heap.size + 1) [.bool false, .slice none 0 0, .slice none 0 0] := At.up (at_new1 _ _ _ _) hbk; replace HB := ((HB.al _).al _).up hbk))) | (go_at_call 91; (with_reducible refine (CL.out _ _ _ _ _ _ _ _ _ _ zp np hp).mono ?_); rintro e w2 ⟨B0, e0, B1, e1', rfl, z0, n0, hbk⟩; (with_reducible (replace HB := HB.up hbk; replace HR := HR.up hbk)); have hne := HR.lt) | (go_at_call 93; (with_reducible refine (CV.out _ _ _ _ _ (z0.al _) (n0.al _)).mono ?_); rintro e w3 ⟨Bx, ex, By, ey, rfl, zx, ny, hbk⟩; (with_reducible (have H0 : At w3 w2.heap.size [.bool false, .slice B0 (dl r.num.natAbs) e0, .slice B1 (dl r.den) e1'] := At.up (at_new0 _ _ _) hbk; replace HB := (HB.al _).up hbk; replace HR := (HR.al _).up hbk)); have h0_0 := H0.c0; have h0_1 := H0.c1; have h0_2 := H0.c2; have h0_l := H0.lt; have h0_f0 := H0.f0; have h0_f1 := H0.f1; have h0_f2 := H0.f2) | fail)
  have nx := zx.1
  have hrl := HR.lt
  rw [← HXR.out] at nx ⊢
  rw [← HYR.out] at ny ⊢
  refine wp_named ?_
  intro W1 hW1
  have H1 : At W1 w2.heap.size [.bool false, .slice Bx (dl x) ex, .slice By (dl y) ey] := by rw [hW1]; first | exact (H0.put3 _ _ _).al _ | exact (H0.al _).put3 _ _ _
  have HR1 : At W1 (W.heap.size + 1) [.bool false, .slice none 0 0, .slice none 0 0] := by rw [hW1]; first | exact (HR.far3 (by omega) _ _ _).al _ | exact (HR.al _).far3 (by omega) _ _ _
  have HB1 : Bel W W1 := by rw [hW1]; first | exact (HB.uput3 (by omega) _ _ _).al _ | exact (HB.al _).uput3 (by omega) _ _ _
  have nx1 : Nm W1 Bx (dl x) ex x := by rw [hW1]; first | exact (nx.put3 H0 now3).al _ | exact (nx.al _).put3 (H0.al _) now3
  have ny1 : Nm W1 By (dl y) ey y := by rw [hW1]; first | exact (ny.put3 H0 now3).al _ | exact (ny.al _).put3 (H0.al _) now3
  clear hW1 zx zp np hp nx ny HB HR h0_0 h0_1 h0_2 h0_l h0_f0 h0_f1 h0_f2 H0 z0 n0
  rename Bel W W1 => HB
  have HR := HR1
  have H0 := H1
  have nx := nx1
  have ny := ny1
  clear HR1 H1 nx1 ny1
  obtain ⟨pb, hpb⟩ : ∃ p, p = w2.heap.size := ⟨_, rfl⟩
  rw [← hpb] at H0 hne ⊢
  clear hpb hrl
  have l0 := H0.lt
  have l2 := HR.lt
  go_cut [9, 10] from 27 to 35 (fun o o' w => ∃ p q B e B' e', o = .pointer (some ⟨p, 0, none⟩) ∧ o' = .pointer (some ⟨q, 0, none⟩) ∧ W.heap.size + 1 < p ∧ W.heap.size + 1 < q ∧ At w p [.slice B (dl u) e] ∧ At w q [.slice B' (dl v) e'] ∧ Nm w B (dl u) e u ∧ Nm w B' (dl v) e' v ∧ Bel W1 w)
  case first =>
    have HW := Bel.refl W1
    go_region_held3 (fun w' => w'.cell? ⟨pb, 0, none⟩ = some (.bool false) ∧ w'.cell? ⟨pb, 1, none⟩ = some (.slice Bx (dl x) ex) ∧ w'.cell? ⟨pb, 2, none⟩ = some (.slice By (dl y) ey))
      (refine ⟨(?_ : At _ pb [.bool false, .slice Bx (dl x) ex, .slice By (dl y) ey]).c0, (?_ : At _ pb [.bool false, .slice Bx (dl x) ex, .slice By (dl y) ey]).c1, (?_ : At _ pb [.bool false, .slice Bx (dl x) ex, .slice By (dl y) ey]).c2⟩ <;> (repeat (first | with_reducible exact H0 | (with_reducible refine At.dr ?_) | (with_reducible refine At.al ?_ _) | (with_reducible refine At.far ?_ (by omega) _))))
      (first | (go_at_call 94; (with_reducible refine (CX.out _ _ _ _ nx.dr).mono ?_); rintro e w4 ⟨Bu, eu, rfl, nu, hbk⟩; (with_reducible (replace HB := HB.dr.up hbk; replace HW := HW.dr.up hbk; replace H0 := H0.dr.up hbk; replace nx := nx.dr.up hbk; replace ny := ny.dr.up hbk)); have lz0 := H0.lt; (try have lz2 := HP0.lt); (try have lz3 := HP1.lt); have zs1 := Below.size HW) | (go_at_call 94; (with_reducible refine (CX.out _ _ _ _ (nx.al _).dr).mono ?_); rintro e w4 ⟨Bu, eu, rfl, nu, hbk⟩; (with_reducible (have HP0 := At.up (at_new0 _ [.slice none 0 0] _).dr hbk; replace HB := (HB.al _).dr.up hbk; replace HW := (HW.al _).dr.up hbk; replace H0 := (H0.al _).dr.up hbk; replace nx := (nx.al _).dr.up hbk; replace ny := (ny.al _).dr.up hbk)); have lz0 := H0.lt; (try have lz2 := HP0.lt); (try have lz3 := HP1.lt); have zs1 := Below.size HW) | (go_at_call 94; (with_reducible refine (CX.out _ _ _ _ ((nx.al _).al _).dr).mono ?_); rintro e w4 ⟨Bu, eu, rfl, nu, hbk⟩; (with_reducible (have HP0 := At.up ((at_new0 _ [.slice none 0 0] _).al _).dr hbk; have HP1 := At.up (at_new1 _ _ [.slice none 0 0] _).dr hbk; replace HB := ((HB.al _).al _).dr.up hbk; replace HW := ((HW.al _).al _).dr.up hbk; replace H0 := ((H0.al _).al _).dr.up hbk; replace nx := ((nx.al _).al _).dr.up hbk; replace ny := ((ny.al _).al _).dr.up hbk)); have lz0 := H0.lt; (try have lz2 := HP0.lt); (try have lz3 := HP1.lt); have zs1 := Below.size HW) | (go_at_call 94; (with_reducible refine (CY.out _ _ _ _ ny).mono ?_); rintro e w5 ⟨Bv, ev, rfl, nv, hbk⟩; (with_reducible (replace HB := HB.up hbk; replace HW := HW.up hbk; replace H0 := H0.up hbk; replace nu := nu.up hbk)); (try (with_reducible replace HP0 := HP0.up hbk)); (try (with_reducible replace HP1 := HP1.up hbk)); (try have hp0_0 := HP0.c0); (try have fhp0_0 := HP0.f0); (try have lhp0 := HP0.lt); (try have hp1_0 := HP1.c0); (try have fhp1_0 := HP1.f0); (try have lhp1 := HP1.lt); (try have hq0_0 := HQ0.c0); (try have fhq0_0 := HQ0.f0); (try have lhq0 := HQ0.lt); (try have hq1_0 := HQ1.c0); (try have fhq1_0 := HQ1.f0); (try have lhq1 := HQ1.lt); have lz4 := H0.lt; have zs2 := Below.size HW) | (go_at_call 94; (with_reducible refine (CY.out _ _ _ _ (ny.al _)).mono ?_); rintro e w5 ⟨Bv, ev, rfl, nv, hbk⟩; (with_reducible (have HQ0 := At.up (at_new0 _ [.slice none 0 0] _) hbk; replace HB := (HB.al _).up hbk; replace HW := (HW.al _).up hbk; replace H0 := (H0.al _).up hbk; replace nu := (nu.al _).up hbk)); (try (with_reducible replace HP0 := (HP0.al _).up hbk)); (try (with_reducible replace HP1 := (HP1.al _).up hbk)); (try have hp0_0 := HP0.c0); (try have fhp0_0 := HP0.f0); (try have lhp0 := HP0.lt); (try have hp1_0 := HP1.c0); (try have fhp1_0 := HP1.f0); (try have lhp1 := HP1.lt); (try have hq0_0 := HQ0.c0); (try have fhq0_0 := HQ0.f0); (try have lhq0 := HQ0.lt); (try have hq1_0 := HQ1.c0); (try have fhq1_0 := HQ1.f0); (try have lhq1 := HQ1.lt); have lz4 := H0.lt; have zs2 := Below.size HW) | (go_at_call 94; (with_reducible refine (CY.out _ _ _ _ ((ny.al _).al _)).mono ?_); rintro e w5 ⟨Bv, ev, rfl, nv, hbk⟩; (with_reducible (have HQ0 := At.up ((at_new0 _ [.slice none 0 0] _).al _) hbk; have HQ1 := At.up (at_new1 _ _ [.slice none 0 0] _) hbk; replace HB := ((HB.al _).al _).up hbk; replace HW := ((HW.al _).al _).up hbk; replace H0 := ((H0.al _).al _).up hbk; replace nu := ((nu.al _).al _).up hbk)); (try (with_reducible replace HP0 := ((HP0.al _).al _).up hbk)); (try (with_reducible replace HP1 := ((HP1.al _).al _).up hbk)); (try have hp0_0 := HP0.c0); (try have fhp0_0 := HP0.f0); (try have lhp0 := HP0.lt); (try have hp1_0 := HP1.c0); (try have fhp1_0 := HP1.f0); (try have lhp1 := HP1.lt); (try have hq0_0 := HQ0.c0); (try have fhq0_0 := HQ0.f0); (try have lhq0 := HQ0.lt); (try have hq1_0 := HQ1.c0); (try have fhq1_0 := HQ1.f0); (try have lhq1 := HQ1.lt); have lz4 := H0.lt; have zs2 := Below.size HW) | fail)
    all_goals
      go_wp2_with fail
      go_meet
      case rel =>
        refine ⟨_, _, Bu, eu, Bv, ev, rfl, rfl, (by first | omega | (show _ < W1.heap.size; omega) | (show _ < W1.heap.size + 1; omega) | (simp; omega)), (by first | omega | (show _ < W1.heap.size; omega) | (show _ < W1.heap.size + 1; omega) | (simp; omega)), ?_, ?_, ?_, ?_, ?_⟩ <;> (repeat (first | with_reducible exact nu | with_reducible exact nv | with_reducible exact HW | with_reducible exact HP0 | with_reducible exact HP1 | with_reducible exact HQ0 | with_reducible exact HQ1 | with_reducible exact at_new0 _ _ _ | with_reducible exact at_new1 _ _ _ _ | with_reducible exact at_newS _ _ _ _ | (with_reducible refine Bel.dr ?_) | (with_reducible refine Bel.al ?_ _) | (with_reducible refine Bel.put ?_ (by omega) _) | (with_reducible refine Nm.dr ?_) | (with_reducible refine Nm.al ?_ _) | (with_reducible refine Nm.putx ?_ ⟨.slice none 0 0, At.c0 (vs := []) ?_, not_u32⟩ _) | (with_reducible refine At.dr ?_) | (with_reducible refine At.al ?_ _) | (with_reducible refine At.put1 (v := .slice none 0 0) ?_ _) | (with_reducible refine At.far ?_ (by omega) _)))
  case rest =>
    obtain ⟨p, q, Bu, eu, Bv, ev, rfl, rfl, hp, hq, HP, HQ, nu, nv, hW⟩ := hcut
    replace HB := HB.up hW.hid
    replace H0 := H0.up hW.hid
    replace HR := HR.up hW.hid
    clear hW l0 l2 nx ny
    have hx0 := H0.c0
    have hx1 := H0.lt
    have hp_0 := HP.c0
    have hp_l := HP.lt
    have hq_0 := HQ.c0
    have hq_l := HQ.lt
    have hr_0 := HR.c0
    have hr_1 := HR.c1
    have hr_2 := HR.c2
    have hr_l := HR.lt
    have hr_f0 := HR.f0
    have hr_f1 := HR.f1
    have hr_f2 := HR.f2
    go_wp2_with fail
    refine bodyPost_ret (v := .tuple #[.agg #[.bool false, .slice Bu (dl u) eu, .slice Bv (dl v) ev], .bool true]) (by simp [results, Tryd.results42, go_sem, hr_0, hr_1, hr_2]) rfl ?_
    obtain ⟨g1, g2, g3⟩ := HX.out
    refine ⟨Bu, eu, Bv, ev, by rw [g1, g2], ⟨by rw [g1]; exact nu.putq HR _ _ _ _ _ _ _, ?_⟩, by rw [g2]; exact nv.putq HR _ _ _ _ _ _ _, (HB.put3 (by omega) _ _ _).hid⟩
    unfold Hid
    rw [zi_false]
    omega
set_option maxHeartbeats 4000000 in
theorem sig_zero {v : Nat} (hv : v = 0) (hm : 1 ≤ m ∧ m ≤ 7) (hd : 1 ≤ sc ∧ sc ≤ 40) (hS : ∀ W', Bel W W' → Calls Tryd.prog 48 #[.agg #[.bool b, .slice A n c, .slice A' n' c']] W' (IntPost W' 0)) : Calls Tryd.prog 38 #[.agg #[.bool b, .slice A n c, .slice A' n' c'], .int .i64 sc, .int .i64 m] W (ToR W false v (sc - 1)) := by
  have CM : Hid (∀ W', Calls Tryd.prog 83 #[.int .i64 m] W' (RetB W' true)) := fun W' => by
    have h1 := mode_h (W := W') (m := m)
    rwa [decide_eq_true hm] at h1
  have g1 : decide (sc < 1) = false := decide_eq_false (by omega)
  have g1' : ¬ (sc < 1) := by omega
  have g2 : decide (40 < sc) = false := decide_eq_false (by omega)
  have g2' : ¬ (40 < sc) := by omega
  have k1 : IntKind.i64.wrap (sc - 1) = sc - 1 := IntWalk.i64_in _ (by omega)
  have k2 : wrap64 (sc - 1) = sc - 1 := IntWalk.wrap64_in _ (by omega)
  have CS := hide hS
  have hz : dl v = 0 := by rw [hv]; unfold dl; rw [digs_zero]; rfl
  have HZ := hide hz
  have HV := hide hv
  clear hm hd hS hz hv
  have HB := Bel.refl W
  go_enter Tryd.func38, Tryd.ntmps38
  go_wp2_with (first | (go_at_call 83; (with_reducible refine (CM.out _).mono ?_); rintro e w1 ⟨rfl, hbk⟩; replace hbk := Bel.hid hbk; (with_reducible (have H0 : At w1 W.heap.size [.bool b, .slice A n c, .slice A' n' c'] := At.up ((at_new0 _ _ _).al _) hbk; have HR : At w1 (W.heap.size + 1) [.bool false, .slice none 0 0, .int .i64 0] := At.up (at_new1 _ _ _ _) hbk; replace HB := ((HB.al _).al _).up hbk)); have h0_0 := H0.c0; have h0_1 := H0.c1; have h0_2 := H0.c2; have h0_l := H0.lt; have hr_0 := HR.c0; have hr_1 := HR.c1; have hr_2 := HR.c2; have hr_l := HR.lt; have hr_f0 := HR.f0; have hr_f1 := HR.f1; have hr_f2 := HR.f2) | (go_at_call 48; (with_reducible refine (CS.out _ HB).mono ?_); rintro e w2 ⟨rfl, hbk⟩; (with_reducible (replace HB := HB.up hbk; replace H0 := H0.up hbk; replace HR := HR.up hbk)); clear h0_0 h0_1 h0_2 h0_l hr_0 hr_1 hr_2 hr_l hr_f0 hr_f1 hr_f2; have hr_0 := HR.c0; have hr_1 := HR.c1; have hr_2 := HR.c2; have hr_l := HR.lt; have hr_f0 := HR.f0; have hr_f1 := HR.f1; have hr_f2 := HR.f2) | fail)
  refine bodyPost_ret (v := .tuple #[.agg #[.bool false, .slice none 0 0, .int .i64 (sc - 1)], .int .i64 0]) (by simp [results, Tryd.results38, go_sem, hr_0, hr_1, hr_2]) rfl ?_
  exact ⟨none, 0, by rw [HZ.out], by rw [HZ.out, HV.out]; exact nm_nil _ _ _, (HB.uput3 (by omega) _ _ _).hid⟩
set_option maxHeartbeats 4000000 in
theorem sig_size {u : Int} (hm : 1 ≤ m ∧ m ≤ 7) (hd : 1 ≤ sc ∧ sc ≤ 40) (hS : ∀ W', Bel W W' → Calls Tryd.prog 48 #[.agg #[.bool b, .slice A n c, .slice A' n' c']] W' (IntPost W' u)) (hu : u ≠ 0)
    (hE : ∀ W', Bel W W' → Calls Tryd.prog 86 #[.agg #[.bool b, .slice A n c, .slice A' n' c']] W' (IntPost W' e)) (be : -1000000 ≤ e ∧ e ≤ 1000000) (h60 : 60 < sc - 1 - e) : Calls Tryd.prog 38 #[.agg #[.bool b, .slice A n c, .slice A' n' c'], .int .i64 sc, .int .i64 m] W (DEr W 11) := by
  obtain ⟨t, ht⟩ : ∃ t, sc - 1 - e = t := ⟨_, rfl⟩
  have CM : Hid (∀ W', Calls Tryd.prog 83 #[.int .i64 m] W' (RetB W' true)) := fun W' => by
    have h1 := mode_h (W := W') (m := m)
    rwa [decide_eq_true hm] at h1
  have g1 : decide (sc < 1) = false := decide_eq_false (by omega)
  have g1' : ¬ (sc < 1) := by omega
  have g2 : decide (40 < sc) = false := decide_eq_false (by omega)
  have g2' : ¬ (40 < sc) := by omega
  have g3 : (u == 0) = false := by simpa using hu
  have g4 : decide (60 < t) = true := decide_eq_true (by omega)
  have g4' : 60 < t := by omega
  have k1 : IntKind.i64.wrap (sc - 1) = sc - 1 := IntWalk.i64_in _ (by omega)
  have k2 : wrap64 (sc - 1) = sc - 1 := IntWalk.wrap64_in _ (by omega)
  have k3 : IntKind.i64.wrap (sc - 1 - e) = t := by rw [IntWalk.i64_in _ (by omega)]; exact ht
  have k4 : wrap64 (sc - 1 - e) = t := by rw [IntWalk.wrap64_in _ (by omega)]; exact ht
  have CS := hide hS
  have CE := hide hE
  clear hm hd hS hu hE be h60 ht
  have HB := Bel.refl W
  go_enter Tryd.func38, Tryd.ntmps38
  go_wp2_with (first | (go_at_call 83; (with_reducible refine (CM.out _).mono ?_); rintro e w1 ⟨rfl, hbk⟩; replace hbk := Bel.hid hbk; (with_reducible (have H0 : At w1 W.heap.size [.bool b, .slice A n c, .slice A' n' c'] := At.up ((at_new0 _ _ _).al _) hbk; have HR : At w1 (W.heap.size + 1) [.bool false, .slice none 0 0, .int .i64 0] := At.up (at_new1 _ _ _ _) hbk; replace HB := ((HB.al _).al _).up hbk)); have h0_0 := H0.c0; have h0_1 := H0.c1; have h0_2 := H0.c2; have h0_l := H0.lt; have hr_0 := HR.c0; have hr_1 := HR.c1; have hr_2 := HR.c2; have hr_l := HR.lt; have hr_f0 := HR.f0; have hr_f1 := HR.f1; have hr_f2 := HR.f2) | (go_at_call 48; (with_reducible refine (CS.out _ HB).mono ?_); rintro e w2 ⟨rfl, hbk⟩; (with_reducible (replace HB := HB.up hbk; replace H0 := H0.up hbk; replace HR := HR.up hbk)); clear h0_0 h0_1 h0_2 h0_l hr_0 hr_1 hr_2 hr_l hr_f0 hr_f1 hr_f2; have h0_0 := H0.c0; have h0_1 := H0.c1; have h0_2 := H0.c2; have h0_l := H0.lt; have hr_0 := HR.c0; have hr_1 := HR.c1; have hr_2 := HR.c2; have hr_l := HR.lt; have hr_f0 := HR.f0; have hr_f1 := HR.f1; have hr_f2 := HR.f2) | (go_at_call 86; (with_reducible refine (CE.out _ HB).mono ?_); rintro e w3 ⟨rfl, hbk⟩; (with_reducible (replace HB := HB.up hbk; replace H0 := H0.up hbk; replace HR := HR.up hbk)); clear h0_0 h0_1 h0_2 h0_l hr_0 hr_1 hr_2 hr_l hr_f0 hr_f1 hr_f2; have hr_0 := HR.c0; have hr_1 := HR.c1; have hr_2 := HR.c2; have hr_l := HR.lt; have hr_f0 := HR.f0; have hr_f1 := HR.f1; have hr_f2 := HR.f2) | fail)
  refine bodyPost_ret (v := .tuple #[.agg #[.bool false, .slice none 0 0, .int .i64 0], .int .i64 11]) (by simp [results, Tryd.results38, go_sem, hr_0, hr_1, hr_2]) rfl ?_
  exact ⟨rfl, (HB.uput3 (by omega) _ _ _).hid⟩
set_option maxHeartbeats 4000000 in
theorem step_none (hm : 1 ≤ m ∧ m ≤ 7) : Calls Tryd.prog 39 #[.agg #[.bool b, .slice A n c, .slice A' n' c'], .agg #[.bool false, .slice none 0 0, .int .i64 0], .int .i64 m] W (DEr W 1) := by
  have CM : Hid (∀ W', Calls Tryd.prog 83 #[.int .i64 m] W' (RetB W' true)) := fun W' => by
    have h1 := mode_h (W := W') (m := m)
    rwa [decide_eq_true hm] at h1
  have CG : Hid (∀ W', Calls Tryd.prog 88 #[.agg #[.bool false, .slice none 0 0, .int .i64 0]] W' (RetB W' true)) := fun W' => (dx_zero W').gd W' (Bel.refl _)
  have CC : Hid (∀ W', Calls Tryd.prog 76 #[.agg #[.slice none 0 0], .agg #[.slice none 0 0]] W' (IntPost W' 0)) := fun W' => cmp_h (nm_nil W' none 0) (nm_nil W' none 0) (cmpI_eq rfl)
  clear hm
  have HB := Bel.refl W
  go_enter Tryd.func39, Tryd.ntmps39
  go_wp2_with (first | (go_at_call 83; (with_reducible refine (CM.out _).mono ?_); rintro e w1 ⟨rfl, hbk⟩; replace hbk := Bel.hid hbk; (with_reducible (have H1 : At w1 (W.heap.size + 1) [.bool false, .slice none 0 0, .int .i64 0] := At.up ((at_new1 _ _ _ _).al _) hbk; have HR : At w1 (W.heap.size + 1 + 1) [.bool false, .slice none 0 0, .int .i64 0] := At.up (at_new2 _ _ _ _ _) hbk; replace HB := (((HB.al _).al _).al _).up hbk)); have h1_0 := H1.c0; have h1_1 := H1.c1; have h1_2 := H1.c2; have h1_l := H1.lt) | (go_at_call 88; (with_reducible refine (CG.out _).mono ?_); rintro e w2 ⟨rfl, hbk⟩; replace hbk := Bel.hid hbk; (with_reducible (replace HB := HB.up hbk; replace H1 := H1.up hbk; replace HR := HR.up hbk)); clear h1_0 h1_1 h1_2 h1_l; have h1_0 := H1.c0; have h1_1 := H1.c1; have h1_2 := H1.c2; have h1_l := H1.lt) | (go_at_call 76; (with_reducible refine (CC.out _).mono ?_); rintro e w3 ⟨rfl, hbk⟩; (with_reducible (replace HB := HB.up hbk; replace H1 := H1.up hbk; replace HR := HR.up hbk)); clear h1_0 h1_1 h1_2 h1_l; have hr_0 := HR.c0; have hr_1 := HR.c1; have hr_2 := HR.c2; have hr_l := HR.lt; have hr_f0 := HR.f0; have hr_f1 := HR.f1; have hr_f2 := HR.f2) | fail)
  refine bodyPost_ret (v := .tuple #[.agg #[.bool false, .slice none 0 0, .int .i64 0], .int .i64 1]) (by simp [results, Tryd.results39, go_sem, hr_0, hr_1, hr_2]) rfl ?_
  exact ⟨rfl, (HB.uput3 (by omega) _ _ _).hid⟩
set_option maxHeartbeats 4000000 in
theorem int_none : Calls Tryd.prog 41 #[.agg #[.bool b, .slice A n c, .slice A' n' c'], .int .i64 0] W (fun e w' => e = .returned (.tuple #[.agg #[.bool false, .slice none 0 0], .int .i64 1]) ∧ Hid (Below W.heap.size W w')) := by
  have CM : Hid (∀ W', Calls Tryd.prog 83 #[.int .i64 0] W' (RetB W' false)) := fun W' => mode_h (m := 0)
  have HB := Bel.refl W
  go_enter Tryd.func41, Tryd.ntmps41
  go_wp2_with (first | (go_at_call 83; (with_reducible refine (CM.out _).mono ?_); rintro e w1 ⟨rfl, hbk⟩; replace hbk := Bel.hid hbk; (with_reducible (have HR : At w1 (W.heap.size + 1) [.bool false, .slice none 0 0] := At.up (at_new1 _ _ _ _) hbk; replace HB := ((HB.al _).al _).up hbk)); have hr_0 := HR.c0; have hr_1 := HR.c1; have hr_l := HR.lt; have hr_f0 := HR.f0; have hr_f1 := HR.f1) | fail)
  refine bodyPost_ret (v := .tuple #[.agg #[.bool false, .slice none 0 0], .int .i64 1]) (by simp [results, Tryd.results41, go_sem, hr_0, hr_1]) rfl ?_
  exact ⟨rfl, (HB.put2 (by omega) _ _).hid⟩
theorem text5_h {S : ByteArray} (h : ∀ W', Bel W W' → Calls Tryd.prog 82 #[.agg #[.bool b, .slice A n c, .int .i64 sc]] W' (UStr W' S)) : Calls Tryd.prog 35 #[.agg #[.bool b, .slice A n c, .int .i64 sc], .int .i64 0] W (UStr W S) := by
  have CX := hide h
  clear h
  have HB := Bel.refl W
  go_enter Tryd.func35, Tryd.ntmps35
  go_wp2_with (first | (go_at_call 82; (with_reducible refine (CX.out _ (HB.al _)).mono ?_); rintro e w1 ⟨rfl, hbk⟩; replace HB := (HB.al _).up hbk) | fail)
  go_ret
  exact ⟨rfl, HB⟩
end
end Go.Proofs.YteahcbeohopdlaaDoor
end

section
/- RoundKnown: its calls. No conditions. -/
open Go.RowKit
set_option maxRecDepth 100000
namespace Go.Proofs.YteahcbeohopdlaaDoor
theorem getl {a : Nat} {l : List Nat} (h : l.getLast? = some a) (h0 : a ≠ 0) : ∀ x, l.getLast? = some x → x ≠ 0 := fun x hx => by rw [h] at hx; injection hx with hx; rw [← hx]; exact h0
def xm : Rat := mkRat (-5) 2
def x7 : Rat := mkRat 7 1
def x0_ : Rat := mkRat 0 1
def xA : Rat := mkRat 1234567 1
def xB : Rat := mkRat 12345 100000
def xC : Rat := mkRat 9996 1000
def xD : Rat := mkRat 13 10
def x1_ : Rat := mkRat 1 1
def xE : Rat := mkRat 1 10
def tiny : Rat := xE ^ 70
theorem xm_num : xm.num = -5 := by decide +kernel
theorem xm_den : xm.den = 2 := by decide +kernel
theorem xm_bd : Bd xm 1 := bd_lit (a := 5) (b := 2) (by rw [xm_num]; rfl) xm_den (by decide) (by decide)
theorem x7_num : x7.num = 7 := by decide +kernel
theorem x7_den : x7.den = 1 := by decide +kernel
theorem x7_bd : Bd x7 1 := bd_lit (a := 7) (b := 1) (by rw [x7_num]; rfl) x7_den (by decide) (by decide)
theorem x0__num : x0_.num = 0 := by decide +kernel
theorem x0__den : x0_.den = 1 := by decide +kernel
theorem x0__bd : Bd x0_ 1 := bd_lit (a := 0) (b := 1) (by rw [x0__num]; rfl) x0__den (by decide) (by decide)
theorem xA_num : xA.num = 1234567 := by decide +kernel
theorem xA_den : xA.den = 1 := by decide +kernel
theorem xA_bd : Bd xA 1 := bd_lit (a := 1234567) (b := 1) (by rw [xA_num]; rfl) xA_den (by decide) (by decide)
theorem xB_num : xB.num = 2469 := by decide +kernel
theorem xB_den : xB.den = 20000 := by decide +kernel
theorem xB_bd : Bd xB 1 := bd_lit (a := 2469) (b := 20000) (by rw [xB_num]; rfl) xB_den (by decide) (by decide)
theorem xC_num : xC.num = 2499 := by decide +kernel
theorem xC_den : xC.den = 250 := by decide +kernel
theorem xC_bd : Bd xC 1 := bd_lit (a := 2499) (b := 250) (by rw [xC_num]; rfl) xC_den (by decide) (by decide)
theorem xD_num : xD.num = 13 := by decide +kernel
theorem xD_den : xD.den = 10 := by decide +kernel
theorem xD_bd : Bd xD 1 := bd_lit (a := 13) (b := 10) (by rw [xD_num]; rfl) xD_den (by decide) (by decide)
theorem x1__num : x1_.num = 1 := by decide +kernel
theorem x1__den : x1_.den = 1 := by decide +kernel
theorem x1__bd : Bd x1_ 1 := bd_lit (a := 1) (b := 1) (by rw [x1__num]; rfl) x1__den (by decide) (by decide)
theorem xE_num : xE.num = 1 := by decide +kernel
theorem xE_den : xE.den = 10 := by decide +kernel
theorem xE_bd : Bd xE 1 := bd_lit (a := 1) (b := 10) (by rw [xE_num]; rfl) xE_den (by decide) (by decide)
theorem dk_3 : decL 3 = [51] := decL_lit (ds := [3]) (by decide) (getl (a := 3) rfl (by decide)) rfl (by decide) (by decide)
theorem dk_1230000 : decL 1230000 = [49, 50, 51, 48, 48, 48, 48] := decL_lit (ds := [0, 0, 0, 0, 3, 2, 1]) (by decide) (getl (a := 1) rfl (by decide)) rfl (by decide) (by decide)
theorem dk_1234567 : decL 1234567 = [49, 50, 51, 52, 53, 54, 55] := decL_lit (ds := [7, 6, 5, 4, 3, 2, 1]) (by decide) (getl (a := 1) rfl (by decide)) rfl (by decide) (by decide)
theorem dk_2469 : decL 2469 = [50, 52, 54, 57] := decL_lit (ds := [9, 6, 4, 2]) (by decide) (getl (a := 2) rfl (by decide)) rfl (by decide) (by decide)
theorem dk_20000 : decL 20000 = [50, 48, 48, 48, 48] := decL_lit (ds := [0, 0, 0, 0, 2]) (by decide) (getl (a := 2) rfl (by decide)) rfl (by decide) (by decide)
theorem dk_2499 : decL 2499 = [50, 52, 57, 57] := decL_lit (ds := [9, 9, 4, 2]) (by decide) (getl (a := 2) rfl (by decide)) rfl (by decide) (by decide)
theorem dk_250 : decL 250 = [50, 53, 48] := decL_lit (ds := [0, 5, 2]) (by decide) (getl (a := 2) rfl (by decide)) rfl (by decide) (by decide)
theorem dk_1 : decL 1 = [49] := decL_lit (ds := [1]) (by decide) (getl (a := 1) rfl (by decide)) rfl (by decide) (by decide)
theorem dk_7 : decL 7 = [55] := decL_lit (ds := [7]) (by decide) (getl (a := 7) rfl (by decide)) rfl (by decide) (by decide)
theorem dk_100 : decL 100 = [49, 48, 48] := decL_lit (ds := [0, 0, 1]) (by decide) (getl (a := 1) rfl (by decide)) rfl (by decide) (by decide)
theorem dk_0 : decL 0 = [48] := by decide
theorem dk_10_70 : (decL (10 ^ 70)).length = 71 := by
  rw [decL_lit (m := 10 ^ 70) (ds := List.replicate 70 0 ++ [1]) (l := 49 :: List.replicate 70 48) (by decide) (getl (a := 1) (by decide) (by decide)) (by decide +kernel) (by decide) (by decide)]
  rfl
theorem decd_t (m s : Nat) (h : s ≠ 0) {l p : List UInt8} (h1 : decL (m / 10 ^ s) = l) (h2 : partL m s = p) : decD false m s = l ++ 46 :: p := by
  unfold decD
  rw [if_neg (by decide), if_neg h, h1, h2, List.nil_append]
theorem part_lit {m s : Nat} {l : List UInt8} (h : decL (10 ^ s + m % 10 ^ s) = 49 :: l) : partL m s = l := by unfold partL; rw [h]; rfl
theorem pt_700 : partL 700 2 = [48, 48] := part_lit (decL_lit (m := 100) (ds := [0, 0, 1]) (by decide) (getl (a := 1) rfl (by decide)) rfl (by decide) (by decide))
theorem pt_0 : partL 0 2 = [48, 48] := part_lit (decL_lit (m := 100) (ds := [0, 0, 1]) (by decide) (getl (a := 1) rfl (by decide)) rfl (by decide) (by decide))
theorem pt_12 : partL 12 2 = [49, 50] := part_lit (decL_lit (m := 112) (ds := [2, 1, 1]) (by decide) (getl (a := 1) rfl (by decide)) rfl (by decide) (by decide))
theorem pt_100 : partL 100 1 = [48] := part_lit (decL_lit (m := 10) (ds := [0, 1]) (by decide) (getl (a := 1) rfl (by decide)) rfl (by decide) (by decide))
theorem pt_125 : partL 125 2 = [50, 53] := part_lit (decL_lit (m := 125) (ds := [5, 2, 1]) (by decide) (getl (a := 1) rfl (by decide)) rfl (by decide) (by decide))
theorem tx_0_2 : decD false 0 2 = [48, 46, 48, 48] := decd_t 0 2 (by decide) dk_0 pt_0
theorem tx_700_2 : decD false 700 2 = [55, 46, 48, 48] := decd_t 700 2 (by decide) dk_7 pt_700
theorem tx_12_2 : decD false 12 2 = [48, 46, 49, 50] := decd_t 12 2 (by decide) dk_0 pt_12
theorem tx_100_1 : decD false 100 1 = [49, 48, 46, 48] := decd_t 100 1 (by decide) dec_10 pt_100
theorem tx_125_2 : decD false 125 2 = [49, 46, 50, 53] := decd_t 125 2 (by decide) dk_1 pt_125
theorem decd_m (m : Nat) : decD true m 0 = 45 :: decL m := by
  unfold decD
  rw [if_pos rfl, if_pos rfl]
  simp
section
variable {W : World} {A A' : Option Addr} {c c' : Nat}
theorem dl_lt {v : Nat} (h : v < 4294967296) : dl v ≤ 99999 := Nat.le_trans (dl_le (k := 1) (by rw [Nat.pow_one]; exact h)) (by decide)
theorem tx_h {sg : Bool} {v s : Nat} {B : Option Addr} {e : Nat} {S : ByteArray} (h : Nm W B (dl v) e v) (hs : s ≤ 60) (hn : sg = true → 0 < v) (hv : v < 4294967296) (ht : S.data.toList = decD sg v s) : Calls Tryd.prog 35 #[.agg #[.bool sg, .slice B (dl v) e, .int .i64 (s : Int)], .int .i64 0] W (UStr W S) :=
  text5_h fun W' hw => (dtext_h (dx_can (b := sg) (s := s) (h.up hw.hid) hs hn).y (dl_lt hv)).mono fun _ _ h1 => ustr_of h1 ht
theorem over_k {p : Int} {q : Nat} {r : Rat} {sg : Bool} (hp : -9223372036854775808 ≤ p ∧ p ≤ 9223372036854775807) (hq : q ≤ 18446744073709551615) (h0 : 0 < q) (hr : mkRat p q = r) (hs : decide (r.num < 0) = sg) : Calls Tryd.prog 37 #[.int .i64 p, .int .u64 (q : Int)] W (QRw W sg r) := over_h hp hq h0 hr hs
/-- Sig of a fraction greater than 0, by its exponent. -/
theorem sig_any {r pw : Rat} {dg sc : Int} {um : Nat} {us us' : Int} {v v' L1 L2 K : Nat} {e0 e : Int} (nz : ZA W false A (dl r.num.natAbs) c r.num) (nd : Nm W A' (dl r.den) c' r.den) (br : Bd r K) (hK : 0 < K) (hK2 : K ≤ 6000) (hs : r.num.sign = 1)
    (l1 : (decL r.num.natAbs).length = L1) (l2 : (decL r.den).length = L2) (he0 : (L1 : Int) - (L2 : Int) = e0) (b1 : L1 ≤ 100000) (b2 : L2 ≤ 100000)
    (hp : ∀ W' B f B' f', ZA W' false B (dl ten_.num.natAbs) f ten_.num → Nm W' B' (dl ten_.den) f' ten_.den → Calls Tryd.prog 42 #[.agg #[.bool false, .slice B (dl ten_.num.natAbs) f, .slice B' (dl ten_.den) f'], .int .i64 e0] W' (OfYw W' false pw)) (bp : Bd pw K)
    (he : (if cmpR (mkRat (r.num.natAbs : Int) r.den) pw < 0 then e0 - 1 else e0) = e) (be : -1000000 ≤ e ∧ e ≤ 1000000) (hdg : 1 ≤ dg ∧ dg ≤ 40) (hsc : dg - 1 - e = sc) (h60 : sc ≤ 60)
    (hU : ∀ W', Calls Tryd.prog 85 #[.int .i64 sc] W' (DvR W' false um us))
    (hM : ∀ W' B f, Bel W W' → Nm W' B (dl um) f um → Calls Tryd.prog 84 #[.agg #[.bool false, .slice A (dl r.num.natAbs) c, .slice A' (dl r.den) c'], .agg #[.bool false, .slice B (dl um) f, .int .i64 us], .int .i64 6] W' (DvR W' false v us))
    (hL : ∀ W' B f, Nm W' B (dl v) f v → Calls Tryd.prog 87 #[.agg #[.bool false, .slice B (dl v) f, .int .i64 us], .int .i64 dg] W' (DvR W' false v' us')) :
    Calls Tryd.prog 38 #[.agg #[.bool false, .slice A (dl r.num.natAbs) c, .slice A' (dl r.den) c'], .int .i64 dg, .int .i64 6] W (ToR W false v' us') :=
  sig_walk (m := 6) (dg := dg) (e := e) (sc := sc) (u := 1) (um := um) (us := us) (v := v) (sg := false) (by decide) hdg (fun W' hw => rsign_h (qa_self (nz.up hw.hid) (nd.up hw.hid) br) hK hs) (by decide) (fun W' hw => by
    have h1 := expo_h (W := W') (tn := ten_) (pw := pw) (e := e0) rfl (nz.up hw.hid) (nd.up hw.hid) r.den_pos l1 l2 he0 b1 b2 hp br.1 br.2 bp hK (by omega)
    rwa [he] at h1) be hsc h60 hU hM hL
theorem pow_pos_ {k : Nat} (hk : k ≤ 100) (W' : World) (B : Option Addr) (f : Nat) (B' : Option Addr) (f' : Nat) (h2 : ZA W' false B (dl ten_.num.natAbs) f ten_.num) (h3 : Nm W' B' (dl ten_.den) f' ten_.den) : Calls Tryd.prog 42 #[.agg #[.bool false, .slice B (dl ten_.num.natAbs) f, .slice B' (dl ten_.den) f'], .int .i64 (k : Int)] W' (OfYw W' false (ten_ ^ k)) := rpow_p (qa_self h2 h3 ten_bd) (by decide +kernel) ten_bd (by decide) (by decide) (by omega)
theorem teni_bd : Bd ten_⁻¹ 1 := bd_lit (a := 1) (b := 10) (by decide +kernel) (by decide +kernel) (by decide) (by decide)
theorem pow_neg_ {k : Nat} {i : Int} (hi : -(k : Int) = i) (h0 : 0 < k) (hk : k ≤ 100) (W' : World) (B : Option Addr) (f : Nat) (B' : Option Addr) (f' : Nat) (h2 : ZA W' false B (dl ten_.num.natAbs) f ten_.num) (h3 : Nm W' B' (dl ten_.den) f' ten_.den) : Calls Tryd.prog 42 #[.agg #[.bool false, .slice B (dl ten_.num.natAbs) f, .slice B' (dl ten_.den) f'], .int .i64 i] W' (OfYw W' false (ten_⁻¹ ^ k)) := rpow_n hi h0 (qa_self h2 h3 ten_bd) (by decide +kernel) ten_bd teni_bd (by decide) (by decide) (by omega)
theorem bdk {r : Rat} {a b K : Nat} (ha : r.num.natAbs = a) (hb : r.den = b) (h1 : a < W32 ^ K) (h2 : b < W32 ^ K) : Bd r K := ⟨by rw [ha]; exact h1, by rw [hb]; exact h2⟩
theorem sigA {A A' : Option Addr} {c c' : Nat} (nz : ZA W false A (dl xA.num.natAbs) c xA.num) (nd : Nm W A' (dl xA.den) c' xA.den) : Calls Tryd.prog 38 #[.agg #[.bool false, .slice A (dl xA.num.natAbs) c, .slice A' (dl xA.den) c'], .int .i64 3, .int .i64 6] W (ToR W false 1230000 0) := by
  refine sig_any (pw := (ten_ ^ 6)) (dg := 3) (sc := -4) (um := 10 ^ 4) (us := 0) (v := 1230000) (L1 := 7) (L2 := 1) (K := 2) (e0 := 6) (e := 6) nz nd (xA_bd.more (by decide)) (by decide) (by decide) (by rw [xA_num]; rfl) (by rw [xA_num, show (1234567 : Int).natAbs = 1234567 from rfl, dk_1234567]; rfl) (by rw [xA_den, dk_1]; rfl) (by decide) (by decide) (by decide) (fun W' B f B' f' => pow_pos_ (k := 6) (by decide) W' B f B' f') (bdk (a := 1000000) (b := 1) (by decide +kernel) (by decide +kernel) (by decide) (by decide)) (by rw [xA_num, xA_den]; decide +kernel) (by decide) (by decide) (by decide) (by decide) ?_ ?_ ?_
  · intro W'
    exact unit_n (k := 4) (i := -4) (by decide) rfl (by decide)
  · intro W' B f hw hn
    have h1 := multiple_h (W := W') (b' := false) (s := 0) (m := 6) (K := 2) (qa_self (nz.up hw.hid) (nd.up hw.hid) (xA_bd.more (by decide))) hn (show 10 ^ 4 < W32 ^ 2 by decide) (by decide) (by decide) (by decide) (by decide)
    rw [show rdR 6 (xA * mkRat (10 ^ 0 : Nat) (10 ^ 4)) = 123 by decide +kernel] at h1
    exact h1
  · intro W' B f hn
    exact (limit_0 hn).mono fun _ _ ⟨h1, h2, h3⟩ => ⟨B, f, h1, h2, h3⟩
theorem sigB {A A' : Option Addr} {c c' : Nat} (nz : ZA W false A (dl xB.num.natAbs) c xB.num) (nd : Nm W A' (dl xB.den) c' xB.den) : Calls Tryd.prog 38 #[.agg #[.bool false, .slice A (dl xB.num.natAbs) c, .slice A' (dl xB.den) c'], .int .i64 2, .int .i64 6] W (ToR W false 12 2) := by
  refine sig_any (pw := (ten_⁻¹ ^ 1)) (dg := 2) (sc := 2) (um := 1) (us := 2) (v := 12) (L1 := 4) (L2 := 5) (K := 2) (e0 := -1) (e := -1) nz nd (xB_bd.more (by decide)) (by decide) (by decide) (by rw [xB_num]; rfl) (by rw [xB_num, show (2469 : Int).natAbs = 2469 from rfl, dk_2469]; rfl) (by rw [xB_den, dk_20000]; rfl) (by decide) (by decide) (by decide) (fun W' B f B' f' => pow_neg_ (k := 1) rfl (by decide) (by decide) W' B f B' f') (bdk (a := 1) (b := 10) (by decide +kernel) (by decide +kernel) (by decide) (by decide)) (by rw [xB_num, xB_den]; decide +kernel) (by decide) (by decide) (by decide) (by decide) ?_ ?_ ?_
  · intro W'
    exact unit_p (s := 2) (by decide)
  · intro W' B f hw hn
    have h1 := multiple_h (W := W') (b' := false) (s := 2) (m := 6) (K := 2) (qa_self (nz.up hw.hid) (nd.up hw.hid) (xB_bd.more (by decide))) hn (show 1 < W32 ^ 2 by decide) (by decide) (by decide) (by decide) (by decide)
    rw [show rdR 6 (xB * mkRat (10 ^ 2 : Nat) (1)) = 12 by decide +kernel] at h1
    exact h1
  · intro W' B f hn
    exact (limit_lt (s := 2) (k := 2) hn (by decide) (by decide) (by decide)).mono fun _ _ ⟨h1, h2, h3⟩ => ⟨B, f, h1, h2, h3⟩
theorem sigC {A A' : Option Addr} {c c' : Nat} (nz : ZA W false A (dl xC.num.natAbs) c xC.num) (nd : Nm W A' (dl xC.den) c' xC.den) : Calls Tryd.prog 38 #[.agg #[.bool false, .slice A (dl xC.num.natAbs) c, .slice A' (dl xC.den) c'], .int .i64 3, .int .i64 6] W (ToR W false 100 1) := by
  refine sig_any (pw := (ten_ ^ 1)) (dg := 3) (sc := 2) (um := 1) (us := 2) (v := 1000) (L1 := 4) (L2 := 3) (K := 2) (e0 := 1) (e := 0) nz nd (xC_bd.more (by decide)) (by decide) (by decide) (by rw [xC_num]; rfl) (by rw [xC_num, show (2499 : Int).natAbs = 2499 from rfl, dk_2499]; rfl) (by rw [xC_den, dk_250]; rfl) (by decide) (by decide) (by decide) (fun W' B f B' f' => pow_pos_ (k := 1) (by decide) W' B f B' f') (bdk (a := 10) (b := 1) (by decide +kernel) (by decide +kernel) (by decide) (by decide)) (by rw [xC_num, xC_den]; decide +kernel) (by decide) (by decide) (by decide) (by decide) ?_ ?_ ?_
  · intro W'
    exact unit_p (s := 2) (by decide)
  · intro W' B f hw hn
    have h1 := multiple_h (W := W') (b' := false) (s := 2) (m := 6) (K := 2) (qa_self (nz.up hw.hid) (nd.up hw.hid) (xC_bd.more (by decide))) hn (show 1 < W32 ^ 2 by decide) (by decide) (by decide) (by decide) (by decide)
    rw [show rdR 6 (xC * mkRat (10 ^ 2 : Nat) (1)) = 1000 by decide +kernel] at h1
    exact h1
  · intro W' B f hn
    exact limit_ge (s := 2) (k := 3) hn (by decide) (by decide) (by decide) (by decide) (dl_lt (by decide))
theorem sig0 {A A' : Option Addr} {c c' : Nat} (nz : ZA W false A (dl x0_.num.natAbs) c x0_.num) (nd : Nm W A' (dl x0_.den) c' x0_.den) : Calls Tryd.prog 38 #[.agg #[.bool false, .slice A (dl x0_.num.natAbs) c, .slice A' (dl x0_.den) c'], .int .i64 3, .int .i64 6] W (ToR W false 0 2) :=
  sig_zero (sc := 3) (m := 6) rfl (by decide) (by decide) (fun W' hw => rsign_h (K := 1) (qa_self (nz.up hw.hid) (nd.up hw.hid) x0__bd) (by decide) (by rw [x0__num]; rfl))
theorem tiny_num : tiny.num = 1 := by decide +kernel
theorem tiny_den : tiny.den = 10 ^ 70 := by decide +kernel
theorem tiny_bd : Bd tiny 8 := bdk (a := 1) (b := 10 ^ 70) (by rw [tiny_num]; rfl) tiny_den (by decide) (by decide)
theorem sigT {A A' : Option Addr} {c c' : Nat} (nz : ZA W false A (dl tiny.num.natAbs) c tiny.num) (nd : Nm W A' (dl tiny.den) c' tiny.den) : Calls Tryd.prog 38 #[.agg #[.bool false, .slice A (dl tiny.num.natAbs) c, .slice A' (dl tiny.den) c'], .int .i64 1, .int .i64 6] W (DEr W 11) :=
  sig_size (sc := 1) (m := 6) (e := -70) (u := 1) (by decide) (by decide) (fun W' hw => rsign_h (K := 8) (qa_self (nz.up hw.hid) (nd.up hw.hid) tiny_bd) (by decide) (by rw [tiny_num]; rfl)) (by decide) (fun W' hw => by
    have h1 := expo_h (W := W') (tn := ten_) (pw := ten_⁻¹ ^ 70) (e := -70) (K := 8) (L1 := 1) (L2 := 71) rfl (nz.up hw.hid) (nd.up hw.hid) tiny.den_pos (by rw [tiny_num, show (1 : Int).natAbs = 1 from rfl, dk_1]; rfl) (by rw [tiny_den]; exact dk_10_70) (by decide) (by decide) (by decide) (fun W' B f B' f' => pow_neg_ (k := 70) rfl (by decide) (by decide) W' B f B' f') tiny_bd.1 tiny_bd.2 (bdk (a := 1) (b := 10 ^ 70) (by decide +kernel) (by decide +kernel) (by decide) (by decide)) (by decide) (by decide)
    rwa [if_neg (by rw [tiny_num, tiny_den]; decide +kernel)] at h1) (by decide) (by decide)
end
end Go.Proofs.YteahcbeohopdlaaDoor
end
