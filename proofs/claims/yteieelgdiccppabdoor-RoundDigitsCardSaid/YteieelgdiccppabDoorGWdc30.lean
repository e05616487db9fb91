/- Several texts in one, each with its own sentence and conditions. -/
import Derived.Test.YteieelgdiccppabDoorGWdc29
import Derived.Test.YteieelgdiccppabDoorGWdc28
section
/- Package rat: Pow of a negative power of what is greater than 0. Package round: Sig of nought, Sig too small, Step of nought, Int of no mode. The statements' text. Conditions: see there. -/
open Go.RowKit
set_option maxRecDepth 100000
namespace Go.Proofs.YteieelgdiccppabDoor
theorem wp_named {P : Program} {c : Code} {Q : Exit → Act → World → Prop} {a : Act} {X : World} (h : ∀ W', W' = X → Code.wp P c Q a W') : Code.wp P c Q a X := h X rfl
section
variable {W : World} {b b' sg : Bool} {A A' A2 : Option Addr} {n n' n2 c c' c2 m2 s K q d : Nat} {m z e sc : Int} {r pw : Rat}
set_option maxHeartbeats 8000000 in
theorem qpower_n {k : Nat} {i : Int} (h : Nm W A n c q) (hi : -(k : Int) = i) (h0 : 0 < k) (hk : k ≤ 1000000) (hb : ∀ i, i ≤ k → dl (q ^ i) ≤ 100000) : Calls Tryd.prog 77 #[.agg #[.slice A n c], .int .i64 i] W (NumR W (q ^ k)) := by
  obtain ⟨j, rfl⟩ : ∃ j, k = j + 1 := ⟨k - 1, by omega⟩
  obtain ⟨u, hu⟩ : ∃ u, q ^ j = u := ⟨_, rfl⟩
  obtain ⟨v, hv⟩ : ∃ v, q ^ (j + 1) = v := ⟨_, rfl⟩
  have CP : Hid (∀ W', Bel W W' → Calls Tryd.prog 66 #[.agg #[.slice A n c], .int .i64 (j : Int)] W' (NumR W' u)) := fun W' hw => pow_h (h.up hw.hid) (by omega) (fun i hi => hb i (by omega)) hu
  have CM : Hid (∀ W' B e, Bel W W' → Nm W' B (dl u) e u → Calls Tryd.prog 46 #[.agg #[.slice B (dl u) e], .agg #[.slice A n c]] W' (NumR W' v)) := fun W' B e hw hn => mul_h hn (h.up hw.hid) (by rw [← hu, ← hv, Nat.pow_succ]) (by rw [← hv]; exact hb _ (Nat.le_refl _))
  have g1 : decide (i < 0) = true := decide_eq_true (by omega)
  have g1' : i < 0 := by omega
  have w1 : IntKind.i64.wrap (i + 1) = i + 1 := IntWalk.i64_in _ (by omega)
  have w2 : wrap64 (i + 1) = i + 1 := IntWalk.wrap64_in _ (by omega)
  have w3 : -(i + 1) = (j : Int) := by omega
  have w4 : wrap64 (j : Int) = (j : Int) := IntWalk.wrap64_in _ (by omega)
  have w5 : IntKind.i64.wrap (j : Int) = (j : Int) := IntWalk.i64_in _ (by omega)
  rw [hv]
  clear hu hv h hb hk hi h0
  have HB := Bel.refl W
  go_enter Tryd.func77, Tryd.ntmps77
  go_wp2_with fail
  obtain ⟨W1, hW1⟩ : ∃ X, X = (W.alloc (.cells #[.slice A n c] 24)).alloc (.cells #[.slice none 0 0] 24) := ⟨_, rfl⟩
  rw [← hW1]
  have H0 : At W1 W.heap.size [.slice A n c] := by rw [hW1]; exact (at_new0 _ _ _).al _
  have HR : At W1 (W.heap.size + 1) [.slice none 0 0] := by rw [hW1]; exact at_new1 _ _ _ _
  replace HB : Bel W W1 := by rw [hW1]; exact (HB.al _).al _
  clear hW1
  have l0 := H0.lt
  have l1 := HR.lt
  go_region_held3 (fun w' => w'.cell? ⟨W.heap.size, 0, none⟩ = some (.slice A n c))
    (refine (?_ : At _ W.heap.size [.slice A n c]).c0 <;> (repeat (first | with_reducible exact H0 | (with_reducible refine At.dr ?_) | (with_reducible refine At.al ?_ _) | (with_reducible refine At.far ?_ (by omega) _))))
    (first | (go_at_call 66; (with_reducible refine (CP.out _ HB.dr).mono ?_); rintro e w2 ⟨B2, e2, rfl, n2', hbk⟩; (with_reducible (replace HB := HB.dr.up hbk; replace H0 := H0.dr.up hbk; replace HR := HR.dr.up hbk))) | (go_at_call 46; (with_reducible refine (CM.out _ _ _ HB n2').mono ?_); rintro e w3 ⟨B3, e3, rfl, n3, hbk⟩; (with_reducible (replace HB := HB.up hbk; replace H0 := H0.up hbk; replace HR := HR.up hbk)); have hr_0 := HR.c0; have hr_l := HR.lt; have hr_f0 := HR.f0) | fail)
  go_wp2_with fail
  refine bodyPost_ret (v := .agg #[.slice B3 (dl v) e3]) (by simp [results, Tryd.results77, go_sem, hr_0]) rfl ?_
  exact ret_n HB (by omega) HR now1 n3
set_option maxHeartbeats 16000000 in
theorem rpow_n {k : Nat} {i : Int} (hi : -(k : Int) = i) (hk0 : 0 < k) (h : QA W b A n c A' n' c' r K) (h0 : 0 < r) (hb : Bd r K) (hbi : Bd r⁻¹ K) (hK0 : 0 < K) (hK2 : K ≤ 20000) (hk : K * k ≤ 90000) : Calls Tryd.prog 57 #[.agg #[.bool b, .slice A n c, .slice A' n' c'], .int .i64 i] W (OfYw W false (r⁻¹ ^ k)) := by
  have hn0 : 0 ≤ r.num := Rat.num_nonneg.2 (Rat.le_of_lt h0)
  have hi0 : 0 ≤ r⁻¹.num := by rw [Rat.num_inv]; exact Int.mul_nonneg (Int.sign_nonneg_iff.2 hn0) (by omega)
  obtain ⟨ri, hri⟩ : ∃ x : Rat, r⁻¹ = x := ⟨_, rfl⟩
  rw [hri] at hbi hi0 ⊢
  have hkk : k ≤ 1000000 := by
    have : 1 * k ≤ K * k := Nat.mul_le_mul_right k hK0
    omega
  have CT : Hid (∀ W', Bel W W' → Calls Tryd.prog 35 #[.agg #[.bool b, .slice A n c, .slice A' n' c']] W' (TermsR W' r K)) := fun W' hw => terms_h (h.up hw.hid) hK0
  have CL : Hid (∀ W' s B k e B' k' e' z d, ZA W' s B k e z → Nm W' B' k' e' d → Hid (0 < d ∧ mkRat z d = r ∧ z.natAbs < W32 ^ K ∧ d < W32 ^ K) → Calls Tryd.prog 64 #[.agg #[.bool s, .slice B k e], .agg #[.slice B' k' e']] W' (QRw W' false r)) := fun W' s B k e B' k' e' z d hz hd hp => by
    have h1 := lowest_t hz hd hp.out (by omega) (by omega)
    unfold QR at h1
    rw [decide_eq_false (show ¬ r.num < 0 by omega)] at h1
    exact h1
  have CV : Hid (∀ W' B e B' e', ZA W' false B (dl r.num.natAbs) e r.num → Nm W' B' (dl r.den) e' r.den → Calls Tryd.prog 76 #[.agg #[.bool false, .slice B (dl r.num.natAbs) e, .slice B' (dl r.den) e']] W' (OfYw W' false ri)) := fun W' B e B' e' h1 h2 => by
    have h3 := inv_yes (qa_self h1 h2 hb) hK0 hK2 (fun e0 => by rw [e0] at h0; exact absurd h0 Rat.lt_irrefl)
    unfold OfYes at h3
    rw [hri, decide_eq_false (show ¬ ri.num < 0 by omega)] at h3
    exact h3
  obtain ⟨x, hx⟩ : ∃ x : Nat, x = ri.num.natAbs := ⟨_, rfl⟩
  obtain ⟨y, hy⟩ : ∃ y : Nat, y = ri.den := ⟨_, rfl⟩
  obtain ⟨u, hu⟩ : ∃ u : Nat, x ^ k = u := ⟨_, rfl⟩
  obtain ⟨v, hv⟩ : ∃ v : Nat, y ^ k = v := ⟨_, rfl⟩
  have bx : x < W32 ^ K := by rw [hx]; exact hbi.1
  have by_ : y < W32 ^ K := by rw [hy]; exact hbi.2
  have CX : Hid (∀ W' B n e, Nm W' B n e x → Calls Tryd.prog 77 #[.agg #[.slice B n e], .int .i64 i] W' (NumR W' u)) := fun W' B n e h1 => by rw [← hu]; exact qpower_n h1 hi hk0 hkk (fun i hi => pow_bd bx hk hi)
  have CY : Hid (∀ W' B n e, Nm W' B n e y → Calls Tryd.prog 77 #[.agg #[.slice B n e], .int .i64 i] W' (NumR W' v)) := fun W' B n e h1 => by rw [← hv]; exact qpower_n h1 hi hk0 hkk (fun i hi => pow_bd by_ hk hi)
  have HX : Hid ((ri ^ k).num.natAbs = u ∧ (ri ^ k).den = v ∧ ¬ (ri ^ k).num < 0) := by
    unfold Hid
    rw [Rat.num_pow, Rat.den_pow, Int.natAbs_pow, ← hx, ← hy, hu, hv]
    refine ⟨rfl, rfl, ?_⟩
    have h9 : 0 ≤ ri.num ^ k := Int.pow_nonneg hi0
    omega
  have g1 : decide (i < 0) = true := decide_eq_true (by omega)
  have g1' : i < 0 := by omega
  have HXR := hide hx
  have HYR := hide hy
  clear hri h h0 hb hbi hK0 hK2 hk hn0 hi0 hkk hu hv bx by_ hx hy hi hk0
  have HB := Bel.refl W
  go_enter Tryd.func57, Tryd.ntmps57
  go_wp2_with (first | (go_at_call 35; (with_reducible refine (CT.out _ ((HB.al _).al _)).mono ?_); rintro e w1 ⟨s, B, k1, e1, B', k2, e2, zv, d, rfl, zp, np, hp, hbk⟩; (with_reducible (have HR : At w1 (W.heap.size + 1) [.bool false, .slice none 0 0, .slice none 0 0] := At.up (at_new1 _ _ _ _) hbk; replace HB := ((HB.al _).al _).up hbk))) | (go_at_call 64; (with_reducible refine (CL.out _ _ _ _ _ _ _ _ _ _ zp np hp).mono ?_); rintro e w2 ⟨B0, e0, B1, e1', rfl, z0, n0, hbk⟩; (with_reducible (replace HB := HB.up hbk; replace HR := HR.up hbk)); have hne := HR.lt) | (go_at_call 76; (with_reducible refine (CV.out _ _ _ _ _ (z0.al _) (n0.al _)).mono ?_); rintro e w3 ⟨Bx, ex, By, ey, rfl, zx, ny, hbk⟩; (with_reducible (have H0 : At w3 w2.heap.size [.bool false, .slice B0 (dl r.num.natAbs) e0, .slice B1 (dl r.den) e1'] := At.up (at_new0 _ _ _) hbk; replace HB := (HB.al _).up hbk; replace HR := (HR.al _).up hbk)); have h0_0 := H0.c0; have h0_1 := H0.c1; have h0_2 := H0.c2; have h0_l := H0.lt; have h0_f0 := H0.f0; have h0_f1 := H0.f1; have h0_f2 := H0.f2) | fail)
  have nx := zx.1
  have hrl := HR.lt
  rw [← HXR.out] at nx ⊢
  rw [← HYR.out] at ny ⊢
  refine wp_named ?_
  intro W1 hW1
  have H1 : At W1 w2.heap.size [.bool false, .slice Bx (dl x) ex, .slice By (dl y) ey] := by rw [hW1]; first | exact (H0.put3 _ _ _).al _ | exact (H0.al _).put3 _ _ _
  have HR1 : At W1 (W.heap.size + 1) [.bool false, .slice none 0 0, .slice none 0 0] := by rw [hW1]; first | exact (HR.far3 (by omega) _ _ _).al _ | exact (HR.al _).far3 (by omega) _ _ _
  have HB1 : Bel W W1 := by rw [hW1]; first | exact (HB.uput3 (by omega) _ _ _).al _ | exact (HB.al _).uput3 (by omega) _ _ _
  have nx1 : Nm W1 Bx (dl x) ex x := by rw [hW1]; first | exact (nx.put3 H0 now3).al _ | exact (nx.al _).put3 (H0.al _) now3
  have ny1 : Nm W1 By (dl y) ey y := by rw [hW1]; first | exact (ny.put3 H0 now3).al _ | exact (ny.al _).put3 (H0.al _) now3
  clear hW1 zx zp np hp nx ny HB HR h0_0 h0_1 h0_2 h0_l h0_f0 h0_f1 h0_f2 H0 z0 n0
  rename Bel W W1 => HB
  have HR := HR1
  have H0 := H1
  have nx := nx1
  have ny := ny1
  clear HR1 H1 nx1 ny1
  obtain ⟨pb, hpb⟩ : ∃ p, p = w2.heap.size := ⟨_, rfl⟩
  rw [← hpb] at H0 hne ⊢
  clear hpb hrl
  have l0 := H0.lt
  have l2 := HR.lt
  go_cut [9, 10] from 27 to 35 (fun o o' w => ∃ p q B e B' e', o = .pointer (some ⟨p, 0, none⟩) ∧ o' = .pointer (some ⟨q, 0, none⟩) ∧ W.heap.size + 1 < p ∧ W.heap.size + 1 < q ∧ At w p [.slice B (dl u) e] ∧ At w q [.slice B' (dl v) e'] ∧ Nm w B (dl u) e u ∧ Nm w B' (dl v) e' v ∧ Bel W1 w)
  case first =>
    have HW := Bel.refl W1
    go_region_held3 (fun w' => w'.cell? ⟨pb, 0, none⟩ = some (.bool false) ∧ w'.cell? ⟨pb, 1, none⟩ = some (.slice Bx (dl x) ex) ∧ w'.cell? ⟨pb, 2, none⟩ = some (.slice By (dl y) ey))
      (refine ⟨(?_ : At _ pb [.bool false, .slice Bx (dl x) ex, .slice By (dl y) ey]).c0, (?_ : At _ pb [.bool false, .slice Bx (dl x) ex, .slice By (dl y) ey]).c1, (?_ : At _ pb [.bool false, .slice Bx (dl x) ex, .slice By (dl y) ey]).c2⟩ <;> (repeat (first | with_reducible exact H0 | (with_reducible refine At.dr ?_) | (with_reducible refine At.al ?_ _) | (with_reducible refine At.far ?_ (by omega) _))))
      (first | (go_at_call 77; (with_reducible refine (CX.out _ _ _ _ nx.dr).mono ?_); rintro e w4 ⟨Bu, eu, rfl, nu, hbk⟩; (with_reducible (replace HB := HB.dr.up hbk; replace HW := HW.dr.up hbk; replace H0 := H0.dr.up hbk; replace nx := nx.dr.up hbk; replace ny := ny.dr.up hbk)); have lz0 := H0.lt; (try have lz2 := HP0.lt); (try have lz3 := HP1.lt); have zs1 := Below.size HW) | (go_at_call 77; (with_reducible refine (CX.out _ _ _ _ (nx.al _).dr).mono ?_); rintro e w4 ⟨Bu, eu, rfl, nu, hbk⟩; (with_reducible (have HP0 := At.up (at_new0 _ [.slice none 0 0] _).dr hbk; replace HB := (HB.al _).dr.up hbk; replace HW := (HW.al _).dr.up hbk; replace H0 := (H0.al _).dr.up hbk; replace nx := (nx.al _).dr.up hbk; replace ny := (ny.al _).dr.up hbk)); have lz0 := H0.lt; (try have lz2 := HP0.lt); (try have lz3 := HP1.lt); have zs1 := Below.size HW) | (go_at_call 77; (with_reducible refine (CX.out _ _ _ _ ((nx.al _).al _).dr).mono ?_); rintro e w4 ⟨Bu, eu, rfl, nu, hbk⟩; (with_reducible (have HP0 := At.up ((at_new0 _ [.slice none 0 0] _).al _).dr hbk; have HP1 := At.up (at_new1 _ _ [.slice none 0 0] _).dr hbk; replace HB := ((HB.al _).al _).dr.up hbk; replace HW := ((HW.al _).al _).dr.up hbk; replace H0 := ((H0.al _).al _).dr.up hbk; replace nx := ((nx.al _).al _).dr.up hbk; replace ny := ((ny.al _).al _).dr.up hbk)); have lz0 := H0.lt; (try have lz2 := HP0.lt); (try have lz3 := HP1.lt); have zs1 := Below.size HW) | (go_at_call 77; (with_reducible refine (CY.out _ _ _ _ ny).mono ?_); rintro e w5 ⟨Bv, ev, rfl, nv, hbk⟩; (with_reducible (replace HB := HB.up hbk; replace HW := HW.up hbk; replace H0 := H0.up hbk; replace nu := nu.up hbk)); (try (with_reducible replace HP0 := HP0.up hbk)); (try (with_reducible replace HP1 := HP1.up hbk)); (try have hp0_0 := HP0.c0); (try have fhp0_0 := HP0.f0); (try have lhp0 := HP0.lt); (try have hp1_0 := HP1.c0); (try have fhp1_0 := HP1.f0); (try have lhp1 := HP1.lt); (try have hq0_0 := HQ0.c0); (try have fhq0_0 := HQ0.f0); (try have lhq0 := HQ0.lt); (try have hq1_0 := HQ1.c0); (try have fhq1_0 := HQ1.f0); (try have lhq1 := HQ1.lt); have lz4 := H0.lt; have zs2 := Below.size HW) | (go_at_call 77; (with_reducible refine (CY.out _ _ _ _ (ny.al _)).mono ?_); rintro e w5 ⟨Bv, ev, rfl, nv, hbk⟩; (with_reducible (have HQ0 := At.up (at_new0 _ [.slice none 0 0] _) hbk; replace HB := (HB.al _).up hbk; replace HW := (HW.al _).up hbk; replace H0 := (H0.al _).up hbk; replace nu := (nu.al _).up hbk)); (try (with_reducible replace HP0 := (HP0.al _).up hbk)); (try (with_reducible replace HP1 := (HP1.al _).up hbk)); (try have hp0_0 := HP0.c0); (try have fhp0_0 := HP0.f0); (try have lhp0 := HP0.lt); (try have hp1_0 := HP1.c0); (try have fhp1_0 := HP1.f0); (try have lhp1 := HP1.lt); (try have hq0_0 := HQ0.c0); (try have fhq0_0 := HQ0.f0); (try have lhq0 := HQ0.lt); (try have hq1_0 := HQ1.c0); (try have fhq1_0 := HQ1.f0); (try have lhq1 := HQ1.lt); have lz4 := H0.lt; have zs2 := Below.size HW) | (go_at_call 77; (with_reducible refine (CY.out _ _ _ _ ((ny.al _).al _)).mono ?_); rintro e w5 ⟨Bv, ev, rfl, nv, hbk⟩; (with_reducible (have HQ0 := At.up ((at_new0 _ [.slice none 0 0] _).al _) hbk; have HQ1 := At.up (at_new1 _ _ [.slice none 0 0] _) hbk; replace HB := ((HB.al _).al _).up hbk; replace HW := ((HW.al _).al _).up hbk; replace H0 := ((H0.al _).al _).up hbk; replace nu := ((nu.al _).al _).up hbk)); (try (with_reducible replace HP0 := ((HP0.al _).al _).up hbk)); (try (with_reducible replace HP1 := ((HP1.al _).al _).up hbk)); (try have hp0_0 := HP0.c0); (try have fhp0_0 := HP0.f0); (try have lhp0 := HP0.lt); (try have hp1_0 := HP1.c0); (try have fhp1_0 := HP1.f0); (try have lhp1 := HP1.lt); (try have hq0_0 := HQ0.c0); (try have fhq0_0 := HQ0.f0); (try have lhq0 := HQ0.lt); (try have hq1_0 := HQ1.c0); (try have fhq1_0 := HQ1.f0); (try have lhq1 := HQ1.lt); have lz4 := H0.lt; have zs2 := Below.size HW) | fail)
    all_goals
      go_wp2_with fail
      go_meet
      case rel =>
        refine ⟨_, _, Bu, eu, Bv, ev, rfl, rfl, (by first | omega | (show _ < W1.heap.size; omega) | (show _ < W1.heap.size + 1; omega) | (simp; omega)), (by first | omega | (show _ < W1.heap.size; omega) | (show _ < W1.heap.size + 1; omega) | (simp; omega)), ?_, ?_, ?_, ?_, ?_⟩ <;> (repeat (first | with_reducible exact nu | with_reducible exact nv | with_reducible exact HW | with_reducible exact HP0 | with_reducible exact HP1 | with_reducible exact HQ0 | with_reducible exact HQ1 | with_reducible exact at_new0 _ _ _ | with_reducible exact at_new1 _ _ _ _ | with_reducible exact at_newS _ _ _ _ | (with_reducible refine Bel.dr ?_) | (with_reducible refine Bel.al ?_ _) | (with_reducible refine Bel.put ?_ (by omega) _) | (with_reducible refine Nm.dr ?_) | (with_reducible refine Nm.al ?_ _) | (with_reducible refine Nm.putx ?_ ⟨.slice none 0 0, At.c0 (vs := []) ?_, not_u32⟩ _) | (with_reducible refine At.dr ?_) | (with_reducible refine At.al ?_ _) | (with_reducible refine At.put1 (v := .slice none 0 0) ?_ _) | (with_reducible refine At.far ?_ (by omega) _)))
  case rest =>
    obtain ⟨p, q, Bu, eu, Bv, ev, rfl, rfl, hp, hq, HP, HQ, nu, nv, hW⟩ := hcut
    replace HB := HB.up hW.hid
    replace H0 := H0.up hW.hid
    replace HR := HR.up hW.hid
    clear hW l0 l2 nx ny
    have hx0 := H0.c0
    have hx1 := H0.lt
    have hp_0 := HP.c0
    have hp_l := HP.lt
    have hq_0 := HQ.c0
    have hq_l := HQ.lt
    have hr_0 := HR.c0
    have hr_1 := HR.c1
    have hr_2 := HR.c2
    have hr_l := HR.lt
    have hr_f0 := HR.f0
    have hr_f1 := HR.f1
    have hr_f2 := HR.f2
    go_wp2_with fail
    refine bodyPost_ret (v := .tuple #[.agg #[.bool false, .slice Bu (dl u) eu, .slice Bv (dl v) ev], .bool true]) (by simp [results, Tryd.results57, go_sem, hr_0, hr_1, hr_2]) rfl ?_
    obtain ⟨g1, g2, g3⟩ := HX.out
    refine ⟨Bu, eu, Bv, ev, by rw [g1, g2], ⟨by rw [g1]; exact nu.putq HR _ _ _ _ _ _ _, ?_⟩, by rw [g2]; exact nv.putq HR _ _ _ _ _ _ _, (HB.put3 (by omega) _ _ _).hid⟩
    unfold Hid
    rw [zi_false]
    omega
set_option maxHeartbeats 4000000 in
theorem sig_zero {v : Nat} (hv : v = 0) (hm : 1 ≤ m ∧ m ≤ 7) (hd : 1 ≤ sc ∧ sc ≤ 40) (hS : ∀ W', Bel W W' → Calls Tryd.prog 14 #[.agg #[.bool b, .slice A n c, .slice A' n' c']] W' (IntPost W' 0)) : Calls Tryd.prog 15 #[.agg #[.bool b, .slice A n c, .slice A' n' c'], .int .i64 sc, .int .i64 m] W (ToR W false v (sc - 1)) := by
  have CM : Hid (∀ W', Calls Tryd.prog 18 #[.int .i64 m] W' (RetB W' true)) := fun W' => by
    have h1 := mode_h (W := W') (m := m)
    rwa [decide_eq_true hm] at h1
  have g1 : decide (sc < 1) = false := decide_eq_false (by omega)
  have g1' : ¬ (sc < 1) := by omega
  have g2 : decide (40 < sc) = false := decide_eq_false (by omega)
  have g2' : ¬ (40 < sc) := by omega
  have k1 : IntKind.i64.wrap (sc - 1) = sc - 1 := IntWalk.i64_in _ (by omega)
  have k2 : wrap64 (sc - 1) = sc - 1 := IntWalk.wrap64_in _ (by omega)
  have CS := hide hS
  have hz : dl v = 0 := by rw [hv]; unfold dl; rw [digs_zero]; rfl
  have HZ := hide hz
  have HV := hide hv
  clear hm hd hS hz hv
  have HB := Bel.refl W
  go_enter Tryd.func15, Tryd.ntmps15
  go_wp2_with (first | (go_at_call 18; (with_reducible refine (CM.out _).mono ?_); rintro e w1 ⟨rfl, hbk⟩; replace hbk := Bel.hid hbk; (with_reducible (have H0 : At w1 W.heap.size [.bool b, .slice A n c, .slice A' n' c'] := At.up ((at_new0 _ _ _).al _) hbk; have HR : At w1 (W.heap.size + 1) [.bool false, .slice none 0 0, .int .i64 0] := At.up (at_new1 _ _ _ _) hbk; replace HB := ((HB.al _).al _).up hbk)); have h0_0 := H0.c0; have h0_1 := H0.c1; have h0_2 := H0.c2; have h0_l := H0.lt; have hr_0 := HR.c0; have hr_1 := HR.c1; have hr_2 := HR.c2; have hr_l := HR.lt; have hr_f0 := HR.f0; have hr_f1 := HR.f1; have hr_f2 := HR.f2) | (go_at_call 14; (with_reducible refine (CS.out _ HB).mono ?_); rintro e w2 ⟨rfl, hbk⟩; (with_reducible (replace HB := HB.up hbk; replace H0 := H0.up hbk; replace HR := HR.up hbk)); clear h0_0 h0_1 h0_2 h0_l hr_0 hr_1 hr_2 hr_l hr_f0 hr_f1 hr_f2; have hr_0 := HR.c0; have hr_1 := HR.c1; have hr_2 := HR.c2; have hr_l := HR.lt; have hr_f0 := HR.f0; have hr_f1 := HR.f1; have hr_f2 := HR.f2) | fail)
  refine bodyPost_ret (v := .tuple #[.agg #[.bool false, .slice none 0 0, .int .i64 (sc - 1)], .int .i64 0]) (by simp [results, Tryd.results15, go_sem, hr_0, hr_1, hr_2]) rfl ?_
  exact ⟨none, 0, by rw [HZ.out], by rw [HZ.out, HV.out]; exact nm_nil _ _ _, (HB.uput3 (by omega) _ _ _).hid⟩
set_option maxHeartbeats 4000000 in
theorem sig_size {u : Int} (hm : 1 ≤ m ∧ m ≤ 7) (hd : 1 ≤ sc ∧ sc ≤ 40) (hS : ∀ W', Bel W W' → Calls Tryd.prog 14 #[.agg #[.bool b, .slice A n c, .slice A' n' c']] W' (IntPost W' u)) (hu : u ≠ 0)
    (hE : ∀ W', Bel W W' → Calls Tryd.prog 37 #[.agg #[.bool b, .slice A n c, .slice A' n' c']] W' (IntPost W' e)) (be : -1000000 ≤ e ∧ e ≤ 1000000) (h60 : 60 < sc - 1 - e) : Calls Tryd.prog 15 #[.agg #[.bool b, .slice A n c, .slice A' n' c'], .int .i64 sc, .int .i64 m] W (DEr W 11) := by
  obtain ⟨t, ht⟩ : ∃ t, sc - 1 - e = t := ⟨_, rfl⟩
  have CM : Hid (∀ W', Calls Tryd.prog 18 #[.int .i64 m] W' (RetB W' true)) := fun W' => by
    have h1 := mode_h (W := W') (m := m)
    rwa [decide_eq_true hm] at h1
  have g1 : decide (sc < 1) = false := decide_eq_false (by omega)
  have g1' : ¬ (sc < 1) := by omega
  have g2 : decide (40 < sc) = false := decide_eq_false (by omega)
  have g2' : ¬ (40 < sc) := by omega
  have g3 : (u == 0) = false := by simpa using hu
  have g4 : decide (60 < t) = true := decide_eq_true (by omega)
  have g4' : 60 < t := by omega
  have k1 : IntKind.i64.wrap (sc - 1) = sc - 1 := IntWalk.i64_in _ (by omega)
  have k2 : wrap64 (sc - 1) = sc - 1 := IntWalk.wrap64_in _ (by omega)
  have k3 : IntKind.i64.wrap (sc - 1 - e) = t := by rw [IntWalk.i64_in _ (by omega)]; exact ht
  have k4 : wrap64 (sc - 1 - e) = t := by rw [IntWalk.wrap64_in _ (by omega)]; exact ht
  have CS := hide hS
  have CE := hide hE
  clear hm hd hS hu hE be h60 ht
  have HB := Bel.refl W
  go_enter Tryd.func15, Tryd.ntmps15
  go_wp2_with (first | (go_at_call 18; (with_reducible refine (CM.out _).mono ?_); rintro e w1 ⟨rfl, hbk⟩; replace hbk := Bel.hid hbk; (with_reducible (have H0 : At w1 W.heap.size [.bool b, .slice A n c, .slice A' n' c'] := At.up ((at_new0 _ _ _).al _) hbk; have HR : At w1 (W.heap.size + 1) [.bool false, .slice none 0 0, .int .i64 0] := At.up (at_new1 _ _ _ _) hbk; replace HB := ((HB.al _).al _).up hbk)); have h0_0 := H0.c0; have h0_1 := H0.c1; have h0_2 := H0.c2; have h0_l := H0.lt; have hr_0 := HR.c0; have hr_1 := HR.c1; have hr_2 := HR.c2; have hr_l := HR.lt; have hr_f0 := HR.f0; have hr_f1 := HR.f1; have hr_f2 := HR.f2) | (go_at_call 14; (with_reducible refine (CS.out _ HB).mono ?_); rintro e w2 ⟨rfl, hbk⟩; (with_reducible (replace HB := HB.up hbk; replace H0 := H0.up hbk; replace HR := HR.up hbk)); clear h0_0 h0_1 h0_2 h0_l hr_0 hr_1 hr_2 hr_l hr_f0 hr_f1 hr_f2; have h0_0 := H0.c0; have h0_1 := H0.c1; have h0_2 := H0.c2; have h0_l := H0.lt; have hr_0 := HR.c0; have hr_1 := HR.c1; have hr_2 := HR.c2; have hr_l := HR.lt; have hr_f0 := HR.f0; have hr_f1 := HR.f1; have hr_f2 := HR.f2) | (go_at_call 37; (with_reducible refine (CE.out _ HB).mono ?_); rintro e w3 ⟨rfl, hbk⟩; (with_reducible (replace HB := HB.up hbk; replace H0 := H0.up hbk; replace HR := HR.up hbk)); clear h0_0 h0_1 h0_2 h0_l hr_0 hr_1 hr_2 hr_l hr_f0 hr_f1 hr_f2; have hr_0 := HR.c0; have hr_1 := HR.c1; have hr_2 := HR.c2; have hr_l := HR.lt; have hr_f0 := HR.f0; have hr_f1 := HR.f1; have hr_f2 := HR.f2) | fail)
  refine bodyPost_ret (v := .tuple #[.agg #[.bool false, .slice none 0 0, .int .i64 0], .int .i64 11]) (by simp [results, Tryd.results15, go_sem, hr_0, hr_1, hr_2]) rfl ?_
  exact ⟨rfl, (HB.uput3 (by omega) _ _ _).hid⟩
set_option maxHeartbeats 4000000 in
theorem step_none (hm : 1 ≤ m ∧ m ≤ 7) : Calls Tryd.prog 8 #[.agg #[.bool b, .slice A n c, .slice A' n' c'], .agg #[.bool false, .slice none 0 0, .int .i64 0], .int .i64 m] W (DEr W 1) := by
  have CM : Hid (∀ W', Calls Tryd.prog 18 #[.int .i64 m] W' (RetB W' true)) := fun W' => by
    have h1 := mode_h (W := W') (m := m)
    rwa [decide_eq_true hm] at h1
  have CG : Hid (∀ W', Calls Tryd.prog 21 #[.agg #[.bool false, .slice none 0 0, .int .i64 0]] W' (RetB W' true)) := fun W' => (dx_zero W').gd W' (Bel.refl _)
  have CC : Hid (∀ W', Calls Tryd.prog 12 #[.agg #[.slice none 0 0], .agg #[.slice none 0 0]] W' (IntPost W' 0)) := fun W' => cmp_h (nm_nil W' none 0) (nm_nil W' none 0) (cmpI_eq rfl)
  clear hm
  have HB := Bel.refl W
  go_enter Tryd.func8, Tryd.ntmps8
  go_wp2_with (first | (go_at_call 18; (with_reducible refine (CM.out _).mono ?_); rintro e w1 ⟨rfl, hbk⟩; replace hbk := Bel.hid hbk; (with_reducible (have H1 : At w1 (W.heap.size + 1) [.bool false, .slice none 0 0, .int .i64 0] := At.up ((at_new1 _ _ _ _).al _) hbk; have HR : At w1 (W.heap.size + 1 + 1) [.bool false, .slice none 0 0, .int .i64 0] := At.up (at_new2 _ _ _ _ _) hbk; replace HB := (((HB.al _).al _).al _).up hbk)); have h1_0 := H1.c0; have h1_1 := H1.c1; have h1_2 := H1.c2; have h1_l := H1.lt) | (go_at_call 21; (with_reducible refine (CG.out _).mono ?_); rintro e w2 ⟨rfl, hbk⟩; replace hbk := Bel.hid hbk; (with_reducible (replace HB := HB.up hbk; replace H1 := H1.up hbk; replace HR := HR.up hbk)); clear h1_0 h1_1 h1_2 h1_l; have h1_0 := H1.c0; have h1_1 := H1.c1; have h1_2 := H1.c2; have h1_l := H1.lt) | (go_at_call 12; (with_reducible refine (CC.out _).mono ?_); rintro e w3 ⟨rfl, hbk⟩; (with_reducible (replace HB := HB.up hbk; replace H1 := H1.up hbk; replace HR := HR.up hbk)); clear h1_0 h1_1 h1_2 h1_l; have hr_0 := HR.c0; have hr_1 := HR.c1; have hr_2 := HR.c2; have hr_l := HR.lt; have hr_f0 := HR.f0; have hr_f1 := HR.f1; have hr_f2 := HR.f2) | fail)
  refine bodyPost_ret (v := .tuple #[.agg #[.bool false, .slice none 0 0, .int .i64 0], .int .i64 1]) (by simp [results, Tryd.results8, go_sem, hr_0, hr_1, hr_2]) rfl ?_
  exact ⟨rfl, (HB.uput3 (by omega) _ _ _).hid⟩
end
end Go.Proofs.YteieelgdiccppabDoor
end

section
/- Rounding to so many digits: the call Sig for any fraction of six words that is not 0. No conditions. -/
open Go.RowKit
set_option maxRecDepth 100000
namespace Go.Proofs.YteieelgdiccppabDoor
theorem ten_is : ten_ = mkRat 10 1 := by decide +kernel
theorem teni_is : ten_⁻¹ = mkRat 1 10 := by decide +kernel
theorem ten_pow_ (k : Nat) : ten_ ^ k = mkRat ((10 ^ k : Nat) : Int) 1 := by
  induction k with
  | zero => decide +kernel
  | succ k ih => rw [Rat.pow_succ, ih, ten_is, mul_mk, Nat.pow_succ, Nat.mul_one, Int.natCast_mul]; rfl
theorem teni_pow_ (k : Nat) : ten_⁻¹ ^ k = mkRat 1 (10 ^ k) := by
  induction k with
  | zero => decide +kernel
  | succ k ih => rw [Rat.pow_succ, ih, teni_is, mul_mk, Nat.pow_succ]; rfl
theorem pow57 {k : Nat} (h : k ≤ 57) : 10 ^ k < W32 ^ 6 := Nat.lt_of_le_of_lt (Nat.pow_le_pow_right (by decide) h) (show 10 ^ 57 < W32 ^ 6 by decide)
theorem bd_of {z : Int} {d : Nat} {K : Nat} (hd : 0 < d) (h1 : z.natAbs < W32 ^ K) (h2 : d < W32 ^ K) : Bd (mkRat z d) K := tt_bd (z := z) (d := d) ⟨hd, rfl, h1, h2⟩
theorem len58 {m : Nat} (hm : 0 < m) (h : m < W32 ^ 6) : 1 ≤ (decL m).length ∧ (decL m).length ≤ 58 := by
  obtain ⟨h1, _, h3⟩ := decL_bounds hm
  refine ⟨h3, Nat.le_of_not_lt fun h4 => ?_⟩
  have h5 : 10 ^ 58 ≤ 10 ^ ((decL m).length - 1) := Nat.pow_le_pow_right (by decide) (by omega)
  have h6 : W32 ^ 6 < 10 ^ 58 := by decide
  omega
/-- What Sig leaves: digits of just so many, and noughts behind them only where there is no point. -/
def SigOk (dg v : Nat) (us : Int) : Prop := ∃ j t, v = t * 10 ^ j ∧ 10 ^ (dg - 1) ≤ t ∧ t < 10 ^ dg ∧ (us ≠ 0 → j = 0) ∧ j ≤ 200
theorem pow_step {dg : Nat} (h : 1 ≤ dg) : 10 ^ dg = 10 ^ (dg - 1) * 10 := by rw [← Nat.pow_succ, show (dg - 1).succ = dg by omega]
theorem sigok_n {dg X k : Nat} (hdg : 1 ≤ dg) (hk : k ≤ 100) (h1 : 10 ^ (dg - 1) ≤ X) (h2 : X ≤ 10 ^ dg) : SigOk dg (X * 10 ^ k) 0 := by
  have hp := pow_step hdg
  have h0 : 0 < 10 ^ (dg - 1) := Nat.pow_pos (by decide)
  by_cases h : X < 10 ^ dg
  · exact ⟨k, X, rfl, h1, h, fun g => absurd rfl g, by omega⟩
  · have hX : X = 10 ^ dg := by omega
    exact ⟨k + 1, 10 ^ (dg - 1), by rw [hX, hp, Nat.pow_succ, Nat.mul_assoc, Nat.mul_comm 10], Nat.le_refl _, by omega, fun g => absurd rfl g, by omega⟩
theorem sigok_lt {dg X : Nat} {us : Int} (h1 : 10 ^ (dg - 1) ≤ X) (h2 : X < 10 ^ dg) : SigOk dg X us := ⟨0, X, by rw [Nat.pow_zero, Nat.mul_one], h1, h2, fun _ => rfl, by omega⟩
theorem sigok_ge {dg X : Nat} {us : Int} (hdg : 1 ≤ dg) (h2 : X ≤ 10 ^ dg) (h : ¬ X < 10 ^ dg) : SigOk dg (X / 10) us := by
  have hp := pow_step hdg
  have h0 : 0 < 10 ^ (dg - 1) := Nat.pow_pos (by decide)
  have hX : X / 10 = 10 ^ (dg - 1) := by omega
  exact ⟨0, 10 ^ (dg - 1), by rw [hX, Nat.pow_zero, Nat.mul_one], Nat.le_refl _, by omega, fun _ => rfl, by omega⟩
section
variable {W : World} {b : Bool} {A A' : Option Addr} {n n' c c' d : Nat} {z : Int}
theorem powp_ {k : Nat} (hk : k ≤ 100) (W' : World) (B : Option Addr) (f : Nat) (B' : Option Addr) (f' : Nat) (h2 : ZA W' false B (dl ten_.num.natAbs) f ten_.num) (h3 : Nm W' B' (dl ten_.den) f' ten_.den) : Calls Tryd.prog 57 #[.agg #[.bool false, .slice B (dl ten_.num.natAbs) f, .slice B' (dl ten_.den) f'], .int .i64 (k : Int)] W' (OfYw W' false (ten_ ^ k)) := rpow_p (qa_self h2 h3 ten_bd) (by decide +kernel) ten_bd (by decide) (by decide) (by omega)
theorem teni_b : Bd ten_⁻¹ 1 := bd_lit (a := 1) (b := 10) (by decide +kernel) (by decide +kernel) (by decide) (by decide)
theorem pown_ {k : Nat} {i : Int} (hi : -(k : Int) = i) (h0 : 0 < k) (hk : k ≤ 100) (W' : World) (B : Option Addr) (f : Nat) (B' : Option Addr) (f' : Nat) (h2 : ZA W' false B (dl ten_.num.natAbs) f ten_.num) (h3 : Nm W' B' (dl ten_.den) f' ten_.den) : Calls Tryd.prog 57 #[.agg #[.bool false, .slice B (dl ten_.num.natAbs) f, .slice B' (dl ten_.den) f'], .int .i64 i] W' (OfYw W' false (ten_⁻¹ ^ k)) := rpow_n hi h0 (qa_self h2 h3 ten_bd) (by decide +kernel) ten_bd teni_b (by decide) (by decide) (by omega)
theorem pow_any {e0 : Int} (h : -57 ≤ e0 ∧ e0 ≤ 57) (W' : World) (B : Option Addr) (f : Nat) (B' : Option Addr) (f' : Nat) (h2 : ZA W' false B (dl ten_.num.natAbs) f ten_.num) (h3 : Nm W' B' (dl ten_.den) f' ten_.den) :
    Calls Tryd.prog 57 #[.agg #[.bool false, .slice B (dl ten_.num.natAbs) f, .slice B' (dl ten_.den) f'], .int .i64 e0] W' (OfYw W' false (mkRat ((10 ^ e0.toNat : Nat) : Int) (10 ^ (-e0).toNat))) := by
  by_cases h0 : 0 ≤ e0
  · have h1 := powp_ (k := e0.toNat) (by omega) W' B f B' f' h2 h3
    rw [ten_pow_, show ((e0.toNat : Nat) : Int) = e0 by omega] at h1
    rw [show (-e0).toNat = 0 by omega, Nat.pow_zero]
    exact h1
  · have h1 := pown_ (k := (-e0).toNat) (i := e0) (by omega) (by omega) (by omega) W' B f B' f' h2 h3
    rw [teni_pow_] at h1
    rw [show e0.toNat = 0 by omega, Nat.pow_zero]
    exact h1
theorem qz {W' : World} (nz : ZA W b A n c z) (nd : Nm W A' n' c' d) (br : z.natAbs < W32 ^ 6 ∧ d < W32 ^ 6) (hw : Bel W W') : QA W' b A n c A' n' c' (mkRat z d) 6 := ⟨z, d, nz.up hw.hid, nd.up hw.hid, ⟨rfl, br.1, br.2⟩⟩
/-- The exponent of a fraction of six words. -/
theorem expo_any (nz : ZA W b A n c z) (nd : Nm W A' n' c' d) (hd0 : 0 < d) (br : z.natAbs < W32 ^ 6 ∧ d < W32 ^ 6) (hr : z ≠ 0) :
    ∃ e : Int, (-58 ≤ e ∧ e ≤ 57) ∧ le10 e z.natAbs d ∧ lt10 (e + 1) z.natAbs d ∧ ∀ W', Bel W W' → Calls Tryd.prog 37 #[.agg #[.bool b, .slice A n c, .slice A' n' c']] W' (IntPost W' e) := by
  have hp : 0 < z.natAbs := by omega
  obtain ⟨L1, h1⟩ : ∃ L, (decL z.natAbs).length = L := ⟨_, rfl⟩
  obtain ⟨L2, h2⟩ : ∃ L, (decL d).length = L := ⟨_, rfl⟩
  obtain ⟨e0, h0⟩ : ∃ e0 : Int, (L1 : Int) - (L2 : Int) = e0 := ⟨_, rfl⟩
  have b1 := len58 hp br.1
  have b2 := len58 hd0 br.2
  rw [h1] at b1
  rw [h2] at b2
  obtain ⟨e, he⟩ : ∃ e : Int, (if cmpR (mkRat (z.natAbs : Int) d) (mkRat ((10 ^ e0.toNat : Nat) : Int) (10 ^ (-e0).toNat)) < 0 then e0 - 1 else e0) = e := ⟨_, rfl⟩
  have hb : -58 ≤ e ∧ e ≤ 57 := by rw [← he]; split <;> omega
  obtain ⟨g1, g2⟩ := expo_spec hp hd0 (by rw [h1, h2]; exact h0) he
  refine ⟨e, hb, g1, g2, fun W' hw => ?_⟩
  have h3 := expo_h (W := W') (tn := ten_) (K := 6) (e := e0) rfl (nz.up hw.hid) (nd.up hw.hid) hd0 h1 h2 h0 (by omega) (by omega) (pow_any (by omega)) br.1 br.2 (bd_of (Nat.pow_pos (by decide)) (by rw [Int.natAbs_natCast]; exact pow57 (by omega)) (pow57 (by omega))) (by decide) (by decide)
  rwa [he] at h3
/-- Sig of a fraction of six words that is not 0. -/
theorem sig_gen {dg : Nat} {m : Int} (nz : ZA W b A n c z) (nd : Nm W A' n' c' d) (hd0 : 0 < d) (br : z.natAbs < W32 ^ 6 ∧ d < W32 ^ 6) (hr : z ≠ 0) (hdg : 1 ≤ dg ∧ dg ≤ 40) (hm : 1 ≤ m ∧ m ≤ 7) :
    (∀ W2, Bel W W2 → Calls Tryd.prog 15 #[.agg #[.bool b, .slice A n c, .slice A' n' c'], .int .i64 (dg : Int), .int .i64 m] W2 (DEr W2 11)) ∨
    ∃ sg v us, SigOk dg v us ∧ (∀ W2, Bel W W2 → Calls Tryd.prog 15 #[.agg #[.bool b, .slice A n c, .slice A' n' c'], .int .i64 (dg : Int), .int .i64 m] W2 (ToR W2 sg v us)) := by
  obtain ⟨e, be, hl, hg, hE⟩ := expo_any nz nd hd0 br hr
  have hS : ∀ W', Bel W W' → Calls Tryd.prog 14 #[.agg #[.bool b, .slice A n c, .slice A' n' c']] W' (IntPost W' (mkRat z d).num.sign) := fun W' hw => rsign_h (qz nz nd br hw) (by decide) rfl
  have hu : (mkRat z d).num.sign ≠ 0 := fun h => hr ((Rat.mkRat_eq_zero (by omega)).1 (Rat.num_eq_zero.1 (Int.sign_eq_zero_iff_zero.1 h)))
  have dmax : 10 ^ dg ≤ 10 ^ 40 := Nat.pow_le_pow_right (by decide) hdg.2
  have d40 : 10 ^ 40 < W32 ^ 6 := by decide
  by_cases h60 : 60 < (dg : Int) - 1 - e
  · exact .inl fun W2 hw2 => (sig_size hm (by omega) (fun W' hw => hS W' (hw2.up hw.hid)) hu (fun W' hw => hE W' (hw2.up hw.hid)) (by omega) h60)
  · refine .inr ?_
    by_cases h0 : 0 ≤ (dg : Int) - 1 - e
    · obtain ⟨s, hs⟩ : ∃ s : Nat, (dg : Int) - 1 - e = (s : Int) := ⟨((dg : Int) - 1 - e).toNat, by omega⟩
      obtain ⟨X, hX⟩ : ∃ X, rdR m (mkRat z d * mkRat ((10 ^ s : Nat) : Int) 1) = X := ⟨_, rfl⟩
      have hd := digits_p (m := m) hd0 hdg.1 hs hl hg
      rw [hX] at hd
      have hM : ∀ W' B f, Bel W W' → Nm W' B (dl 1) f 1 → Calls Tryd.prog 19 #[.agg #[.bool b, .slice A n c, .slice A' n' c'], .agg #[.bool false, .slice B (dl 1) f, .int .i64 (s : Int)], .int .i64 m] W' (DvR W' (decide (X < 0)) X.natAbs (s : Int)) := fun W' B f hw hn => by
        have h1 := multiple_h (W := W') (b' := false) (s := s) (m := m) (K := 6) (qz nz nd br hw) hn (show 1 < W32 ^ 6 by decide) (by omega) hm (by decide) (by decide)
        rw [hX, Nat.mul_one] at h1
        exact h1
      by_cases hs0 : s = 0
      · subst hs0
        refine ⟨decide (X < 0), X.natAbs, 0, by have := sigok_n (k := 0) hdg.1 (by decide) hd.1 hd.2; rwa [Nat.pow_zero, Nat.mul_one] at this, ?_⟩
        refine fun W2 hw2 => sig_walk (e := e) (sc := 0) hm (by omega) (fun W' hw => hS W' (hw2.up hw.hid)) hu (fun W' hw => hE W' (hw2.up hw.hid)) (by omega) (by omega) (by decide) (fun W' => unit_p (s := 0) (by decide)) (fun W' B f hw hn => hM W' B f (hw2.up hw.hid) hn) (fun W' B f hn => (limit_0 hn).mono fun _ _ ⟨h1, h2, h3⟩ => ⟨B, f, h1, h2, h3⟩)
      · by_cases hlt : X.natAbs < 10 ^ dg
        · refine ⟨decide (X < 0), X.natAbs, (s : Int), sigok_lt hd.1 hlt, ?_⟩
          refine fun W2 hw2 => sig_walk (e := e) (sc := (s : Int)) hm (by omega) (fun W' hw => hS W' (hw2.up hw.hid)) hu (fun W' hw => hE W' (hw2.up hw.hid)) (by omega) (by omega) (by omega) (fun W' => unit_p (s := s) (by omega)) (fun W' B f hw hn => hM W' B f (hw2.up hw.hid) hn) (fun W' B f hn => (limit_lt hn (by omega) (by omega) hlt).mono fun _ _ ⟨h1, h2, h3⟩ => ⟨B, f, h1, h2, h3⟩)
        · refine ⟨decide (X < 0), X.natAbs / 10, (s : Int) - 1, sigok_ge hdg.1 hd.2 hlt, ?_⟩
          refine fun W2 hw2 => sig_walk (e := e) (sc := (s : Int)) hm (by omega) (fun W' hw => hS W' (hw2.up hw.hid)) hu (fun W' hw => hE W' (hw2.up hw.hid)) (by omega) (by omega) (by omega) (fun W' => unit_p (s := s) (by omega)) (fun W' B f hw hn => hM W' B f (hw2.up hw.hid) hn) (fun W' B f hn => limit_ge hn (by omega) (by omega) (by omega) hlt (Nat.le_trans (dl_le (k := 6) (by omega)) (by decide)))
    · obtain ⟨k, hk⟩ : ∃ k : Nat, (dg : Int) - 1 - e = -(k : Int) := ⟨(-((dg : Int) - 1 - e)).toNat, by omega⟩
      obtain ⟨X, hX⟩ : ∃ X, rdR m (mkRat z d * mkRat ((10 ^ 0 : Nat) : Int) (10 ^ k)) = X := ⟨_, rfl⟩
      have hd := digits_n (m := m) hd0 hdg.1 hk hl hg
      rw [hX] at hd
      refine ⟨decide (X < 0), X.natAbs * 10 ^ k, 0, sigok_n hdg.1 (by omega) hd.1 hd.2, ?_⟩
      refine fun W2 hw2 => sig_walk (e := e) (sc := -(k : Int)) hm (by omega) (fun W' hw => hS W' (hw2.up hw.hid)) hu (fun W' hw => hE W' (hw2.up hw.hid)) (by omega) hk (by omega) (fun W' => unit_n (k := k) (by omega) rfl (by omega)) (fun W' B f hw hn => by
        have h1 := multiple_h (W := W') (b' := false) (s := 0) (m := m) (K := 6) (qz nz nd br (hw2.up hw.hid)) hn (pow57 (by omega)) (by decide) hm (by decide) (by decide)
        rw [hX] at h1
        exact h1) (fun W' B f hn => (limit_0 hn).mono fun _ _ ⟨h1, h2, h3⟩ => ⟨B, f, h1, h2, h3⟩)
end
end Go.Proofs.YteieelgdiccppabDoor
end

section
/- The text of digits with noughts behind them. No conditions. -/
open Go.RowKit
set_option maxRecDepth 100000
namespace Go.Proofs.YteieelgdiccppabDoor
theorem decL_ten {m : Nat} (hm : 0 < m) : decL (m * 10) = decL m ++ [48] := by
  unfold decL
  rw [if_neg (by omega), if_neg (by omega), digs_pos (by decide) (by omega), Nat.mul_mod_left, Nat.mul_div_cancel _ (by decide), List.reverse_cons, List.map_append]
  rfl
theorem decL_tens {m : Nat} (hm : 0 < m) (j : Nat) : decL (m * 10 ^ j) = decL m ++ List.replicate j 48 := by
  induction j with
  | zero => rw [Nat.pow_zero, Nat.mul_one]; simp
  | succ j ih => rw [Nat.pow_succ, ← Nat.mul_assoc, decL_ten (Nat.mul_pos hm (Nat.pow_pos (by decide))), ih, List.append_assoc, List.replicate_succ']
theorem decL_len_of {m dg : Nat} (hdg : 1 ≤ dg) (h1 : 10 ^ (dg - 1) ≤ m) (h2 : m < 10 ^ dg) : (decL m).length = dg := by
  have h0 : 0 < 10 ^ (dg - 1) := Nat.pow_pos (by decide)
  obtain ⟨a1, a2, a3⟩ := decL_bounds (m := m) (by omega)
  have b1 : (decL m).length - 1 < dg := (Nat.pow_lt_pow_iff_right (a := 10) (by decide)).1 (by omega)
  have b2 : dg - 1 < (decL m).length := (Nat.pow_lt_pow_iff_right (a := 10) (by decide)).1 (by omega)
  omega
theorem sigok_text {dg v : Nat} {us : Int} (hdg : 1 ≤ dg) (h : SigOk dg v us) : ∃ l j, decL v = l ++ List.replicate j 48 ∧ l.length = dg ∧ (us ≠ 0 → j = 0) ∧ j ≤ 200 := by
  obtain ⟨j, t, rfl, h1, h2, h3, h4⟩ := h
  have h0 : 0 < 10 ^ (dg - 1) := Nat.pow_pos (by decide)
  exact ⟨decL t, j, decL_tens (by omega) j, decL_len_of hdg h1 h2, h3, h4⟩
end Go.Proofs.YteieelgdiccppabDoor
end
