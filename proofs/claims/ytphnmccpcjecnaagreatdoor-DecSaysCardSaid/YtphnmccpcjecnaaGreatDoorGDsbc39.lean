/- Several texts in one, each with its own sentence and conditions. -/
import Derived.Test.YtphnmccpcjecnaaGreatDoorGDsbc38
import Derived.Test.YtphnmccpcjecnaaGreatDoorGDsbc28
import Derived.Test.YtphnmccpcjecnaaGreatDoorGDsbc37
import Derived.Test.YtphnmccpcjecnaaGreatDoorGDsbc13
import Derived.Test.YtphnmccpcjecnaaGreatDoorGDsbc22
import Derived.Test.YtphnmccpcjecnaaGreatDoorGDsbc25
import Derived.Test.YtphnmccpcjecnaaGreatDoorGDsbc33
import Derived.Test.YtphnmccpcjecnaaGreatDoorDs
section
/- Package round: Step of a step that is greater than 0. Conditions: terms of at most 6000 words. -/
open Go.RowKit
set_option maxRecDepth 100000
namespace Go.Proofs.YtphnmccpcjecnaaGreatDoor
section
variable {W : World} {b : Bool} {A A' A2 : Option Addr} {n n' n2 c c' c2 m2 s K : Nat} {m : Int} {r : Rat}
set_option maxHeartbeats 8000000 in
theorem step_h (h : QA W b A n c A' n' c' r K) (hd : DX W false A2 n2 c2 m2 s) (h0 : 0 < m2) (bs : m2 < W32 ^ K) (hm : 1 ≤ m ∧ m ≤ 7) (hK0 : 0 < K) (hK : K ≤ 6000) {t : Int} (ht : rdR m (r * mkRat (10 ^ s : Nat) m2) = t) : Calls Tryz.prog 32 #[.agg #[.bool b, .slice A n c, .slice A' n' c'], .agg #[.bool false, .slice A2 n2 c2, .int .i64 (s : Int)], .int .i64 m] W (ToR W (decide (t < 0)) (t.natAbs * m2) (s : Int)) := by
  obtain ⟨v, hv⟩ : ∃ v : Nat, v = t.natAbs * m2 := ⟨_, rfl⟩
  obtain ⟨st, hst⟩ : ∃ u, u = decide (t < 0) := ⟨_, rfl⟩
  have CM : Hid (∀ W', Calls Tryz.prog 33 #[.int .i64 m] W' (RetB W' true)) := fun W' => by
    have h1 := mode_h (W := W') (m := m)
    rwa [decide_eq_true hm] at h1
  have CG : Hid (∀ W', Bel W W' → Calls Tryz.prog 38 #[.agg #[.bool false, .slice A2 n2 c2, .int .i64 (s : Int)]] W' (RetB W' true)) := fun W' hw => hd.gd W' hw
  have CC : Hid (∀ W', Bel W W' → Calls Tryz.prog 74 #[.agg #[.slice A2 n2 c2], .agg #[.slice none 0 0]] W' (IntPost W' 1)) := fun W' hw => cmp_h (hd.nm.up hw.hid) (nm_nil W' none 0) (cmpI_gt h0)
  have CX : Hid (∀ W', Bel W W' → Calls Tryz.prog 69 #[.agg #[.bool b, .slice A n c, .slice A' n' c'], .agg #[.bool false, .slice A2 n2 c2, .int .i64 (s : Int)], .int .i64 m] W' (DvR W' st v (s : Int))) := fun W' hw => by
    have h1 := multiple_h (b' := false) (h.up hw.hid) (hd.nm.up hw.hid) bs hd.sc hm hK0 hK
    rw [ht, ← hst, ← hv] at h1
    exact h1
  rw [← hst, ← hv]
  clear h hd h0 bs hm hK0 hK ht hv hst
  have HB := Bel.refl W
  go_enter Tryz.func32, Tryz.ntmps32
  go_wp2_with (first | (go_at_call 33; (with_reducible refine (CM.out _).mono ?_); rintro e w1 ⟨rfl, hbk⟩; replace hbk := Bel.hid hbk; (with_reducible (have H0 : At w1 W.heap.size [.bool b, .slice A n c, .slice A' n' c'] := At.up (((at_new0 _ _ _).al _).al _) hbk; have H1 : At w1 (W.heap.size + 1) [.bool false, .slice A2 n2 c2, .int .i64 (s : Int)] := At.up ((at_new1 _ _ _ _).al _) hbk; have HR : At w1 (W.heap.size + 1 + 1) [.bool false, .slice none 0 0, .int .i64 0] := At.up (at_new2 _ _ _ _ _) hbk; replace HB := (((HB.al _).al _).al _).up hbk)); have h0_0 := H0.c0; have h0_1 := H0.c1; have h0_2 := H0.c2; have h0_l := H0.lt; have h1_0 := H1.c0; have h1_1 := H1.c1; have h1_2 := H1.c2; have h1_l := H1.lt) | (go_at_call 38; (with_reducible refine (CG.out _ HB).mono ?_); rintro e w2 ⟨rfl, hbk⟩; replace hbk := Bel.hid hbk; (with_reducible (replace HB := HB.up hbk; replace H0 := H0.up hbk; replace H1 := H1.up hbk; replace HR := HR.up hbk)); clear h0_0 h0_1 h0_2 h0_l h1_0 h1_1 h1_2 h1_l; have h0_0 := H0.c0; have h0_1 := H0.c1; have h0_2 := H0.c2; have h0_l := H0.lt; have h1_0 := H1.c0; have h1_1 := H1.c1; have h1_2 := H1.c2; have h1_l := H1.lt) | (go_at_call 74; (with_reducible refine (CC.out _ HB).mono ?_); rintro e w3 ⟨rfl, hbk⟩; (with_reducible (replace HB := HB.up hbk; replace H0 := H0.up hbk; replace H1 := H1.up hbk; replace HR := HR.up hbk)); clear h0_0 h0_1 h0_2 h0_l h1_0 h1_1 h1_2 h1_l; have h0_0 := H0.c0; have h0_1 := H0.c1; have h0_2 := H0.c2; have h0_l := H0.lt; have h1_0 := H1.c0; have h1_1 := H1.c1; have h1_2 := H1.c2; have h1_l := H1.lt) | (go_at_call 69; (with_reducible refine (CX.out _ HB).mono ?_); rintro e w4 ⟨Bt, et, rfl, nt, hbk⟩; (with_reducible (replace HB := HB.up hbk; replace HR := HR.up hbk)); clear h0_0 h0_1 h0_2 h0_l h1_0 h1_1 h1_2 h1_l; have hr_0 := HR.c0; have hr_1 := HR.c1; have hr_2 := HR.c2; have hr_l := HR.lt; have hr_f0 := HR.f0; have hr_f1 := HR.f1; have hr_f2 := HR.f2) | fail)
  refine bodyPost_ret (v := .tuple #[.agg #[.bool st, .slice Bt (dl v) et, .int .i64 (s : Int)], .int .i64 0]) (by simp [results, Tryz.results32, go_sem, hr_0, hr_1, hr_2]) rfl ?_
  exact ⟨Bt, et, rfl, nt.putd HR _ _ _ _ _, (HB.uput3 (by omega) _ _ _).hid⟩
end
end Go.Proofs.YtphnmccpcjecnaaGreatDoor
end

section
/- Package rat: Pow of a negative power of what is greater than 0. Package round: Sig of nought, Sig too small, Step of nought, Int of no mode. The statements' text. Conditions: see there. -/
open Go.RowKit
set_option maxRecDepth 100000
namespace Go.Proofs.YtphnmccpcjecnaaGreatDoor
theorem wp_named {P : Program} {c : Code} {Q : Exit → Act → World → Prop} {a : Act} {X : World} (h : ∀ W', W' = X → Code.wp P c Q a W') : Code.wp P c Q a X := h X rfl
section
variable {W : World} {b b' sg : Bool} {A A' A2 : Option Addr} {n n' n2 c c' c2 m2 s K q d : Nat} {m z e sc : Int} {r pw : Rat}
set_option maxHeartbeats 8000000 in
theorem qpower_n {k : Nat} {i : Int} (h : Nm W A n c q) (hi : -(k : Int) = i) (h0 : 0 < k) (hk : k ≤ 1000000) (hb : ∀ i, i ≤ k → dl (q ^ i) ≤ 100000) : Calls Tryz.prog 151 #[.agg #[.slice A n c], .int .i64 i] W (NumR W (q ^ k)) := by
  obtain ⟨j, rfl⟩ : ∃ j, k = j + 1 := ⟨k - 1, by omega⟩
  obtain ⟨u, hu⟩ : ∃ u, q ^ j = u := ⟨_, rfl⟩
  obtain ⟨v, hv⟩ : ∃ v, q ^ (j + 1) = v := ⟨_, rfl⟩
  have CP : Hid (∀ W', Bel W W' → Calls Tryz.prog 104 #[.agg #[.slice A n c], .int .i64 (j : Int)] W' (NumR W' u)) := fun W' hw => pow_h (h.up hw.hid) (by omega) (fun i hi => hb i (by omega)) hu
  have CM : Hid (∀ W' B e, Bel W W' → Nm W' B (dl u) e u → Calls Tryz.prog 51 #[.agg #[.slice B (dl u) e], .agg #[.slice A n c]] W' (NumR W' v)) := fun W' B e hw hn => mul_h hn (h.up hw.hid) (by rw [← hu, ← hv, Nat.pow_succ]) (by rw [← hv]; exact hb _ (Nat.le_refl _))
  have g1 : decide (i < 0) = true := decide_eq_true (by omega)
  have g1' : i < 0 := by omega
  have w1 : IntKind.i64.wrap (i + 1) = i + 1 := IntWalk.i64_in _ (by omega)
  have w2 : wrap64 (i + 1) = i + 1 := IntWalk.wrap64_in _ (by omega)
  have w3 : -(i + 1) = (j : Int) := by omega
  have w4 : wrap64 (j : Int) = (j : Int) := IntWalk.wrap64_in _ (by omega)
  have w5 : IntKind.i64.wrap (j : Int) = (j : Int) := IntWalk.i64_in _ (by omega)
  rw [hv]
  clear hu hv h hb hk hi h0
  have HB := Bel.refl W
  go_enter Tryz.func151, Tryz.ntmps151
  go_wp2_with fail
  obtain ⟨W1, hW1⟩ : ∃ X, X = (W.alloc (.cells #[.slice A n c] 24)).alloc (.cells #[.slice none 0 0] 24) := ⟨_, rfl⟩
  rw [← hW1]
  have H0 : At W1 W.heap.size [.slice A n c] := by rw [hW1]; exact (at_new0 _ _ _).al _
  have HR : At W1 (W.heap.size + 1) [.slice none 0 0] := by rw [hW1]; exact at_new1 _ _ _ _
  replace HB : Bel W W1 := by rw [hW1]; exact (HB.al _).al _
  clear hW1
  have l0 := H0.lt
  have l1 := HR.lt
  go_region_held3 (fun w' => w'.cell? ⟨W.heap.size, 0, none⟩ = some (.slice A n c))
    (refine (?_ : At _ W.heap.size [.slice A n c]).c0 <;> (repeat (first | with_reducible exact H0 | (with_reducible refine At.dr ?_) | (with_reducible refine At.al ?_ _) | (with_reducible refine At.far ?_ (by omega) _))))
    (first | (go_at_call 104; (with_reducible refine (CP.out _ HB.dr).mono ?_); rintro e w2 ⟨B2, e2, rfl, n2', hbk⟩; (with_reducible (replace HB := HB.dr.up hbk; replace H0 := H0.dr.up hbk; replace HR := HR.dr.up hbk))) | (go_at_call 51; (with_reducible refine (CM.out _ _ _ HB n2').mono ?_); rintro e w3 ⟨B3, e3, rfl, n3, hbk⟩; (with_reducible (replace HB := HB.up hbk; replace H0 := H0.up hbk; replace HR := HR.up hbk)); have hr_0 := HR.c0; have hr_l := HR.lt; have hr_f0 := HR.f0) | fail)
  go_wp2_with fail
  refine bodyPost_ret (v := .agg #[.slice B3 (dl v) e3]) (by simp [results, Tryz.results151, go_sem, hr_0]) rfl ?_
  exact ret_n HB (by omega) HR now1 n3
set_option maxHeartbeats 16000000 in
theorem rpow_n {k : Nat} {i : Int} (hi : -(k : Int) = i) (hk0 : 0 < k) (h : QA W b A n c A' n' c' r K) (h0 : 0 < r) (hb : Bd r K) (hbi : Bd r⁻¹ K) (hK0 : 0 < K) (hK2 : K ≤ 20000) (hk : K * k ≤ 90000) : Calls Tryz.prog 124 #[.agg #[.bool b, .slice A n c, .slice A' n' c'], .int .i64 i] W (OfYw W false (r⁻¹ ^ k)) := by
  have hn0 : 0 ≤ r.num := Rat.num_nonneg.2 (Rat.le_of_lt h0)
  have hi0 : 0 ≤ r⁻¹.num := by rw [Rat.num_inv]; exact Int.mul_nonneg (Int.sign_nonneg_iff.2 hn0) (by omega)
  obtain ⟨ri, hri⟩ : ∃ x : Rat, r⁻¹ = x := ⟨_, rfl⟩
  rw [hri] at hbi hi0 ⊢
  have hkk : k ≤ 1000000 := by
    have : 1 * k ≤ K * k := Nat.mul_le_mul_right k hK0
    omega
  have CT : Hid (∀ W', Bel W W' → Calls Tryz.prog 123 #[.agg #[.bool b, .slice A n c, .slice A' n' c']] W' (TermsR W' r K)) := fun W' hw => terms_h (h.up hw.hid) hK0
  have CL : Hid (∀ W' s B k e B' k' e' z d, ZA W' s B k e z → Nm W' B' k' e' d → Hid (0 < d ∧ mkRat z d = r ∧ z.natAbs < W32 ^ K ∧ d < W32 ^ K) → Calls Tryz.prog 97 #[.agg #[.bool s, .slice B k e], .agg #[.slice B' k' e']] W' (QRw W' false r)) := fun W' s B k e B' k' e' z d hz hd hp => by
    have h1 := lowest_t hz hd hp.out (by omega) (by omega)
    unfold QR at h1
    rw [decide_eq_false (show ¬ r.num < 0 by omega)] at h1
    exact h1
  have CV : Hid (∀ W' B e B' e', ZA W' false B (dl r.num.natAbs) e r.num → Nm W' B' (dl r.den) e' r.den → Calls Tryz.prog 150 #[.agg #[.bool false, .slice B (dl r.num.natAbs) e, .slice B' (dl r.den) e']] W' (OfYw W' false ri)) := fun W' B e B' e' h1 h2 => by
    have h3 := inv_yes (qa_self h1 h2 hb) hK0 hK2 (fun e0 => by rw [e0] at h0; exact absurd h0 Rat.lt_irrefl)
    unfold OfYes at h3
    rw [hri, decide_eq_false (show ¬ ri.num < 0 by omega)] at h3
    exact h3
  obtain ⟨x, hx⟩ : ∃ x : Nat, x = ri.num.natAbs := ⟨_, rfl⟩
  obtain ⟨y, hy⟩ : ∃ y : Nat, y = ri.den := ⟨_, rfl⟩
  obtain ⟨u, hu⟩ : ∃ u : Nat, x ^ k = u := ⟨_, rfl⟩
  obtain ⟨v, hv⟩ : ∃ v : Nat, y ^ k = v := ⟨_, rfl⟩
  have bx : x < W32 ^ K := by rw [hx]; exact hbi.1
  have by_ : y < W32 ^ K := by rw [hy]; exact hbi.2
  have CX : Hid (∀ W' B n e, Nm W' B n e x → Calls Tryz.prog 151 #[.agg #[.slice B n e], .int .i64 i] W' (NumR W' u)) := fun W' B n e h1 => by rw [← hu]; exact qpower_n h1 hi hk0 hkk (fun i hi => pow_bd bx hk hi)
  have CY : Hid (∀ W' B n e, Nm W' B n e y → Calls Tryz.prog 151 #[.agg #[.slice B n e], .int .i64 i] W' (NumR W' v)) := fun W' B n e h1 => by rw [← hv]; exact qpower_n h1 hi hk0 hkk (fun i hi => pow_bd by_ hk hi)
  have HX : Hid ((ri ^ k).num.natAbs = u ∧ (ri ^ k).den = v ∧ ¬ (ri ^ k).num < 0) := by
    unfold Hid
    rw [Rat.num_pow, Rat.den_pow, Int.natAbs_pow, ← hx, ← hy, hu, hv]
    refine ⟨rfl, rfl, ?_⟩
    have h9 : 0 ≤ ri.num ^ k := Int.pow_nonneg hi0
    omega
  have g1 : decide (i < 0) = true := decide_eq_true (by omega)
  have g1' : i < 0 := by omega
  have HXR := hide hx
  have HYR := hide hy
  clear hri h h0 hb hbi hK0 hK2 hk hn0 hi0 hkk hu hv bx by_ hx hy hi hk0
  have HB := Bel.refl W
  go_enter Tryz.func124, Tryz.ntmps124
  go_wp2_with (first | (go_at_call 123; (with_reducible refine (CT.out _ ((HB.al _).al _)).mono ?_); rintro e w1 ⟨s, B, k1, e1, B', k2, e2, zv, d, rfl, zp, np, hp, hbk⟩; (with_reducible (have HR : At w1 (W.heap.size + 1) [.bool false, .slice none 0 0, .slice none 0 0] := At.up (at_new1 _ _ _ _) hbk; replace HB := ((HB.al _).al _).up hbk))) | (go_at_call 97; (with_reducible refine (CL.out _ _ _ _ _ _ _ _ _ _ zp np hp).mono ?_); rintro e w2 ⟨B0, e0, B1, e1', rfl, z0, n0, hbk⟩; (with_reducible (replace HB := HB.up hbk; replace HR := HR.up hbk)); have hne := HR.lt) | (go_at_call 150; (with_reducible refine (CV.out _ _ _ _ _ (z0.al _) (n0.al _)).mono ?_); rintro e w3 ⟨Bx, ex, By, ey, rfl, zx, ny, hbk⟩; (with_reducible (have H0 : At w3 w2.heap.size [.bool false, .slice B0 (dl r.num.natAbs) e0, .slice B1 (dl r.den) e1'] := At.up (at_new0 _ _ _) hbk; replace HB := (HB.al _).up hbk; replace HR := (HR.al _).up hbk)); have h0_0 := H0.c0; have h0_1 := H0.c1; have h0_2 := H0.c2; have h0_l := H0.lt; have h0_f0 := H0.f0; have h0_f1 := H0.f1; have h0_f2 := H0.f2) | fail)
  have nx := zx.1
  have hrl := HR.lt
  rw [← HXR.out] at nx ⊢
  rw [← HYR.out] at ny ⊢
  refine wp_named ?_
  intro W1 hW1
  have H1 : At W1 w2.heap.size [.bool false, .slice Bx (dl x) ex, .slice By (dl y) ey] := by rw [hW1]; first | exact (H0.put3 _ _ _).al _ | exact (H0.al _).put3 _ _ _
  have HR1 : At W1 (W.heap.size + 1) [.bool false, .slice none 0 0, .slice none 0 0] := by rw [hW1]; first | exact (HR.far3 (by omega) _ _ _).al _ | exact (HR.al _).far3 (by omega) _ _ _
  have HB1 : Bel W W1 := by rw [hW1]; first | exact (HB.uput3 (by omega) _ _ _).al _ | exact (HB.al _).uput3 (by omega) _ _ _
  have nx1 : Nm W1 Bx (dl x) ex x := by rw [hW1]; first | exact (nx.put3 H0 now3).al _ | exact (nx.al _).put3 (H0.al _) now3
  have ny1 : Nm W1 By (dl y) ey y := by rw [hW1]; first | exact (ny.put3 H0 now3).al _ | exact (ny.al _).put3 (H0.al _) now3
  clear hW1 zx zp np hp nx ny HB HR h0_0 h0_1 h0_2 h0_l h0_f0 h0_f1 h0_f2 H0 z0 n0
  rename Bel W W1 => HB
  have HR := HR1
  have H0 := H1
  have nx := nx1
  have ny := ny1
  clear HR1 H1 nx1 ny1
  obtain ⟨pb, hpb⟩ : ∃ p, p = w2.heap.size := ⟨_, rfl⟩
  rw [← hpb] at H0 hne ⊢
  clear hpb hrl
  have l0 := H0.lt
  have l2 := HR.lt
  go_cut [9, 10] from 27 to 35 (fun o o' w => ∃ p q B e B' e', o = .pointer (some ⟨p, 0, none⟩) ∧ o' = .pointer (some ⟨q, 0, none⟩) ∧ W.heap.size + 1 < p ∧ W.heap.size + 1 < q ∧ At w p [.slice B (dl u) e] ∧ At w q [.slice B' (dl v) e'] ∧ Nm w B (dl u) e u ∧ Nm w B' (dl v) e' v ∧ Bel W1 w)
  case first =>
    have HW := Bel.refl W1
    go_region_held3 (fun w' => w'.cell? ⟨pb, 0, none⟩ = some (.bool false) ∧ w'.cell? ⟨pb, 1, none⟩ = some (.slice Bx (dl x) ex) ∧ w'.cell? ⟨pb, 2, none⟩ = some (.slice By (dl y) ey))
      (refine ⟨(?_ : At _ pb [.bool false, .slice Bx (dl x) ex, .slice By (dl y) ey]).c0, (?_ : At _ pb [.bool false, .slice Bx (dl x) ex, .slice By (dl y) ey]).c1, (?_ : At _ pb [.bool false, .slice Bx (dl x) ex, .slice By (dl y) ey]).c2⟩ <;> (repeat (first | with_reducible exact H0 | (with_reducible refine At.dr ?_) | (with_reducible refine At.al ?_ _) | (with_reducible refine At.far ?_ (by omega) _))))
      (first | (go_at_call 151; (with_reducible refine (CX.out _ _ _ _ nx.dr).mono ?_); rintro e w4 ⟨Bu, eu, rfl, nu, hbk⟩; (with_reducible (replace HB := HB.dr.up hbk; replace HW := HW.dr.up hbk; replace H0 := H0.dr.up hbk; replace nx := nx.dr.up hbk; replace ny := ny.dr.up hbk)); have lz0 := H0.lt; (try have lz2 := HP0.lt); (try have lz3 := HP1.lt); have zs1 := Below.size HW) | (go_at_call 151; (with_reducible refine (CX.out _ _ _ _ (nx.al _).dr).mono ?_); rintro e w4 ⟨Bu, eu, rfl, nu, hbk⟩; (with_reducible (have HP0 := At.up (at_new0 _ [.slice none 0 0] _).dr hbk; replace HB := (HB.al _).dr.up hbk; replace HW := (HW.al _).dr.up hbk; replace H0 := (H0.al _).dr.up hbk; replace nx := (nx.al _).dr.up hbk; replace ny := (ny.al _).dr.up hbk)); have lz0 := H0.lt; (try have lz2 := HP0.lt); (try have lz3 := HP1.lt); have zs1 := Below.size HW) | (go_at_call 151; (with_reducible refine (CX.out _ _ _ _ ((nx.al _).al _).dr).mono ?_); rintro e w4 ⟨Bu, eu, rfl, nu, hbk⟩; (with_reducible (have HP0 := At.up ((at_new0 _ [.slice none 0 0] _).al _).dr hbk; have HP1 := At.up (at_new1 _ _ [.slice none 0 0] _).dr hbk; replace HB := ((HB.al _).al _).dr.up hbk; replace HW := ((HW.al _).al _).dr.up hbk; replace H0 := ((H0.al _).al _).dr.up hbk; replace nx := ((nx.al _).al _).dr.up hbk; replace ny := ((ny.al _).al _).dr.up hbk)); have lz0 := H0.lt; (try have lz2 := HP0.lt); (try have lz3 := HP1.lt); have zs1 := Below.size HW) | (go_at_call 151; (with_reducible refine (CY.out _ _ _ _ ny).mono ?_); rintro e w5 ⟨Bv, ev, rfl, nv, hbk⟩; (with_reducible (replace HB := HB.up hbk; replace HW := HW.up hbk; replace H0 := H0.up hbk; replace nu := nu.up hbk)); (try (with_reducible replace HP0 := HP0.up hbk)); (try (with_reducible replace HP1 := HP1.up hbk)); (try have hp0_0 := HP0.c0); (try have fhp0_0 := HP0.f0); (try have lhp0 := HP0.lt); (try have hp1_0 := HP1.c0); (try have fhp1_0 := HP1.f0); (try have lhp1 := HP1.lt); (try have hq0_0 := HQ0.c0); (try have fhq0_0 := HQ0.f0); (try have lhq0 := HQ0.lt); (try have hq1_0 := HQ1.c0); (try have fhq1_0 := HQ1.f0); (try have lhq1 := HQ1.lt); have lz4 := H0.lt; have zs2 := Below.size HW) | (go_at_call 151; (with_reducible refine (CY.out _ _ _ _ (ny.al _)).mono ?_); rintro e w5 ⟨Bv, ev, rfl, nv, hbk⟩; (with_reducible (have HQ0 := At.up (at_new0 _ [.slice none 0 0] _) hbk; replace HB := (HB.al _).up hbk; replace HW := (HW.al _).up hbk; replace H0 := (H0.al _).up hbk; replace nu := (nu.al _).up hbk)); (try (with_reducible replace HP0 := (HP0.al _).up hbk)); (try (with_reducible replace HP1 := (HP1.al _).up hbk)); (try have hp0_0 := HP0.c0); (try have fhp0_0 := HP0.f0); (try have lhp0 := HP0.lt); (try have hp1_0 := HP1.c0); (try have fhp1_0 := HP1.f0); (try have lhp1 := HP1.lt); (try have hq0_0 := HQ0.c0); (try have fhq0_0 := HQ0.f0); (try have lhq0 := HQ0.lt); (try have hq1_0 := HQ1.c0); (try have fhq1_0 := HQ1.f0); (try have lhq1 := HQ1.lt); have lz4 := H0.lt; have zs2 := Below.size HW) | (go_at_call 151; (with_reducible refine (CY.out _ _ _ _ ((ny.al _).al _)).mono ?_); rintro e w5 ⟨Bv, ev, rfl, nv, hbk⟩; (with_reducible (have HQ0 := At.up ((at_new0 _ [.slice none 0 0] _).al _) hbk; have HQ1 := At.up (at_new1 _ _ [.slice none 0 0] _) hbk; replace HB := ((HB.al _).al _).up hbk; replace HW := ((HW.al _).al _).up hbk; replace H0 := ((H0.al _).al _).up hbk; replace nu := ((nu.al _).al _).up hbk)); (try (with_reducible replace HP0 := ((HP0.al _).al _).up hbk)); (try (with_reducible replace HP1 := ((HP1.al _).al _).up hbk)); (try have hp0_0 := HP0.c0); (try have fhp0_0 := HP0.f0); (try have lhp0 := HP0.lt); (try have hp1_0 := HP1.c0); (try have fhp1_0 := HP1.f0); (try have lhp1 := HP1.lt); (try have hq0_0 := HQ0.c0); (try have fhq0_0 := HQ0.f0); (try have lhq0 := HQ0.lt); (try have hq1_0 := HQ1.c0); (try have fhq1_0 := HQ1.f0); (try have lhq1 := HQ1.lt); have lz4 := H0.lt; have zs2 := Below.size HW) | fail)
    all_goals
      go_wp2_with fail
      go_meet
      case rel =>
        refine ⟨_, _, Bu, eu, Bv, ev, rfl, rfl, (by first | omega | (show _ < W1.heap.size; omega) | (show _ < W1.heap.size + 1; omega) | (simp; omega)), (by first | omega | (show _ < W1.heap.size; omega) | (show _ < W1.heap.size + 1; omega) | (simp; omega)), ?_, ?_, ?_, ?_, ?_⟩ <;> (repeat (first | with_reducible exact nu | with_reducible exact nv | with_reducible exact HW | with_reducible exact HP0 | with_reducible exact HP1 | with_reducible exact HQ0 | with_reducible exact HQ1 | with_reducible exact at_new0 _ _ _ | with_reducible exact at_new1 _ _ _ _ | with_reducible exact at_newS _ _ _ _ | (with_reducible refine Bel.dr ?_) | (with_reducible refine Bel.al ?_ _) | (with_reducible refine Bel.put ?_ (by omega) _) | (with_reducible refine Nm.dr ?_) | (with_reducible refine Nm.al ?_ _) | (with_reducible refine Nm.putx ?_ ⟨.slice none 0 0, At.c0 (vs := []) ?_, not_u32⟩ _) | (with_reducible refine At.dr ?_) | (with_reducible refine At.al ?_ _) | (with_reducible refine At.put1 (v := .slice none 0 0) ?_ _) | (with_reducible refine At.far ?_ (by omega) _)))
  case rest =>
    obtain ⟨p, q, Bu, eu, Bv, ev, rfl, rfl, hp, hq, HP, HQ, nu, nv, hW⟩ := hcut
    replace HB := HB.up hW.hid
    replace H0 := H0.up hW.hid
    replace HR := HR.up hW.hid
    clear hW l0 l2 nx ny
    have hx0 := H0.c0
    have hx1 := H0.lt
    have hp_0 := HP.c0
    have hp_l := HP.lt
    have hq_0 := HQ.c0
    have hq_l := HQ.lt
    have hr_0 := HR.c0
    have hr_1 := HR.c1
    have hr_2 := HR.c2
    have hr_l := HR.lt
    have hr_f0 := HR.f0
    have hr_f1 := HR.f1
    have hr_f2 := HR.f2
    go_wp2_with fail
    refine bodyPost_ret (v := .tuple #[.agg #[.bool false, .slice Bu (dl u) eu, .slice Bv (dl v) ev], .bool true]) (by simp [results, Tryz.results124, go_sem, hr_0, hr_1, hr_2]) rfl ?_
    obtain ⟨g1, g2, g3⟩ := HX.out
    refine ⟨Bu, eu, Bv, ev, by rw [g1, g2], ⟨by rw [g1]; exact nu.putq HR _ _ _ _ _ _ _, ?_⟩, by rw [g2]; exact nv.putq HR _ _ _ _ _ _ _, (HB.put3 (by omega) _ _ _).hid⟩
    unfold Hid
    rw [zi_false]
    omega
set_option maxHeartbeats 4000000 in
theorem sig_zero {v : Nat} (hv : v = 0) (hm : 1 ≤ m ∧ m ≤ 7) (hd : 1 ≤ sc ∧ sc ≤ 40) (hS : ∀ W', Bel W W' → Calls Tryz.prog 71 #[.agg #[.bool b, .slice A n c, .slice A' n' c']] W' (IntPost W' 0)) : Calls Tryz.prog 31 #[.agg #[.bool b, .slice A n c, .slice A' n' c'], .int .i64 sc, .int .i64 m] W (ToR W false v (sc - 1)) := by
  have CM : Hid (∀ W', Calls Tryz.prog 33 #[.int .i64 m] W' (RetB W' true)) := fun W' => by
    have h1 := mode_h (W := W') (m := m)
    rwa [decide_eq_true hm] at h1
  have g1 : decide (sc < 1) = false := decide_eq_false (by omega)
  have g1' : ¬ (sc < 1) := by omega
  have g2 : decide (40 < sc) = false := decide_eq_false (by omega)
  have g2' : ¬ (40 < sc) := by omega
  have k1 : IntKind.i64.wrap (sc - 1) = sc - 1 := IntWalk.i64_in _ (by omega)
  have k2 : wrap64 (sc - 1) = sc - 1 := IntWalk.wrap64_in _ (by omega)
  have CS := hide hS
  have hz : dl v = 0 := by rw [hv]; unfold dl; rw [digs_zero]; rfl
  have HZ := hide hz
  have HV := hide hv
  clear hm hd hS hz hv
  have HB := Bel.refl W
  go_enter Tryz.func31, Tryz.ntmps31
  go_wp2_with (first | (go_at_call 33; (with_reducible refine (CM.out _).mono ?_); rintro e w1 ⟨rfl, hbk⟩; replace hbk := Bel.hid hbk; (with_reducible (have H0 : At w1 W.heap.size [.bool b, .slice A n c, .slice A' n' c'] := At.up ((at_new0 _ _ _).al _) hbk; have HR : At w1 (W.heap.size + 1) [.bool false, .slice none 0 0, .int .i64 0] := At.up (at_new1 _ _ _ _) hbk; replace HB := ((HB.al _).al _).up hbk)); have h0_0 := H0.c0; have h0_1 := H0.c1; have h0_2 := H0.c2; have h0_l := H0.lt; have hr_0 := HR.c0; have hr_1 := HR.c1; have hr_2 := HR.c2; have hr_l := HR.lt; have hr_f0 := HR.f0; have hr_f1 := HR.f1; have hr_f2 := HR.f2) | (go_at_call 71; (with_reducible refine (CS.out _ HB).mono ?_); rintro e w2 ⟨rfl, hbk⟩; (with_reducible (replace HB := HB.up hbk; replace H0 := H0.up hbk; replace HR := HR.up hbk)); clear h0_0 h0_1 h0_2 h0_l hr_0 hr_1 hr_2 hr_l hr_f0 hr_f1 hr_f2; have hr_0 := HR.c0; have hr_1 := HR.c1; have hr_2 := HR.c2; have hr_l := HR.lt; have hr_f0 := HR.f0; have hr_f1 := HR.f1; have hr_f2 := HR.f2) | fail)
  refine bodyPost_ret (v := .tuple #[.agg #[.bool false, .slice none 0 0, .int .i64 (sc - 1)], .int .i64 0]) (by simp [results, Tryz.results31, go_sem, hr_0, hr_1, hr_2]) rfl ?_
  exact ⟨none, 0, by rw [HZ.out], by rw [HZ.out, HV.out]; exact nm_nil _ _ _, (HB.uput3 (by omega) _ _ _).hid⟩
set_option maxHeartbeats 4000000 in
theorem sig_size {u : Int} (hm : 1 ≤ m ∧ m ≤ 7) (hd : 1 ≤ sc ∧ sc ≤ 40) (hS : ∀ W', Bel W W' → Calls Tryz.prog 71 #[.agg #[.bool b, .slice A n c, .slice A' n' c']] W' (IntPost W' u)) (hu : u ≠ 0)
    (hE : ∀ W', Bel W W' → Calls Tryz.prog 72 #[.agg #[.bool b, .slice A n c, .slice A' n' c']] W' (IntPost W' e)) (be : -1000000 ≤ e ∧ e ≤ 1000000) (h60 : 60 < sc - 1 - e) : Calls Tryz.prog 31 #[.agg #[.bool b, .slice A n c, .slice A' n' c'], .int .i64 sc, .int .i64 m] W (DEr W 11) := by
  obtain ⟨t, ht⟩ : ∃ t, sc - 1 - e = t := ⟨_, rfl⟩
  have CM : Hid (∀ W', Calls Tryz.prog 33 #[.int .i64 m] W' (RetB W' true)) := fun W' => by
    have h1 := mode_h (W := W') (m := m)
    rwa [decide_eq_true hm] at h1
  have g1 : decide (sc < 1) = false := decide_eq_false (by omega)
  have g1' : ¬ (sc < 1) := by omega
  have g2 : decide (40 < sc) = false := decide_eq_false (by omega)
  have g2' : ¬ (40 < sc) := by omega
  have g3 : (u == 0) = false := by simpa using hu
  have g4 : decide (60 < t) = true := decide_eq_true (by omega)
  have g4' : 60 < t := by omega
  have k1 : IntKind.i64.wrap (sc - 1) = sc - 1 := IntWalk.i64_in _ (by omega)
  have k2 : wrap64 (sc - 1) = sc - 1 := IntWalk.wrap64_in _ (by omega)
  have k3 : IntKind.i64.wrap (sc - 1 - e) = t := by rw [IntWalk.i64_in _ (by omega)]; exact ht
  have k4 : wrap64 (sc - 1 - e) = t := by rw [IntWalk.wrap64_in _ (by omega)]; exact ht
  have CS := hide hS
  have CE := hide hE
  clear hm hd hS hu hE be h60 ht
  have HB := Bel.refl W
  go_enter Tryz.func31, Tryz.ntmps31
  go_wp2_with (first | (go_at_call 33; (with_reducible refine (CM.out _).mono ?_); rintro e w1 ⟨rfl, hbk⟩; replace hbk := Bel.hid hbk; (with_reducible (have H0 : At w1 W.heap.size [.bool b, .slice A n c, .slice A' n' c'] := At.up ((at_new0 _ _ _).al _) hbk; have HR : At w1 (W.heap.size + 1) [.bool false, .slice none 0 0, .int .i64 0] := At.up (at_new1 _ _ _ _) hbk; replace HB := ((HB.al _).al _).up hbk)); have h0_0 := H0.c0; have h0_1 := H0.c1; have h0_2 := H0.c2; have h0_l := H0.lt; have hr_0 := HR.c0; have hr_1 := HR.c1; have hr_2 := HR.c2; have hr_l := HR.lt; have hr_f0 := HR.f0; have hr_f1 := HR.f1; have hr_f2 := HR.f2) | (go_at_call 71; (with_reducible refine (CS.out _ HB).mono ?_); rintro e w2 ⟨rfl, hbk⟩; (with_reducible (replace HB := HB.up hbk; replace H0 := H0.up hbk; replace HR := HR.up hbk)); clear h0_0 h0_1 h0_2 h0_l hr_0 hr_1 hr_2 hr_l hr_f0 hr_f1 hr_f2; have h0_0 := H0.c0; have h0_1 := H0.c1; have h0_2 := H0.c2; have h0_l := H0.lt; have hr_0 := HR.c0; have hr_1 := HR.c1; have hr_2 := HR.c2; have hr_l := HR.lt; have hr_f0 := HR.f0; have hr_f1 := HR.f1; have hr_f2 := HR.f2) | (go_at_call 72; (with_reducible refine (CE.out _ HB).mono ?_); rintro e w3 ⟨rfl, hbk⟩; (with_reducible (replace HB := HB.up hbk; replace H0 := H0.up hbk; replace HR := HR.up hbk)); clear h0_0 h0_1 h0_2 h0_l hr_0 hr_1 hr_2 hr_l hr_f0 hr_f1 hr_f2; have hr_0 := HR.c0; have hr_1 := HR.c1; have hr_2 := HR.c2; have hr_l := HR.lt; have hr_f0 := HR.f0; have hr_f1 := HR.f1; have hr_f2 := HR.f2) | fail)
  refine bodyPost_ret (v := .tuple #[.agg #[.bool false, .slice none 0 0, .int .i64 0], .int .i64 11]) (by simp [results, Tryz.results31, go_sem, hr_0, hr_1, hr_2]) rfl ?_
  exact ⟨rfl, (HB.uput3 (by omega) _ _ _).hid⟩
set_option maxHeartbeats 4000000 in
theorem step_none (hm : 1 ≤ m ∧ m ≤ 7) : Calls Tryz.prog 32 #[.agg #[.bool b, .slice A n c, .slice A' n' c'], .agg #[.bool false, .slice none 0 0, .int .i64 0], .int .i64 m] W (DEr W 1) := by
  have CM : Hid (∀ W', Calls Tryz.prog 33 #[.int .i64 m] W' (RetB W' true)) := fun W' => by
    have h1 := mode_h (W := W') (m := m)
    rwa [decide_eq_true hm] at h1
  have CG : Hid (∀ W', Calls Tryz.prog 38 #[.agg #[.bool false, .slice none 0 0, .int .i64 0]] W' (RetB W' true)) := fun W' => (dx_zero W').gd W' (Bel.refl _)
  have CC : Hid (∀ W', Calls Tryz.prog 74 #[.agg #[.slice none 0 0], .agg #[.slice none 0 0]] W' (IntPost W' 0)) := fun W' => cmp_h (nm_nil W' none 0) (nm_nil W' none 0) (cmpI_eq rfl)
  clear hm
  have HB := Bel.refl W
  go_enter Tryz.func32, Tryz.ntmps32
  go_wp2_with (first | (go_at_call 33; (with_reducible refine (CM.out _).mono ?_); rintro e w1 ⟨rfl, hbk⟩; replace hbk := Bel.hid hbk; (with_reducible (have H1 : At w1 (W.heap.size + 1) [.bool false, .slice none 0 0, .int .i64 0] := At.up ((at_new1 _ _ _ _).al _) hbk; have HR : At w1 (W.heap.size + 1 + 1) [.bool false, .slice none 0 0, .int .i64 0] := At.up (at_new2 _ _ _ _ _) hbk; replace HB := (((HB.al _).al _).al _).up hbk)); have h1_0 := H1.c0; have h1_1 := H1.c1; have h1_2 := H1.c2; have h1_l := H1.lt) | (go_at_call 38; (with_reducible refine (CG.out _).mono ?_); rintro e w2 ⟨rfl, hbk⟩; replace hbk := Bel.hid hbk; (with_reducible (replace HB := HB.up hbk; replace H1 := H1.up hbk; replace HR := HR.up hbk)); clear h1_0 h1_1 h1_2 h1_l; have h1_0 := H1.c0; have h1_1 := H1.c1; have h1_2 := H1.c2; have h1_l := H1.lt) | (go_at_call 74; (with_reducible refine (CC.out _).mono ?_); rintro e w3 ⟨rfl, hbk⟩; (with_reducible (replace HB := HB.up hbk; replace H1 := H1.up hbk; replace HR := HR.up hbk)); clear h1_0 h1_1 h1_2 h1_l; have hr_0 := HR.c0; have hr_1 := HR.c1; have hr_2 := HR.c2; have hr_l := HR.lt; have hr_f0 := HR.f0; have hr_f1 := HR.f1; have hr_f2 := HR.f2) | fail)
  refine bodyPost_ret (v := .tuple #[.agg #[.bool false, .slice none 0 0, .int .i64 0], .int .i64 1]) (by simp [results, Tryz.results32, go_sem, hr_0, hr_1, hr_2]) rfl ?_
  exact ⟨rfl, (HB.uput3 (by omega) _ _ _).hid⟩
set_option maxHeartbeats 4000000 in
theorem int_none : Calls Tryz.prog 29 #[.agg #[.bool b, .slice A n c, .slice A' n' c'], .int .i64 0] W (fun e w' => e = .returned (.tuple #[.agg #[.bool false, .slice none 0 0], .int .i64 1]) ∧ Hid (Below W.heap.size W w')) := by
  have CM : Hid (∀ W', Calls Tryz.prog 33 #[.int .i64 0] W' (RetB W' false)) := fun W' => mode_h (m := 0)
  have HB := Bel.refl W
  go_enter Tryz.func29, Tryz.ntmps29
  go_wp2_with (first | (go_at_call 33; (with_reducible refine (CM.out _).mono ?_); rintro e w1 ⟨rfl, hbk⟩; replace hbk := Bel.hid hbk; (with_reducible (have HR : At w1 (W.heap.size + 1) [.bool false, .slice none 0 0] := At.up (at_new1 _ _ _ _) hbk; replace HB := ((HB.al _).al _).up hbk)); have hr_0 := HR.c0; have hr_1 := HR.c1; have hr_l := HR.lt; have hr_f0 := HR.f0; have hr_f1 := HR.f1) | fail)
  refine bodyPost_ret (v := .tuple #[.agg #[.bool false, .slice none 0 0], .int .i64 1]) (by simp [results, Tryz.results29, go_sem, hr_0, hr_1]) rfl ?_
  exact ⟨rfl, (HB.put2 (by omega) _ _).hid⟩
end
end Go.Proofs.YtphnmccpcjecnaaGreatDoor
end

section
/- RatKnown: what is refused, the document's own whole number as a fraction. Conditions: texts of at most 99999 bytes. -/
open Go.RowKit
set_option maxRecDepth 100000
namespace Go.Proofs.YtphnmccpcjecnaaGreatDoor
def RQk (W : World) (sg : Bool) (z : Int) (d : Nat) (e : Ending) (w' : World) : Prop := ∃ A c A' c', e = .returned (.agg #[.bool sg, .slice A (dq z.natAbs) c, .slice A' (dq d) c']) ∧ Rn w' A c z.natAbs ∧ Rn w' A' c' d ∧ Hid (Below W.heap.size W w')
def RZk3 (W : World) (sg : Bool) (z : Int) (e : Ending) (w' : World) : Prop := ∃ A c, e = .returned (.agg #[.bool sg, .slice A (dq z.natAbs) c]) ∧ Rn w' A c z.natAbs ∧ Hid (Below W.heap.size W w')
theorem Rn.q3 {W : World} {p : Nat} {b0 : Bool} {B0 B1 : Option Addr} {k0 d0 k1 d1 : Nat} {A : Option Addr} {c m : Nat} (h : Rn W A c m) (hp : At W p [.bool b0, .slice B0 k0 d0, .slice B1 k1 d1]) {b : Bool} {B B' : Option Addr} {k d k' d' : Nat} :
    Rn (((W.setCell ⟨p, 0, none⟩ (.bool b)).setCell ⟨p, 1, none⟩ (.slice B k d)).setCell ⟨p, 2, none⟩ (.slice B' k' d')) A c m := h.put3 hp
section
variable {W : World} {b : Bool} {A A' : Option Addr} {n n' c c' : Nat} {K : Nat} {z : Int}
set_option maxHeartbeats 2000000 in
theorem rqint_h {sg : Bool} (h1 : -9223372036854775808 ≤ z) (h2 : z ≤ 9223372036854775807) (hs : sg = decide (z < 0)) : Calls Tryz.prog 55 #[.int .i64 z] W (RQk W sg z 1) := by
  have CI : Hid (∀ W', Calls Tryz.prog 79 #[.int .i64 z] W' (RZk3 W' sg z)) := fun W' => by rw [hs]; exact zint_h h1 h2
  have CS : Hid (∀ W', Calls Tryz.prog 42 #[.int .u64 1] W' (RefPost W' 1)) := fun W' => Small_any (n := 1) (by decide)
  clear h1 h2 hs
  have HB := Bel.refl W
  go_enter Tryz.func55, Tryz.ntmps55
  go_wp2_with (first | (go_at_call 79; (with_reducible refine (CI.out _).mono ?_); rintro e w1 ⟨B, e1, rfl, nz, hbk⟩; have HR := At.up (at_new0 _ _ _) hbk; replace HB := (HB.al _).up hbk) | (go_at_call 42; (with_reducible refine (CS.out _).mono ?_); rintro e w2 ⟨B', e2, rfl, nd, hbk⟩; replace HB := HB.up hbk; replace HR := HR.up hbk; replace nz := nz.up hbk; replace nd := Rn.of nd; have hr_0 := HR.c0; have hr_1 := HR.c1; have hr_2 := HR.c2; have hr_l := HR.lt; have hr_f0 := HR.f0; have hr_f1 := HR.f1; have hr_f2 := HR.f2) | fail)
  refine bodyPost_ret (v := .agg #[.bool sg, .slice B (dq z.natAbs) e1, .slice B' (dq 1) e2]) (by simp [results, Tryz.results55, go_sem, hr_0, hr_1, hr_2]) rfl ?_
  exact ⟨B, e1, B', e2, rfl, nz.q3 HR, nd.q3 HR, below3 HB (Nat.le_refl _) _ _ _⟩
set_option maxHeartbeats 4000000 in
/-- Nought has no power below 0. -/
theorem rpow_0 {i : Int} (hi : i < 0) (h : QA W b A n c A' n' c' 0 K) (hK0 : 0 < K) (hK2 : K ≤ 20000) : Calls Tryz.prog 124 #[.agg #[.bool b, .slice A n c, .slice A' n' c'], .int .i64 i] W (OfNo W) := by
  have CT : Hid (∀ W', Bel W W' → Calls Tryz.prog 123 #[.agg #[.bool b, .slice A n c, .slice A' n' c']] W' (TermsR W' 0 K)) := fun W' hw => terms_h (h.up hw.hid) hK0
  have CL : Hid (∀ W' s B k e B' k' e' z d, ZA W' s B k e z → Nm W' B' k' e' d → Hid (0 < d ∧ mkRat z d = 0 ∧ z.natAbs < W32 ^ K ∧ d < W32 ^ K) → Calls Tryz.prog 97 #[.agg #[.bool s, .slice B k e], .agg #[.slice B' k' e']] W' (QRw W' false 0)) := fun W' s B k e B' k' e' z d hz hd hp => lowest_t hz hd hp.out (by omega) (by omega)
  have CV : Hid (∀ W' B e B' e', ZA W' false B (dl (0 : Rat).num.natAbs) e (0 : Rat).num → Nm W' B' (dl (0 : Rat).den) e' (0 : Rat).den → Calls Tryz.prog 150 #[.agg #[.bool false, .slice B (dl (0 : Rat).num.natAbs) e, .slice B' (dl (0 : Rat).den) e']] W' (OfNo W')) := fun W' B e B' e' h1 h2 => inv_no (K := 1) (qa_of h1 h2 ⟨by decide, by decide⟩) (by decide) rfl
  have g1 : decide (i < 0) = true := decide_eq_true (by omega)
  obtain ⟨r0, hr0⟩ : ∃ x : Rat, (0 : Rat) = x := ⟨_, rfl⟩
  rw [hr0] at CT CL CV
  clear h hr0
  have HB := Bel.refl W
  go_enter Tryz.func124, Tryz.ntmps124
  go_wp2_with (first | (go_at_call 123; (with_reducible refine (CT.out _ ((HB.al _).al _)).mono ?_); rintro e w1 ⟨s, B, k1, e1, B', k2, e2, zv, d, rfl, zp, np, hp, hbk⟩; (with_reducible (have HR : At w1 (W.heap.size + 1) [.bool false, .slice none 0 0, .slice none 0 0] := At.up (at_new1 _ _ _ _) hbk; replace HB := ((HB.al _).al _).up hbk))) | (go_at_call 97; (with_reducible refine (CL.out _ _ _ _ _ _ _ _ _ _ zp np hp).mono ?_); rintro e w2 ⟨B0, e0, B1, e1', rfl, z0, n0, hbk⟩; (with_reducible (replace HB := HB.up hbk; replace HR := HR.up hbk))) | (go_at_call 150; (with_reducible refine (CV.out _ _ _ _ _ (z0.al _) (n0.al _)).mono ?_); rintro e w3 ⟨rfl, hbk⟩; (with_reducible (replace HB := (HB.al _).up hbk; replace HR := (HR.al _).up hbk)); have hr_0 := HR.c0; have hr_1 := HR.c1; have hr_2 := HR.c2; have hr_l := HR.lt; have hr_f0 := HR.f0; have hr_f1 := HR.f1; have hr_f2 := HR.f2) | fail)
  have u0 := fun o => ((HR.put3 (.bool false) (.slice none 0 0) (.slice none 0 0)).al o).c0
  have u1 := fun o => ((HR.put3 (.bool false) (.slice none 0 0) (.slice none 0 0)).al o).c1
  have u2 := fun o => ((HR.put3 (.bool false) (.slice none 0 0) (.slice none 0 0)).al o).c2
  refine bodyPost_ret (v := .tuple #[.agg #[.bool false, .slice none 0 0, .slice none 0 0], .bool false]) (by simp [results, Tryz.results124, go_sem, u0, u1, u2]) rfl ⟨rfl, ?_⟩
  exact (Bel.al (Bel.of (below3 HB (by omega) _ _ _)) _).hid
end
section
variable {W : World} {s t u : ByteArray}
end
end Go.Proofs.YtphnmccpcjecnaaGreatDoor
end

section
/- Statements of rat: own, the document's own fraction of the words that came in. Conditions: what Words gives. -/
open Go.RowKit
set_option maxRecDepth 100000
namespace Go.Proofs.YtphnmccpcjecnaaGreatDoor
section
variable {W : World} {b s : Bool} {A A' : Option Addr} {n n' c c' d m : Nat} {z : Int} {r : Rat}
end
end Go.Proofs.YtphnmccpcjecnaaGreatDoor
end

section
/- Statements of dec: zis, qis, long, own. Conditions: as each says. -/
open Go.RowKit
set_option maxRecDepth 100000
namespace Go.Proofs.YtphnmccpcjecnaaGreatDoor
section
variable {W : World} {z : Int}
set_option maxHeartbeats 2000000 in
theorem zis4_h {A A' : Option Addr} {c c' : Nat} (h : ZA W (decide (z < 0)) A (dl z.natAbs) c z) (h' : Hid (RN W W.heap.size A' c' z.natAbs)) (hl : dl z.natAbs < 4000) : Calls Tryz.prog 61 #[.agg #[.bool (decide (z < 0)), .slice A (dl z.natAbs) c], .agg #[.bool (decide (z < 0)), .slice A' (dq z.natAbs) c']] W (BoolR W true) := by
  have CG : Hid (∀ W', Below W.heap.size W W' → Calls Tryz.prog 75 #[.agg #[.bool (decide (z < 0)), .slice A (dl z.natAbs) c]] W' (BoolR W' true)) := fun W' hb => zgood_h (h.up hb)
  have CI : Hid (∀ W', Below W.heap.size W W' → Calls Tryz.prog 19 #[.agg #[.slice A (dl z.natAbs) c], .slice A' (dq z.natAbs) c'] W' (BoolR W' true)) := fun W' hb => is4_same (h.up hb).1 ((h'.out.below hb).more hb.size) hl
  clear h h' hl
  cases hb : decide (z < 0)
  all_goals
    rw [hb] at CG
    clear hb
    go_enter Tryz.func61, Tryz.ntmps61
    go_wp2_with (first | (go_at_call 75; (with_reducible refine (CG.out _ (al2 _ _ _)).mono ?_); rintro e w1 ⟨rfl, hbk⟩; have HA := hide (((zc_new _ _ _ _ _ _).al _).up hbk); have HA' := hide ((zc_new1 _ _ _ _ _ _ _).up hbk); have HW := hide ((al2 W _ _).trans (hbk.out.mono (al2 W _ _).size)); have a0 := HA.out.c0; have a1 := HA.out.c1; have b0 := HA'.out.c0; have b1 := HA'.out.c1) | (go_at_call 19; (with_reducible refine (CI.out _ HW.out).mono ?_); rintro e w2 ⟨rfl, hbk2⟩) | fail)
    go_ret
    exact ⟨rfl, chain HW hbk2.out⟩
end
section
variable {W : World} {A A' B B' : Option Addr} {c c' n n' d d' : Nat} {r : Rat} {sg : Bool}
set_option maxHeartbeats 2000000 in
theorem qis4_h (nz : ZA W sg A (dl r.num.natAbs) c r.num) (nd : Nm W A' (dl r.den) c' r.den) (mz : Rn W B d r.num.natAbs) (md : Rn W B' d' r.den) (hs : sg = decide (r.num < 0)) (h1 : dl r.num.natAbs < 4000) (h2 : dl r.den < 4000) :
    Calls Tryz.prog 16 #[.agg #[.bool sg, .slice A (dl r.num.natAbs) c, .slice A' (dl r.den) c'], .agg #[.bool sg, .slice B (dq r.num.natAbs) d, .slice B' (dq r.den) d']] W (BoolR W true) := by
  have CZ : Hid (∀ W', Bel W W' → Calls Tryz.prog 61 #[.agg #[.bool sg, .slice A (dl r.num.natAbs) c], .agg #[.bool sg, .slice B (dq r.num.natAbs) d]] W' (BoolR W' true)) := fun W' hb => by
    subst hs
    exact zis4_h (nz.up hb) (mz.up hb) h1
  have CI : Hid (∀ W', Bel W W' → Calls Tryz.prog 19 #[.agg #[.slice A' (dl r.den) c'], .slice B' (dq r.den) d'] W' (BoolR W' true)) := fun W' hb => is4_same (nd.up hb) (md.up hb) h2
  clear nz nd mz md hs h1 h2
  have HB := Bel.refl W
  go_enter Tryz.func16, Tryz.ntmps16
  go_wp2_with (first | (go_at_call 61; (with_reducible refine (CZ.out _ ((HB.al _).al _)).mono ?_); rintro e w1 ⟨rfl, hbk⟩; have HP := At.up ((at_new0 _ _ _).al _) hbk; have HQ := At.up (at_new1 _ _ _ _) hbk; replace HB := ((HB.al _).al _).up hbk; have hp_0 := HP.c0; have hp_1 := HP.c1; have hp_2 := HP.c2; have hp_l := HP.lt; have hq_0 := HQ.c0; have hq_1 := HQ.c1; have hq_2 := HQ.c2; have hq_l := HQ.lt) | (go_at_call 19; (with_reducible refine (CI.out _ HB).mono ?_); rintro e w2 ⟨rfl, hbk⟩; replace HB := HB.up hbk) | fail)
  go_ret
  exact ⟨rfl, HB⟩
theorem rlong4_h {b : Bool} (h1 : n ≤ 12) (h2 : n' ≤ 12) : Calls Tryz.prog 6 #[.agg #[.bool b, .slice A n c, .slice A' n' c']] W (BoolR W false) := by
  have hf : decide ((12 : Int) < (n : Int)) = false := decide_eq_false (by omega)
  have hg : decide ((12 : Int) < (n' : Int)) = false := decide_eq_false (by omega)
  clear h1 h2
  go_enter Tryz.func6, Tryz.ntmps6
  go_wp2
  go_ret
  exact ⟨rfl, (Below.refl _ _).alloc (Nat.le_refl _) _⟩
theorem rlong4_n {b : Bool} (h : ¬ (n ≤ 12 ∧ n' ≤ 12)) : Calls Tryz.prog 6 #[.agg #[.bool b, .slice A n c, .slice A' n' c']] W (BoolR W true) := by
  by_cases h1 : n ≤ 12
  · have hf : decide ((12 : Int) < (n : Int)) = false := decide_eq_false (by omega)
    have hg : decide ((12 : Int) < (n' : Int)) = true := decide_eq_true (by omega)
    clear h h1
    go_enter Tryz.func6, Tryz.ntmps6
    go_wp2
    go_ret
    exact ⟨rfl, (Below.refl _ _).alloc (Nat.le_refl _) _⟩
  · have hf : decide ((12 : Int) < (n : Int)) = true := decide_eq_true (by omega)
    clear h h1
    go_enter Tryz.func6, Tryz.ntmps6
    go_wp2
    go_ret
    exact ⟨rfl, (Below.refl _ _).alloc (Nat.le_refl _) _⟩
end
section
variable {W : World} {b s : Bool} {A A' : Option Addr} {n n' c c' d m : Nat} {z : Int} {r : Rat}
set_option maxHeartbeats 4000000 in
theorem rown4_0 (hw' : ∀ W', Bel W W' → Calls Tryz.prog 40 #[.slice A' n' c'] W' (RefRz W' d)) (h0 : d = 0) (hr : r = 0) (hs : s = decide (r.num < 0)) :
    Calls Tryz.prog 13 #[.agg #[.bool b, .slice A n c, .slice A' n' c']] W (RQm W s r.num r.den) := by
  have CW := hide hw'
  have CQ : Hid (∀ W', Calls Tryz.prog 55 #[.int .i64 0] W' (RQm W' s r.num r.den)) := fun W' => by
    subst hr
    have h1 := rqint_h (W := W') (z := 0) (sg := s) (by decide) (by decide) (by rw [hs]; rfl)
    exact h1.mono fun _ _ ⟨A, c, A', c', he, n1, n2, hb⟩ => ⟨A, c, A', c', he, ⟨n1, hs⟩, n2, hb⟩
  have q1 : dq d = 0 := by rw [h0]; exact dq_zero
  have q2 : ((dq d : Int) == 0) = true := by rw [q1]; rfl
  clear hw' h0 hr hs q1
  have HB := Bel.refl W
  go_enter Tryz.func13, Tryz.ntmps13
  go_wp2_with (first | (go_at_call 40; (with_reducible refine (CW.out _ ((HB.al _).al _)).mono ?_); rintro e w1 ⟨B, e1, rfl, nz, hbk⟩; (with_reducible (have HR : At w1 (W.heap.size + 1) [.bool false, .slice none 0 0, .slice none 0 0] := At.up (at_new1 _ _ _ _) hbk; replace HB := ((HB.al _).al _).up hbk))) | (go_at_call 55; (with_reducible refine (CQ.out _).mono ?_); rintro e w2 ⟨X, i, Y, j, rfl, n1, n2, hbk⟩; (with_reducible (replace HB := HB.up hbk; replace HR := HR.up hbk)); have hr_0 := HR.c0; have hr_1 := HR.c1; have hr_2 := HR.c2; have hr_l := HR.lt; have hr_f0 := HR.f0; have hr_f1 := HR.f1; have hr_f2 := HR.f2) | fail)
  refine bodyPost_ret (v := .agg #[.bool s, .slice X (dq r.num.natAbs) i, .slice Y (dq r.den) j]) (by simp [results, Tryz.results13, go_sem, hr_0, hr_1, hr_2]) rfl ?_
  exact rqm_end n1 n2 HR HB (by omega)
set_option maxHeartbeats 4000000 in
theorem rown4_1 (hw : ∀ W', Bel W W' → Calls Tryz.prog 40 #[.slice A n c] W' (RefRz W' m)) (hw' : ∀ W', Bel W W' → Calls Tryz.prog 40 #[.slice A' n' c'] W' (RefRz W' d)) (h0 : 0 < d) (hz : zi b m = z) (hl : dq m ≤ 4000) (hl' : dq d ≤ 4000) (hr : mkRat z d = r) (hs : s = decide (r.num < 0)) :
    Calls Tryz.prog 13 #[.agg #[.bool b, .slice A n c, .slice A' n' c']] W (RQm W s r.num r.den) := by
  have hm : z.natAbs = m := by rw [← hz, zi_abs]
  obtain ⟨t, ht⟩ : ∃ t, t = decide (z < 0) := ⟨_, rfl⟩
  have CU : Hid (∀ W', Bel W W' → Calls Tryz.prog 40 #[.slice A n c] W' (RefRz W' z.natAbs)) := fun W' h => by rw [hm]; exact hw W' h
  have CW : Hid (∀ W', Bel W W' → Calls Tryz.prog 40 #[.slice A' n' c'] W' (RefRz W' d)) := hw'
  have CZ : Hid (∀ W' F f, Rn W' F f z.natAbs → Calls Tryz.prog 57 #[.bool b, .slice F (dq z.natAbs) f] W' (RZb W' t F (dq z.natAbs) f z.natAbs)) := fun W' F f hn => rzof_h hn (by rw [ht]; exact sig_of (by rw [hm]; exact hz.symm))
  have CQ : Hid (∀ W' F f G g, Rn W' F f z.natAbs → Rn W' G g d → Calls Tryz.prog 56 #[.agg #[.bool t, .slice F (dq z.natAbs) f], .slice G (dq d) g] W' (RQm W' s r.num r.den)) := fun W' F f G g g1 g2 => by
    have h2 := rqof_h (b := t) g1 g2 (by rw [ht]; exact zi_dec z) h0 hr (by rw [hm]; omega) (by omega)
    rw [hs]
    exact h2.mono fun _ _ ⟨A, c, A', c', he, n1, n2, hb⟩ => ⟨A, c, A', c', he, ⟨n1, rfl⟩, n2, hb⟩
  have q1 : 0 < dq d := dq_pos.2 h0
  have q2 : ((dq d : Int) == 0) = false := by
    cases e : ((dq d : Int) == 0) with
    | false => rfl
    | true => have : (dq d : Int) = 0 := by simpa using e
              omega
  clear hw hw' h0 hz hl hl' hr hs ht hm q1
  have HB := Bel.refl W
  go_enter Tryz.func13, Tryz.ntmps13
  go_wp2_with (first | (go_at_call 40; (with_reducible refine (CW.out _ ((HB.al _).al _)).mono ?_); rintro e w1 ⟨G, g, rfl, nd, hbk⟩; (with_reducible (have HP : At w1 W.heap.size [.bool b, .slice A n c, .slice A' n' c'] := At.up ((at_new0 _ _ _).al _) hbk; have HR : At w1 (W.heap.size + 1) [.bool false, .slice none 0 0, .slice none 0 0] := At.up (at_new1 _ _ _ _) hbk; replace HB := ((HB.al _).al _).up hbk))) | fail)
  have l0 := HP.lt
  have l1 := HR.lt
  go_region_held3 (fun w' => w'.cell? ⟨W.heap.size, 0, none⟩ = some (.bool b) ∧ w'.cell? ⟨W.heap.size, 1, none⟩ = some (.slice A n c) ∧ w'.cell? ⟨W.heap.size, 2, none⟩ = some (.slice A' n' c'))
    (refine ⟨(?_ : At _ W.heap.size [.bool b, .slice A n c, .slice A' n' c']).c0, (?_ : At _ W.heap.size [.bool b, .slice A n c, .slice A' n' c']).c1, (?_ : At _ W.heap.size [.bool b, .slice A n c, .slice A' n' c']).c2⟩ <;> (repeat (first | with_reducible exact HP | (with_reducible refine At.dr ?_) | (with_reducible refine At.al ?_ _) | (with_reducible refine At.far ?_ (by omega) _))))
    (first | (go_at_call 40; (with_reducible refine (CU.out _ HB.dr).mono ?_); rintro e w2 ⟨F, f, rfl, nz, hbk⟩; (with_reducible (replace HB := HB.dr.up hbk; replace HP := HP.dr.up hbk; replace HR := HR.dr.up hbk; replace nd := nd.dr.up hbk))) | (go_at_call 57; (with_reducible refine (CZ.out _ _ _ nz).mono ?_); rintro e w3 ⟨rfl, nz2, hbk⟩; (with_reducible (replace HB := HB.up hbk; replace HP := HP.up hbk; replace HR := HR.up hbk; replace nd := nd.up hbk))) | (go_at_call 56; (with_reducible refine (CQ.out _ _ _ _ _ nz2 nd).mono ?_); rintro e w4 ⟨X, i, Y, j, rfl, n1, n2, hbk⟩; (with_reducible (replace HB := HB.up hbk; replace HP := HP.up hbk; replace HR := HR.up hbk)); have hr_0 := HR.c0; have hr_1 := HR.c1; have hr_2 := HR.c2; have hr_l := HR.lt; have hr_f0 := HR.f0; have hr_f1 := HR.f1; have hr_f2 := HR.f2) | fail)
  go_wp2_with fail
  refine bodyPost_ret (v := .agg #[.bool s, .slice X (dq r.num.natAbs) i, .slice Y (dq r.den) j]) (by simp [results, Tryz.results13, go_sem, hr_0, hr_1, hr_2]) rfl ?_
  exact rqm_end n1 n2 HR HB (by omega)
end
end Go.Proofs.YtphnmccpcjecnaaGreatDoor
end

section
/- Statements of dec: awake. No conditions. -/
open Go.RowKit
set_option maxRecDepth 100000
namespace Go.Proofs.YtphnmccpcjecnaaGreatDoor
/-- What a call leaves that returns a text that is known. -/
def DStr (W : World) (s : ByteArray) (e : Ending) (w' : World) : Prop := e = .returned (.string s) ∧ Hid (Below W.heap.size W w')
theorem dstr_of {W : World} {l : List UInt8} {s : ByteArray} {e : Ending} {w' : World} (h : TxR W l e w') (hs : s.data.toList = l) : DStr W s e w' := by
  obtain ⟨t, rfl, ht, hb⟩ := h
  exact ⟨by rw [show t = s from ByteArray.ext (Array.ext' (ht.out.trans hs.symm))], hb⟩
theorem lt10_3 {a b c : Nat} (ha : a < 10) (hb : b < 10) (hc : c < 10) : ∀ x ∈ [a, b, c], x < 10 := by
  intro x hx; simp at hx; rcases hx with rfl | rfl | rfl <;> assumption
theorem part_150 : partL 150 2 = [53, 48] := by
  unfold partL
  rw [show 10 ^ 2 + 150 % 10 ^ 2 = 150 from rfl, decL_lit (m := 150) (ds := [0, 5, 1]) (l := [49, 53, 48]) (lt10_3 (by decide) (by decide) (by decide)) (by intro x hx; simp at hx; subst hx; decide) rfl (by decide) (by decide)]
  rfl
theorem dec_1 : decL 1 = [49] := decL_lit (ds := [1]) (by intro x hx; simp at hx; subst hx; decide) (by intro x hx; simp at hx; subst hx; decide) rfl (by decide) (by decide)
theorem part_15 : partL 15 1 = [53] := by
  unfold partL
  rw [show 10 ^ 1 + 15 % 10 ^ 1 = 15 from rfl, decL_lit (m := 15) (ds := [5, 1]) (l := [49, 53]) (by intro x hx; simp at hx; rcases hx with rfl | rfl <;> decide) (by intro x hx; simp at hx; subst hx; decide) rfl (by decide) (by decide)]
  rfl
theorem short_150 : shortS 150 2 = 1 := by unfold shortS; rw [part_150]; decide
theorem text_150 : decD false 150 2 = [49, 46, 53, 48] := by
  unfold decD
  rw [if_neg (by decide), part_150, show 150 / 10 ^ 2 = 1 from rfl, dec_1]; rfl
theorem text_15 : decD false 15 1 = [49, 46, 53] := by
  unfold decD
  rw [if_neg (by decide), part_15, show 15 / 10 ^ 1 = 1 from rfl, dec_1]; rfl
theorem form_0150 : Form [48, 49, 46, 53, 48] false [48, 49] [53, 48] true :=
  ⟨_, rfl, (fun _ => by decide), ⟨(fun _ => rfl), (fun h => by cases h), by decide⟩⟩
set_option maxHeartbeats 4000000 in
theorem awake4_any (W : World) : Calls Tryz.prog 5 #[] W (BoolR W true) := by
  obtain ⟨m, hm⟩ : ∃ m : Nat, m = 150 := ⟨_, rfl⟩
  obtain ⟨s, hs⟩ : ∃ s : Nat, s = 2 := ⟨_, rfl⟩
  obtain ⟨v, hv⟩ : ∃ v : Nat, v = 15 := ⟨_, rfl⟩
  obtain ⟨j, hj⟩ : ∃ j : Nat, j = 1 := ⟨_, rfl⟩
  obtain ⟨q, hq⟩ : ∃ q : Nat, q = 1 := ⟨_, rfl⟩
  have dm : dl m ≤ 60 := by rw [hm]; exact Nat.le_trans (dl_le (k := 1) (by decide)) (by decide)
  have dv : dl v ≤ 60 := by rw [hv]; exact Nat.le_trans (dl_le (k := 1) (by decide)) (by decide)
  have CP : Hid (∀ W', Calls Tryz.prog 7 #[.string ⟨#[48, 49, 46, 53, 48]⟩] W' (DPR W' false m s)) := fun W' => by
    have h1 := dparse_ok (W := W') (s := ⟨#[48, 49, 46, 53, 48]⟩) (v := 150) form_0150 (by decide) (by decide) (fun _ => by decide) (by decide) (by decide) (by decide)
    rw [hm, hs]; exact h1
  have CX : Hid (∀ (W' : World) A c, Nm W' A (dl m) c m → DX W' false A (dl m) c m s) := fun W' A c h => dx_can h (by omega) (fun h => by cases h)
  have CT : Hid (∀ W' A c, DX W' false A (dl m) c m s → Calls Tryz.prog 14 #[.agg #[.bool false, .slice A (dl m) c, .int .i64 (s : Int)]] W' (DStr W' ⟨#[49, 46, 53, 48]⟩)) := fun W' A c h => (dtext_h h.y (by omega)).mono fun _ _ h1 => dstr_of h1 (by rw [hm, hs, text_150])
  have CS : Hid (∀ W' A c, DX W' false A (dl m) c m s → Calls Tryz.prog 24 #[.agg #[.bool false, .slice A (dl m) c, .int .i64 (s : Int)]] W' (ShR W' false v j)) := fun W' A c h => by
    have h1 := short_h h.y (by omega)
    rwa [show shortS m s = j by rw [hm, hs, short_150, hj], show m / 10 ^ (s - j) = v by rw [hm, hs, hj, hv]] at h1
  have CT2 : Hid (∀ (W' : World) A c, Nm W' A (dl v) c v → Calls Tryz.prog 14 #[.agg #[.bool false, .slice A (dl v) c, .int .i64 (j : Int)]] W' (DStr W' ⟨#[49, 46, 53]⟩)) := fun W' A c h => (dtext_h (dx_can (b := false) (s := j) h (by omega) (fun h => by cases h)).y (by omega)).mono fun _ _ h1 => dstr_of h1 (by rw [hv, hj, text_15])
  have CQ : Hid (∀ W' A c, DX W' false A (dl m) c m s → Calls Tryz.prog 22 #[.agg #[.bool false, .slice A (dl m) c, .int .i64 (s : Int)]] W' (DStr W' ⟨#[53, 48]⟩)) := fun W' A c h => (part_h h.y (by omega)).mono fun _ _ h1 => dstr_of h1 (by rw [hm, hs, part_150])
  have CW : Hid (∀ W' A c, DX W' false A (dl m) c m s → Calls Tryz.prog 20 #[.agg #[.bool false, .slice A (dl m) c, .int .i64 (s : Int)]] W' (NumR W' q)) := fun W' A c h => by
    have h1 := whole_h h.y (by omega)
    rwa [show m / 10 ^ s = q by rw [hm, hs, hq]] at h1
  have CR : Hid (∀ W', Calls Tryz.prog 42 #[.int .u64 1] W' (RefPost W' q)) := fun W' => by rw [hq]; exact Small_any (n := 1) (by omega)
  have CI : Hid (∀ (W' : World) A c A' c', Nm W' A (dl q) c q → Rn W' A' c' q → Calls Tryz.prog 19 #[.agg #[.slice A (dl q) c], .slice A' (dq q) c'] W' (BoolR W' true)) := fun W' A c A' c' h h' => is4_same h h' (Nat.lt_of_le_of_lt (dl_le (k := 1) (by rw [hq]; decide)) (by decide))
  have CG : Hid (∀ W' A c, DX W' false A (dl m) c m s → Calls Tryz.prog 38 #[.agg #[.bool false, .slice A (dl m) c, .int .i64 (s : Int)]] W' (RetB W' true)) := fun W' A c h => h.gd W' (Bel.refl _)
  clear hm hs hv hj hq dm dv
  have HB := Bel.refl W
  go_enter Tryz.func5, Tryz.ntmps5
  go_wp2_with (first | (go_at_call 7; (with_reducible refine (CP.out _).mono ?_); rintro e w1 ⟨A, c, rfl, nm, hbk⟩; have nx := CX.out _ _ _ nm; replace HB := HB.up hbk) | (go_at_call 14; (with_reducible refine (CT.out _ _ _ (nx.al _)).mono ?_); rintro e w2 ⟨rfl, hbk⟩; (with_reducible (have HD : At w2 w1.heap.size [.bool false, .slice A (dl m) c, .int .i64 (s : Int)] := At.up (at_new0 _ _ _) hbk; replace HB := (HB.al _).up hbk; replace nx := (nx.al _).up hbk)); have hd_0 := HD.c0; have hd_1 := HD.c1; have hd_2 := HD.c2; have hd_l := HD.lt) | (go_at_call 24; (with_reducible refine (CS.out _ _ _ nx).mono ?_); rintro e w3 ⟨As, cs, rfl, ns, hbk⟩; (with_reducible (replace HB := HB.up hbk; replace HD := HD.up hbk; replace nx := nx.up hbk)); clear hd_0 hd_1 hd_2 hd_l; have hd_0 := HD.c0; have hd_1 := HD.c1; have hd_2 := HD.c2; have hd_l := HD.lt) | (go_at_call 14; (with_reducible refine (CT2.out _ _ _ ns).mono ?_); rintro e w4 ⟨rfl, hbk⟩; (with_reducible (replace HB := HB.up hbk; replace HD := HD.up hbk; replace nx := nx.up hbk)); clear hd_0 hd_1 hd_2 hd_l; have hd_0 := HD.c0; have hd_1 := HD.c1; have hd_2 := HD.c2; have hd_l := HD.lt) | (go_at_call 22; (with_reducible refine (CQ.out _ _ _ nx).mono ?_); rintro e w5 ⟨rfl, hbk⟩; (with_reducible (replace HB := HB.up hbk; replace HD := HD.up hbk; replace nx := nx.up hbk)); clear hd_0 hd_1 hd_2 hd_l; have hd_0 := HD.c0; have hd_1 := HD.c1; have hd_2 := HD.c2; have hd_l := HD.lt) | (go_at_call 20; (with_reducible refine (CW.out _ _ _ nx).mono ?_); rintro e w6 ⟨Aw, cw, rfl, nw, hbk⟩; (with_reducible (replace HB := HB.up hbk; replace HD := HD.up hbk; replace nx := nx.up hbk)); clear hd_0 hd_1 hd_2 hd_l; have hd_0 := HD.c0; have hd_1 := HD.c1; have hd_2 := HD.c2; have hd_l := HD.lt) | (go_at_call 42; (with_reducible refine (CR.out _).mono ?_); rintro e w7 ⟨Ar, cr, rfl, rr, hbk⟩; (with_reducible (replace HB := HB.up hbk; replace HD := HD.up hbk; replace nx := nx.up hbk; replace nw := nw.up hbk)); clear hd_0 hd_1 hd_2 hd_l; have hd_0 := HD.c0; have hd_1 := HD.c1; have hd_2 := HD.c2; have hd_l := HD.lt; replace rr := Rn.of rr) | (go_at_call 19; (with_reducible refine (CI.out _ _ _ _ _ nw rr).mono ?_); rintro e w8 ⟨rfl, hbk⟩; (with_reducible (replace HB := HB.up hbk; replace HD := HD.up hbk; replace nx := nx.up hbk)); clear hd_0 hd_1 hd_2 hd_l; have hd_0 := HD.c0; have hd_1 := HD.c1; have hd_2 := HD.c2; have hd_l := HD.lt) | (go_at_call 38; (with_reducible refine (CG.out _ _ _ nx).mono ?_); rintro e w9 ⟨rfl, hbk⟩; replace hbk := Bel.hid hbk; replace HB := HB.up hbk) | fail)
  go_ret
  exact ⟨rfl, HB⟩
end Go.Proofs.YtphnmccpcjecnaaGreatDoor
end
