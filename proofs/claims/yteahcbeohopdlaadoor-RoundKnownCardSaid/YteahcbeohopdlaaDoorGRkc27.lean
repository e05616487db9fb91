/- Several texts in one, each with its own sentence and conditions. -/
import Derived.Test.YteahcbeohopdlaaDoorGRkc26
import Derived.Test.YteahcbeohopdlaaDoorGRkc22
section
/- Package rat: power, Pow of a power that is not negative, of a base that is not. Package round: To. Conditions: terms of at most 6000 words, and see there. -/
open Go.RowKit
set_option maxRecDepth 100000
namespace Go.Proofs.YteahcbeohopdlaaDoor
theorem at_newS {W : World} (q : Addr) (u : Value) (vs : List Value) (t : TypeId) : At ((W.setCell q u).alloc (.cells vs.toArray t)) W.heap.size vs := at_size (at_new0 _ vs t) (by simp [World.setCell])
theorem now1d : NoW [.slice none 0 0] := now1
/-- What To leaves: a numeral and no error. -/
def ToR (W : World) (b : Bool) (v : Nat) (s : Int) (e : Ending) (w' : World) : Prop := ∃ A c, e = .returned (.tuple #[.agg #[.bool b, .slice A (dl v) c, .int .i64 s], .int .i64 0]) ∧ Nm w' A (dl v) c v ∧ Hid (Below W.heap.size W w')
section
variable {W : World} {b b' : Bool} {A A' A2 : Option Addr} {n n' n2 c c' c2 m2 s K q : Nat} {m : Int} {r : Rat}
theorem qpower_h {k : Nat} (h : Nm W A n c q) (hk : k ≤ 1000000) (hb : ∀ i, i ≤ k → dl (q ^ i) ≤ 100000) : Calls Tryd.prog 94 #[.agg #[.slice A n c], .int .i64 (k : Int)] W (NumR W (q ^ k)) := by
  obtain ⟨u, hu⟩ : ∃ u, q ^ k = u := ⟨_, rfl⟩
  have CP : Hid (∀ W', Bel W W' → Calls Tryd.prog 126 #[.agg #[.slice A n c], .int .i64 (k : Int)] W' (NumR W' u)) := fun W' hw => pow_h (h.up hw.hid) hk hb hu
  have h1 : decide ((k : Int) < 0) = false := decide_eq_false (by omega)
  rw [hu]
  clear hu h hb hk
  have HB := Bel.refl W
  go_enter Tryd.func94, Tryd.ntmps94
  go_wp2_with (first | (go_at_call 126; (with_reducible refine (CP.out _ ((HB.al _).al _)).mono ?_); rintro e w2 ⟨B2, e2, rfl, nb2, hbk⟩; have HR := At.up (at_new1 _ _ _ _) hbk; replace HB := ((HB.al _).al _).up hbk; have hr_0 := HR.c0; have hr_l := HR.lt; have hr_f0 := HR.f0) | fail)
  refine bodyPost_ret (v := .agg #[.slice B2 (dl u) e2]) (by simp [results, Tryd.results94, go_sem, hr_0]) rfl ?_
  exact ret_n HB (by omega) HR now1 nb2
theorem pow_bd {x k : Nat} (hx : x < W32 ^ K) (hk : K * k ≤ 90000) {i : Nat} (hi : i ≤ k) : dl (x ^ i) ≤ 100000 := by
  have h1 : x ^ i ≤ (W32 ^ K) ^ i := Nat.pow_le_pow_left (Nat.le_of_lt hx) i
  rw [← Nat.pow_mul] at h1
  have h2 : K * i ≤ K * k := Nat.mul_le_mul_left K hi
  have h3 : W32 ^ (K * i) < W32 ^ (K * i + 1) := Nat.pow_lt_pow_right (by decide) (by omega)
  exact Nat.le_trans (dl_le (k := K * i + 1) (by omega)) (by omega)
set_option maxHeartbeats 16000000 in
theorem rpow_p {k : Nat} (h : QA W b A n c A' n' c' r K) (h0 : 0 ≤ r) (hb : Bd r K) (hK0 : 0 < K) (hK2 : K ≤ 20000) (hk : K * k ≤ 90000) : Calls Tryd.prog 42 #[.agg #[.bool b, .slice A n c, .slice A' n' c'], .int .i64 (k : Int)] W (OfYw W false (r ^ k)) := by
  have hn0 : 0 ≤ r.num := Rat.num_nonneg.2 h0
  have hkk : k ≤ 1000000 := by
    have : 1 * k ≤ K * k := Nat.mul_le_mul_right k hK0
    omega
  have CT : Hid (∀ W', Bel W W' → Calls Tryd.prog 92 #[.agg #[.bool b, .slice A n c, .slice A' n' c']] W' (TermsR W' r K)) := fun W' hw => terms_h (h.up hw.hid) hK0
  have CL : Hid (∀ W' s B k e B' k' e' z d, ZA W' s B k e z → Nm W' B' k' e' d → Hid (0 < d ∧ mkRat z d = r ∧ z.natAbs < W32 ^ K ∧ d < W32 ^ K) → Calls Tryd.prog 91 #[.agg #[.bool s, .slice B k e], .agg #[.slice B' k' e']] W' (QRw W' false r)) := fun W' s B k e B' k' e' z d hz hd hp => by
    have h1 := lowest_t hz hd hp.out (by omega) (by omega)
    unfold QR at h1
    rw [decide_eq_false (show ¬ r.num < 0 by omega)] at h1
    exact h1
  obtain ⟨x, hx⟩ : ∃ x : Nat, x = r.num.natAbs := ⟨_, rfl⟩
  obtain ⟨y, hy⟩ : ∃ y : Nat, y = r.den := ⟨_, rfl⟩
  obtain ⟨u, hu⟩ : ∃ u : Nat, x ^ k = u := ⟨_, rfl⟩
  obtain ⟨v, hv⟩ : ∃ v : Nat, y ^ k = v := ⟨_, rfl⟩
  have bx : x < W32 ^ K := by rw [hx]; exact hb.1
  have by_ : y < W32 ^ K := by rw [hy]; exact hb.2
  have CX : Hid (∀ W' B n e, Nm W' B n e x → Calls Tryd.prog 94 #[.agg #[.slice B n e], .int .i64 (k : Int)] W' (NumR W' u)) := fun W' B n e h1 => by rw [← hu]; exact qpower_h h1 hkk (fun i hi => pow_bd bx hk hi)
  have CY : Hid (∀ W' B n e, Nm W' B n e y → Calls Tryd.prog 94 #[.agg #[.slice B n e], .int .i64 (k : Int)] W' (NumR W' v)) := fun W' B n e h1 => by rw [← hv]; exact qpower_h h1 hkk (fun i hi => pow_bd by_ hk hi)
  have HX : Hid ((r ^ k).num.natAbs = u ∧ (r ^ k).den = v ∧ ¬ (r ^ k).num < 0) := by
    unfold Hid
    rw [Rat.num_pow, Rat.den_pow, Int.natAbs_pow, ← hx, ← hy, hu, hv]
    refine ⟨rfl, rfl, ?_⟩
    have h9 : 0 ≤ r.num ^ k := Int.pow_nonneg hn0
    omega
  have hsg : decide ((k : Int) < 0) = false := decide_eq_false (by omega)
  have HXR := hide hx
  have HYR := hide hy
  clear h h0 hb hK0 hK2 hk hn0 hkk hu hv bx by_ hx hy
  have HB := Bel.refl W
  go_enter Tryd.func42, Tryd.ntmps42
  go_wp2_with (first | (go_at_call 92; (with_reducible refine (CT.out _ ((HB.al _).al _)).mono ?_); rintro e w1 ⟨s, B, k1, e1, B', k2, e2, zv, d, rfl, zp, np, hp, hbk⟩; (with_reducible (have HR : At w1 (W.heap.size + 1) [.bool false, .slice none 0 0, .slice none 0 0] := At.up (at_new1 _ _ _ _) hbk; replace HB := ((HB.al _).al _).up hbk))) | (go_at_call 91; (with_reducible refine (CL.out _ _ _ _ _ _ _ _ _ _ zp np hp).mono ?_); rintro e w2 ⟨Bx, ex, By, ey, rfl, zx, ny, hbk⟩; (with_reducible (replace HB := HB.up hbk; replace HR := HR.up hbk))) | fail)
  have nx := zx.1
  rw [← HXR.out] at nx ⊢
  rw [← HYR.out] at ny ⊢
  obtain ⟨W1, hW1⟩ : ∃ X, X = w2.alloc (.cells #[.bool false, .slice Bx (dl x) ex, .slice By (dl y) ey] 65) := ⟨_, rfl⟩
  rw [← hW1]
  obtain ⟨pb, hpb⟩ : ∃ p, p = w2.heap.size := ⟨_, rfl⟩
  rw [← hpb]
  have H0 : At W1 pb [.bool false, .slice Bx (dl x) ex, .slice By (dl y) ey] := by rw [hW1, hpb]; exact at_new0 _ _ _
  have hpb2 : W.heap.size + 1 < pb := by rw [hpb]; exact HR.lt
  replace HR : At W1 (W.heap.size + 1) [.bool false, .slice none 0 0, .slice none 0 0] := by rw [hW1]; exact HR.al _
  replace nx : Nm W1 Bx (dl x) ex x := by rw [hW1]; exact nx.al _
  replace ny : Nm W1 By (dl y) ey y := by rw [hW1]; exact ny.al _
  replace HB : Bel W W1 := by rw [hW1]; exact HB.al _
  clear hW1 hpb zx zp np hp
  have l0 := H0.lt
  have l2 := HR.lt
  go_cut [9, 10] from 27 to 35 (fun o o' w => ∃ p q B e B' e', o = .pointer (some ⟨p, 0, none⟩) ∧ o' = .pointer (some ⟨q, 0, none⟩) ∧ W.heap.size + 1 < p ∧ W.heap.size + 1 < q ∧ At w p [.slice B (dl u) e] ∧ At w q [.slice B' (dl v) e'] ∧ Nm w B (dl u) e u ∧ Nm w B' (dl v) e' v ∧ Bel W1 w)
  case first =>
    have HW := Bel.refl W1
    go_region_held3 (fun w' => w'.cell? ⟨pb, 0, none⟩ = some (.bool false) ∧ w'.cell? ⟨pb, 1, none⟩ = some (.slice Bx (dl x) ex) ∧ w'.cell? ⟨pb, 2, none⟩ = some (.slice By (dl y) ey))
      (refine ⟨(?_ : At _ pb [.bool false, .slice Bx (dl x) ex, .slice By (dl y) ey]).c0, (?_ : At _ pb [.bool false, .slice Bx (dl x) ex, .slice By (dl y) ey]).c1, (?_ : At _ pb [.bool false, .slice Bx (dl x) ex, .slice By (dl y) ey]).c2⟩ <;> (repeat (first | with_reducible exact H0 | (with_reducible refine At.dr ?_) | (with_reducible refine At.al ?_ _) | (with_reducible refine At.far ?_ (by omega) _))))
      (first | (go_at_call 94; (with_reducible refine (CX.out _ _ _ _ nx.dr).mono ?_); rintro e w4 ⟨Bu, eu, rfl, nu, hbk⟩; (with_reducible (replace HB := HB.dr.up hbk; replace HW := HW.dr.up hbk; replace H0 := H0.dr.up hbk; replace nx := nx.dr.up hbk; replace ny := ny.dr.up hbk)); have lz0 := H0.lt; (try have lz2 := HP0.lt); (try have lz3 := HP1.lt); have zs1 := Below.size HW) | (go_at_call 94; (with_reducible refine (CX.out _ _ _ _ (nx.al _).dr).mono ?_); rintro e w4 ⟨Bu, eu, rfl, nu, hbk⟩; (with_reducible (have HP0 := At.up (at_new0 _ [.slice none 0 0] _).dr hbk; replace HB := (HB.al _).dr.up hbk; replace HW := (HW.al _).dr.up hbk; replace H0 := (H0.al _).dr.up hbk; replace nx := (nx.al _).dr.up hbk; replace ny := (ny.al _).dr.up hbk)); have lz0 := H0.lt; (try have lz2 := HP0.lt); (try have lz3 := HP1.lt); have zs1 := Below.size HW) | (go_at_call 94; (with_reducible refine (CX.out _ _ _ _ ((nx.al _).al _).dr).mono ?_); rintro e w4 ⟨Bu, eu, rfl, nu, hbk⟩; (with_reducible (have HP0 := At.up ((at_new0 _ [.slice none 0 0] _).al _).dr hbk; have HP1 := At.up (at_new1 _ _ [.slice none 0 0] _).dr hbk; replace HB := ((HB.al _).al _).dr.up hbk; replace HW := ((HW.al _).al _).dr.up hbk; replace H0 := ((H0.al _).al _).dr.up hbk; replace nx := ((nx.al _).al _).dr.up hbk; replace ny := ((ny.al _).al _).dr.up hbk)); have lz0 := H0.lt; (try have lz2 := HP0.lt); (try have lz3 := HP1.lt); have zs1 := Below.size HW) | (go_at_call 94; (with_reducible refine (CY.out _ _ _ _ ny).mono ?_); rintro e w5 ⟨Bv, ev, rfl, nv, hbk⟩; (with_reducible (replace HB := HB.up hbk; replace HW := HW.up hbk; replace H0 := H0.up hbk; replace nu := nu.up hbk)); (try (with_reducible replace HP0 := HP0.up hbk)); (try (with_reducible replace HP1 := HP1.up hbk)); (try have hp0_0 := HP0.c0); (try have fhp0_0 := HP0.f0); (try have lhp0 := HP0.lt); (try have hp1_0 := HP1.c0); (try have fhp1_0 := HP1.f0); (try have lhp1 := HP1.lt); (try have hq0_0 := HQ0.c0); (try have fhq0_0 := HQ0.f0); (try have lhq0 := HQ0.lt); (try have hq1_0 := HQ1.c0); (try have fhq1_0 := HQ1.f0); (try have lhq1 := HQ1.lt); have lz4 := H0.lt; have zs2 := Below.size HW) | (go_at_call 94; (with_reducible refine (CY.out _ _ _ _ (ny.al _)).mono ?_); rintro e w5 ⟨Bv, ev, rfl, nv, hbk⟩; (with_reducible (have HQ0 := At.up (at_new0 _ [.slice none 0 0] _) hbk; replace HB := (HB.al _).up hbk; replace HW := (HW.al _).up hbk; replace H0 := (H0.al _).up hbk; replace nu := (nu.al _).up hbk)); (try (with_reducible replace HP0 := (HP0.al _).up hbk)); (try (with_reducible replace HP1 := (HP1.al _).up hbk)); (try have hp0_0 := HP0.c0); (try have fhp0_0 := HP0.f0); (try have lhp0 := HP0.lt); (try have hp1_0 := HP1.c0); (try have fhp1_0 := HP1.f0); (try have lhp1 := HP1.lt); (try have hq0_0 := HQ0.c0); (try have fhq0_0 := HQ0.f0); (try have lhq0 := HQ0.lt); (try have hq1_0 := HQ1.c0); (try have fhq1_0 := HQ1.f0); (try have lhq1 := HQ1.lt); have lz4 := H0.lt; have zs2 := Below.size HW) | (go_at_call 94; (with_reducible refine (CY.out _ _ _ _ ((ny.al _).al _)).mono ?_); rintro e w5 ⟨Bv, ev, rfl, nv, hbk⟩; (with_reducible (have HQ0 := At.up ((at_new0 _ [.slice none 0 0] _).al _) hbk; have HQ1 := At.up (at_new1 _ _ [.slice none 0 0] _) hbk; replace HB := ((HB.al _).al _).up hbk; replace HW := ((HW.al _).al _).up hbk; replace H0 := ((H0.al _).al _).up hbk; replace nu := ((nu.al _).al _).up hbk)); (try (with_reducible replace HP0 := ((HP0.al _).al _).up hbk)); (try (with_reducible replace HP1 := ((HP1.al _).al _).up hbk)); (try have hp0_0 := HP0.c0); (try have fhp0_0 := HP0.f0); (try have lhp0 := HP0.lt); (try have hp1_0 := HP1.c0); (try have fhp1_0 := HP1.f0); (try have lhp1 := HP1.lt); (try have hq0_0 := HQ0.c0); (try have fhq0_0 := HQ0.f0); (try have lhq0 := HQ0.lt); (try have hq1_0 := HQ1.c0); (try have fhq1_0 := HQ1.f0); (try have lhq1 := HQ1.lt); have lz4 := H0.lt; have zs2 := Below.size HW) | fail)
    all_goals
      go_wp2_with fail
      go_meet
      case rel =>
        refine ⟨_, _, Bu, eu, Bv, ev, rfl, rfl, (by first | omega | (show _ < W1.heap.size; omega) | (show _ < W1.heap.size + 1; omega) | (simp; omega)), (by first | omega | (show _ < W1.heap.size; omega) | (show _ < W1.heap.size + 1; omega) | (simp; omega)), ?_, ?_, ?_, ?_, ?_⟩ <;> (repeat (first | with_reducible exact nu | with_reducible exact nv | with_reducible exact HW | with_reducible exact HP0 | with_reducible exact HP1 | with_reducible exact HQ0 | with_reducible exact HQ1 | with_reducible exact at_new0 _ _ _ | with_reducible exact at_new1 _ _ _ _ | with_reducible exact at_newS _ _ _ _ | (with_reducible refine Bel.dr ?_) | (with_reducible refine Bel.al ?_ _) | (with_reducible refine Bel.put ?_ (by omega) _) | (with_reducible refine Nm.dr ?_) | (with_reducible refine Nm.al ?_ _) | (with_reducible refine Nm.putx ?_ ⟨.slice none 0 0, At.c0 (vs := []) ?_, not_u32⟩ _) | (with_reducible refine At.dr ?_) | (with_reducible refine At.al ?_ _) | (with_reducible refine At.put1 (v := .slice none 0 0) ?_ _) | (with_reducible refine At.far ?_ (by omega) _)))
  case rest =>
    obtain ⟨p, q, Bu, eu, Bv, ev, rfl, rfl, hp, hq, HP, HQ, nu, nv, hW⟩ := hcut
    replace HB := HB.up hW.hid
    replace H0 := H0.up hW.hid
    replace HR := HR.up hW.hid
    clear hW l0 l2 nx ny
    have hx0 := H0.c0
    have hx1 := H0.lt
    have hp_0 := HP.c0
    have hp_l := HP.lt
    have hq_0 := HQ.c0
    have hq_l := HQ.lt
    have hr_0 := HR.c0
    have hr_1 := HR.c1
    have hr_2 := HR.c2
    have hr_l := HR.lt
    have hr_f0 := HR.f0
    have hr_f1 := HR.f1
    have hr_f2 := HR.f2
    go_wp2_with fail
    refine bodyPost_ret (v := .tuple #[.agg #[.bool false, .slice Bu (dl u) eu, .slice Bv (dl v) ev], .bool true]) (by simp [results, Tryd.results42, go_sem, hr_0, hr_1, hr_2]) rfl ?_
    obtain ⟨g1, g2, g3⟩ := HX.out
    refine ⟨Bu, eu, Bv, ev, by rw [g1, g2], ⟨by rw [g1]; exact nu.putq HR _ _ _ _ _ _ _, ?_⟩, by rw [g2]; exact nv.putq HR _ _ _ _ _ _ _, (HB.put3 (by omega) _ _ _).hid⟩
    unfold Hid
    rw [zi_false]
    omega
set_option maxHeartbeats 8000000 in
theorem to_ok (h : QA W b A n c A' n' c' r K) (hs : s ≤ 60) (hm : 1 ≤ m ∧ m ≤ 7) (hK0 : 0 < K) (hK : K ≤ 6000) {t : Int} (ht : rdR m (r * mkRat (10 ^ s : Nat) 1) = t) : Calls Tryd.prog 36 #[.agg #[.bool b, .slice A n c, .slice A' n' c'], .int .i64 (s : Int), .int .i64 m] W (ToR W (decide (t < 0)) t.natAbs (s : Int)) := by
  obtain ⟨v, hv⟩ : ∃ v : Nat, v = t.natAbs := ⟨_, rfl⟩
  obtain ⟨st, hst⟩ : ∃ u, u = decide (t < 0) := ⟨_, rfl⟩
  obtain ⟨one, hone⟩ : ∃ x : Nat, x = 1 := ⟨_, rfl⟩
  have CM : Hid (∀ W', Calls Tryd.prog 83 #[.int .i64 m] W' (RetB W' true)) := fun W' => by
    have h1 := mode_h (W := W') (m := m)
    rwa [decide_eq_true hm] at h1
  have CU : Hid (∀ W', Calls Tryd.prog 85 #[.int .i64 (s : Int)] W' (DvR W' false one (s : Int))) := fun W' => by rw [hone]; exact unit_p (by omega)
  have CX : Hid (∀ W' B e, Bel W W' → Nm W' B (dl one) e one → Calls Tryd.prog 84 #[.agg #[.bool b, .slice A n c, .slice A' n' c'], .agg #[.bool false, .slice B (dl one) e, .int .i64 (s : Int)], .int .i64 m] W' (DvR W' st v (s : Int))) := fun W' B e hw hn => by
    have h1 := multiple_h (b' := false) (h.up hw.hid) hn (by rw [hone]; exact Nat.one_lt_pow (by omega) (by decide)) hs hm hK0 hK
    rw [hone, Nat.mul_one, ht, ← hst, ← hv, ← hone] at h1
    exact h1
  have g1 : decide ((s : Int) < 0) = false := decide_eq_false (by omega)
  have g2 : decide ((60 : Int) < (s : Int)) = false := decide_eq_false (by omega)
  have g3 : ¬ (s : Int) < 0 := by omega
  have g4 : ¬ (60 : Int) < (s : Int) := by omega
  rw [← hst, ← hv]
  clear h hs hm hK0 hK ht hv hst hone
  have HB := Bel.refl W
  go_enter Tryd.func36, Tryd.ntmps36
  go_wp2_with (first | (go_at_call 83; (with_reducible refine (CM.out _).mono ?_); rintro e w1 ⟨rfl, hbk⟩; replace hbk := Bel.hid hbk; (with_reducible (have H0 : At w1 W.heap.size [.bool b, .slice A n c, .slice A' n' c'] := At.up ((at_new0 _ _ _).al _) hbk; have HR : At w1 (W.heap.size + 1) [.bool false, .slice none 0 0, .int .i64 0] := At.up (at_new1 _ _ _ _) hbk; replace HB := ((HB.al _).al _).up hbk))) | fail)
  go_region_held3 (fun w' => w'.cell? ⟨W.heap.size, 0, none⟩ = some (.bool b) ∧ w'.cell? ⟨W.heap.size, 1, none⟩ = some (.slice A n c) ∧ w'.cell? ⟨W.heap.size, 2, none⟩ = some (.slice A' n' c'))
    (refine ⟨(?_ : At _ W.heap.size [.bool b, .slice A n c, .slice A' n' c']).c0, (?_ : At _ W.heap.size [.bool b, .slice A n c, .slice A' n' c']).c1, (?_ : At _ W.heap.size [.bool b, .slice A n c, .slice A' n' c']).c2⟩ <;> (repeat (first | with_reducible exact H0 | (with_reducible refine At.dr ?_) | (with_reducible refine At.al ?_ _) | (with_reducible refine At.far ?_ (by omega) _))))
    (first | (go_at_call 85; (with_reducible refine (CU.out _).mono ?_); rintro e w2 ⟨Bo, eo, rfl, no, hbk⟩; (with_reducible (replace HB := HB.dr.up hbk; replace H0 := H0.dr.up hbk; replace HR := HR.dr.up hbk))) | (go_at_call 84; (with_reducible refine (CX.out _ _ _ HB no).mono ?_); rintro e w3 ⟨Bt, et, rfl, nt, hbk⟩; (with_reducible (replace HB := HB.up hbk; replace H0 := H0.up hbk; replace HR := HR.up hbk)); have hr_0 := HR.c0; have hr_1 := HR.c1; have hr_2 := HR.c2; have hr_l := HR.lt; have hr_f0 := HR.f0; have hr_f1 := HR.f1; have hr_f2 := HR.f2) | fail)
  go_wp2_with fail
  refine bodyPost_ret (v := .tuple #[.agg #[.bool st, .slice Bt (dl v) et, .int .i64 (s : Int)], .int .i64 0]) (by simp [results, Tryd.results36, go_sem, hr_0, hr_1, hr_2]) rfl ?_
  exact ⟨Bt, et, rfl, nt.putd HR _ _ _ _ _, (HB.uput3 (by omega) _ _ _).hid⟩
end
end Go.Proofs.YteahcbeohopdlaaDoor
end

section
/- Package round: exponent, limit of a numeral without digits behind the point, Sig (its calls' contracts given). Conditions: terms of at most 6000 words. -/
open Go.RowKit
set_option maxRecDepth 100000
namespace Go.Proofs.YteahcbeohopdlaaDoor
section
variable {W : World} {b b' sg : Bool} {A A' A2 : Option Addr} {n n' n2 c c' c2 m2 s K q d : Nat} {m z e sc : Int} {r pw : Rat}
theorem strlen {t : ByteArray} {l : List UInt8} {L : Nat} (h : t.data.toList = l) (hl : l.length = L) : t.size = L := by
  rw [← hl, ← h, Array.length_toList]; rfl
set_option maxHeartbeats 8000000 in
theorem expo_h {L1 L2 : Nat} {tn : Rat} (htn : tn = ((10 : Int) : Rat)) (hz : ZA W b A n c z) (hd : Nm W A' n' c' d) (hd0 : 0 < d) (l1 : (decL z.natAbs).length = L1) (l2 : (decL d).length = L2) (he : (L1 : Int) - (L2 : Int) = e) (b1 : L1 ≤ 100000) (b2 : L2 ≤ 100000)
    (hp : ∀ W' B f B' f', ZA W' false B (dl tn.num.natAbs) f tn.num → Nm W' B' (dl tn.den) f' tn.den → Calls Tryd.prog 42 #[.agg #[.bool false, .slice B (dl tn.num.natAbs) f, .slice B' (dl tn.den) f'], .int .i64 e] W' (OfYw W' false pw))
    (bz : z.natAbs < W32 ^ K) (bd : d < W32 ^ K) (bp : Bd pw K) (hK : 0 < K) (hK2 : K ≤ 20000) :
    Calls Tryd.prog 86 #[.agg #[.bool b, .slice A n c, .slice A' n' c']] W (IntPost W (if cmpR (mkRat (z.natAbs : Int) d) pw < 0 then e - 1 else e)) := by
  obtain ⟨u, hu⟩ : ∃ u, cmpR (mkRat (z.natAbs : Int) d) pw = u := ⟨_, rfl⟩
  have CT : Hid (∀ W', Bel W W' → Calls Tryd.prog 80 #[.agg #[.slice A n c]] W' (TxR W' (decL z.natAbs))) := fun W' hw => text_h (hz.up hw.hid).1
  have CT2 : Hid (∀ W', Bel W W' → Calls Tryd.prog 80 #[.agg #[.slice A' n' c']] W' (TxR W' (decL d))) := fun W' hw => text_h (hd.up hw.hid)
  have CI : Hid (∀ W', Calls Tryd.prog 123 #[.int .i64 10] W' (QRw W' false tn)) := fun W' => by
    have h1 := int_h (W := W') (k := 10) (by decide) (by decide)
    rw [← htn] at h1
    unfold QR at h1
    rw [show decide (tn.num < 0) = false by rw [htn]; decide] at h1
    exact h1
  have CP := hide hp
  have CC : Hid (∀ W' B f B' f', Bel W W' → ZA W' false B (dl pw.num.natAbs) f pw.num → Nm W' B' (dl pw.den) f' pw.den → Calls Tryd.prog 46 #[.agg #[.bool false, .slice A n c, .slice A' n' c'], .agg #[.bool false, .slice B (dl pw.num.natAbs) f, .slice B' (dl pw.den) f']] W' (IntPost W' u)) := fun W' B f B' f' hw h1 h2 => by
    rw [← hu]
    exact rcmp_h ⟨zi false z.natAbs, d, za_of (b := false) (hz.up hw.hid).1, hd.up hw.hid, rfl, by rw [zi_abs]; exact bz, bd⟩ ⟨pw.num, pw.den, h1, h2, Rat.mkRat_self pw, bp⟩ hK hK2
  have hw : IntKind.i64.wrap ((L1 : Int) - (L2 : Int)) = e := by rw [IntWalk.i64_in _ (by omega)]; exact he
  have hw2 : wrap64 ((L1 : Int) - (L2 : Int)) = e := by rw [IntWalk.wrap64_in _ (by omega)]; exact he
  have hw3 : IntKind.i64.wrap (e - 1) = e - 1 := IntWalk.i64_in _ (by omega)
  have hw4 : wrap64 (e - 1) = e - 1 := IntWalk.wrap64_in _ (by omega)
  have HL1 := hide l1
  have HL2 := hide l2
  rw [hu]
  clear hz hd hd0 l1 l2 he b1 b2 hp bz bd bp hK hK2 htn hu
  have HB := Bel.refl W
  obtain ⟨res, hres⟩ : ∃ x, x = (if u < 0 then e - 1 else e) := ⟨_, rfl⟩
  rw [← hres]
  have HRS := hide hres
  clear hres
  by_cases hneg : u < 0
  all_goals
    have HRS2 := HRS.out
    simp only [hneg, if_true, if_false, ↓reduceIte] at HRS2
    replace HRS2 := hide HRS2
    clear HRS
    first
      | (have hd1 : decide (u < 0) = true := decide_eq_true hneg)
      | (have hd1 : decide (u < 0) = false := decide_eq_false hneg)
    go_enter Tryd.func86, Tryd.ntmps86
    go_wp2_with fail
    obtain ⟨W1, hW1⟩ : ∃ X, X = W.alloc (.cells #[.bool b, .slice A n c, .slice A' n' c'] 65) := ⟨_, rfl⟩
    rw [← hW1]
    have H0 : At W1 W.heap.size [.bool b, .slice A n c, .slice A' n' c'] := by rw [hW1]; exact at_new0 _ _ _
    replace HB : Bel W W1 := by rw [hW1]; exact HB.al _
    clear hW1
    have l0 := H0.lt
    go_region_held3 (fun w' => w'.cell? ⟨W.heap.size, 0, none⟩ = some (.bool b) ∧ w'.cell? ⟨W.heap.size, 1, none⟩ = some (.slice A n c) ∧ w'.cell? ⟨W.heap.size, 2, none⟩ = some (.slice A' n' c'))
      (refine ⟨(?_ : At _ W.heap.size [.bool b, .slice A n c, .slice A' n' c']).c0, (?_ : At _ W.heap.size [.bool b, .slice A n c, .slice A' n' c']).c1, (?_ : At _ W.heap.size [.bool b, .slice A n c, .slice A' n' c']).c2⟩ <;> (repeat (first | with_reducible exact H0 | (with_reducible refine At.dr ?_) | (with_reducible refine At.al ?_ _) | (with_reducible refine At.far ?_ (by omega) _))))
      (first | (go_at_call 80; (with_reducible refine (CT.out _ HB.dr).mono ?_); rintro e w1 ⟨t1, rfl, ht1, hbk⟩; (with_reducible (replace HB := HB.dr.up hbk; replace H0 := H0.dr.up hbk)); have hs1 := strlen ht1.out HL1.out; have hs1' : (t1.size : Int) = (L1 : Int) := (by omega)) | (go_at_call 80; (with_reducible refine (CT2.out _ HB).mono ?_); rintro e w2 ⟨t2, rfl, ht2, hbk⟩; (with_reducible (replace HB := HB.up hbk; replace H0 := H0.up hbk)); have h0_0 := H0.c0; have h0_1 := H0.c1; have h0_2 := H0.c2; have h0_l := H0.lt; have hs2 := strlen ht2.out HL2.out; have hs2' : (t2.size : Int) = (L2 : Int) := (by omega)) | fail)
    go_wp2_with (first | (go_at_call 123; (with_reducible refine (CI.out _).mono ?_); rintro e w3 ⟨B3, f3, B4, f4, rfl, z3, n3, hbk⟩; (with_reducible (replace HB := HB.up hbk; replace H0 := H0.up hbk)); clear h0_0 h0_1 h0_2 h0_l; have h0_0 := H0.c0; have h0_1 := H0.c1; have h0_2 := H0.c2; have h0_l := H0.lt) | (go_at_call 42; (with_reducible refine (CP.out _ _ _ _ _ z3 n3).mono ?_); rintro e w4 ⟨B5, f5, B6, f6, rfl, z5, n5, hbk⟩; (with_reducible (replace HB := HB.up hbk; replace H0 := H0.up hbk)); clear h0_0 h0_1 h0_2 h0_l; have h0_0 := H0.c0; have h0_1 := H0.c1; have h0_2 := H0.c2; have h0_l := H0.lt) | (go_at_call 46; (with_reducible refine (CC.out _ _ _ _ _ (HB.al _) (z5.al _) (n5.al _)).mono ?_); rintro e w5 ⟨rfl, hbk⟩; (with_reducible (replace HB := (HB.al _).up hbk; replace H0 := (H0.al _).up hbk)); clear h0_0 h0_1 h0_2 h0_l) | fail)
    go_ret
    exact ⟨by rw [HRS2.out]; rfl, HB⟩
set_option maxHeartbeats 8000000 in
theorem limit_0 {dg : Int} (h : Nm W A n c q) : Calls Tryd.prog 87 #[.agg #[.bool b, .slice A n c, .int .i64 0], .int .i64 dg] W (fun e w' => e = .returned (.agg #[.bool b, .slice A n c, .int .i64 0]) ∧ Nm w' A n c q ∧ Hid (Below W.heap.size W w')) := by
  have HB := Bel.refl W
  go_enter Tryd.func87, Tryd.ntmps87
  go_wp2_with fail
  obtain ⟨W1, hW1⟩ : ∃ X, X = (W.alloc (.cells #[.bool b, .slice A n c, .int .i64 0] 60)).alloc (.cells #[.bool false, .slice none 0 0, .int .i64 0] 60) := ⟨_, rfl⟩
  rw [← hW1]
  have H0 : At W1 W.heap.size [.bool b, .slice A n c, .int .i64 0] := by rw [hW1]; exact (at_new0 _ _ _).al _
  have HR : At W1 (W.heap.size + 1) [.bool false, .slice none 0 0, .int .i64 0] := by rw [hW1]; exact at_new1 _ _ _ _
  replace HB : Bel W W1 := by rw [hW1]; exact (HB.al _).al _
  replace h : Nm W1 A n c q := by rw [hW1]; exact (h.al _).al _
  clear hW1
  have l0 := H0.lt
  have l1 := HR.lt
  refine wp_region_held_drew (S := fun w' => w'.cell? ⟨W.heap.size, 0, none⟩ = some (.bool b) ∧ w'.cell? ⟨W.heap.size, 1, none⟩ = some (.slice A n c) ∧ w'.cell? ⟨W.heap.size, 2, none⟩ = some (.int .i64 0)) (by kernel_rfl) ?_ (fun hHeld => ?_)
  · (refine ⟨(?_ : At _ W.heap.size [.bool b, .slice A n c, .int .i64 0]).c0, (?_ : At _ W.heap.size [.bool b, .slice A n c, .int .i64 0]).c1, (?_ : At _ W.heap.size [.bool b, .slice A n c, .int .i64 0]).c2⟩ <;> (repeat (first | with_reducible exact H0 | (with_reducible refine At.dr ?_) | (with_reducible refine At.al ?_ _) | (with_reducible refine At.far ?_ (by omega) _))))
  (refine wpAnyH_take (i := 0) (v := ?_) rfl (by decide +kernel) (by decide +kernel) (by decide +kernel) (fun _ _ _ h => h) (Or.inl ⟨by rfl, ?_⟩) (by assumption) ?_; rotate_left; (focus ((intro w hSw; (try dsimp only at hSw); go_simp); (try (with_reducible rfl)); done)); (try simp only [List.getElem_toArray, List.getElem_cons_zero, List.getElem_cons_succ, Act.put, List.setIfInBounds_toArray, List.set_cons_zero, List.set_cons_succ]))
  (refine wpAnyH_take (i := 1) (v := ?_) rfl (by decide +kernel) (by decide +kernel) (by decide +kernel) (fun _ _ _ h => h) (Or.inl ⟨by rfl, ?_⟩) (by assumption) ?_; rotate_left; (focus ((intro w hSw; (try dsimp only at hSw); go_simp); (try (with_reducible rfl)); done)); (try simp only [List.getElem_toArray, List.getElem_cons_zero, List.getElem_cons_succ, Act.put, List.setIfInBounds_toArray, List.set_cons_zero, List.set_cons_succ]))
  (refine wpAnyH_take (i := 2) (v := ?_) rfl (by decide +kernel) (by decide +kernel) (by decide +kernel) (fun _ _ _ h => h) (Or.inl ⟨by rfl, ?_⟩) (by assumption) ?_; rotate_left; (focus ((intro w hSw; (try dsimp only at hSw); go_simp); (try (with_reducible rfl)); done)); (try simp only [List.getElem_toArray, List.getElem_cons_zero, List.getElem_cons_succ, Act.put, List.setIfInBounds_toArray, List.set_cons_zero, List.set_cons_succ]))
  (refine wpAnyH_take (i := 3) (v := ?_) rfl (by decide +kernel) (by decide +kernel) (by decide +kernel) (fun _ _ _ h => h) (Or.inl ⟨by rfl, ?_⟩) (by assumption) ?_; rotate_left; (focus ((intro w hSw; (try dsimp only at hSw); go_simp); (try (with_reducible rfl)); done)); (try simp only [List.getElem_toArray, List.getElem_cons_zero, List.getElem_cons_succ, Act.put, List.setIfInBounds_toArray, List.set_cons_zero, List.set_cons_succ]))
  (refine wpAnyH_take (i := 4) (v := undef) rfl (by decide +kernel) (by decide +kernel) (by decide +kernel) (fun _ _ _ h => h) (Or.inr ⟨by rfl, rfl⟩) (by assumption) ?_; (try simp only [List.getElem_toArray, List.getElem_cons_zero, List.getElem_cons_succ, Act.put, List.setIfInBounds_toArray, List.set_cons_zero, List.set_cons_succ]))
  (refine wpAnyH_take (i := 5) (v := undef) rfl (by decide +kernel) (by decide +kernel) (by decide +kernel) (fun _ _ _ h => h) (Or.inr ⟨by rfl, rfl⟩) (by assumption) ?_; (try simp only [List.getElem_toArray, List.getElem_cons_zero, List.getElem_cons_succ, Act.put, List.setIfInBounds_toArray, List.set_cons_zero, List.set_cons_succ]))
  (refine wpAnyH_take (i := 6) (v := undef) rfl (by decide +kernel) (by decide +kernel) (by decide +kernel) (fun _ _ _ h => h) (Or.inr ⟨by rfl, rfl⟩) (by assumption) ?_; (try simp only [List.getElem_toArray, List.getElem_cons_zero, List.getElem_cons_succ, Act.put, List.setIfInBounds_toArray, List.set_cons_zero, List.set_cons_succ]))
  (refine wpAnyH_take (i := 7) (v := undef) rfl (by decide +kernel) (by decide +kernel) (by decide +kernel) (fun _ _ _ h => h) (Or.inr ⟨by rfl, rfl⟩) (by assumption) ?_; (try simp only [List.getElem_toArray, List.getElem_cons_zero, List.getElem_cons_succ, Act.put, List.setIfInBounds_toArray, List.set_cons_zero, List.set_cons_succ]))
  (refine wpAnyH_take (i := 8) (v := undef) rfl (by decide +kernel) (by decide +kernel) (by decide +kernel) (fun _ _ _ h => h) (Or.inr ⟨by rfl, rfl⟩) (by assumption) ?_; (try simp only [List.getElem_toArray, List.getElem_cons_zero, List.getElem_cons_succ, Act.put, List.setIfInBounds_toArray, List.set_cons_zero, List.set_cons_succ]))
  (refine wpAnyH_take (i := 9) (v := undef) rfl (by decide +kernel) (by decide +kernel) (by decide +kernel) (fun _ _ _ h => h) (Or.inr ⟨by rfl, rfl⟩) (by assumption) ?_; (try simp only [List.getElem_toArray, List.getElem_cons_zero, List.getElem_cons_succ, Act.put, List.setIfInBounds_toArray, List.set_cons_zero, List.set_cons_succ]))
  (refine wpAnyH_take (i := 10) (v := ?_) rfl (by decide +kernel) (by decide +kernel) (by decide +kernel) (fun _ _ _ h => h) (Or.inl ⟨by rfl, ?_⟩) (by assumption) ?_; rotate_left; (focus ((intro w hSw; (try dsimp only at hSw); go_simp); (try (with_reducible rfl)); done)); (try simp only [List.getElem_toArray, List.getElem_cons_zero, List.getElem_cons_succ, Act.put, List.setIfInBounds_toArray, List.set_cons_zero, List.set_cons_succ]))
  refine wpAnyH_done (by decide +kernel) ?_ _
  obtain ⟨W2, hW2⟩ : ∃ X, X = W1.drew := ⟨_, rfl⟩
  rw [← hW2]
  replace HB : Bel W W2 := by rw [hW2]; exact HB.dr
  replace HR : At W2 (W.heap.size + 1) [.bool false, .slice none 0 0, .int .i64 0] := by rw [hW2]; exact HR.dr
  replace H0 : At W2 W.heap.size [.bool b, .slice A n c, .int .i64 0] := by rw [hW2]; exact H0.dr
  replace h : Nm W2 A n c q := by rw [hW2]; exact h.dr
  clear hW2
  have h0_0 := H0.c0
  have h0_1 := H0.c1
  have h0_2 := H0.c2
  have hr_0 := HR.c0
  have hr_1 := HR.c1
  have hr_2 := HR.c2
  have hr_f0 := HR.f0
  have hr_f1 := HR.f1
  have hr_f2 := HR.f2
  go_wp2_with fail
  refine bodyPost_ret (v := .agg #[.bool b, .slice A n c, .int .i64 0]) (by simp [results, Tryd.results87, go_sem, hr_0, hr_1, hr_2]) rfl ?_
  exact ⟨rfl, h.putd HR _ _ _ _ _, (HB.uput3 (by omega) _ _ _).hid⟩
set_option maxHeartbeats 8000000 in
theorem sig_walk {dg u us us' : Int} {um v v' : Nat} (hm : 1 ≤ m ∧ m ≤ 7) (hdg : 1 ≤ dg ∧ dg ≤ 40) (hS : ∀ W', Bel W W' → Calls Tryd.prog 48 #[.agg #[.bool b, .slice A n c, .slice A' n' c']] W' (IntPost W' u)) (hu : u ≠ 0)
    (hE : ∀ W', Bel W W' → Calls Tryd.prog 86 #[.agg #[.bool b, .slice A n c, .slice A' n' c']] W' (IntPost W' e)) (be : -1000000 ≤ e ∧ e ≤ 1000000) (hsc : dg - 1 - e = sc) (h60 : sc ≤ 60)
    (hU : ∀ W', Calls Tryd.prog 85 #[.int .i64 sc] W' (DvR W' false um us))
    (hM : ∀ W' B f, Bel W W' → Nm W' B (dl um) f um → Calls Tryd.prog 84 #[.agg #[.bool b, .slice A n c, .slice A' n' c'], .agg #[.bool false, .slice B (dl um) f, .int .i64 us], .int .i64 m] W' (DvR W' sg v us))
    (hL : ∀ W' B f, Nm W' B (dl v) f v → Calls Tryd.prog 87 #[.agg #[.bool sg, .slice B (dl v) f, .int .i64 us], .int .i64 dg] W' (DvR W' sg v' us')) :
    Calls Tryd.prog 38 #[.agg #[.bool b, .slice A n c, .slice A' n' c'], .int .i64 dg, .int .i64 m] W (ToR W sg v' us') := by
  have CM : Hid (∀ W', Calls Tryd.prog 83 #[.int .i64 m] W' (RetB W' true)) := fun W' => by
    have h1 := mode_h (W := W') (m := m)
    rwa [decide_eq_true hm] at h1
  have CS := hide hS
  have CE := hide hE
  have CU := hide hU
  have CX := hide hM
  have CL := hide hL
  have g1 : decide (dg < 1) = false := decide_eq_false (by omega)
  have g2 : decide (40 < dg) = false := decide_eq_false (by omega)
  have g3 : (u == 0) = false := by simpa using hu
  have g4 : decide (60 < sc) = false := decide_eq_false (by omega)
  have g1' : ¬ dg < 1 := by omega
  have g2' : ¬ 40 < dg := by omega
  have g4' : ¬ 60 < sc := by omega
  have k1 : IntKind.i64.wrap (dg - 1) = dg - 1 := IntWalk.i64_in _ (by omega)
  have k2 : wrap64 (dg - 1) = dg - 1 := IntWalk.wrap64_in _ (by omega)
  have k3 : IntKind.i64.wrap (dg - 1 - e) = sc := by rw [IntWalk.i64_in _ (by omega)]; exact hsc
  have k4 : wrap64 (dg - 1 - e) = sc := by rw [IntWalk.wrap64_in _ (by omega)]; exact hsc
  clear hm hdg hS hu hE be hsc h60 hU hM hL
  have HB := Bel.refl W
  go_enter Tryd.func38, Tryd.ntmps38
  go_wp2_with (first | (go_at_call 83; (with_reducible refine (CM.out _).mono ?_); rintro e w1 ⟨rfl, hbk⟩; replace hbk := Bel.hid hbk; (with_reducible (have H0 : At w1 W.heap.size [.bool b, .slice A n c, .slice A' n' c'] := At.up ((at_new0 _ _ _).al _) hbk; have HR : At w1 (W.heap.size + 1) [.bool false, .slice none 0 0, .int .i64 0] := At.up (at_new1 _ _ _ _) hbk; replace HB := ((HB.al _).al _).up hbk)); have h0_0 := H0.c0; have h0_1 := H0.c1; have h0_2 := H0.c2; have h0_l := H0.lt) | (go_at_call 48; (with_reducible refine (CS.out _ HB).mono ?_); rintro e w2 ⟨rfl, hbk⟩; (with_reducible (replace HB := HB.up hbk; replace H0 := H0.up hbk; replace HR := HR.up hbk)); clear h0_0 h0_1 h0_2 h0_l; have h0_0 := H0.c0; have h0_1 := H0.c1; have h0_2 := H0.c2; have h0_l := H0.lt) | (go_at_call 86; (with_reducible refine (CE.out _ HB).mono ?_); rintro e w3 ⟨rfl, hbk⟩; (with_reducible (replace HB := HB.up hbk; replace H0 := H0.up hbk; replace HR := HR.up hbk)); clear h0_0 h0_1 h0_2 h0_l) | fail)
  have lz0 := H0.lt
  have lz1 := HR.lt
  go_region_held3 (fun w' => w'.cell? ⟨W.heap.size, 0, none⟩ = some (.bool b) ∧ w'.cell? ⟨W.heap.size, 1, none⟩ = some (.slice A n c) ∧ w'.cell? ⟨W.heap.size, 2, none⟩ = some (.slice A' n' c'))
    (refine ⟨(?_ : At _ W.heap.size [.bool b, .slice A n c, .slice A' n' c']).c0, (?_ : At _ W.heap.size [.bool b, .slice A n c, .slice A' n' c']).c1, (?_ : At _ W.heap.size [.bool b, .slice A n c, .slice A' n' c']).c2⟩ <;> (repeat (first | with_reducible exact H0 | (with_reducible refine At.dr ?_) | (with_reducible refine At.al ?_ _) | (with_reducible refine At.far ?_ (by omega) _))))
    (first | (go_at_call 85; (with_reducible refine (CU.out _).mono ?_); rintro e w4 ⟨Bo, eo, rfl, no, hbk⟩; (with_reducible (replace HB := HB.dr.up hbk; replace H0 := H0.dr.up hbk; replace HR := HR.dr.up hbk))) | (go_at_call 84; (with_reducible refine (CX.out _ _ _ HB no).mono ?_); rintro e w5 ⟨Bt, et, rfl, nt, hbk⟩; (with_reducible (replace HB := HB.up hbk; replace H0 := H0.up hbk; replace HR := HR.up hbk))) | (go_at_call 87; (with_reducible refine (CL.out _ _ _ nt).mono ?_); rintro e w6 ⟨Bv, ev, rfl, nv, hbk⟩; (with_reducible (replace HB := HB.up hbk; replace H0 := H0.up hbk; replace HR := HR.up hbk)); have hr_0 := HR.c0; have hr_1 := HR.c1; have hr_2 := HR.c2; have hr_l := HR.lt; have hr_f0 := HR.f0; have hr_f1 := HR.f1; have hr_f2 := HR.f2) | fail)
  go_wp2_with fail
  refine bodyPost_ret (v := .tuple #[.agg #[.bool sg, .slice Bv (dl v') ev, .int .i64 us'], .int .i64 0]) (by simp [results, Tryd.results38, go_sem, hr_0, hr_1, hr_2]) rfl ?_
  exact ⟨Bv, ev, rfl, nv.putd HR _ _ _ _ _, (HB.uput3 (by omega) _ _ _).hid⟩
end
end Go.Proofs.YteahcbeohopdlaaDoor
end
