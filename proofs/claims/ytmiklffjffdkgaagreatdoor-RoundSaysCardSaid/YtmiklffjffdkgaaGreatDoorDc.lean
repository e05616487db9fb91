/- Package dec: Whole, Part. Conditions: numbers of at most 99999 words. -/
import Derived.Test.YtmiklffjffdkgaaGreatDoorGRwbc20
import Derived.Deep.RegionHeld3
open Go.RowKit
set_option maxRecDepth 100000
namespace Go.Proofs.YtmiklffjffdkgaaGreatDoor
section
variable {W : World} {b b0 : Bool} {A A0 : Option Addr} {n c m s n0 c0 : Nat} {s0 : Int}
set_option maxHeartbeats 4000000 in
theorem whole_h (h : DY W (.agg #[.bool b0, .slice A0 n0 c0, .int .i64 s0]) b A n c m s) (hd : dl m ≤ 99999) : Calls Tryz.prog 59 #[.agg #[.bool b0, .slice A0 n0 c0, .int .i64 s0]] W (NumR W (m / 10 ^ s)) := by
  obtain ⟨p, hp⟩ : ∃ p, p = 10 ^ s := ⟨_, rfl⟩
  obtain ⟨q, hq⟩ : ∃ q, q = m / p := ⟨_, rfl⟩
  obtain ⟨r, hr⟩ : ∃ r, r = m % p := ⟨_, rfl⟩
  have CC : Hid (∀ W', Bel W W' → Calls Tryz.prog 57 #[.agg #[.bool b0, .slice A0 n0 c0, .int .i64 s0]] W' (CnR W' b A n c s)) := h.2
  have CP : Hid (∀ W', Calls Tryz.prog 93 #[.int .i64 (s : Int)] W' (NumR W' p)) := fun W' => by rw [hp]; exact power_h h.1.sc
  have CD : Hid (∀ W' B e, Bel W W' → Nm W' B (dl p) e p → Calls Tryz.prog 73 #[.agg #[.slice A n c], .agg #[.slice B (dl p) e]] W' (DivV W' q r)) := fun W' B e hb hn => div_v (h.1.nm.up hb) hn (by rw [hp]; exact Nat.pow_pos (by decide)) hd hq.symm hr.symm
  rw [show m / 10 ^ s = q by rw [hq, hp]]
  clear h hd hp hq hr
  have HB := Bel.refl W
  go_enter Tryz.func59, Tryz.ntmps59
  go_wp2_with (first | (go_at_call 57; (with_reducible refine (CC.out _ ((HB.al _).al _)).mono ?_); rintro e w1 ⟨rfl, hbk⟩; have HA := At.up ((at_new0 _ _ _).al _) hbk; have HR := At.up (at_new1 _ _ _ _) hbk; replace HB := ((HB.al _).al _).up hbk; have ha_0 := HA.c0; have ha_1 := HA.c1; have ha_2 := HA.c2; have ha_l := HA.lt; have ha_f0 := HA.f0; have ha_f1 := HA.f1; have ha_f2 := HA.f2) | fail)
  obtain ⟨W1, hW1⟩ : ∃ W1, W1 = ((w1.setCell ⟨W.heap.size, 0, none⟩ (.bool b)).setCell ⟨W.heap.size, 1, none⟩ (.slice A n c)).setCell ⟨W.heap.size, 2, none⟩ (.int .i64 (s : Int)) := ⟨_, rfl⟩
  rw [← hW1]
  replace HB : Bel W W1 := (by rw [hW1]; exact below3 HB (Nat.le_refl _) _ _ _)
  replace HR : At W1 (W.heap.size + 1) [.slice none 0 0] := (by rw [hW1]; exact HR.far3 (show W.heap.size ≠ _ by omega) _ _ _)
  replace HA : At W1 W.heap.size [.bool b, .slice A n c, .int .i64 (s : Int)] := (by rw [hW1]; exact HA.put3 _ _ _)
  clear hW1 ha_0 ha_1 ha_2 ha_l ha_f0 ha_f1 ha_f2
  have lb0 := HA.lt
  have lb1 := HR.lt
  go_region_held3 (fun w' => w'.cell? ⟨W.heap.size, 0, none⟩ = some (.bool b) ∧ w'.cell? ⟨W.heap.size, 1, none⟩ = some (.slice A n c) ∧ w'.cell? ⟨W.heap.size, 2, none⟩ = some (.int .i64 (s : Int)))
    (refine ⟨(?_ : At _ W.heap.size [.bool b, .slice A n c, .int .i64 (s : Int)]).c0, (?_ : At _ W.heap.size [.bool b, .slice A n c, .int .i64 (s : Int)]).c1, (?_ : At _ W.heap.size [.bool b, .slice A n c, .int .i64 (s : Int)]).c2⟩ <;> (repeat (first | with_reducible exact HA | (with_reducible refine At.dr ?_) | (with_reducible refine At.al ?_ _) | (with_reducible refine At.far ?_ (by omega) _))))
    (first | (go_at_call 93; (with_reducible refine (CP.out _).mono ?_); rintro e w2 ⟨Bp, ep, rfl, np, hbk⟩; (with_reducible (replace HB := HB.dr.up hbk; replace HA := HA.dr.up hbk; replace HR := HR.dr.up hbk)); have lz := HR.lt; have lz0 := HA.lt; (try have lz2 := HP0.lt); (try have lz3 := HP1.lt)) | (go_at_call 93; (with_reducible refine (CP.out _).mono ?_); rintro e w2 ⟨Bp, ep, rfl, np, hbk⟩; (with_reducible (have HP0 := At.up (at_new0 _ [.slice none 0 0] _).dr hbk; replace HB := (HB.al _).dr.up hbk; replace HA := (HA.al _).dr.up hbk; replace HR := (HR.al _).dr.up hbk)); have lz := HR.lt; have lz0 := HA.lt; (try have lz2 := HP0.lt); (try have lz3 := HP1.lt)) | (go_at_call 93; (with_reducible refine (CP.out _).mono ?_); rintro e w2 ⟨Bp, ep, rfl, np, hbk⟩; (with_reducible (have HP0 := At.up ((at_new0 _ [.slice none 0 0] _).al _).dr hbk; have HP1 := At.up (at_new1 _ _ [.slice none 0 0] _).dr hbk; replace HB := ((HB.al _).al _).dr.up hbk; replace HA := ((HA.al _).al _).dr.up hbk; replace HR := ((HR.al _).al _).dr.up hbk)); have lz := HR.lt; have lz0 := HA.lt; (try have lz2 := HP0.lt); (try have lz3 := HP1.lt)) | (go_at_call 73; (with_reducible refine (CD.out _ _ _ HB np).mono ?_); rintro e w3 ⟨Aq, cq, Ar, cr, rfl, nq, nr, hbk⟩; (with_reducible (replace HB := HB.up hbk; replace HA := HA.up hbk; replace HR := HR.up hbk)); (try (with_reducible replace HP0 := HP0.up hbk)); (try (with_reducible replace HP1 := HP1.up hbk)); (try have p0 := HP0.c0); (try have p1 := HP1.c0); (try have q0 := HQ0.c0); (try have q1 := HQ1.c0); (try have fp0 := HP0.f0); (try have fp1 := HP1.f0); (try have fq0 := HQ0.f0); (try have fq1 := HQ1.f0); (try have lp0 := HP0.lt); (try have lp1 := HP1.lt); (try have lq0 := HQ0.lt); (try have lq1 := HQ1.lt); (try have hr_0 := HR.c0); (try have hr_l := HR.lt); (try have hr_f0 := HR.f0); have lz1 := HA.lt) | (go_at_call 73; (with_reducible refine (CD.out _ _ _ (HB.al _) (np.al _)).mono ?_); rintro e w3 ⟨Aq, cq, Ar, cr, rfl, nq, nr, hbk⟩; (with_reducible (have HQ0 := At.up (at_new0 _ [.slice none 0 0] _) hbk; replace HB := (HB.al _).up hbk; replace HA := (HA.al _).up hbk; replace HR := (HR.al _).up hbk)); (try (with_reducible replace HP0 := (HP0.al _).up hbk)); (try (with_reducible replace HP1 := (HP1.al _).up hbk)); (try have p0 := HP0.c0); (try have p1 := HP1.c0); (try have q0 := HQ0.c0); (try have q1 := HQ1.c0); (try have fp0 := HP0.f0); (try have fp1 := HP1.f0); (try have fq0 := HQ0.f0); (try have fq1 := HQ1.f0); (try have lp0 := HP0.lt); (try have lp1 := HP1.lt); (try have lq0 := HQ0.lt); (try have lq1 := HQ1.lt); (try have hr_0 := HR.c0); (try have hr_l := HR.lt); (try have hr_f0 := HR.f0); have lz1 := HA.lt) | (go_at_call 73; (with_reducible refine (CD.out _ _ _ ((HB.al _).al _) ((np.al _).al _)).mono ?_); rintro e w3 ⟨Aq, cq, Ar, cr, rfl, nq, nr, hbk⟩; (with_reducible (have HQ0 := At.up ((at_new0 _ [.slice none 0 0] _).al _) hbk; have HQ1 := At.up (at_new1 _ _ [.slice none 0 0] _) hbk; replace HB := ((HB.al _).al _).up hbk; replace HA := ((HA.al _).al _).up hbk; replace HR := ((HR.al _).al _).up hbk)); (try (with_reducible replace HP0 := ((HP0.al _).al _).up hbk)); (try (with_reducible replace HP1 := ((HP1.al _).al _).up hbk)); (try have p0 := HP0.c0); (try have p1 := HP1.c0); (try have q0 := HQ0.c0); (try have q1 := HQ1.c0); (try have fp0 := HP0.f0); (try have fp1 := HP1.f0); (try have fq0 := HQ0.f0); (try have fq1 := HQ1.f0); (try have lp0 := HP0.lt); (try have lp1 := HP1.lt); (try have lq0 := HQ0.lt); (try have lq1 := HQ1.lt); (try have hr_0 := HR.c0); (try have hr_l := HR.lt); (try have hr_f0 := HR.f0); have lz1 := HA.lt) | fail)
  all_goals go_wp2_with fail
  all_goals
    refine name_end ?_
    intro W4 hW4
    have HF : At W4 (W.heap.size + 1) [.slice Aq (dl q) cq] := by rw [hW4]; (repeat (first | with_reducible exact HR | (with_reducible refine At.dr ?_) | (with_reducible refine At.put1 (v := .slice none 0 0) ?_ _) | (with_reducible refine At.al ?_ _) | (with_reducible refine At.far ?_ (by omega) _)))
    have NF : Nm W4 Aq (dl q) cq q := by rw [hW4]; (repeat (first | with_reducible exact nq | (with_reducible refine Nm.dr ?_) | (with_reducible refine Nm.al ?_ _) | (with_reducible refine Nm.putx ?_ ⟨.slice none 0 0, At.c0 (vs := []) ?_, not_u32⟩ _) | with_reducible exact HP0 | with_reducible exact HP1 | with_reducible exact HQ0 | with_reducible exact HQ1 | with_reducible exact HR | (with_reducible refine At.dr ?_) | (with_reducible refine At.put1 (v := .slice none 0 0) ?_ _) | (with_reducible refine At.al ?_ _) | (with_reducible refine At.far ?_ (by omega) _)))
    have BF : Bel W W4 := by rw [hW4]; (repeat (first | with_reducible exact HB | (with_reducible refine Bel.dr ?_) | (with_reducible refine Bel.al ?_ _) | (with_reducible refine Bel.put ?_ (by omega) _)))
    clear hW4
    refine bodyPost_ret (v := .agg #[.slice Aq (dl q) cq]) (by simp [results, Tryz.results59, go_sem, HF.c0]) rfl ?_
    exact ⟨Aq, cq, rfl, NF, BF⟩
end
end Go.Proofs.YtmiklffjffdkgaaGreatDoor
