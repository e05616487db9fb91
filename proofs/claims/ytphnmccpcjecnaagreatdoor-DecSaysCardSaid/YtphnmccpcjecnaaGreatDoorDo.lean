/- Package dec: Of. Conditions: terms of at most 20000 words. -/
import Derived.Test.YtphnmccpcjecnaaGreatDoorGDsbc33
import Derived.Test.YtphnmccpcjecnaaGreatDoorDp
import Derived.Deep.LoopGhost
open Go.RowKit
set_option maxRecDepth 100000
namespace Go.Proofs.YtphnmccpcjecnaaGreatDoor
theorem by_at {p G : Prop} (h : p) (k : p → G) : G := k h
theorem name_calls {P : Program} {f : FuncId} {args : Array Value} {X : World} {Q : Ending → World → Prop} (h : ∀ W', W' = X → Calls P f args W' Q) : Calls P f args X Q := h X rfl
/-- What Of returns: a numeral, or none. -/
def DofR (W : World) (sg : Bool) (v j : Nat) (e : Ending) (w' : World) : Prop := ∃ A c, e = .returned (.tuple #[.agg #[.bool sg, .slice A (dl v) c, .int .i64 (j : Int)], .bool true]) ∧ Nm w' A (dl v) c v ∧ Hid (Below W.heap.size W w')
def DofN (W : World) (b : Bool) (e : Ending) (w' : World) : Prop := e = .returned (.tuple #[.agg #[.bool false, .slice none 0 0, .int .i64 0], .bool b]) ∧ Hid (Below W.heap.size W w')
/-- What rat.Of returns, by names of its parts. -/
def OfYx (W : World) (sg : Bool) (p q : Nat) (e : Ending) (w' : World) : Prop := ∃ A c A' c', e = .returned (.tuple #[.agg #[.bool sg, .slice A (dl p) c, .slice A' (dl q) c'], .bool true]) ∧ Nm w' A (dl p) c p ∧ Nm w' A' (dl q) c' q ∧ Hid (Below W.heap.size W w')
section
variable {W : World} {b : Bool} {A A' : Option Addr} {n c n' c' K d j lim : Nat} {z most : Int} {r : Rat}
set_option maxHeartbeats 16000000 in
theorem dof_hit (hz : ZA W b A n c z) (hd : Nm W A' n' c' d) (h0 : 0 < d) (hr : mkRat z d = r) (bz : dl z.natAbs ≤ 20000) (bd : dl d ≤ 20000) (hm : min (max most 0) 60 = (lim : Int)) (hj : j ≤ lim) (hd1 : r.den ∣ 10 ^ j) (hd2 : ∀ k, k < j → ¬ r.den ∣ 10 ^ k) : Calls Tryz.prog 11 #[.agg #[.bool b, .slice A n c, .slice A' n' c'], .int .i64 most] W (DofR W (decide (r.num < 0)) (r.num.natAbs * (10 ^ j / r.den)) j) := by
  obtain ⟨sg, hsg⟩ : ∃ sg, sg = decide (r.num < 0) := ⟨_, rfl⟩
  obtain ⟨p, hp⟩ : ∃ p, p = r.num.natAbs := ⟨_, rfl⟩
  obtain ⟨q, hq⟩ : ∃ q, q = r.den := ⟨_, rfl⟩
  have hlim : lim ≤ 60 := by omega
  have CO : Hid (∀ W', Bel W W' → Calls Tryz.prog 48 #[.agg #[.bool b, .slice A n c], .agg #[.slice A' n' c']] W' (OfYw W' sg r)) := fun W' hb => by
    rw [hsg]; exact of_yes (hz.up hb) (hd.up hb) h0 hr (by omega) (by omega)
  have HSG := hide hsg
  have HP := hide hp
  have HQ := hide hq
  obtain ⟨N, hN⟩ : ∃ N, N = 20000 := ⟨_, rfl⟩
  have HPB : Hid (p < W32 ^ N) := by
    unfold Hid
    rw [hp]
    exact (tt_bd (K := N) ⟨h0, hr, Nat.lt_of_lt_of_le (lt_pow_digs (b := W32) (by decide) z.natAbs) (Nat.pow_le_pow_right (by decide) (by unfold dl at bz; omega)), Nat.lt_of_lt_of_le (lt_pow_digs (b := W32) (by decide) d) (Nat.pow_le_pow_right (by decide) (by unfold dl at bd; omega))⟩).1
  have HNN : Hid (N ≤ 20000) := by unfold Hid; omega
  clear hN
  have HQ0 : Hid (0 < q) := by unfold Hid; rw [hq]; exact r.den_pos
  have HDV : Hid (q ∣ 10 ^ j) := by unfold Hid; rw [hq]; exact hd1
  have HND : Hid (∀ k, k < j → ¬ q ∣ 10 ^ k) := by unfold Hid; rw [hq]; exact hd2
  have CO2 : Hid (∀ W', Bel W W' → Calls Tryz.prog 48 #[.agg #[.bool b, .slice A n c], .agg #[.slice A' n' c']] W' (OfYx W' sg p q)) := fun W' hb => (CO.out W' hb).mono fun _ _ ⟨A1, c1, A2, c2, e1, e2, e3, e4⟩ => ⟨A1, c1, A2, c2, by rw [e1, hp, hq], by rw [hp]; exact e2.1, by rw [hq]; exact e3, e4⟩
  clear CO
  have CO := CO2
  clear CO2 hz hd h0 hr bz bd hsg hp hq hd1 hd2
  have HB := Bel.refl W
  go_enter Tryz.func11, Tryz.ntmps11
  go_wp2_with (first | (go_at_call 48; (with_reducible refine (CO.out _ ((HB.al _).al _)).mono ?_); rintro e w1 ⟨Ap, cp, Ad, cd, rfl, nz, nd, hbk⟩; (with_reducible (have HR : At w1 (W.heap.size + 1) [.bool false, .slice none 0 0, .int .i64 0] := At.up (at_new1 _ _ _ _) hbk)); replace HB := ((HB.al _).al _).up hbk) | fail)
  obtain ⟨W3, hW3⟩ : ∃ W3, W3 = w1.alloc (.cells #[.bool sg, .slice Ap (dl p) cp, .slice Ad (dl q) cd] 30) := ⟨_, rfl⟩
  rw [← hW3]
  obtain ⟨pl, hpl⟩ : ∃ pl, pl = w1.heap.size := ⟨_, rfl⟩
  rw [← hpl]
  have HL3 : At W3 pl [.bool sg, .slice Ap (dl p) cp, .slice Ad (dl q) cd] := by rw [hW3, hpl]; exact at_new0 _ _ _
  have hplr : W.heap.size + 1 < pl := by rw [hpl]; exact HR.lt
  have HR3 : At W3 (W.heap.size + 1) [.bool false, .slice none 0 0, .int .i64 0] := by rw [hW3]; exact HR.al _
  have HB3 : Bel W W3 := by rw [hW3]; exact HB.al _
  have nz3 : Nm W3 Ap (dl p) cp p := by rw [hW3]; exact nz.al _
  have nd3 : Nm W3 Ad (dl q) cd q := by rw [hW3]; exact nd.al _
  have hpls := HL3.lt
  clear hW3 hpl nz nd HR HB
  go_loopw [27] (fun iv wr => ∃ k : Nat, k ≤ j ∧ iv = .int .i64 (k : Int) ∧ Hid (Bel W3 wr)) (fun iv _ => lim + 1 - (intOf iv).toNat)
  case atStart => exact ⟨0, Nat.zero_le _, rfl, Bel.refl W3⟩
  case round =>
    obtain ⟨k, hk, rfl, HW0⟩ := hrel
    have HW : Bel W3 wr := HW0
    clear HW0
    have HL := At.up HL3 HW.hid
    have HR := At.up HR3 HW.hid
    have np := nz3.up HW.hid
    have nq := nd3.up HW.hid
    have zs0 := Below.size HW
    by_cases hlt : k < j
    · have hnd := HND.out k hlt
      obtain ⟨x, hx⟩ : ∃ x, x = 10 ^ k := ⟨_, rfl⟩
      obtain ⟨f, hf⟩ : ∃ f, f = x / q := ⟨_, rfl⟩
      obtain ⟨r0, hr0⟩ : ∃ r0, r0 = x % q := ⟨_, rfl⟩
      have CPk : Hid (∀ W', Calls Tryz.prog 50 #[.int .i64 (k : Int)] W' (NumR W' x)) := fun W' => by rw [hx]; exact power_h (by omega)
      have CDk : Hid (∀ W' B e, Nm W' B (dl x) e x → Nm W' Ad (dl q) cd q → Calls Tryz.prog 49 #[.agg #[.slice B (dl x) e], .agg #[.slice Ad (dl q) cd]] W' (DivV W' f r0)) := fun W' B e h1 h2 => div_v h1 h2 HQ0.out (by rw [hx]; exact Nat.le_trans (ten_le (k := k) (by omega)) (by decide)) hf.symm hr0.symm
      have CZk : Hid (∀ W' B e, Nm W' B (dl r0) e r0 → Calls Tryz.prog 46 #[.agg #[.slice B (dl r0) e]] W' (RetB W' false)) := fun W' B e h1 => by
        have h2 := dzero_h h1
        rwa [decide_eq_false (by rw [hr0, hx]; intro h3; exact hnd (Nat.dvd_of_mod_eq_zero h3))] at h2
      have hL1 : (k : Int) < (lim : Int) + 1 := by omega
      clear hx hf hr0 hnd
      go_wp2_with fail
      go_region_held3 (fun w' => w'.cell? ⟨pl, 0, none⟩ = some (.bool sg) ∧ w'.cell? ⟨pl, 1, none⟩ = some (.slice Ap (dl p) cp) ∧ w'.cell? ⟨pl, 2, none⟩ = some (.slice Ad (dl q) cd))
        (refine ⟨(?_ : At _ pl [.bool sg, .slice Ap (dl p) cp, .slice Ad (dl q) cd]).c0, (?_ : At _ pl [.bool sg, .slice Ap (dl p) cp, .slice Ad (dl q) cd]).c1, (?_ : At _ pl [.bool sg, .slice Ap (dl p) cp, .slice Ad (dl q) cd]).c2⟩ <;> (repeat (first | with_reducible exact HL | (with_reducible refine At.dr ?_) | (with_reducible refine At.al ?_ _) | (with_reducible refine At.far ?_ (by omega) _))))
        (first | (go_at_call 50; (with_reducible refine (CPk.out _).mono ?_); rintro e w4 ⟨Bx, ex, rfl, nx, hbk⟩; (with_reducible (replace HW := HW.dr.up hbk; replace HL := HL.dr.up hbk; replace HR := HR.dr.up hbk; replace np := np.dr.up hbk; replace nq := nq.dr.up hbk)); have zs1 := Below.size HW; have ll1 := HL.lt; (try have lz2 := HP0.lt); (try have lz3 := HP1.lt)) | (go_at_call 50; (with_reducible refine (CPk.out _).mono ?_); rintro e w4 ⟨Bx, ex, rfl, nx, hbk⟩; (with_reducible (have HP0 := At.up (at_new0 _ [.slice none 0 0] _).dr hbk; replace HW := (HW.al _).dr.up hbk; replace HL := (HL.al _).dr.up hbk; replace HR := (HR.al _).dr.up hbk; replace np := (np.al _).dr.up hbk; replace nq := (nq.al _).dr.up hbk)); have zs1 := Below.size HW; have ll1 := HL.lt; (try have lz2 := HP0.lt); (try have lz3 := HP1.lt)) | (go_at_call 50; (with_reducible refine (CPk.out _).mono ?_); rintro e w4 ⟨Bx, ex, rfl, nx, hbk⟩; (with_reducible (have HP0 := At.up ((at_new0 _ [.slice none 0 0] _).al _).dr hbk; have HP1 := At.up (at_new1 _ _ [.slice none 0 0] _).dr hbk; replace HW := ((HW.al _).al _).dr.up hbk; replace HL := ((HL.al _).al _).dr.up hbk; replace HR := ((HR.al _).al _).dr.up hbk; replace np := ((np.al _).al _).dr.up hbk; replace nq := ((nq.al _).al _).dr.up hbk)); have zs1 := Below.size HW; have ll1 := HL.lt; (try have lz2 := HP0.lt); (try have lz3 := HP1.lt)) | (go_at_call 49; (with_reducible refine (CDk.out _ _ _ nx nq).mono ?_); rintro e w5 ⟨Af, cf, Ar, cr, rfl, nf, nr, hbk⟩; (with_reducible (replace HW := HW.up hbk; replace HL := HL.up hbk; replace HR := HR.up hbk; replace np := np.up hbk; replace nq := nq.up hbk)); (try (with_reducible replace HP0 := HP0.up hbk)); (try (with_reducible replace HP1 := HP1.up hbk)); (try have p0 := HP0.c0); (try have p1 := HP1.c0); (try have q0 := HQ0.c0); (try have q1 := HQ1.c0); (try have fp0 := HP0.f0); (try have fp1 := HP1.f0); (try have fq0 := HQ0.f0); (try have fq1 := HQ1.f0); (try have lp0 := HP0.lt); (try have lp1 := HP1.lt); (try have lq0 := HQ0.lt); (try have lq1 := HQ1.lt); have zs2 := Below.size HW; have ll2 := HL.lt) | (go_at_call 49; (with_reducible refine (CDk.out _ _ _ (nx.al _) (nq.al _)).mono ?_); rintro e w5 ⟨Af, cf, Ar, cr, rfl, nf, nr, hbk⟩; (with_reducible (have HQ0 := At.up (at_new0 _ [.slice none 0 0] _) hbk; replace HW := (HW.al _).up hbk; replace HL := (HL.al _).up hbk; replace HR := (HR.al _).up hbk; replace np := (np.al _).up hbk; replace nq := (nq.al _).up hbk)); (try (with_reducible replace HP0 := (HP0.al _).up hbk)); (try (with_reducible replace HP1 := (HP1.al _).up hbk)); (try have p0 := HP0.c0); (try have p1 := HP1.c0); (try have q0 := HQ0.c0); (try have q1 := HQ1.c0); (try have fp0 := HP0.f0); (try have fp1 := HP1.f0); (try have fq0 := HQ0.f0); (try have fq1 := HQ1.f0); (try have lp0 := HP0.lt); (try have lp1 := HP1.lt); (try have lq0 := HQ0.lt); (try have lq1 := HQ1.lt); have zs2 := Below.size HW; have ll2 := HL.lt) | (go_at_call 49; (with_reducible refine (CDk.out _ _ _ ((nx.al _).al _) ((nq.al _).al _)).mono ?_); rintro e w5 ⟨Af, cf, Ar, cr, rfl, nf, nr, hbk⟩; (with_reducible (have HQ0 := At.up ((at_new0 _ [.slice none 0 0] _).al _) hbk; have HQ1 := At.up (at_new1 _ _ [.slice none 0 0] _) hbk; replace HW := ((HW.al _).al _).up hbk; replace HL := ((HL.al _).al _).up hbk; replace HR := ((HR.al _).al _).up hbk; replace np := ((np.al _).al _).up hbk; replace nq := ((nq.al _).al _).up hbk)); (try (with_reducible replace HP0 := ((HP0.al _).al _).up hbk)); (try (with_reducible replace HP1 := ((HP1.al _).al _).up hbk)); (try have p0 := HP0.c0); (try have p1 := HP1.c0); (try have q0 := HQ0.c0); (try have q1 := HQ1.c0); (try have fp0 := HP0.f0); (try have fp1 := HP1.f0); (try have fq0 := HQ0.f0); (try have fq1 := HQ1.f0); (try have lp0 := HP0.lt); (try have lp1 := HP1.lt); (try have lq0 := HQ0.lt); (try have lq1 := HQ1.lt); have zs2 := Below.size HW; have ll2 := HL.lt) | fail)
      all_goals
        go_wp2_with (first | (go_at_call 46; refine name_calls ?_; intro W6 hW6; have HW6 : Bel W3 W6 := (by rw [hW6]; (repeat (first | with_reducible exact HW | (with_reducible refine Bel.dr ?_) | (with_reducible refine Bel.al ?_ _) | (with_reducible refine Bel.put ?_ (by omega) _)))); have nr6 : Nm W6 Ar (dl r0) cr r0 := (by rw [hW6]; (repeat (first | with_reducible exact nr | (with_reducible refine Nm.dr ?_) | (with_reducible refine Nm.al ?_ _) | (with_reducible refine Nm.putx ?_ ⟨.slice none 0 0, At.c0 (vs := []) ?_, not_u32⟩ _) | with_reducible exact HP0 | with_reducible exact HP1 | with_reducible exact HQ0 | with_reducible exact HQ1 | with_reducible exact HL | with_reducible exact HR | (with_reducible refine At.dr ?_) | (with_reducible refine At.put1 (v := .slice none 0 0) ?_ _) | (with_reducible exact at_new0 _ [.slice Af (dl f) cf] _) | (with_reducible exact at_new1 _ _ [.slice Af (dl f) cf] _) | (exact at_size (at_new0 (World.setCell _ _ _) [.slice Af (dl f) cf] _) (by simp [World.setCell])) | (with_reducible refine At.al ?_ _) | (with_reducible refine At.far ?_ (by omega) _)))); clear hW6; (with_reducible refine (CZk.out _ _ _ nr6).mono ?_); rintro e w7 ⟨rfl, hbk⟩; replace hbk := Bel.hid hbk; (with_reducible (replace HW6 := HW6.up hbk))) | fail)
        go_roundw
        case rel => exact ⟨k + 1, by omega, by go_num, HW6⟩
        case measure => simp [intOf]; omega
    · obtain rfl : k = j := by omega
      have hL1 : (k : Int) < (lim : Int) + 1 := by omega
      obtain ⟨x, hx⟩ : ∃ x, x = 10 ^ k := ⟨_, rfl⟩
      obtain ⟨f, hf⟩ : ∃ f, f = x / q := ⟨_, rfl⟩
      obtain ⟨r0, hr0⟩ : ∃ r0, r0 = x % q := ⟨_, rfl⟩
      have CPk : Hid (∀ W', Calls Tryz.prog 50 #[.int .i64 (k : Int)] W' (NumR W' x)) := fun W' => by rw [hx]; exact power_h (by omega)
      have CDk : Hid (∀ W' B e, Nm W' B (dl x) e x → Nm W' Ad (dl q) cd q → Calls Tryz.prog 49 #[.agg #[.slice B (dl x) e], .agg #[.slice Ad (dl q) cd]] W' (DivV W' f r0)) := fun W' B e h1 h2 => div_v h1 h2 HQ0.out (by rw [hx]; exact Nat.le_trans (ten_le (k := k) (by omega)) (by decide)) hf.symm hr0.symm
      have CZk : Hid (∀ W' B e, Nm W' B (dl r0) e r0 → Calls Tryz.prog 46 #[.agg #[.slice B (dl r0) e]] W' (RetB W' true)) := fun W' B e h1 => by
        have h2 := dzero_h h1
        rwa [decide_eq_true (by rw [hr0, hx]; exact Nat.mod_eq_zero_of_dvd HDV.out)] at h2
      obtain ⟨v, hv⟩ : ∃ v, v = p * f := ⟨_, rfl⟩
      have hf60 : dl f ≤ 60 := Nat.le_trans (dl_mono (show f ≤ x by rw [hf]; exact Nat.div_le_self _ _)) (by rw [hx]; exact ten_le (by omega))
      have CM : Hid (∀ W' B e, Nm W' Ap (dl p) cp p → Nm W' B (dl f) e f → Calls Tryz.prog 51 #[.agg #[.slice Ap (dl p) cp], .agg #[.slice B (dl f) e]] W' (NumR W' v)) := fun W' B e h1 h2 => mul_h h1 h2 hv.symm (by
        rw [hv]
        exact Nat.le_trans (dl_le (bd_mul HPB.out (lt_pow_digs (b := W32) (by decide) f))) (by have := HNN.out; unfold dl at hf60; omega))
      have HV : Hid (v = r.num.natAbs * (10 ^ k / r.den)) := by unfold Hid; rw [hv, hf, hx, HP.out, HQ.out]
      clear hx hf hr0 hv hf60
      go_wp2_with fail
      go_region_held3 (fun w' => w'.cell? ⟨pl, 0, none⟩ = some (.bool sg) ∧ w'.cell? ⟨pl, 1, none⟩ = some (.slice Ap (dl p) cp) ∧ w'.cell? ⟨pl, 2, none⟩ = some (.slice Ad (dl q) cd))
        (refine ⟨(?_ : At _ pl [.bool sg, .slice Ap (dl p) cp, .slice Ad (dl q) cd]).c0, (?_ : At _ pl [.bool sg, .slice Ap (dl p) cp, .slice Ad (dl q) cd]).c1, (?_ : At _ pl [.bool sg, .slice Ap (dl p) cp, .slice Ad (dl q) cd]).c2⟩ <;> (repeat (first | with_reducible exact HL | (with_reducible refine At.dr ?_) | (with_reducible refine At.al ?_ _) | (with_reducible refine At.far ?_ (by omega) _))))
        (first | (go_at_call 50; (with_reducible refine (CPk.out _).mono ?_); rintro e w4 ⟨Bx, ex, rfl, nx, hbk⟩; (with_reducible (replace HW := HW.dr.up hbk; replace HL := HL.dr.up hbk; replace HR := HR.dr.up hbk; replace np := np.dr.up hbk; replace nq := nq.dr.up hbk)); have zs1 := Below.size HW; have ll1 := HL.lt; (try have lz2 := HP0.lt); (try have lz3 := HP1.lt)) | (go_at_call 50; (with_reducible refine (CPk.out _).mono ?_); rintro e w4 ⟨Bx, ex, rfl, nx, hbk⟩; (with_reducible (have HP0 := At.up (at_new0 _ [.slice none 0 0] _).dr hbk; replace HW := (HW.al _).dr.up hbk; replace HL := (HL.al _).dr.up hbk; replace HR := (HR.al _).dr.up hbk; replace np := (np.al _).dr.up hbk; replace nq := (nq.al _).dr.up hbk)); have zs1 := Below.size HW; have ll1 := HL.lt; (try have lz2 := HP0.lt); (try have lz3 := HP1.lt)) | (go_at_call 50; (with_reducible refine (CPk.out _).mono ?_); rintro e w4 ⟨Bx, ex, rfl, nx, hbk⟩; (with_reducible (have HP0 := At.up ((at_new0 _ [.slice none 0 0] _).al _).dr hbk; have HP1 := At.up (at_new1 _ _ [.slice none 0 0] _).dr hbk; replace HW := ((HW.al _).al _).dr.up hbk; replace HL := ((HL.al _).al _).dr.up hbk; replace HR := ((HR.al _).al _).dr.up hbk; replace np := ((np.al _).al _).dr.up hbk; replace nq := ((nq.al _).al _).dr.up hbk)); have zs1 := Below.size HW; have ll1 := HL.lt; (try have lz2 := HP0.lt); (try have lz3 := HP1.lt)) | (go_at_call 49; (with_reducible refine (CDk.out _ _ _ nx nq).mono ?_); rintro e w5 ⟨Af, cf, Ar, cr, rfl, nf, nr, hbk⟩; (with_reducible (replace HW := HW.up hbk; replace HL := HL.up hbk; replace HR := HR.up hbk; replace np := np.up hbk; replace nq := nq.up hbk)); (try (with_reducible replace HP0 := HP0.up hbk)); (try (with_reducible replace HP1 := HP1.up hbk)); (try have p0 := HP0.c0); (try have p1 := HP1.c0); (try have q0 := HQ0.c0); (try have q1 := HQ1.c0); (try have fp0 := HP0.f0); (try have fp1 := HP1.f0); (try have fq0 := HQ0.f0); (try have fq1 := HQ1.f0); (try have lp0 := HP0.lt); (try have lp1 := HP1.lt); (try have lq0 := HQ0.lt); (try have lq1 := HQ1.lt); have zs2 := Below.size HW; have ll2 := HL.lt) | (go_at_call 49; (with_reducible refine (CDk.out _ _ _ (nx.al _) (nq.al _)).mono ?_); rintro e w5 ⟨Af, cf, Ar, cr, rfl, nf, nr, hbk⟩; (with_reducible (have HQ0 := At.up (at_new0 _ [.slice none 0 0] _) hbk; replace HW := (HW.al _).up hbk; replace HL := (HL.al _).up hbk; replace HR := (HR.al _).up hbk; replace np := (np.al _).up hbk; replace nq := (nq.al _).up hbk)); (try (with_reducible replace HP0 := (HP0.al _).up hbk)); (try (with_reducible replace HP1 := (HP1.al _).up hbk)); (try have p0 := HP0.c0); (try have p1 := HP1.c0); (try have q0 := HQ0.c0); (try have q1 := HQ1.c0); (try have fp0 := HP0.f0); (try have fp1 := HP1.f0); (try have fq0 := HQ0.f0); (try have fq1 := HQ1.f0); (try have lp0 := HP0.lt); (try have lp1 := HP1.lt); (try have lq0 := HQ0.lt); (try have lq1 := HQ1.lt); have zs2 := Below.size HW; have ll2 := HL.lt) | (go_at_call 49; (with_reducible refine (CDk.out _ _ _ ((nx.al _).al _) ((nq.al _).al _)).mono ?_); rintro e w5 ⟨Af, cf, Ar, cr, rfl, nf, nr, hbk⟩; (with_reducible (have HQ0 := At.up ((at_new0 _ [.slice none 0 0] _).al _) hbk; have HQ1 := At.up (at_new1 _ _ [.slice none 0 0] _) hbk; replace HW := ((HW.al _).al _).up hbk; replace HL := ((HL.al _).al _).up hbk; replace HR := ((HR.al _).al _).up hbk; replace np := ((np.al _).al _).up hbk; replace nq := ((nq.al _).al _).up hbk)); (try (with_reducible replace HP0 := ((HP0.al _).al _).up hbk)); (try (with_reducible replace HP1 := ((HP1.al _).al _).up hbk)); (try have p0 := HP0.c0); (try have p1 := HP1.c0); (try have q0 := HQ0.c0); (try have q1 := HQ1.c0); (try have fp0 := HP0.f0); (try have fp1 := HP1.f0); (try have fq0 := HQ0.f0); (try have fq1 := HQ1.f0); (try have lp0 := HP0.lt); (try have lp1 := HP1.lt); (try have lq0 := HQ0.lt); (try have lq1 := HQ1.lt); have zs2 := Below.size HW; have ll2 := HL.lt) | fail)
      all_goals
        go_wp2_with (first | (go_at_call 46; refine name_calls ?_; intro W6 hW6; have HW6 : Bel W3 W6 := (by rw [hW6]; (repeat (first | with_reducible exact HW | (with_reducible refine Bel.dr ?_) | (with_reducible refine Bel.al ?_ _) | (with_reducible refine Bel.put ?_ (by omega) _)))); have nr6 : Nm W6 Ar (dl r0) cr r0 := (by rw [hW6]; (repeat (first | with_reducible exact nr | (with_reducible refine Nm.dr ?_) | (with_reducible refine Nm.al ?_ _) | (with_reducible refine Nm.putx ?_ ⟨.slice none 0 0, At.c0 (vs := []) ?_, not_u32⟩ _) | with_reducible exact HP0 | with_reducible exact HP1 | with_reducible exact HQ0 | with_reducible exact HQ1 | with_reducible exact HL | with_reducible exact HR | (with_reducible refine At.dr ?_) | (with_reducible refine At.put1 (v := .slice none 0 0) ?_ _) | (with_reducible exact at_new0 _ [.slice Af (dl f) cf] _) | (with_reducible exact at_new1 _ _ [.slice Af (dl f) cf] _) | (exact at_size (at_new0 (World.setCell _ _ _) [.slice Af (dl f) cf] _) (by simp [World.setCell])) | (with_reducible refine At.al ?_ _) | (with_reducible refine At.far ?_ (by omega) _)))); have nf6 : Nm W6 Af (dl f) cf f := (by rw [hW6]; (repeat (first | with_reducible exact nf | (with_reducible refine Nm.dr ?_) | (with_reducible refine Nm.al ?_ _) | (with_reducible refine Nm.putx ?_ ⟨.slice none 0 0, At.c0 (vs := []) ?_, not_u32⟩ _) | with_reducible exact HP0 | with_reducible exact HP1 | with_reducible exact HQ0 | with_reducible exact HQ1 | with_reducible exact HL | with_reducible exact HR | (with_reducible refine At.dr ?_) | (with_reducible refine At.put1 (v := .slice none 0 0) ?_ _) | (with_reducible exact at_new0 _ [.slice Af (dl f) cf] _) | (with_reducible exact at_new1 _ _ [.slice Af (dl f) cf] _) | (exact at_size (at_new0 (World.setCell _ _ _) [.slice Af (dl f) cf] _) (by simp [World.setCell])) | (with_reducible refine At.al ?_ _) | (with_reducible refine At.far ?_ (by omega) _)))); have np6 : Nm W6 Ap (dl p) cp p := (by rw [hW6]; (repeat (first | with_reducible exact np | (with_reducible refine Nm.dr ?_) | (with_reducible refine Nm.al ?_ _) | (with_reducible refine Nm.putx ?_ ⟨.slice none 0 0, At.c0 (vs := []) ?_, not_u32⟩ _) | with_reducible exact HP0 | with_reducible exact HP1 | with_reducible exact HQ0 | with_reducible exact HQ1 | with_reducible exact HL | with_reducible exact HR | (with_reducible refine At.dr ?_) | (with_reducible refine At.put1 (v := .slice none 0 0) ?_ _) | (with_reducible exact at_new0 _ [.slice Af (dl f) cf] _) | (with_reducible exact at_new1 _ _ [.slice Af (dl f) cf] _) | (exact at_size (at_new0 (World.setCell _ _ _) [.slice Af (dl f) cf] _) (by simp [World.setCell])) | (with_reducible refine At.al ?_ _) | (with_reducible refine At.far ?_ (by omega) _)))); (first | (refine by_at (p := At W6 (w5.heap.size) [.slice Af (dl f) cf]) ?_ ?_; (focus (rw [hW6]; (repeat (first | with_reducible exact HP0 | with_reducible exact HP1 | with_reducible exact HQ0 | with_reducible exact HQ1 | with_reducible exact HL | with_reducible exact HR | (with_reducible refine At.dr ?_) | (with_reducible refine At.put1 (v := .slice none 0 0) ?_ _) | (with_reducible exact at_new0 _ [.slice Af (dl f) cf] _) | (with_reducible exact at_new1 _ _ [.slice Af (dl f) cf] _) | (exact at_size (at_new0 (World.setCell _ _ _) [.slice Af (dl f) cf] _) (by simp [World.setCell])) | (with_reducible refine At.al ?_ _) | (with_reducible refine At.far ?_ (by omega) _))); done)); intro H9; obtain ⟨p9, hp9⟩ : ∃ x, x = w5.heap.size := ⟨_, rfl⟩; have hp9b : W3.heap.size ≤ p9 := (by rw [hp9]; omega); rw [← hp9] at H9; simp only [← hp9]; clear hp9) | (refine by_at (p := At W6 (w5.heap.size + 1) [.slice Af (dl f) cf]) ?_ ?_; (focus (rw [hW6]; (repeat (first | with_reducible exact HP0 | with_reducible exact HP1 | with_reducible exact HQ0 | with_reducible exact HQ1 | with_reducible exact HL | with_reducible exact HR | (with_reducible refine At.dr ?_) | (with_reducible refine At.put1 (v := .slice none 0 0) ?_ _) | (with_reducible exact at_new0 _ [.slice Af (dl f) cf] _) | (with_reducible exact at_new1 _ _ [.slice Af (dl f) cf] _) | (exact at_size (at_new0 (World.setCell _ _ _) [.slice Af (dl f) cf] _) (by simp [World.setCell])) | (with_reducible refine At.al ?_ _) | (with_reducible refine At.far ?_ (by omega) _))); done)); intro H9; obtain ⟨p9, hp9⟩ : ∃ x, x = w5.heap.size + 1 := ⟨_, rfl⟩; have hp9b : W3.heap.size ≤ p9 := (by rw [hp9]; omega); rw [← hp9] at H9; simp only [← hp9]; clear hp9) | (refine by_at (p := At W6 (w4.heap.size) [.slice Af (dl f) cf]) ?_ ?_; (focus (rw [hW6]; (repeat (first | with_reducible exact HP0 | with_reducible exact HP1 | with_reducible exact HQ0 | with_reducible exact HQ1 | with_reducible exact HL | with_reducible exact HR | (with_reducible refine At.dr ?_) | (with_reducible refine At.put1 (v := .slice none 0 0) ?_ _) | (with_reducible exact at_new0 _ [.slice Af (dl f) cf] _) | (with_reducible exact at_new1 _ _ [.slice Af (dl f) cf] _) | (exact at_size (at_new0 (World.setCell _ _ _) [.slice Af (dl f) cf] _) (by simp [World.setCell])) | (with_reducible refine At.al ?_ _) | (with_reducible refine At.far ?_ (by omega) _))); done)); intro H9; obtain ⟨p9, hp9⟩ : ∃ x, x = w4.heap.size := ⟨_, rfl⟩; have hp9b : W3.heap.size ≤ p9 := (by rw [hp9]; omega); rw [← hp9] at H9; simp only [← hp9]; clear hp9) | (refine by_at (p := At W6 (w4.heap.size + 1) [.slice Af (dl f) cf]) ?_ ?_; (focus (rw [hW6]; (repeat (first | with_reducible exact HP0 | with_reducible exact HP1 | with_reducible exact HQ0 | with_reducible exact HQ1 | with_reducible exact HL | with_reducible exact HR | (with_reducible refine At.dr ?_) | (with_reducible refine At.put1 (v := .slice none 0 0) ?_ _) | (with_reducible exact at_new0 _ [.slice Af (dl f) cf] _) | (with_reducible exact at_new1 _ _ [.slice Af (dl f) cf] _) | (exact at_size (at_new0 (World.setCell _ _ _) [.slice Af (dl f) cf] _) (by simp [World.setCell])) | (with_reducible refine At.al ?_ _) | (with_reducible refine At.far ?_ (by omega) _))); done)); intro H9; obtain ⟨p9, hp9⟩ : ∃ x, x = w4.heap.size + 1 := ⟨_, rfl⟩; have hp9b : W3.heap.size ≤ p9 := (by rw [hp9]; omega); rw [← hp9] at H9; simp only [← hp9]; clear hp9) | (refine by_at (p := At W6 (wr.heap.size) [.slice Af (dl f) cf]) ?_ ?_; (focus (rw [hW6]; (repeat (first | with_reducible exact HP0 | with_reducible exact HP1 | with_reducible exact HQ0 | with_reducible exact HQ1 | with_reducible exact HL | with_reducible exact HR | (with_reducible refine At.dr ?_) | (with_reducible refine At.put1 (v := .slice none 0 0) ?_ _) | (with_reducible exact at_new0 _ [.slice Af (dl f) cf] _) | (with_reducible exact at_new1 _ _ [.slice Af (dl f) cf] _) | (exact at_size (at_new0 (World.setCell _ _ _) [.slice Af (dl f) cf] _) (by simp [World.setCell])) | (with_reducible refine At.al ?_ _) | (with_reducible refine At.far ?_ (by omega) _))); done)); intro H9; obtain ⟨p9, hp9⟩ : ∃ x, x = wr.heap.size := ⟨_, rfl⟩; have hp9b : W3.heap.size ≤ p9 := (by rw [hp9]; omega); rw [← hp9] at H9; simp only [← hp9]; clear hp9) | (refine by_at (p := At W6 (wr.heap.size + 1) [.slice Af (dl f) cf]) ?_ ?_; (focus (rw [hW6]; (repeat (first | with_reducible exact HP0 | with_reducible exact HP1 | with_reducible exact HQ0 | with_reducible exact HQ1 | with_reducible exact HL | with_reducible exact HR | (with_reducible refine At.dr ?_) | (with_reducible refine At.put1 (v := .slice none 0 0) ?_ _) | (with_reducible exact at_new0 _ [.slice Af (dl f) cf] _) | (with_reducible exact at_new1 _ _ [.slice Af (dl f) cf] _) | (exact at_size (at_new0 (World.setCell _ _ _) [.slice Af (dl f) cf] _) (by simp [World.setCell])) | (with_reducible refine At.al ?_ _) | (with_reducible refine At.far ?_ (by omega) _))); done)); intro H9; obtain ⟨p9, hp9⟩ : ∃ x, x = wr.heap.size + 1 := ⟨_, rfl⟩; have hp9b : W3.heap.size ≤ p9 := (by rw [hp9]; omega); rw [← hp9] at H9; simp only [← hp9]; clear hp9)); clear hW6; (with_reducible refine (CZk.out _ _ _ nr6).mono ?_); rintro e w7 ⟨rfl, hbk⟩; replace hbk := Bel.hid hbk; (with_reducible (replace HW6 := HW6.up hbk; replace nf6 := nf6.up hbk; replace np6 := np6.up hbk; replace H9 := H9.up hbk))) | fail)
        have HL7 : At w7 pl [.bool sg, .slice Ap (dl p) cp, .slice Ad (dl q) cd] := At.up (At.up HL3 HW6.hid) (Below.refl _ _)
        have HR7 : At w7 (W.heap.size + 1) [.bool false, .slice none 0 0, .int .i64 0] := At.up (At.up HR3 HW6.hid) (Below.refl _ _)
        have hpr : p9 ≠ W.heap.size + 1 := by omega
        go_region_held3 (fun w' => w'.cell? ⟨pl, 0, none⟩ = some (.bool sg) ∧ w'.cell? ⟨pl, 1, none⟩ = some (.slice Ap (dl p) cp) ∧ w'.cell? ⟨pl, 2, none⟩ = some (.slice Ad (dl q) cd) ∧ w'.cell? ⟨p9, 0, none⟩ = some (.slice Af (dl f) cf))
          (refine ⟨(?_ : At _ pl [.bool sg, .slice Ap (dl p) cp, .slice Ad (dl q) cd]).c0, (?_ : At _ pl [.bool sg, .slice Ap (dl p) cp, .slice Ad (dl q) cd]).c1, (?_ : At _ pl [.bool sg, .slice Ap (dl p) cp, .slice Ad (dl q) cd]).c2, (?_ : At _ p9 [.slice Af (dl f) cf]).c0⟩ <;> (repeat (first | with_reducible exact HL7 | with_reducible exact H9 | (with_reducible refine At.dr ?_) | (with_reducible refine At.al ?_ _) | (with_reducible refine At.far3 ?_ (by omega) _ _ _) | (with_reducible refine At.far ?_ (by omega) _))))
          (first | (go_at_call 51; (with_reducible refine (CM.out _ _ _ np6.dr nf6.dr).mono ?_); rintro e w8 ⟨Av, cv, rfl, nv, hbk⟩; (with_reducible (replace HW6 := HW6.dr.up hbk; replace HL7 := HL7.dr.up hbk; replace HR7 := HR7.dr.up hbk; replace H9 := H9.dr.up hbk)); have hr7_0 := HR7.c0; have hr7_1 := HR7.c1; have hr7_2 := HR7.c2; have hr7_l := HR7.lt; have hr7_f0 := HR7.f0; have hr7_f1 := HR7.f1; have hr7_f2 := HR7.f2; have hpr2 := hpr) | fail)
        go_wp2_with fail
        have HBF := HB3.up HW6.hid
        refine name_end ?_
        intro W4 hW4
        have HF : At W4 (W.heap.size + 1) [.bool sg, .slice Av (dl v) cv, .int .i64 (k : Int)] := by rw [hW4]; (repeat (first | with_reducible exact HR7 | (with_reducible refine At.dr ?_) | (with_reducible refine At.xput3 (v0 := .bool false) (v1 := .slice none 0 0) (v2 := .int .i64 0) ?_ _ _ _) | (with_reducible refine At.al ?_ _)))
        have NF : Nm W4 Av (dl v) cv v := by rw [hW4]; (repeat (first | with_reducible exact nv | (with_reducible refine Nm.dr ?_) | (with_reducible refine Nm.al ?_ _) | (with_reducible refine Nm.xputs ?_ ?_ _ _ _ _ _) | with_reducible exact HR7 | (with_reducible refine At.dr ?_) | (with_reducible refine At.xput3 (v0 := .bool false) (v1 := .slice none 0 0) (v2 := .int .i64 0) ?_ _ _ _) | (with_reducible refine At.al ?_ _)))
        have BF : Bel W W4 := by rw [hW4]; (repeat (first | with_reducible exact HBF | (with_reducible refine Bel.dr ?_) | (with_reducible refine Bel.al ?_ _) | (with_reducible refine Bel.xput3 ?_ (by omega) _ _ _)))
        clear hW4
        refine bodyPost_ret (v := .tuple #[.agg #[.bool sg, .slice Av (dl v) cv, .int .i64 (k : Int)], .bool true]) (by simp [results, Tryz.results11, go_sem, HF.c0, HF.c1, HF.c2]) rfl ?_
        rw [HSG.out] at *
        exact ⟨Av, cv, by rw [← HV.out], by rw [← HV.out]; exact NF, BF⟩
set_option maxHeartbeats 16000000 in
theorem dof_miss (hz : ZA W b A n c z) (hd : Nm W A' n' c' d) (h0 : 0 < d) (hr : mkRat z d = r) (bz : dl z.natAbs ≤ 20000) (bd : dl d ≤ 20000) (hm : min (max most 0) 60 = (lim : Int)) (hd2 : ∀ k, k ≤ lim → ¬ r.den ∣ 10 ^ k) : Calls Tryz.prog 11 #[.agg #[.bool b, .slice A n c, .slice A' n' c'], .int .i64 most] W (DofN W false) := by
  obtain ⟨sg, hsg⟩ : ∃ sg, sg = decide (r.num < 0) := ⟨_, rfl⟩
  obtain ⟨p, hp⟩ : ∃ p, p = r.num.natAbs := ⟨_, rfl⟩
  obtain ⟨q, hq⟩ : ∃ q, q = r.den := ⟨_, rfl⟩
  have hlim : lim ≤ 60 := by omega
  have CO : Hid (∀ W', Bel W W' → Calls Tryz.prog 48 #[.agg #[.bool b, .slice A n c], .agg #[.slice A' n' c']] W' (OfYw W' sg r)) := fun W' hb => by
    rw [hsg]; exact of_yes (hz.up hb) (hd.up hb) h0 hr (by omega) (by omega)
  have HSG := hide hsg
  have HP := hide hp
  have HQ := hide hq
  have HQ0 : Hid (0 < q) := by unfold Hid; rw [hq]; exact r.den_pos
  have HND : Hid (∀ k, k ≤ lim → ¬ q ∣ 10 ^ k) := by unfold Hid; rw [hq]; exact hd2
  have CO2 : Hid (∀ W', Bel W W' → Calls Tryz.prog 48 #[.agg #[.bool b, .slice A n c], .agg #[.slice A' n' c']] W' (OfYx W' sg p q)) := fun W' hb => (CO.out W' hb).mono fun _ _ ⟨A1, c1, A2, c2, e1, e2, e3, e4⟩ => ⟨A1, c1, A2, c2, by rw [e1, hp, hq], by rw [hp]; exact e2.1, by rw [hq]; exact e3, e4⟩
  clear CO
  have CO := CO2
  clear CO2 hz hd h0 hr bz bd hsg hp hq hd2
  have HB := Bel.refl W
  go_enter Tryz.func11, Tryz.ntmps11
  go_wp2_with (first | (go_at_call 48; (with_reducible refine (CO.out _ ((HB.al _).al _)).mono ?_); rintro e w1 ⟨Ap, cp, Ad, cd, rfl, nz, nd, hbk⟩; (with_reducible (have HR : At w1 (W.heap.size + 1) [.bool false, .slice none 0 0, .int .i64 0] := At.up (at_new1 _ _ _ _) hbk)); replace HB := ((HB.al _).al _).up hbk) | fail)
  obtain ⟨W3, hW3⟩ : ∃ W3, W3 = w1.alloc (.cells #[.bool sg, .slice Ap (dl p) cp, .slice Ad (dl q) cd] 30) := ⟨_, rfl⟩
  rw [← hW3]
  obtain ⟨pl, hpl⟩ : ∃ pl, pl = w1.heap.size := ⟨_, rfl⟩
  rw [← hpl]
  have HL3 : At W3 pl [.bool sg, .slice Ap (dl p) cp, .slice Ad (dl q) cd] := by rw [hW3, hpl]; exact at_new0 _ _ _
  have hplr : W.heap.size + 1 < pl := by rw [hpl]; exact HR.lt
  have HR3 : At W3 (W.heap.size + 1) [.bool false, .slice none 0 0, .int .i64 0] := by rw [hW3]; exact HR.al _
  have HB3 : Bel W W3 := by rw [hW3]; exact HB.al _
  have nz3 : Nm W3 Ap (dl p) cp p := by rw [hW3]; exact nz.al _
  have nd3 : Nm W3 Ad (dl q) cd q := by rw [hW3]; exact nd.al _
  have hpls := HL3.lt
  clear hW3 hpl nz nd HR HB
  go_loopw [27] (fun iv wr => ∃ k : Nat, k ≤ lim + 1 ∧ iv = .int .i64 (k : Int) ∧ Hid (Bel W3 wr)) (fun iv _ => lim + 1 - (intOf iv).toNat)
  case atStart => exact ⟨0, Nat.zero_le _, rfl, Bel.refl W3⟩
  case round =>
    obtain ⟨k, hk, rfl, HW0⟩ := hrel
    have HW : Bel W3 wr := HW0
    clear HW0
    have HL := At.up HL3 HW.hid
    have HR := At.up HR3 HW.hid
    have np := nz3.up HW.hid
    have nq := nd3.up HW.hid
    have zs0 := Below.size HW
    by_cases hlt : k < lim + 1
    · have hnd := HND.out k (by omega)
      obtain ⟨x, hx⟩ : ∃ x, x = 10 ^ k := ⟨_, rfl⟩
      obtain ⟨f, hf⟩ : ∃ f, f = x / q := ⟨_, rfl⟩
      obtain ⟨r0, hr0⟩ : ∃ r0, r0 = x % q := ⟨_, rfl⟩
      have CPk : Hid (∀ W', Calls Tryz.prog 50 #[.int .i64 (k : Int)] W' (NumR W' x)) := fun W' => by rw [hx]; exact power_h (by omega)
      have CDk : Hid (∀ W' B e, Nm W' B (dl x) e x → Nm W' Ad (dl q) cd q → Calls Tryz.prog 49 #[.agg #[.slice B (dl x) e], .agg #[.slice Ad (dl q) cd]] W' (DivV W' f r0)) := fun W' B e h1 h2 => div_v h1 h2 HQ0.out (by rw [hx]; exact Nat.le_trans (ten_le (k := k) (by omega)) (by decide)) hf.symm hr0.symm
      have CZk : Hid (∀ W' B e, Nm W' B (dl r0) e r0 → Calls Tryz.prog 46 #[.agg #[.slice B (dl r0) e]] W' (RetB W' false)) := fun W' B e h1 => by
        have h2 := dzero_h h1
        rwa [decide_eq_false (by rw [hr0, hx]; intro h3; exact hnd (Nat.dvd_of_mod_eq_zero h3))] at h2
      have hL1 : (k : Int) < (lim : Int) + 1 := by omega
      clear hx hf hr0 hnd
      go_wp2_with fail
      go_region_held3 (fun w' => w'.cell? ⟨pl, 0, none⟩ = some (.bool sg) ∧ w'.cell? ⟨pl, 1, none⟩ = some (.slice Ap (dl p) cp) ∧ w'.cell? ⟨pl, 2, none⟩ = some (.slice Ad (dl q) cd))
        (refine ⟨(?_ : At _ pl [.bool sg, .slice Ap (dl p) cp, .slice Ad (dl q) cd]).c0, (?_ : At _ pl [.bool sg, .slice Ap (dl p) cp, .slice Ad (dl q) cd]).c1, (?_ : At _ pl [.bool sg, .slice Ap (dl p) cp, .slice Ad (dl q) cd]).c2⟩ <;> (repeat (first | with_reducible exact HL | (with_reducible refine At.dr ?_) | (with_reducible refine At.al ?_ _) | (with_reducible refine At.far ?_ (by omega) _))))
        (first | (go_at_call 50; (with_reducible refine (CPk.out _).mono ?_); rintro e w4 ⟨Bx, ex, rfl, nx, hbk⟩; (with_reducible (replace HW := HW.dr.up hbk; replace HL := HL.dr.up hbk; replace HR := HR.dr.up hbk; replace np := np.dr.up hbk; replace nq := nq.dr.up hbk)); have zs1 := Below.size HW; have ll1 := HL.lt; (try have lz2 := HP0.lt); (try have lz3 := HP1.lt)) | (go_at_call 50; (with_reducible refine (CPk.out _).mono ?_); rintro e w4 ⟨Bx, ex, rfl, nx, hbk⟩; (with_reducible (have HP0 := At.up (at_new0 _ [.slice none 0 0] _).dr hbk; replace HW := (HW.al _).dr.up hbk; replace HL := (HL.al _).dr.up hbk; replace HR := (HR.al _).dr.up hbk; replace np := (np.al _).dr.up hbk; replace nq := (nq.al _).dr.up hbk)); have zs1 := Below.size HW; have ll1 := HL.lt; (try have lz2 := HP0.lt); (try have lz3 := HP1.lt)) | (go_at_call 50; (with_reducible refine (CPk.out _).mono ?_); rintro e w4 ⟨Bx, ex, rfl, nx, hbk⟩; (with_reducible (have HP0 := At.up ((at_new0 _ [.slice none 0 0] _).al _).dr hbk; have HP1 := At.up (at_new1 _ _ [.slice none 0 0] _).dr hbk; replace HW := ((HW.al _).al _).dr.up hbk; replace HL := ((HL.al _).al _).dr.up hbk; replace HR := ((HR.al _).al _).dr.up hbk; replace np := ((np.al _).al _).dr.up hbk; replace nq := ((nq.al _).al _).dr.up hbk)); have zs1 := Below.size HW; have ll1 := HL.lt; (try have lz2 := HP0.lt); (try have lz3 := HP1.lt)) | (go_at_call 49; (with_reducible refine (CDk.out _ _ _ nx nq).mono ?_); rintro e w5 ⟨Af, cf, Ar, cr, rfl, nf, nr, hbk⟩; (with_reducible (replace HW := HW.up hbk; replace HL := HL.up hbk; replace HR := HR.up hbk; replace np := np.up hbk; replace nq := nq.up hbk)); (try (with_reducible replace HP0 := HP0.up hbk)); (try (with_reducible replace HP1 := HP1.up hbk)); (try have p0 := HP0.c0); (try have p1 := HP1.c0); (try have q0 := HQ0.c0); (try have q1 := HQ1.c0); (try have fp0 := HP0.f0); (try have fp1 := HP1.f0); (try have fq0 := HQ0.f0); (try have fq1 := HQ1.f0); (try have lp0 := HP0.lt); (try have lp1 := HP1.lt); (try have lq0 := HQ0.lt); (try have lq1 := HQ1.lt); have zs2 := Below.size HW; have ll2 := HL.lt) | (go_at_call 49; (with_reducible refine (CDk.out _ _ _ (nx.al _) (nq.al _)).mono ?_); rintro e w5 ⟨Af, cf, Ar, cr, rfl, nf, nr, hbk⟩; (with_reducible (have HQ0 := At.up (at_new0 _ [.slice none 0 0] _) hbk; replace HW := (HW.al _).up hbk; replace HL := (HL.al _).up hbk; replace HR := (HR.al _).up hbk; replace np := (np.al _).up hbk; replace nq := (nq.al _).up hbk)); (try (with_reducible replace HP0 := (HP0.al _).up hbk)); (try (with_reducible replace HP1 := (HP1.al _).up hbk)); (try have p0 := HP0.c0); (try have p1 := HP1.c0); (try have q0 := HQ0.c0); (try have q1 := HQ1.c0); (try have fp0 := HP0.f0); (try have fp1 := HP1.f0); (try have fq0 := HQ0.f0); (try have fq1 := HQ1.f0); (try have lp0 := HP0.lt); (try have lp1 := HP1.lt); (try have lq0 := HQ0.lt); (try have lq1 := HQ1.lt); have zs2 := Below.size HW; have ll2 := HL.lt) | (go_at_call 49; (with_reducible refine (CDk.out _ _ _ ((nx.al _).al _) ((nq.al _).al _)).mono ?_); rintro e w5 ⟨Af, cf, Ar, cr, rfl, nf, nr, hbk⟩; (with_reducible (have HQ0 := At.up ((at_new0 _ [.slice none 0 0] _).al _) hbk; have HQ1 := At.up (at_new1 _ _ [.slice none 0 0] _) hbk; replace HW := ((HW.al _).al _).up hbk; replace HL := ((HL.al _).al _).up hbk; replace HR := ((HR.al _).al _).up hbk; replace np := ((np.al _).al _).up hbk; replace nq := ((nq.al _).al _).up hbk)); (try (with_reducible replace HP0 := ((HP0.al _).al _).up hbk)); (try (with_reducible replace HP1 := ((HP1.al _).al _).up hbk)); (try have p0 := HP0.c0); (try have p1 := HP1.c0); (try have q0 := HQ0.c0); (try have q1 := HQ1.c0); (try have fp0 := HP0.f0); (try have fp1 := HP1.f0); (try have fq0 := HQ0.f0); (try have fq1 := HQ1.f0); (try have lp0 := HP0.lt); (try have lp1 := HP1.lt); (try have lq0 := HQ0.lt); (try have lq1 := HQ1.lt); have zs2 := Below.size HW; have ll2 := HL.lt) | fail)
      all_goals
        go_wp2_with (first | (go_at_call 46; refine name_calls ?_; intro W6 hW6; have HW6 : Bel W3 W6 := (by rw [hW6]; (repeat (first | with_reducible exact HW | (with_reducible refine Bel.dr ?_) | (with_reducible refine Bel.al ?_ _) | (with_reducible refine Bel.put ?_ (by omega) _)))); have nr6 : Nm W6 Ar (dl r0) cr r0 := (by rw [hW6]; (repeat (first | with_reducible exact nr | (with_reducible refine Nm.dr ?_) | (with_reducible refine Nm.al ?_ _) | (with_reducible refine Nm.putx ?_ ⟨.slice none 0 0, At.c0 (vs := []) ?_, not_u32⟩ _) | with_reducible exact HP0 | with_reducible exact HP1 | with_reducible exact HQ0 | with_reducible exact HQ1 | with_reducible exact HL | with_reducible exact HR | (with_reducible refine At.dr ?_) | (with_reducible refine At.put1 (v := .slice none 0 0) ?_ _) | (with_reducible exact at_new0 _ [.slice Af (dl f) cf] _) | (with_reducible exact at_new1 _ _ [.slice Af (dl f) cf] _) | (exact at_size (at_new0 (World.setCell _ _ _) [.slice Af (dl f) cf] _) (by simp [World.setCell])) | (with_reducible refine At.al ?_ _) | (with_reducible refine At.far ?_ (by omega) _)))); clear hW6; (with_reducible refine (CZk.out _ _ _ nr6).mono ?_); rintro e w7 ⟨rfl, hbk⟩; replace hbk := Bel.hid hbk; (with_reducible (replace HW6 := HW6.up hbk))) | fail)
        go_roundw
        case rel => exact ⟨k + 1, by omega, by go_num, HW6⟩
        case measure => simp [intOf]; omega
    · obtain rfl : k = lim + 1 := by omega
      have hr_0 := HR.c0
      have hr_1 := HR.c1
      have hr_2 := HR.c2
      have hr_f0 := HR.f0
      have hr_f1 := HR.f1
      have hr_f2 := HR.f2
      have hL1 : ¬ ((lim + 1 : Nat) : Int) < (lim : Int) + 1 := by omega
      go_wp2_with fail
      have HBF := HB3.up HW.hid
      refine bodyPost_ret (v := .tuple #[.agg #[.bool false, .slice none 0 0, .int .i64 0], .bool false]) (by simp [results, Tryz.results11, go_sem, hr_0, hr_1, hr_2]) rfl ?_
      exact ⟨rfl, by first | exact HBF | exact below3 HBF (by omega) _ _ _⟩
set_option maxHeartbeats 4000000 in
theorem dof_zero (hd : Nm W A' n' c' 0) : Calls Tryz.prog 11 #[.agg #[.bool b, .slice A n c, .slice A' n' c'], .int .i64 most] W (DofN W true) := by
  have CO : Hid (∀ W', Bel W W' → Calls Tryz.prog 48 #[.agg #[.bool b, .slice A n c], .agg #[.slice A' n' c']] W' (OfNo W')) := fun W' hb => of_no (hd.up hb)
  clear hd
  have HB := Bel.refl W
  go_enter Tryz.func11, Tryz.ntmps11
  go_wp2_with (first | (go_at_call 48; (with_reducible refine (CO.out _ ((HB.al _).al _)).mono ?_); rintro e w1 ⟨rfl, hbk⟩; (with_reducible (have HR : At w1 (W.heap.size + 1) [.bool false, .slice none 0 0, .int .i64 0] := At.up (at_new1 _ _ _ _) hbk)); replace HB := ((HB.al _).al _).up hbk; have hr_0 := HR.c0; have hr_1 := HR.c1; have hr_2 := HR.c2; have hr_l := HR.lt; have hr_f0 := HR.f0; have hr_f1 := HR.f1; have hr_f2 := HR.f2) | fail)
  all_goals
    refine name_end ?_
    intro W4 hW4
    have HF : At W4 (W.heap.size + 1) [.bool false, .slice none 0 0, .int .i64 0] := by rw [hW4]; (repeat (first | with_reducible exact HR | (with_reducible refine At.dr ?_) | (with_reducible refine At.xput3 (v0 := .bool false) (v1 := .slice none 0 0) (v2 := .int .i64 0) ?_ _ _ _) | (with_reducible refine At.al ?_ _)))
    have BF : Bel W W4 := by rw [hW4]; (repeat (first | with_reducible exact HB | (with_reducible refine Bel.dr ?_) | (with_reducible refine Bel.al ?_ _) | (with_reducible refine Bel.xput3 ?_ (by omega) _ _ _)))
    clear hW4
    refine bodyPost_ret (v := .tuple #[.agg #[.bool false, .slice none 0 0, .int .i64 0], .bool true]) (by simp [results, Tryz.results11, go_sem, HF.c0, HF.c1, HF.c2]) rfl ?_
    exact ⟨rfl, BF⟩
end
end Go.Proofs.YtphnmccpcjecnaaGreatDoor
