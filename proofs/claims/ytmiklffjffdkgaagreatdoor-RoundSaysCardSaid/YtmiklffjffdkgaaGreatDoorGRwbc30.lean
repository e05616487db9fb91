/- Several texts in one, each with its own sentence and conditions. -/
import Derived.Test.YtmiklffjffdkgaaGreatDoorGRwbc29
import Derived.Test.YtmiklffjffdkgaaGreatDoorGRwbc20
import Derived.Deep.CutRange
import Derived.Test.YtmiklffjffdkgaaGreatDoorGRwbc13
import Derived.Test.YtmiklffjffdkgaaGreatDoorGRwbc22
section
/- Package round: power, unit, multiple. Conditions: terms of at most 6000 words, powers of at most 2000. -/
open Go.RowKit
set_option maxRecDepth 100000
namespace Go.Proofs.YtmiklffjffdkgaaGreatDoor
/-- What a call leaves that returns a numeral: the number v, s digits behind the point. -/
def DvR (W : World) (b : Bool) (v : Nat) (s : Int) (e : Ending) (w' : World) : Prop := ∃ A c, e = .returned (.agg #[.bool b, .slice A (dl v) c, .int .i64 s]) ∧ Nm w' A (dl v) c v ∧ Hid (Below W.heap.size W w')
theorem At.uput3 {W : World} {p : Nat} {v0 v1 v2 : Value} (h : At W p [v0, v1, v2]) (x y z : Value) : At (((W.setCell ⟨p, 0, none⟩ x).setCell ⟨p, 1, none⟩ y).setCell ⟨p, 2, none⟩ z) p [x, y, z] := h.put3 x y z
theorem Nm.putd {W : World} {p : Nat} {A : Option Addr} {n c m : Nat} (h : Nm W A n c m) (hp : At W p [.bool false, .slice none 0 0, .int .i64 0]) (b : Bool) (B : Option Addr) (k d : Nat) (s : Int) :
    Nm (((W.setCell ⟨p, 0, none⟩ (.bool b)).setCell ⟨p, 1, none⟩ (.slice B k d)).setCell ⟨p, 2, none⟩ (.int .i64 s)) A n c m := h.putD hp nowD
theorem Bel.uput3 {w W : World} (h : Bel w W) {p : Nat} (hp : w.heap.size ≤ p) (x y z : Value) : Bel w (((W.setCell ⟨p, 0, none⟩ x).setCell ⟨p, 1, none⟩ y).setCell ⟨p, 2, none⟩ z) := below3 h hp x y z
theorem tenk_lt (k : Nat) : 10 ^ k < W32 ^ (k + 1) := by
  have h1 : 10 ^ k ≤ W32 ^ k := Nat.pow_le_pow_left (by decide) k
  have h2 : W32 ^ k < W32 ^ (k + 1) := Nat.pow_lt_pow_right (by decide) (by omega)
  omega
theorem tenk_dl {k : Nat} (hk : k ≤ 2000) : dl (10 ^ k) ≤ 2001 := Nat.le_trans (dl_le (tenk_lt k)) (Nat.succ_le_succ hk)
section
variable {W : World} {b b' : Bool} {A A' A2 : Option Addr} {n n' n2 c c' c2 m2 s K : Nat} {m : Int} {r : Rat}
theorem rpower_h {k : Nat} (hk : k ≤ 2000) : Calls Tryz.prog 67 #[.int .i64 (k : Int)] W (NumR W (10 ^ k)) := by
  obtain ⟨u, hu⟩ : ∃ u, u = 10 ^ k := ⟨_, rfl⟩
  have CO : Hid (∀ W', Calls Tryz.prog 56 #[.int .u64 10] W' (NumR W' 10)) := fun W' => of_h (v := 10) (by omega)
  have CP : Hid (∀ W' B e, Nm W' B (dl 10) e 10 → Calls Tryz.prog 98 #[.agg #[.slice B (dl 10) e], .int .i64 (k : Int)] W' (NumR W' u)) := fun W' B e h => pow_h h (by omega) (fun i hi => Nat.le_trans (tenk_dl (k := i) (by omega)) (by decide)) hu.symm
  have HU := hide hu
  clear hu
  have HB := Bel.refl W
  clear hk
  go_enter Tryz.func67, Tryz.ntmps67
  go_wp2_with (first | (go_at_call 56; (with_reducible refine (CO.out _).mono ?_); rintro e w1 ⟨B, e1, rfl, nb, hbk⟩; have HR := At.up (at_new0 _ _ _) hbk; replace HB := (HB.al _).up hbk) | (go_at_call 98; (with_reducible refine (CP.out _ _ _ nb).mono ?_); rintro e w2 ⟨B2, e2, rfl, nb2, hbk⟩; replace HB := HB.up hbk; replace HR := HR.up hbk; have hr_0 := HR.c0; have hr_l := HR.lt; have hr_f0 := HR.f0) | fail)
  refine bodyPost_ret (v := .agg #[.slice B2 (dl u) e2]) (by simp [results, Tryz.results67, go_sem, hr_0]) rfl ?_
  rw [HU.out]
  exact ret_n HB (Nat.le_refl _) HR now1 (by rw [← HU.out]; exact nb2)
theorem ret_d {w2 : World} {B : Option Addr} {d p v : Nat} {sg : Bool} {k : Int} (hW : Bel W w2) (hp : W.heap.size ≤ p) (hR : At w2 p [.bool false, .slice none 0 0, .int .i64 0]) (hn : Nm w2 B (dl v) d v) :
    DvR W sg v k (.returned (.agg #[.bool sg, .slice B (dl v) d, .int .i64 k])) (((w2.setCell ⟨p, 0, none⟩ (.bool sg)).setCell ⟨p, 1, none⟩ (.slice B (dl v) d)).setCell ⟨p, 2, none⟩ (.int .i64 k)) :=
  ⟨B, d, rfl, hn.putd hR _ _ _ _ _, hW.uput3 hp _ _ _⟩
theorem unit_p (hs : (0 : Int) ≤ (s : Int)) : Calls Tryz.prog 27 #[.int .i64 (s : Int)] W (DvR W false 1 (s : Int)) := by
  have C1 : Hid (∀ W', Calls Tryz.prog 56 #[.int .u64 1] W' (NumR W' 1)) := fun W' => of_h (v := 1) (by omega)
  have h1 : decide ((s : Int) < 0) = false := decide_eq_false (by omega)
  have HB := Bel.refl W
  go_enter Tryz.func27, Tryz.ntmps27
  go_wp2_with (first | (go_at_call 56; (with_reducible refine (C1.out _).mono ?_); rintro e w1 ⟨B, e1, rfl, nb, hbk⟩; have HR := At.up (at_new0 _ _ _) hbk; replace HB := (HB.al _).up hbk; have hr_0 := HR.c0; have hr_1 := HR.c1; have hr_2 := HR.c2; have hr_l := HR.lt; have hr_f0 := HR.f0; have hr_f1 := HR.f1; have hr_f2 := HR.f2) | fail)
  refine bodyPost_ret (v := .agg #[.bool false, .slice B (dl 1) e1, .int .i64 (s : Int)]) (by simp [results, Tryz.results27, go_sem, hr_0, hr_1, hr_2]) rfl ?_
  exact ret_d HB (Nat.le_refl _) HR nb
theorem unit_n {k : Nat} {i : Int} (hk : k ≤ 2000) (hi : -(k : Int) = i) (h0 : 0 < k) : Calls Tryz.prog 27 #[.int .i64 i] W (DvR W false (10 ^ k) 0) := by
  obtain ⟨u, hu⟩ : ∃ u, u = 10 ^ k := ⟨_, rfl⟩
  have CP : Hid (∀ W', Calls Tryz.prog 67 #[.int .i64 (k : Int)] W' (NumR W' u)) := fun W' => by rw [hu]; exact rpower_h hk
  have h1 : decide (i < 0) = true := decide_eq_true (by omega)
  have h1' : i < 0 := by omega
  have h2 : -i = (k : Int) := by omega
  have h3 : wrap64 (k : Int) = (k : Int) := IntWalk.wrap64_in _ (by omega)
  rw [← hu]
  clear hu hk hi h0
  have HB := Bel.refl W
  go_enter Tryz.func27, Tryz.ntmps27
  go_wp2_with (first | (go_at_call 67; (with_reducible refine (CP.out _).mono ?_); rintro e w1 ⟨B, e1, rfl, nb, hbk⟩; have HR := At.up (at_new0 _ _ _) hbk; replace HB := (HB.al _).up hbk; have hr_0 := HR.c0; have hr_1 := HR.c1; have hr_2 := HR.c2; have hr_l := HR.lt; have hr_f0 := HR.f0; have hr_f1 := HR.f1; have hr_f2 := HR.f2) | fail)
  refine bodyPost_ret (v := .agg #[.bool false, .slice B (dl u) e1, .int .i64 0]) (by simp [results, Tryz.results27, go_sem, hr_0, hr_1, hr_2]) rfl ?_
  exact ret_d HB (Nat.le_refl _) HR nb
set_option maxHeartbeats 16000000 in
theorem multiple_h (h : QA W b A n c A' n' c' r K) (hs : Nm W A2 n2 c2 m2) (bs : m2 < W32 ^ K) (hsc : s ≤ 60) (hm : 1 ≤ m ∧ m ≤ 7) (hK0 : 0 < K) (hK : K ≤ 6000) : Calls Tryz.prog 26 #[.agg #[.bool b, .slice A n c, .slice A' n' c'], .agg #[.bool b', .slice A2 n2 c2, .int .i64 (s : Int)], .int .i64 m] W (DvR W (decide (rdR m (r * mkRat (10 ^ s : Nat) m2) < 0)) ((rdR m (r * mkRat (10 ^ s : Nat) m2)).natAbs * m2) (s : Int)) := by
  obtain ⟨z, d, hz, hd, hr⟩ := h
  obtain ⟨p, hp⟩ : ∃ p, p = 10 ^ s := ⟨_, rfl⟩
  obtain ⟨x, hx⟩ : ∃ x : Int, z * (p : Int) = x := ⟨_, rfl⟩
  obtain ⟨y, hy⟩ : ∃ y : Nat, d * m2 = y := ⟨_, rfl⟩
  obtain ⟨t, ht⟩ : ∃ t, rdZ m x y = t := ⟨_, rfl⟩
  have HT : rdR m (r * mkRat (10 ^ s : Nat) m2) = t := by
    rw [← ht, ← hx, ← hy, rdZ_mk, ← hr.out.1, mul_mk, hp]
  rw [HT]
  obtain ⟨v, hv⟩ : ∃ v : Nat, t.natAbs * m2 = v := ⟨_, rfl⟩
  rw [hv]
  have bp : p < W32 ^ 61 := by rw [hp]; exact Nat.lt_of_lt_of_le (tenk_lt s) (Nat.pow_le_pow_right (by decide) (by omega))
  have bx : x.natAbs < W32 ^ (K + 61) := by rw [← hx]; exact bd_zmul hr.out.2.1 bp
  have by_ : y < W32 ^ (K + K) := by rw [← hy]; exact bd_mul hr.out.2.2 bs
  have bt : t.natAbs ≤ x.natAbs + 1 := by
    rw [← ht]
    have h1 := nabs_div_le x y
    unfold rdZ
    split
    · simp
    · split
      · omega
      · split <;> omega
  have bt2 : t.natAbs < W32 ^ (K + 62) := by
    have h1 : W32 ^ (K + 61) + 1 ≤ W32 ^ (K + 62) := Nat.pow_lt_pow_right (by decide) (by omega)
    omega
  have bv : v < W32 ^ (K + 62 + K) := by rw [← hv]; exact bd_mul bt2 bs
  have dv : dl v ≤ 100000 := Nat.le_trans (dl_le bv) (by omega)
  obtain ⟨sx, hsx⟩ : ∃ u, u = decide (x < 0) := ⟨_, rfl⟩
  obtain ⟨st, hst⟩ : ∃ u, u = decide (t < 0) := ⟨_, rfl⟩
  have CP : Hid (∀ W', Calls Tryz.prog 67 #[.int .i64 (s : Int)] W' (NumR W' p)) := fun W' => by rw [hp]; exact rpower_h (by omega)
  have CM : Hid (∀ W' B e, Bel W W' → Nm W' B (dl p) e p → Calls Tryz.prog 66 #[.agg #[.bool b, .slice A n c], .agg #[.bool false, .slice B (dl p) e]] W' (ZRu W' sx x)) := fun W' B e hb hn => by
    rw [hsx]
    exact zmul_h (hz.up hb.hid) (za_of (b := false) hn) (by rw [zi_false]; exact hx) (Nat.le_trans (dl_le bx) (by omega))
  have CN : Hid (∀ W', Bel W W' → Calls Tryz.prog 68 #[.agg #[.slice A' n' c'], .agg #[.slice A2 n2 c2]] W' (NumR W' y)) := fun W' hb => mul_h (hd.up hb.hid) (hs.up hb.hid) hy (Nat.le_trans (dl_le by_) (by omega))
  have CW : Hid (∀ W' B e B' e', ZA W' sx B (dl x.natAbs) e x → Nm W' B' (dl y) e' y → Calls Tryz.prog 25 #[.agg #[.bool sx, .slice B (dl x.natAbs) e], .agg #[.slice B' (dl y) e'], .int .i64 m] W' (ZRu W' st t)) := fun W' B e B' e' h1 h2 => by
    rw [hst, ← ht]
    have hb1 : x.natAbs < W32 ^ (K + K + 61) := Nat.lt_of_lt_of_le bx (Nat.pow_le_pow_right (by decide) (by omega))
    have hb2 : y < W32 ^ (K + K + 61) := Nat.lt_of_lt_of_le by_ (Nat.pow_le_pow_right (by decide) (by omega))
    exact whole_r h1 h2 hm hb1 hb2 (by omega)
  have CV : Hid (∀ W' B e, Bel W W' → Nm W' B (dl t.natAbs) e t.natAbs → Calls Tryz.prog 68 #[.agg #[.slice B (dl t.natAbs) e], .agg #[.slice A2 n2 c2]] W' (NumR W' v)) := fun W' B e hb h1 => mul_h h1 (hs.up hb.hid) hv dv
  rw [← hst]
  clear hz hd hr hs bs hsc hm hK hK0 hp hx hy ht HT hv bp bx by_ bt bt2 bv dv hsx hst
  have HB := Bel.refl W
  go_enter Tryz.func26, Tryz.ntmps26
  go_wp2_with fail
  obtain ⟨W1, hW1⟩ : ∃ X, X = ((W.alloc (.cells #[.bool b, .slice A n c, .slice A' n' c'] 28)).alloc (.cells #[.bool b', .slice A2 n2 c2, .int .i64 (s : Int)] 30)).alloc (.cells #[.bool false, .slice none 0 0, .int .i64 0] 30) := ⟨_, rfl⟩
  rw [← hW1]
  have H0 : At W1 W.heap.size [.bool b, .slice A n c, .slice A' n' c'] := by rw [hW1]; exact ((at_new0 _ _ _).al _).al _
  have H1 : At W1 (W.heap.size + 1) [.bool b', .slice A2 n2 c2, .int .i64 (s : Int)] := by rw [hW1]; exact (at_new1 _ _ _ _).al _
  have HR : At W1 (W.heap.size + 1 + 1) [.bool false, .slice none 0 0, .int .i64 0] := by rw [hW1]; exact at_new2 _ _ _ _ _
  replace HB : Bel W W1 := by rw [hW1]; exact ((HB.al _).al _).al _
  clear hW1
  have l0 := H0.lt
  have l1 := H1.lt
  have l2 := HR.lt
  go_cut [7] from 9 to 15 (fun o w => ∃ p B e, o = .pointer (some ⟨p, 0, none⟩) ∧ W.heap.size + 1 + 1 < p ∧ At w p [.bool sx, .slice B (dl x.natAbs) e] ∧ ZA w sx B (dl x.natAbs) e x ∧ Bel W1 w)
  case first =>
    have HW := Bel.refl W1
    go_region_held3 (fun w' => w'.cell? ⟨W.heap.size, 0, none⟩ = some (.bool b) ∧ w'.cell? ⟨W.heap.size, 1, none⟩ = some (.slice A n c) ∧ w'.cell? ⟨W.heap.size, 2, none⟩ = some (.slice A' n' c') ∧ w'.cell? ⟨W.heap.size + 1, 0, none⟩ = some (.bool b') ∧ w'.cell? ⟨W.heap.size + 1, 1, none⟩ = some (.slice A2 n2 c2) ∧ w'.cell? ⟨W.heap.size + 1, 2, none⟩ = some (.int .i64 (s : Int)))
      (refine ⟨(?_ : At _ W.heap.size [.bool b, .slice A n c, .slice A' n' c']).c0, (?_ : At _ W.heap.size [.bool b, .slice A n c, .slice A' n' c']).c1, (?_ : At _ W.heap.size [.bool b, .slice A n c, .slice A' n' c']).c2, (?_ : At _ (W.heap.size + 1) [.bool b', .slice A2 n2 c2, .int .i64 (s : Int)]).c0, (?_ : At _ (W.heap.size + 1) [.bool b', .slice A2 n2 c2, .int .i64 (s : Int)]).c1, (?_ : At _ (W.heap.size + 1) [.bool b', .slice A2 n2 c2, .int .i64 (s : Int)]).c2⟩ <;> (repeat (first | with_reducible exact H0 | with_reducible exact H1 | (with_reducible refine At.dr ?_) | (with_reducible refine At.al ?_ _) | (with_reducible refine At.far ?_ (by omega) _))))
      (first | (go_at_call 67; (with_reducible refine (CP.out _).mono ?_); rintro e w2 ⟨Bp, ep, rfl, np, hbk⟩; (with_reducible (replace HB := HB.dr.up hbk; replace HW := HW.dr.up hbk; replace H0 := H0.dr.up hbk; replace H1 := H1.dr.up hbk)); have lz0 := H0.lt; have lz1 := H1.lt; (try have lz2 := HP0.lt); have zs1 := Below.size HW) | (go_at_call 67; (with_reducible refine (CP.out _).mono ?_); rintro e w2 ⟨Bp, ep, rfl, np, hbk⟩; (with_reducible (have HP0 := At.up (at_new0 _ [.bool false, .slice none 0 0] _).dr hbk; replace HB := (HB.al _).dr.up hbk; replace HW := (HW.al _).dr.up hbk; replace H0 := (H0.al _).dr.up hbk; replace H1 := (H1.al _).dr.up hbk)); have lz0 := H0.lt; have lz1 := H1.lt; (try have lz2 := HP0.lt); have zs1 := Below.size HW) | (go_at_call 66; (with_reducible refine (CM.out _ _ _ HB np).mono ?_); rintro e w3 ⟨Bx, ex, rfl, zx, hbk⟩; (with_reducible (replace HB := HB.up hbk; replace HW := HW.up hbk; replace H0 := H0.up hbk; replace H1 := H1.up hbk)); (try (with_reducible replace HP0 := HP0.up hbk)); (try have hp0_0 := HP0.c0); (try have hp0_1 := HP0.c1); (try have fhp0_0 := HP0.f0); (try have fhp0_1 := HP0.f1); (try have lhp0 := HP0.lt); (try have hq0_0 := HQ0.c0); (try have hq0_1 := HQ0.c1); (try have fhq0_0 := HQ0.f0); (try have fhq0_1 := HQ0.f1); (try have lhq0 := HQ0.lt); have lz3 := H0.lt; have lz4 := H1.lt; have zs2 := Below.size HW) | (go_at_call 66; (with_reducible refine (CM.out _ _ _ (HB.al _) (np.al _)).mono ?_); rintro e w3 ⟨Bx, ex, rfl, zx, hbk⟩; (with_reducible (have HQ0 := At.up (at_new0 _ [.bool false, .slice none 0 0] _) hbk; replace HB := (HB.al _).up hbk; replace HW := (HW.al _).up hbk; replace H0 := (H0.al _).up hbk; replace H1 := (H1.al _).up hbk)); (try (with_reducible replace HP0 := (HP0.al _).up hbk)); (try have hp0_0 := HP0.c0); (try have hp0_1 := HP0.c1); (try have fhp0_0 := HP0.f0); (try have fhp0_1 := HP0.f1); (try have lhp0 := HP0.lt); (try have hq0_0 := HQ0.c0); (try have hq0_1 := HQ0.c1); (try have fhq0_0 := HQ0.f0); (try have fhq0_1 := HQ0.f1); (try have lhq0 := HQ0.lt); have lz3 := H0.lt; have lz4 := H1.lt; have zs2 := Below.size HW) | fail)
    all_goals
      go_wp2_with fail
      go_meet
      case rel =>
        have zn := zx.1
        refine ⟨_, _, _, rfl, (by first | omega | (show _ < W1.heap.size; omega) | (show _ < wc.heap.size; omega)), ?_, zx.mv ?_, ?_⟩ <;> (repeat (first | with_reducible exact zn | with_reducible exact HW | with_reducible exact HP0 | with_reducible exact HQ0 | with_reducible exact at_new0 _ _ _ | (with_reducible refine Bel.dr ?_) | (with_reducible refine Bel.al ?_ _) | (with_reducible refine Bel.put2 ?_ (by omega) _ _) | (with_reducible refine Nm.dr ?_) | (with_reducible refine Nm.al ?_ _) | (with_reducible refine Nm.putz ?_ ?_ _ _ _ _) | (with_reducible refine At.dr ?_) | (with_reducible refine At.al ?_ _) | (with_reducible refine At.put2 (v0 := .bool false) (v1 := .slice none 0 0) ?_ _ _) | (with_reducible refine At.far2 ?_ (by omega) _ _)))
  case rest =>
    obtain ⟨po, Bx, ex, rfl, hpo, HO, zx, hW⟩ := hcut
    replace HB := HB.up hW.hid
    replace H0 := H0.up hW.hid
    replace H1 := H1.up hW.hid
    replace HR := HR.up hW.hid
    clear hW l0 l1 l2
    have l0 := H0.lt
    have l1 := H1.lt
    have l2 := HR.lt
    have l3 := HO.lt
    go_wp2_with fail
    go_cut [8] from 16 to 23 (fun o w => ∃ p B e, o = .pointer (some ⟨p, 0, none⟩) ∧ W.heap.size + 1 + 1 < p ∧ At w p [.bool st, .slice B (dl t.natAbs) e] ∧ ZA w st B (dl t.natAbs) e t ∧ Bel wc w)
    case first =>
      have HW := Bel.refl wc
      go_region_held3 (fun w' => w'.cell? ⟨W.heap.size, 0, none⟩ = some (.bool b) ∧ w'.cell? ⟨W.heap.size, 1, none⟩ = some (.slice A n c) ∧ w'.cell? ⟨W.heap.size, 2, none⟩ = some (.slice A' n' c') ∧ w'.cell? ⟨W.heap.size + 1, 0, none⟩ = some (.bool b') ∧ w'.cell? ⟨W.heap.size + 1, 1, none⟩ = some (.slice A2 n2 c2) ∧ w'.cell? ⟨W.heap.size + 1, 2, none⟩ = some (.int .i64 (s : Int)) ∧ w'.cell? ⟨po, 0, none⟩ = some (.bool sx) ∧ w'.cell? ⟨po, 1, none⟩ = some (.slice Bx (dl x.natAbs) ex))
        (refine ⟨(?_ : At _ W.heap.size [.bool b, .slice A n c, .slice A' n' c']).c0, (?_ : At _ W.heap.size [.bool b, .slice A n c, .slice A' n' c']).c1, (?_ : At _ W.heap.size [.bool b, .slice A n c, .slice A' n' c']).c2, (?_ : At _ (W.heap.size + 1) [.bool b', .slice A2 n2 c2, .int .i64 (s : Int)]).c0, (?_ : At _ (W.heap.size + 1) [.bool b', .slice A2 n2 c2, .int .i64 (s : Int)]).c1, (?_ : At _ (W.heap.size + 1) [.bool b', .slice A2 n2 c2, .int .i64 (s : Int)]).c2, (?_ : At _ po [.bool sx, .slice Bx (dl x.natAbs) ex]).c0, (?_ : At _ po [.bool sx, .slice Bx (dl x.natAbs) ex]).c1⟩ <;> (repeat (first | with_reducible exact H0 | with_reducible exact H1 | with_reducible exact HO | (with_reducible refine At.dr ?_) | (with_reducible refine At.al ?_ _) | (with_reducible refine At.far ?_ (by omega) _))))
        (first | (go_at_call 68; (with_reducible refine (CN.out _ HB.dr).mono ?_); rintro e w4 ⟨By, ey, rfl, ny, hbk⟩; (with_reducible (replace HB := HB.dr.up hbk; replace HW := HW.dr.up hbk; replace H0 := H0.dr.up hbk; replace H1 := H1.dr.up hbk; replace HO := HO.dr.up hbk; replace zx := zx.dr.up hbk)); have lz0 := H0.lt; have lz1 := H1.lt; have lz5 := HO.lt; (try have lz2 := HP0.lt); have zs1 := Below.size HW) | (go_at_call 68; (with_reducible refine (CN.out _ (HB.al _).dr).mono ?_); rintro e w4 ⟨By, ey, rfl, ny, hbk⟩; (with_reducible (have HP0 := At.up (at_new0 _ [.bool false, .slice none 0 0] _).dr hbk; replace HB := (HB.al _).dr.up hbk; replace HW := (HW.al _).dr.up hbk; replace H0 := (H0.al _).dr.up hbk; replace H1 := (H1.al _).dr.up hbk; replace HO := (HO.al _).dr.up hbk; replace zx := (zx.al _).dr.up hbk)); have lz0 := H0.lt; have lz1 := H1.lt; have lz5 := HO.lt; (try have lz2 := HP0.lt); have zs1 := Below.size HW) | (go_at_call 25; (with_reducible refine (CW.out _ _ _ _ _ zx ny).mono ?_); rintro e w5 ⟨Bt, et, rfl, zt, hbk⟩; (with_reducible (replace HB := HB.up hbk; replace HW := HW.up hbk; replace H0 := H0.up hbk; replace H1 := H1.up hbk; replace HO := HO.up hbk)); (try (with_reducible replace HP0 := HP0.up hbk)); (try have hp0_0 := HP0.c0); (try have hp0_1 := HP0.c1); (try have fhp0_0 := HP0.f0); (try have fhp0_1 := HP0.f1); (try have lhp0 := HP0.lt); (try have hq0_0 := HQ0.c0); (try have hq0_1 := HQ0.c1); (try have fhq0_0 := HQ0.f0); (try have fhq0_1 := HQ0.f1); (try have lhq0 := HQ0.lt); have lz3 := H0.lt; have lz4 := H1.lt; have lz6 := HO.lt; have zs2 := Below.size HW) | (go_at_call 25; (with_reducible refine (CW.out _ _ _ _ _ (zx.al _) (ny.al _)).mono ?_); rintro e w5 ⟨Bt, et, rfl, zt, hbk⟩; (with_reducible (have HQ0 := At.up (at_new0 _ [.bool false, .slice none 0 0] _) hbk; replace HB := (HB.al _).up hbk; replace HW := (HW.al _).up hbk; replace H0 := (H0.al _).up hbk; replace H1 := (H1.al _).up hbk; replace HO := (HO.al _).up hbk)); (try (with_reducible replace HP0 := (HP0.al _).up hbk)); (try have hp0_0 := HP0.c0); (try have hp0_1 := HP0.c1); (try have fhp0_0 := HP0.f0); (try have fhp0_1 := HP0.f1); (try have lhp0 := HP0.lt); (try have hq0_0 := HQ0.c0); (try have hq0_1 := HQ0.c1); (try have fhq0_0 := HQ0.f0); (try have fhq0_1 := HQ0.f1); (try have lhq0 := HQ0.lt); have lz3 := H0.lt; have lz4 := H1.lt; have lz6 := HO.lt; have zs2 := Below.size HW) | fail)
      all_goals
        go_wp2_with fail
        go_meet
        case rel =>
          have zn := zt.1
          refine ⟨_, _, _, rfl, (by first | omega | (show _ < W1.heap.size; omega) | (show _ < wc.heap.size; omega)), ?_, zt.mv ?_, ?_⟩ <;> (repeat (first | with_reducible exact zn | with_reducible exact HW | with_reducible exact HP0 | with_reducible exact HQ0 | with_reducible exact at_new0 _ _ _ | (with_reducible refine Bel.dr ?_) | (with_reducible refine Bel.al ?_ _) | (with_reducible refine Bel.put2 ?_ (by omega) _ _) | (with_reducible refine Nm.dr ?_) | (with_reducible refine Nm.al ?_ _) | (with_reducible refine Nm.putz ?_ ?_ _ _ _ _) | (with_reducible refine At.dr ?_) | (with_reducible refine At.al ?_ _) | (with_reducible refine At.put2 (v0 := .bool false) (v1 := .slice none 0 0) ?_ _ _) | (with_reducible refine At.far2 ?_ (by omega) _ _)))
    case rest =>
      obtain ⟨pt, Bt, et, rfl, hpt, HT, zt, hW⟩ := hcut
      replace HB := HB.up hW.hid
      replace H0 := H0.up hW.hid
      replace H1 := H1.up hW.hid
      replace HR := HR.up hW.hid
      clear hW l0 l1 l2 l3 HO zx
      have l0 := H0.lt
      have l1 := H1.lt
      have l2 := HR.lt
      have l3 := HT.lt
      have nt := zt.1
      go_wp2_with fail
      go_region_held3 (fun w' => w'.cell? ⟨W.heap.size + 1, 0, none⟩ = some (.bool b') ∧ w'.cell? ⟨W.heap.size + 1, 1, none⟩ = some (.slice A2 n2 c2) ∧ w'.cell? ⟨W.heap.size + 1, 2, none⟩ = some (.int .i64 (s : Int)) ∧ w'.cell? ⟨pt, 0, none⟩ = some (.bool st) ∧ w'.cell? ⟨pt, 1, none⟩ = some (.slice Bt (dl t.natAbs) et))
        (refine ⟨(?_ : At _ (W.heap.size + 1) [.bool b', .slice A2 n2 c2, .int .i64 (s : Int)]).c0, (?_ : At _ (W.heap.size + 1) [.bool b', .slice A2 n2 c2, .int .i64 (s : Int)]).c1, (?_ : At _ (W.heap.size + 1) [.bool b', .slice A2 n2 c2, .int .i64 (s : Int)]).c2, (?_ : At _ pt [.bool st, .slice Bt (dl t.natAbs) et]).c0, (?_ : At _ pt [.bool st, .slice Bt (dl t.natAbs) et]).c1⟩ <;> (repeat (first | with_reducible exact H1 | with_reducible exact HT | (with_reducible refine At.dr ?_) | (with_reducible refine At.al ?_ _) | (with_reducible refine At.far ?_ (by omega) _))))
        (first | (go_at_call 68; (with_reducible refine (CV.out _ _ _ HB.dr nt.dr).mono ?_); rintro e w6 ⟨Bv, ev, rfl, nv, hbk⟩; (with_reducible (replace HB := HB.dr.up hbk; replace H1 := H1.dr.up hbk; replace HR := HR.dr.up hbk; replace HT := HT.dr.up hbk)); have hr_0 := HR.c0; have hr_1 := HR.c1; have hr_2 := HR.c2; have hr_l := HR.lt; have hr_f0 := HR.f0; have hr_f1 := HR.f1; have hr_f2 := HR.f2) | fail)
      go_wp2_with fail
      refine bodyPost_ret (v := .agg #[.bool st, .slice Bv (dl v) ev, .int .i64 (s : Int)]) (by simp [results, Tryz.results26, go_sem, hr_0, hr_1, hr_2]) rfl ?_
      exact ret_d HB (by omega) HR nv
end
end Go.Proofs.YtmiklffjffdkgaaGreatDoor
end

section
/- Package rat: power, Pow of a power that is not negative, of a base that is not. Package round: To. Conditions: terms of at most 6000 words, and see there. -/
open Go.RowKit
set_option maxRecDepth 100000
namespace Go.Proofs.YtmiklffjffdkgaaGreatDoor
theorem at_newS {W : World} (q : Addr) (u : Value) (vs : List Value) (t : TypeId) : At ((W.setCell q u).alloc (.cells vs.toArray t)) W.heap.size vs := at_size (at_new0 _ vs t) (by simp [World.setCell])
theorem now1d : NoW [.slice none 0 0] := now1
/-- What To leaves: a numeral and no error. -/
def ToR (W : World) (b : Bool) (v : Nat) (s : Int) (e : Ending) (w' : World) : Prop := ∃ A c, e = .returned (.tuple #[.agg #[.bool b, .slice A (dl v) c, .int .i64 s], .int .i64 0]) ∧ Nm w' A (dl v) c v ∧ Hid (Below W.heap.size W w')
section
variable {W : World} {b b' : Bool} {A A' A2 : Option Addr} {n n' n2 c c' c2 m2 s K q : Nat} {m : Int} {r : Rat}
theorem qpower_h {k : Nat} (h : Nm W A n c q) (hk : k ≤ 1000000) (hb : ∀ i, i ≤ k → dl (q ^ i) ≤ 100000) : Calls Tryz.prog 101 #[.agg #[.slice A n c], .int .i64 (k : Int)] W (NumR W (q ^ k)) := by
  obtain ⟨u, hu⟩ : ∃ u, q ^ k = u := ⟨_, rfl⟩
  have CP : Hid (∀ W', Bel W W' → Calls Tryz.prog 98 #[.agg #[.slice A n c], .int .i64 (k : Int)] W' (NumR W' u)) := fun W' hw => pow_h (h.up hw.hid) hk hb hu
  have h1 : decide ((k : Int) < 0) = false := decide_eq_false (by omega)
  rw [hu]
  clear hu h hb hk
  have HB := Bel.refl W
  go_enter Tryz.func101, Tryz.ntmps101
  go_wp2_with (first | (go_at_call 98; (with_reducible refine (CP.out _ ((HB.al _).al _)).mono ?_); rintro e w2 ⟨B2, e2, rfl, nb2, hbk⟩; have HR := At.up (at_new1 _ _ _ _) hbk; replace HB := ((HB.al _).al _).up hbk; have hr_0 := HR.c0; have hr_l := HR.lt; have hr_f0 := HR.f0) | fail)
  refine bodyPost_ret (v := .agg #[.slice B2 (dl u) e2]) (by simp [results, Tryz.results101, go_sem, hr_0]) rfl ?_
  exact ret_n HB (by omega) HR now1 nb2
theorem pow_bd {x k : Nat} (hx : x < W32 ^ K) (hk : K * k ≤ 90000) {i : Nat} (hi : i ≤ k) : dl (x ^ i) ≤ 100000 := by
  have h1 : x ^ i ≤ (W32 ^ K) ^ i := Nat.pow_le_pow_left (Nat.le_of_lt hx) i
  rw [← Nat.pow_mul] at h1
  have h2 : K * i ≤ K * k := Nat.mul_le_mul_left K hi
  have h3 : W32 ^ (K * i) < W32 ^ (K * i + 1) := Nat.pow_lt_pow_right (by decide) (by omega)
  exact Nat.le_trans (dl_le (k := K * i + 1) (by omega)) (by omega)
set_option maxHeartbeats 16000000 in
theorem rpow_p {k : Nat} (h : QA W b A n c A' n' c' r K) (h0 : 0 ≤ r) (hb : Bd r K) (hK0 : 0 < K) (hK2 : K ≤ 20000) (hk : K * k ≤ 90000) : Calls Tryz.prog 70 #[.agg #[.bool b, .slice A n c, .slice A' n' c'], .int .i64 (k : Int)] W (OfYw W false (r ^ k)) := by
  have hn0 : 0 ≤ r.num := Rat.num_nonneg.2 h0
  have hkk : k ≤ 1000000 := by
    have : 1 * k ≤ K * k := Nat.mul_le_mul_right k hK0
    omega
  have CT : Hid (∀ W', Bel W W' → Calls Tryz.prog 69 #[.agg #[.bool b, .slice A n c, .slice A' n' c']] W' (TermsR W' r K)) := fun W' hw => terms_h (h.up hw.hid) hK0
  have CL : Hid (∀ W' s B k e B' k' e' z d, ZA W' s B k e z → Nm W' B' k' e' d → Hid (0 < d ∧ mkRat z d = r ∧ z.natAbs < W32 ^ K ∧ d < W32 ^ K) → Calls Tryz.prog 88 #[.agg #[.bool s, .slice B k e], .agg #[.slice B' k' e']] W' (QRw W' false r)) := fun W' s B k e B' k' e' z d hz hd hp => by
    have h1 := lowest_t hz hd hp.out (by omega) (by omega)
    unfold QR at h1
    rw [decide_eq_false (show ¬ r.num < 0 by omega)] at h1
    exact h1
  obtain ⟨x, hx⟩ : ∃ x : Nat, x = r.num.natAbs := ⟨_, rfl⟩
  obtain ⟨y, hy⟩ : ∃ y : Nat, y = r.den := ⟨_, rfl⟩
  obtain ⟨u, hu⟩ : ∃ u : Nat, x ^ k = u := ⟨_, rfl⟩
  obtain ⟨v, hv⟩ : ∃ v : Nat, y ^ k = v := ⟨_, rfl⟩
  have bx : x < W32 ^ K := by rw [hx]; exact hb.1
  have by_ : y < W32 ^ K := by rw [hy]; exact hb.2
  have CX : Hid (∀ W' B n e, Nm W' B n e x → Calls Tryz.prog 101 #[.agg #[.slice B n e], .int .i64 (k : Int)] W' (NumR W' u)) := fun W' B n e h1 => by rw [← hu]; exact qpower_h h1 hkk (fun i hi => pow_bd bx hk hi)
  have CY : Hid (∀ W' B n e, Nm W' B n e y → Calls Tryz.prog 101 #[.agg #[.slice B n e], .int .i64 (k : Int)] W' (NumR W' v)) := fun W' B n e h1 => by rw [← hv]; exact qpower_h h1 hkk (fun i hi => pow_bd by_ hk hi)
  have HX : Hid ((r ^ k).num.natAbs = u ∧ (r ^ k).den = v ∧ ¬ (r ^ k).num < 0) := by
    unfold Hid
    rw [Rat.num_pow, Rat.den_pow, Int.natAbs_pow, ← hx, ← hy, hu, hv]
    refine ⟨rfl, rfl, ?_⟩
    have h9 : 0 ≤ r.num ^ k := Int.pow_nonneg hn0
    omega
  have hsg : decide ((k : Int) < 0) = false := decide_eq_false (by omega)
  have HXR := hide hx
  have HYR := hide hy
  clear h h0 hb hK0 hK2 hk hn0 hkk hu hv bx by_ hx hy
  have HB := Bel.refl W
  go_enter Tryz.func70, Tryz.ntmps70
  go_wp2_with (first | (go_at_call 69; (with_reducible refine (CT.out _ ((HB.al _).al _)).mono ?_); rintro e w1 ⟨s, B, k1, e1, B', k2, e2, zv, d, rfl, zp, np, hp, hbk⟩; (with_reducible (have HR : At w1 (W.heap.size + 1) [.bool false, .slice none 0 0, .slice none 0 0] := At.up (at_new1 _ _ _ _) hbk; replace HB := ((HB.al _).al _).up hbk))) | (go_at_call 88; (with_reducible refine (CL.out _ _ _ _ _ _ _ _ _ _ zp np hp).mono ?_); rintro e w2 ⟨Bx, ex, By, ey, rfl, zx, ny, hbk⟩; (with_reducible (replace HB := HB.up hbk; replace HR := HR.up hbk))) | fail)
  have nx := zx.1
  rw [← HXR.out] at nx ⊢
  rw [← HYR.out] at ny ⊢
  obtain ⟨W1, hW1⟩ : ∃ X, X = w2.alloc (.cells #[.bool false, .slice Bx (dl x) ex, .slice By (dl y) ey] 28) := ⟨_, rfl⟩
  rw [← hW1]
  obtain ⟨pb, hpb⟩ : ∃ p, p = w2.heap.size := ⟨_, rfl⟩
  rw [← hpb]
  have H0 : At W1 pb [.bool false, .slice Bx (dl x) ex, .slice By (dl y) ey] := by rw [hW1, hpb]; exact at_new0 _ _ _
  have hpb2 : W.heap.size + 1 < pb := by rw [hpb]; exact HR.lt
  replace HR : At W1 (W.heap.size + 1) [.bool false, .slice none 0 0, .slice none 0 0] := by rw [hW1]; exact HR.al _
  replace nx : Nm W1 Bx (dl x) ex x := by rw [hW1]; exact nx.al _
  replace ny : Nm W1 By (dl y) ey y := by rw [hW1]; exact ny.al _
  replace HB : Bel W W1 := by rw [hW1]; exact HB.al _
  clear hW1 hpb zx zp np hp
  have l0 := H0.lt
  have l2 := HR.lt
  go_cut [9, 10] from 27 to 35 (fun o o' w => ∃ p q B e B' e', o = .pointer (some ⟨p, 0, none⟩) ∧ o' = .pointer (some ⟨q, 0, none⟩) ∧ W.heap.size + 1 < p ∧ W.heap.size + 1 < q ∧ At w p [.slice B (dl u) e] ∧ At w q [.slice B' (dl v) e'] ∧ Nm w B (dl u) e u ∧ Nm w B' (dl v) e' v ∧ Bel W1 w)
  case first =>
    have HW := Bel.refl W1
    go_region_held3 (fun w' => w'.cell? ⟨pb, 0, none⟩ = some (.bool false) ∧ w'.cell? ⟨pb, 1, none⟩ = some (.slice Bx (dl x) ex) ∧ w'.cell? ⟨pb, 2, none⟩ = some (.slice By (dl y) ey))
      (refine ⟨(?_ : At _ pb [.bool false, .slice Bx (dl x) ex, .slice By (dl y) ey]).c0, (?_ : At _ pb [.bool false, .slice Bx (dl x) ex, .slice By (dl y) ey]).c1, (?_ : At _ pb [.bool false, .slice Bx (dl x) ex, .slice By (dl y) ey]).c2⟩ <;> (repeat (first | with_reducible exact H0 | (with_reducible refine At.dr ?_) | (with_reducible refine At.al ?_ _) | (with_reducible refine At.far ?_ (by omega) _))))
      (first | (go_at_call 101; (with_reducible refine (CX.out _ _ _ _ nx.dr).mono ?_); rintro e w4 ⟨Bu, eu, rfl, nu, hbk⟩; (with_reducible (replace HB := HB.dr.up hbk; replace HW := HW.dr.up hbk; replace H0 := H0.dr.up hbk; replace nx := nx.dr.up hbk; replace ny := ny.dr.up hbk)); have lz0 := H0.lt; (try have lz2 := HP0.lt); (try have lz3 := HP1.lt); have zs1 := Below.size HW) | (go_at_call 101; (with_reducible refine (CX.out _ _ _ _ (nx.al _).dr).mono ?_); rintro e w4 ⟨Bu, eu, rfl, nu, hbk⟩; (with_reducible (have HP0 := At.up (at_new0 _ [.slice none 0 0] _).dr hbk; replace HB := (HB.al _).dr.up hbk; replace HW := (HW.al _).dr.up hbk; replace H0 := (H0.al _).dr.up hbk; replace nx := (nx.al _).dr.up hbk; replace ny := (ny.al _).dr.up hbk)); have lz0 := H0.lt; (try have lz2 := HP0.lt); (try have lz3 := HP1.lt); have zs1 := Below.size HW) | (go_at_call 101; (with_reducible refine (CX.out _ _ _ _ ((nx.al _).al _).dr).mono ?_); rintro e w4 ⟨Bu, eu, rfl, nu, hbk⟩; (with_reducible (have HP0 := At.up ((at_new0 _ [.slice none 0 0] _).al _).dr hbk; have HP1 := At.up (at_new1 _ _ [.slice none 0 0] _).dr hbk; replace HB := ((HB.al _).al _).dr.up hbk; replace HW := ((HW.al _).al _).dr.up hbk; replace H0 := ((H0.al _).al _).dr.up hbk; replace nx := ((nx.al _).al _).dr.up hbk; replace ny := ((ny.al _).al _).dr.up hbk)); have lz0 := H0.lt; (try have lz2 := HP0.lt); (try have lz3 := HP1.lt); have zs1 := Below.size HW) | (go_at_call 101; (with_reducible refine (CY.out _ _ _ _ ny).mono ?_); rintro e w5 ⟨Bv, ev, rfl, nv, hbk⟩; (with_reducible (replace HB := HB.up hbk; replace HW := HW.up hbk; replace H0 := H0.up hbk; replace nu := nu.up hbk)); (try (with_reducible replace HP0 := HP0.up hbk)); (try (with_reducible replace HP1 := HP1.up hbk)); (try have hp0_0 := HP0.c0); (try have fhp0_0 := HP0.f0); (try have lhp0 := HP0.lt); (try have hp1_0 := HP1.c0); (try have fhp1_0 := HP1.f0); (try have lhp1 := HP1.lt); (try have hq0_0 := HQ0.c0); (try have fhq0_0 := HQ0.f0); (try have lhq0 := HQ0.lt); (try have hq1_0 := HQ1.c0); (try have fhq1_0 := HQ1.f0); (try have lhq1 := HQ1.lt); have lz4 := H0.lt; have zs2 := Below.size HW) | (go_at_call 101; (with_reducible refine (CY.out _ _ _ _ (ny.al _)).mono ?_); rintro e w5 ⟨Bv, ev, rfl, nv, hbk⟩; (with_reducible (have HQ0 := At.up (at_new0 _ [.slice none 0 0] _) hbk; replace HB := (HB.al _).up hbk; replace HW := (HW.al _).up hbk; replace H0 := (H0.al _).up hbk; replace nu := (nu.al _).up hbk)); (try (with_reducible replace HP0 := (HP0.al _).up hbk)); (try (with_reducible replace HP1 := (HP1.al _).up hbk)); (try have hp0_0 := HP0.c0); (try have fhp0_0 := HP0.f0); (try have lhp0 := HP0.lt); (try have hp1_0 := HP1.c0); (try have fhp1_0 := HP1.f0); (try have lhp1 := HP1.lt); (try have hq0_0 := HQ0.c0); (try have fhq0_0 := HQ0.f0); (try have lhq0 := HQ0.lt); (try have hq1_0 := HQ1.c0); (try have fhq1_0 := HQ1.f0); (try have lhq1 := HQ1.lt); have lz4 := H0.lt; have zs2 := Below.size HW) | (go_at_call 101; (with_reducible refine (CY.out _ _ _ _ ((ny.al _).al _)).mono ?_); rintro e w5 ⟨Bv, ev, rfl, nv, hbk⟩; (with_reducible (have HQ0 := At.up ((at_new0 _ [.slice none 0 0] _).al _) hbk; have HQ1 := At.up (at_new1 _ _ [.slice none 0 0] _) hbk; replace HB := ((HB.al _).al _).up hbk; replace HW := ((HW.al _).al _).up hbk; replace H0 := ((H0.al _).al _).up hbk; replace nu := ((nu.al _).al _).up hbk)); (try (with_reducible replace HP0 := ((HP0.al _).al _).up hbk)); (try (with_reducible replace HP1 := ((HP1.al _).al _).up hbk)); (try have hp0_0 := HP0.c0); (try have fhp0_0 := HP0.f0); (try have lhp0 := HP0.lt); (try have hp1_0 := HP1.c0); (try have fhp1_0 := HP1.f0); (try have lhp1 := HP1.lt); (try have hq0_0 := HQ0.c0); (try have fhq0_0 := HQ0.f0); (try have lhq0 := HQ0.lt); (try have hq1_0 := HQ1.c0); (try have fhq1_0 := HQ1.f0); (try have lhq1 := HQ1.lt); have lz4 := H0.lt; have zs2 := Below.size HW) | fail)
    all_goals
      go_wp2_with fail
      go_meet
      case rel =>
        refine ⟨_, _, Bu, eu, Bv, ev, rfl, rfl, (by first | omega | (show _ < W1.heap.size; omega) | (show _ < W1.heap.size + 1; omega) | (simp; omega)), (by first | omega | (show _ < W1.heap.size; omega) | (show _ < W1.heap.size + 1; omega) | (simp; omega)), ?_, ?_, ?_, ?_, ?_⟩ <;> (repeat (first | with_reducible exact nu | with_reducible exact nv | with_reducible exact HW | with_reducible exact HP0 | with_reducible exact HP1 | with_reducible exact HQ0 | with_reducible exact HQ1 | with_reducible exact at_new0 _ _ _ | with_reducible exact at_new1 _ _ _ _ | with_reducible exact at_newS _ _ _ _ | (with_reducible refine Bel.dr ?_) | (with_reducible refine Bel.al ?_ _) | (with_reducible refine Bel.put ?_ (by omega) _) | (with_reducible refine Nm.dr ?_) | (with_reducible refine Nm.al ?_ _) | (with_reducible refine Nm.putx ?_ ⟨.slice none 0 0, At.c0 (vs := []) ?_, not_u32⟩ _) | (with_reducible refine At.dr ?_) | (with_reducible refine At.al ?_ _) | (with_reducible refine At.put1 (v := .slice none 0 0) ?_ _) | (with_reducible refine At.far ?_ (by omega) _)))
  case rest =>
    obtain ⟨p, q, Bu, eu, Bv, ev, rfl, rfl, hp, hq, HP, HQ, nu, nv, hW⟩ := hcut
    replace HB := HB.up hW.hid
    replace H0 := H0.up hW.hid
    replace HR := HR.up hW.hid
    clear hW l0 l2 nx ny
    have hx0 := H0.c0
    have hx1 := H0.lt
    have hp_0 := HP.c0
    have hp_l := HP.lt
    have hq_0 := HQ.c0
    have hq_l := HQ.lt
    have hr_0 := HR.c0
    have hr_1 := HR.c1
    have hr_2 := HR.c2
    have hr_l := HR.lt
    have hr_f0 := HR.f0
    have hr_f1 := HR.f1
    have hr_f2 := HR.f2
    go_wp2_with fail
    refine bodyPost_ret (v := .tuple #[.agg #[.bool false, .slice Bu (dl u) eu, .slice Bv (dl v) ev], .bool true]) (by simp [results, Tryz.results70, go_sem, hr_0, hr_1, hr_2]) rfl ?_
    obtain ⟨g1, g2, g3⟩ := HX.out
    refine ⟨Bu, eu, Bv, ev, by rw [g1, g2], ⟨by rw [g1]; exact nu.putq HR _ _ _ _ _ _ _, ?_⟩, by rw [g2]; exact nv.putq HR _ _ _ _ _ _ _, (HB.put3 (by omega) _ _ _).hid⟩
    unfold Hid
    rw [zi_false]
    omega
set_option maxHeartbeats 8000000 in
theorem to_ok (h : QA W b A n c A' n' c' r K) (hs : s ≤ 60) (hm : 1 ≤ m ∧ m ≤ 7) (hK0 : 0 < K) (hK : K ≤ 6000) {t : Int} (ht : rdR m (r * mkRat (10 ^ s : Nat) 1) = t) : Calls Tryz.prog 8 #[.agg #[.bool b, .slice A n c, .slice A' n' c'], .int .i64 (s : Int), .int .i64 m] W (ToR W (decide (t < 0)) t.natAbs (s : Int)) := by
  obtain ⟨v, hv⟩ : ∃ v : Nat, v = t.natAbs := ⟨_, rfl⟩
  obtain ⟨st, hst⟩ : ∃ u, u = decide (t < 0) := ⟨_, rfl⟩
  obtain ⟨one, hone⟩ : ∃ x : Nat, x = 1 := ⟨_, rfl⟩
  have CM : Hid (∀ W', Calls Tryz.prog 11 #[.int .i64 m] W' (RetB W' true)) := fun W' => by
    have h1 := mode_h (W := W') (m := m)
    rwa [decide_eq_true hm] at h1
  have CU : Hid (∀ W', Calls Tryz.prog 27 #[.int .i64 (s : Int)] W' (DvR W' false one (s : Int))) := fun W' => by rw [hone]; exact unit_p (by omega)
  have CX : Hid (∀ W' B e, Bel W W' → Nm W' B (dl one) e one → Calls Tryz.prog 26 #[.agg #[.bool b, .slice A n c, .slice A' n' c'], .agg #[.bool false, .slice B (dl one) e, .int .i64 (s : Int)], .int .i64 m] W' (DvR W' st v (s : Int))) := fun W' B e hw hn => by
    have h1 := multiple_h (b' := false) (h.up hw.hid) hn (by rw [hone]; exact Nat.one_lt_pow (by omega) (by decide)) hs hm hK0 hK
    rw [hone, Nat.mul_one, ht, ← hst, ← hv, ← hone] at h1
    exact h1
  have g1 : decide ((s : Int) < 0) = false := decide_eq_false (by omega)
  have g2 : decide ((60 : Int) < (s : Int)) = false := decide_eq_false (by omega)
  have g3 : ¬ (s : Int) < 0 := by omega
  have g4 : ¬ (60 : Int) < (s : Int) := by omega
  rw [← hst, ← hv]
  clear h hs hm hK0 hK ht hv hst hone
  have HB := Bel.refl W
  go_enter Tryz.func8, Tryz.ntmps8
  go_wp2_with (first | (go_at_call 11; (with_reducible refine (CM.out _).mono ?_); rintro e w1 ⟨rfl, hbk⟩; replace hbk := Bel.hid hbk; (with_reducible (have H0 : At w1 W.heap.size [.bool b, .slice A n c, .slice A' n' c'] := At.up ((at_new0 _ _ _).al _) hbk; have HR : At w1 (W.heap.size + 1) [.bool false, .slice none 0 0, .int .i64 0] := At.up (at_new1 _ _ _ _) hbk; replace HB := ((HB.al _).al _).up hbk))) | fail)
  go_region_held3 (fun w' => w'.cell? ⟨W.heap.size, 0, none⟩ = some (.bool b) ∧ w'.cell? ⟨W.heap.size, 1, none⟩ = some (.slice A n c) ∧ w'.cell? ⟨W.heap.size, 2, none⟩ = some (.slice A' n' c'))
    (refine ⟨(?_ : At _ W.heap.size [.bool b, .slice A n c, .slice A' n' c']).c0, (?_ : At _ W.heap.size [.bool b, .slice A n c, .slice A' n' c']).c1, (?_ : At _ W.heap.size [.bool b, .slice A n c, .slice A' n' c']).c2⟩ <;> (repeat (first | with_reducible exact H0 | (with_reducible refine At.dr ?_) | (with_reducible refine At.al ?_ _) | (with_reducible refine At.far ?_ (by omega) _))))
    (first | (go_at_call 27; (with_reducible refine (CU.out _).mono ?_); rintro e w2 ⟨Bo, eo, rfl, no, hbk⟩; (with_reducible (replace HB := HB.dr.up hbk; replace H0 := H0.dr.up hbk; replace HR := HR.dr.up hbk))) | (go_at_call 26; (with_reducible refine (CX.out _ _ _ HB no).mono ?_); rintro e w3 ⟨Bt, et, rfl, nt, hbk⟩; (with_reducible (replace HB := HB.up hbk; replace H0 := H0.up hbk; replace HR := HR.up hbk)); have hr_0 := HR.c0; have hr_1 := HR.c1; have hr_2 := HR.c2; have hr_l := HR.lt; have hr_f0 := HR.f0; have hr_f1 := HR.f1; have hr_f2 := HR.f2) | fail)
  go_wp2_with fail
  refine bodyPost_ret (v := .tuple #[.agg #[.bool st, .slice Bt (dl v) et, .int .i64 (s : Int)], .int .i64 0]) (by simp [results, Tryz.results8, go_sem, hr_0, hr_1, hr_2]) rfl ?_
  exact ⟨Bt, et, rfl, nt.putd HR _ _ _ _ _, (HB.uput3 (by omega) _ _ _).hid⟩
end
end Go.Proofs.YtmiklffjffdkgaaGreatDoor
end

section
/- Package round: exponent, limit of a numeral without digits behind the point, Sig (its calls' contracts given). Conditions: terms of at most 6000 words. -/
open Go.RowKit
set_option maxRecDepth 100000
namespace Go.Proofs.YtmiklffjffdkgaaGreatDoor
section
variable {W : World} {b b' sg : Bool} {A A' A2 : Option Addr} {n n' n2 c c' c2 m2 s K q d : Nat} {m z e sc : Int} {r pw : Rat}
theorem strlen {t : ByteArray} {l : List UInt8} {L : Nat} (h : t.data.toList = l) (hl : l.length = L) : t.size = L := by
  rw [← hl, ← h, Array.length_toList]; rfl
set_option maxHeartbeats 8000000 in
theorem expo_h {L1 L2 : Nat} {tn : Rat} (htn : tn = ((10 : Int) : Rat)) (hz : ZA W b A n c z) (hd : Nm W A' n' c' d) (hd0 : 0 < d) (l1 : (decL z.natAbs).length = L1) (l2 : (decL d).length = L2) (he : (L1 : Int) - (L2 : Int) = e) (b1 : L1 ≤ 100000) (b2 : L2 ≤ 100000)
    (hp : ∀ W' B f B' f', ZA W' false B (dl tn.num.natAbs) f tn.num → Nm W' B' (dl tn.den) f' tn.den → Calls Tryz.prog 70 #[.agg #[.bool false, .slice B (dl tn.num.natAbs) f, .slice B' (dl tn.den) f'], .int .i64 e] W' (OfYw W' false pw))
    (bz : z.natAbs < W32 ^ K) (bd : d < W32 ^ K) (bp : Bd pw K) (hK : 0 < K) (hK2 : K ≤ 20000) :
    Calls Tryz.prog 29 #[.agg #[.bool b, .slice A n c, .slice A' n' c']] W (IntPost W (if cmpR (mkRat (z.natAbs : Int) d) pw < 0 then e - 1 else e)) := by
  obtain ⟨u, hu⟩ : ∃ u, cmpR (mkRat (z.natAbs : Int) d) pw = u := ⟨_, rfl⟩
  have CT : Hid (∀ W', Bel W W' → Calls Tryz.prog 58 #[.agg #[.slice A n c]] W' (TxR W' (decL z.natAbs))) := fun W' hw => text_h (hz.up hw.hid).1
  have CT2 : Hid (∀ W', Bel W W' → Calls Tryz.prog 58 #[.agg #[.slice A' n' c']] W' (TxR W' (decL d))) := fun W' hw => text_h (hd.up hw.hid)
  have CI : Hid (∀ W', Calls Tryz.prog 71 #[.int .i64 10] W' (QRw W' false tn)) := fun W' => by
    have h1 := int_h (W := W') (k := 10) (by decide) (by decide)
    rw [← htn] at h1
    unfold QR at h1
    rw [show decide (tn.num < 0) = false by rw [htn]; decide] at h1
    exact h1
  have CP := hide hp
  have CC : Hid (∀ W' B f B' f', Bel W W' → ZA W' false B (dl pw.num.natAbs) f pw.num → Nm W' B' (dl pw.den) f' pw.den → Calls Tryz.prog 72 #[.agg #[.bool false, .slice A n c, .slice A' n' c'], .agg #[.bool false, .slice B (dl pw.num.natAbs) f, .slice B' (dl pw.den) f']] W' (IntPost W' u)) := fun W' B f B' f' hw h1 h2 => by
    rw [← hu]
    exact rcmp_h ⟨zi false z.natAbs, d, za_of (b := false) (hz.up hw.hid).1, hd.up hw.hid, rfl, by rw [zi_abs]; exact bz, bd⟩ ⟨pw.num, pw.den, h1, h2, Rat.mkRat_self pw, bp⟩ hK hK2
  have hw : IntKind.i64.wrap ((L1 : Int) - (L2 : Int)) = e := by rw [IntWalk.i64_in _ (by omega)]; exact he
  have hw2 : wrap64 ((L1 : Int) - (L2 : Int)) = e := by rw [IntWalk.wrap64_in _ (by omega)]; exact he
  have hw3 : IntKind.i64.wrap (e - 1) = e - 1 := IntWalk.i64_in _ (by omega)
  have hw4 : wrap64 (e - 1) = e - 1 := IntWalk.wrap64_in _ (by omega)
  have HL1 := hide l1
  have HL2 := hide l2
  rw [hu]
  clear hz hd hd0 l1 l2 he b1 b2 hp bz bd bp hK hK2 htn hu
  have HB := Bel.refl W
  obtain ⟨res, hres⟩ : ∃ x, x = (if u < 0 then e - 1 else e) := ⟨_, rfl⟩
  rw [← hres]
  have HRS := hide hres
  clear hres
  by_cases hneg : u < 0
  all_goals
    have HRS2 := HRS.out
    simp only [hneg, if_true, if_false, ↓reduceIte] at HRS2
    replace HRS2 := hide HRS2
    clear HRS
    first
      | (have hd1 : decide (u < 0) = true := decide_eq_true hneg)
      | (have hd1 : decide (u < 0) = false := decide_eq_false hneg)
    go_enter Tryz.func29, Tryz.ntmps29
    go_wp2_with fail
    obtain ⟨W1, hW1⟩ : ∃ X, X = W.alloc (.cells #[.bool b, .slice A n c, .slice A' n' c'] 28) := ⟨_, rfl⟩
    rw [← hW1]
    have H0 : At W1 W.heap.size [.bool b, .slice A n c, .slice A' n' c'] := by rw [hW1]; exact at_new0 _ _ _
    replace HB : Bel W W1 := by rw [hW1]; exact HB.al _
    clear hW1
    have l0 := H0.lt
    go_region_held3 (fun w' => w'.cell? ⟨W.heap.size, 0, none⟩ = some (.bool b) ∧ w'.cell? ⟨W.heap.size, 1, none⟩ = some (.slice A n c) ∧ w'.cell? ⟨W.heap.size, 2, none⟩ = some (.slice A' n' c'))
      (refine ⟨(?_ : At _ W.heap.size [.bool b, .slice A n c, .slice A' n' c']).c0, (?_ : At _ W.heap.size [.bool b, .slice A n c, .slice A' n' c']).c1, (?_ : At _ W.heap.size [.bool b, .slice A n c, .slice A' n' c']).c2⟩ <;> (repeat (first | with_reducible exact H0 | (with_reducible refine At.dr ?_) | (with_reducible refine At.al ?_ _) | (with_reducible refine At.far ?_ (by omega) _))))
      (first | (go_at_call 58; (with_reducible refine (CT.out _ HB.dr).mono ?_); rintro e w1 ⟨t1, rfl, ht1, hbk⟩; (with_reducible (replace HB := HB.dr.up hbk; replace H0 := H0.dr.up hbk)); have hs1 := strlen ht1.out HL1.out; have hs1' : (t1.size : Int) = (L1 : Int) := (by omega)) | (go_at_call 58; (with_reducible refine (CT2.out _ HB).mono ?_); rintro e w2 ⟨t2, rfl, ht2, hbk⟩; (with_reducible (replace HB := HB.up hbk; replace H0 := H0.up hbk)); have h0_0 := H0.c0; have h0_1 := H0.c1; have h0_2 := H0.c2; have h0_l := H0.lt; have hs2 := strlen ht2.out HL2.out; have hs2' : (t2.size : Int) = (L2 : Int) := (by omega)) | fail)
    go_wp2_with (first | (go_at_call 71; (with_reducible refine (CI.out _).mono ?_); rintro e w3 ⟨B3, f3, B4, f4, rfl, z3, n3, hbk⟩; (with_reducible (replace HB := HB.up hbk; replace H0 := H0.up hbk)); clear h0_0 h0_1 h0_2 h0_l; have h0_0 := H0.c0; have h0_1 := H0.c1; have h0_2 := H0.c2; have h0_l := H0.lt) | (go_at_call 70; (with_reducible refine (CP.out _ _ _ _ _ z3 n3).mono ?_); rintro e w4 ⟨B5, f5, B6, f6, rfl, z5, n5, hbk⟩; (with_reducible (replace HB := HB.up hbk; replace H0 := H0.up hbk)); clear h0_0 h0_1 h0_2 h0_l; have h0_0 := H0.c0; have h0_1 := H0.c1; have h0_2 := H0.c2; have h0_l := H0.lt) | (go_at_call 72; (with_reducible refine (CC.out _ _ _ _ _ (HB.al _) (z5.al _) (n5.al _)).mono ?_); rintro e w5 ⟨rfl, hbk⟩; (with_reducible (replace HB := (HB.al _).up hbk; replace H0 := (H0.al _).up hbk)); clear h0_0 h0_1 h0_2 h0_l) | fail)
    go_ret
    exact ⟨by rw [HRS2.out]; rfl, HB⟩
set_option maxHeartbeats 8000000 in
theorem limit_0 {dg : Int} (h : Nm W A n c q) : Calls Tryz.prog 30 #[.agg #[.bool b, .slice A n c, .int .i64 0], .int .i64 dg] W (fun e w' => e = .returned (.agg #[.bool b, .slice A n c, .int .i64 0]) ∧ Nm w' A n c q ∧ Hid (Below W.heap.size W w')) := by
  have HB := Bel.refl W
  go_enter Tryz.func30, Tryz.ntmps30
  go_wp2_with fail
  obtain ⟨W1, hW1⟩ : ∃ X, X = (W.alloc (.cells #[.bool b, .slice A n c, .int .i64 0] 30)).alloc (.cells #[.bool false, .slice none 0 0, .int .i64 0] 30) := ⟨_, rfl⟩
  rw [← hW1]
  have H0 : At W1 W.heap.size [.bool b, .slice A n c, .int .i64 0] := by rw [hW1]; exact (at_new0 _ _ _).al _
  have HR : At W1 (W.heap.size + 1) [.bool false, .slice none 0 0, .int .i64 0] := by rw [hW1]; exact at_new1 _ _ _ _
  replace HB : Bel W W1 := by rw [hW1]; exact (HB.al _).al _
  replace h : Nm W1 A n c q := by rw [hW1]; exact (h.al _).al _
  clear hW1
  have l0 := H0.lt
  have l1 := HR.lt
  refine wp_region_held_drew (S := fun w' => w'.cell? ⟨W.heap.size, 0, none⟩ = some (.bool b) ∧ w'.cell? ⟨W.heap.size, 1, none⟩ = some (.slice A n c) ∧ w'.cell? ⟨W.heap.size, 2, none⟩ = some (.int .i64 0)) (by kernel_rfl) ?_ (fun hHeld => ?_)
  · (refine ⟨(?_ : At _ W.heap.size [.bool b, .slice A n c, .int .i64 0]).c0, (?_ : At _ W.heap.size [.bool b, .slice A n c, .int .i64 0]).c1, (?_ : At _ W.heap.size [.bool b, .slice A n c, .int .i64 0]).c2⟩ <;> (repeat (first | with_reducible exact H0 | (with_reducible refine At.dr ?_) | (with_reducible refine At.al ?_ _) | (with_reducible refine At.far ?_ (by omega) _))))
  (refine wpAnyH_take (i := 0) (v := ?_) rfl (by decide +kernel) (by decide +kernel) (by decide +kernel) (fun _ _ _ h => h) (Or.inl ⟨by rfl, ?_⟩) (by assumption) ?_; rotate_left; (focus ((intro w hSw; (try dsimp only at hSw); go_simp); (try (with_reducible rfl)); done)); (try simp only [List.getElem_toArray, List.getElem_cons_zero, List.getElem_cons_succ, Act.put, List.setIfInBounds_toArray, List.set_cons_zero, List.set_cons_succ]))
  (refine wpAnyH_take (i := 1) (v := ?_) rfl (by decide +kernel) (by decide +kernel) (by decide +kernel) (fun _ _ _ h => h) (Or.inl ⟨by rfl, ?_⟩) (by assumption) ?_; rotate_left; (focus ((intro w hSw; (try dsimp only at hSw); go_simp); (try (with_reducible rfl)); done)); (try simp only [List.getElem_toArray, List.getElem_cons_zero, List.getElem_cons_succ, Act.put, List.setIfInBounds_toArray, List.set_cons_zero, List.set_cons_succ]))
  (refine wpAnyH_take (i := 2) (v := ?_) rfl (by decide +kernel) (by decide +kernel) (by decide +kernel) (fun _ _ _ h => h) (Or.inl ⟨by rfl, ?_⟩) (by assumption) ?_; rotate_left; (focus ((intro w hSw; (try dsimp only at hSw); go_simp); (try (with_reducible rfl)); done)); (try simp only [List.getElem_toArray, List.getElem_cons_zero, List.getElem_cons_succ, Act.put, List.setIfInBounds_toArray, List.set_cons_zero, List.set_cons_succ]))
  (refine wpAnyH_take (i := 3) (v := ?_) rfl (by decide +kernel) (by decide +kernel) (by decide +kernel) (fun _ _ _ h => h) (Or.inl ⟨by rfl, ?_⟩) (by assumption) ?_; rotate_left; (focus ((intro w hSw; (try dsimp only at hSw); go_simp); (try (with_reducible rfl)); done)); (try simp only [List.getElem_toArray, List.getElem_cons_zero, List.getElem_cons_succ, Act.put, List.setIfInBounds_toArray, List.set_cons_zero, List.set_cons_succ]))
  (refine wpAnyH_take (i := 4) (v := undef) rfl (by decide +kernel) (by decide +kernel) (by decide +kernel) (fun _ _ _ h => h) (Or.inr ⟨by rfl, rfl⟩) (by assumption) ?_; (try simp only [List.getElem_toArray, List.getElem_cons_zero, List.getElem_cons_succ, Act.put, List.setIfInBounds_toArray, List.set_cons_zero, List.set_cons_succ]))
  (refine wpAnyH_take (i := 5) (v := undef) rfl (by decide +kernel) (by decide +kernel) (by decide +kernel) (fun _ _ _ h => h) (Or.inr ⟨by rfl, rfl⟩) (by assumption) ?_; (try simp only [List.getElem_toArray, List.getElem_cons_zero, List.getElem_cons_succ, Act.put, List.setIfInBounds_toArray, List.set_cons_zero, List.set_cons_succ]))
  (refine wpAnyH_take (i := 6) (v := undef) rfl (by decide +kernel) (by decide +kernel) (by decide +kernel) (fun _ _ _ h => h) (Or.inr ⟨by rfl, rfl⟩) (by assumption) ?_; (try simp only [List.getElem_toArray, List.getElem_cons_zero, List.getElem_cons_succ, Act.put, List.setIfInBounds_toArray, List.set_cons_zero, List.set_cons_succ]))
  (refine wpAnyH_take (i := 7) (v := undef) rfl (by decide +kernel) (by decide +kernel) (by decide +kernel) (fun _ _ _ h => h) (Or.inr ⟨by rfl, rfl⟩) (by assumption) ?_; (try simp only [List.getElem_toArray, List.getElem_cons_zero, List.getElem_cons_succ, Act.put, List.setIfInBounds_toArray, List.set_cons_zero, List.set_cons_succ]))
  (refine wpAnyH_take (i := 8) (v := undef) rfl (by decide +kernel) (by decide +kernel) (by decide +kernel) (fun _ _ _ h => h) (Or.inr ⟨by rfl, rfl⟩) (by assumption) ?_; (try simp only [List.getElem_toArray, List.getElem_cons_zero, List.getElem_cons_succ, Act.put, List.setIfInBounds_toArray, List.set_cons_zero, List.set_cons_succ]))
  (refine wpAnyH_take (i := 9) (v := undef) rfl (by decide +kernel) (by decide +kernel) (by decide +kernel) (fun _ _ _ h => h) (Or.inr ⟨by rfl, rfl⟩) (by assumption) ?_; (try simp only [List.getElem_toArray, List.getElem_cons_zero, List.getElem_cons_succ, Act.put, List.setIfInBounds_toArray, List.set_cons_zero, List.set_cons_succ]))
  (refine wpAnyH_take (i := 10) (v := ?_) rfl (by decide +kernel) (by decide +kernel) (by decide +kernel) (fun _ _ _ h => h) (Or.inl ⟨by rfl, ?_⟩) (by assumption) ?_; rotate_left; (focus ((intro w hSw; (try dsimp only at hSw); go_simp); (try (with_reducible rfl)); done)); (try simp only [List.getElem_toArray, List.getElem_cons_zero, List.getElem_cons_succ, Act.put, List.setIfInBounds_toArray, List.set_cons_zero, List.set_cons_succ]))
  refine wpAnyH_done (by decide +kernel) ?_ _
  obtain ⟨W2, hW2⟩ : ∃ X, X = W1.drew := ⟨_, rfl⟩
  rw [← hW2]
  replace HB : Bel W W2 := by rw [hW2]; exact HB.dr
  replace HR : At W2 (W.heap.size + 1) [.bool false, .slice none 0 0, .int .i64 0] := by rw [hW2]; exact HR.dr
  replace H0 : At W2 W.heap.size [.bool b, .slice A n c, .int .i64 0] := by rw [hW2]; exact H0.dr
  replace h : Nm W2 A n c q := by rw [hW2]; exact h.dr
  clear hW2
  have h0_0 := H0.c0
  have h0_1 := H0.c1
  have h0_2 := H0.c2
  have hr_0 := HR.c0
  have hr_1 := HR.c1
  have hr_2 := HR.c2
  have hr_f0 := HR.f0
  have hr_f1 := HR.f1
  have hr_f2 := HR.f2
  go_wp2_with fail
  refine bodyPost_ret (v := .agg #[.bool b, .slice A n c, .int .i64 0]) (by simp [results, Tryz.results30, go_sem, hr_0, hr_1, hr_2]) rfl ?_
  exact ⟨rfl, h.putd HR _ _ _ _ _, (HB.uput3 (by omega) _ _ _).hid⟩
set_option maxHeartbeats 8000000 in
theorem sig_walk {dg u us us' : Int} {um v v' : Nat} (hm : 1 ≤ m ∧ m ≤ 7) (hdg : 1 ≤ dg ∧ dg ≤ 40) (hS : ∀ W', Bel W W' → Calls Tryz.prog 28 #[.agg #[.bool b, .slice A n c, .slice A' n' c']] W' (IntPost W' u)) (hu : u ≠ 0)
    (hE : ∀ W', Bel W W' → Calls Tryz.prog 29 #[.agg #[.bool b, .slice A n c, .slice A' n' c']] W' (IntPost W' e)) (be : -1000000 ≤ e ∧ e ≤ 1000000) (hsc : dg - 1 - e = sc) (h60 : sc ≤ 60)
    (hU : ∀ W', Calls Tryz.prog 27 #[.int .i64 sc] W' (DvR W' false um us))
    (hM : ∀ W' B f, Bel W W' → Nm W' B (dl um) f um → Calls Tryz.prog 26 #[.agg #[.bool b, .slice A n c, .slice A' n' c'], .agg #[.bool false, .slice B (dl um) f, .int .i64 us], .int .i64 m] W' (DvR W' sg v us))
    (hL : ∀ W' B f, Nm W' B (dl v) f v → Calls Tryz.prog 30 #[.agg #[.bool sg, .slice B (dl v) f, .int .i64 us], .int .i64 dg] W' (DvR W' sg v' us')) :
    Calls Tryz.prog 9 #[.agg #[.bool b, .slice A n c, .slice A' n' c'], .int .i64 dg, .int .i64 m] W (ToR W sg v' us') := by
  have CM : Hid (∀ W', Calls Tryz.prog 11 #[.int .i64 m] W' (RetB W' true)) := fun W' => by
    have h1 := mode_h (W := W') (m := m)
    rwa [decide_eq_true hm] at h1
  have CS := hide hS
  have CE := hide hE
  have CU := hide hU
  have CX := hide hM
  have CL := hide hL
  have g1 : decide (dg < 1) = false := decide_eq_false (by omega)
  have g2 : decide (40 < dg) = false := decide_eq_false (by omega)
  have g3 : (u == 0) = false := by simpa using hu
  have g4 : decide (60 < sc) = false := decide_eq_false (by omega)
  have g1' : ¬ dg < 1 := by omega
  have g2' : ¬ 40 < dg := by omega
  have g4' : ¬ 60 < sc := by omega
  have k1 : IntKind.i64.wrap (dg - 1) = dg - 1 := IntWalk.i64_in _ (by omega)
  have k2 : wrap64 (dg - 1) = dg - 1 := IntWalk.wrap64_in _ (by omega)
  have k3 : IntKind.i64.wrap (dg - 1 - e) = sc := by rw [IntWalk.i64_in _ (by omega)]; exact hsc
  have k4 : wrap64 (dg - 1 - e) = sc := by rw [IntWalk.wrap64_in _ (by omega)]; exact hsc
  clear hm hdg hS hu hE be hsc h60 hU hM hL
  have HB := Bel.refl W
  go_enter Tryz.func9, Tryz.ntmps9
  go_wp2_with (first | (go_at_call 11; (with_reducible refine (CM.out _).mono ?_); rintro e w1 ⟨rfl, hbk⟩; replace hbk := Bel.hid hbk; (with_reducible (have H0 : At w1 W.heap.size [.bool b, .slice A n c, .slice A' n' c'] := At.up ((at_new0 _ _ _).al _) hbk; have HR : At w1 (W.heap.size + 1) [.bool false, .slice none 0 0, .int .i64 0] := At.up (at_new1 _ _ _ _) hbk; replace HB := ((HB.al _).al _).up hbk)); have h0_0 := H0.c0; have h0_1 := H0.c1; have h0_2 := H0.c2; have h0_l := H0.lt) | (go_at_call 28; (with_reducible refine (CS.out _ HB).mono ?_); rintro e w2 ⟨rfl, hbk⟩; (with_reducible (replace HB := HB.up hbk; replace H0 := H0.up hbk; replace HR := HR.up hbk)); clear h0_0 h0_1 h0_2 h0_l; have h0_0 := H0.c0; have h0_1 := H0.c1; have h0_2 := H0.c2; have h0_l := H0.lt) | (go_at_call 29; (with_reducible refine (CE.out _ HB).mono ?_); rintro e w3 ⟨rfl, hbk⟩; (with_reducible (replace HB := HB.up hbk; replace H0 := H0.up hbk; replace HR := HR.up hbk)); clear h0_0 h0_1 h0_2 h0_l) | fail)
  have lz0 := H0.lt
  have lz1 := HR.lt
  go_region_held3 (fun w' => w'.cell? ⟨W.heap.size, 0, none⟩ = some (.bool b) ∧ w'.cell? ⟨W.heap.size, 1, none⟩ = some (.slice A n c) ∧ w'.cell? ⟨W.heap.size, 2, none⟩ = some (.slice A' n' c'))
    (refine ⟨(?_ : At _ W.heap.size [.bool b, .slice A n c, .slice A' n' c']).c0, (?_ : At _ W.heap.size [.bool b, .slice A n c, .slice A' n' c']).c1, (?_ : At _ W.heap.size [.bool b, .slice A n c, .slice A' n' c']).c2⟩ <;> (repeat (first | with_reducible exact H0 | (with_reducible refine At.dr ?_) | (with_reducible refine At.al ?_ _) | (with_reducible refine At.far ?_ (by omega) _))))
    (first | (go_at_call 27; (with_reducible refine (CU.out _).mono ?_); rintro e w4 ⟨Bo, eo, rfl, no, hbk⟩; (with_reducible (replace HB := HB.dr.up hbk; replace H0 := H0.dr.up hbk; replace HR := HR.dr.up hbk))) | (go_at_call 26; (with_reducible refine (CX.out _ _ _ HB no).mono ?_); rintro e w5 ⟨Bt, et, rfl, nt, hbk⟩; (with_reducible (replace HB := HB.up hbk; replace H0 := H0.up hbk; replace HR := HR.up hbk))) | (go_at_call 30; (with_reducible refine (CL.out _ _ _ nt).mono ?_); rintro e w6 ⟨Bv, ev, rfl, nv, hbk⟩; (with_reducible (replace HB := HB.up hbk; replace H0 := H0.up hbk; replace HR := HR.up hbk)); have hr_0 := HR.c0; have hr_1 := HR.c1; have hr_2 := HR.c2; have hr_l := HR.lt; have hr_f0 := HR.f0; have hr_f1 := HR.f1; have hr_f2 := HR.f2) | fail)
  go_wp2_with fail
  refine bodyPost_ret (v := .tuple #[.agg #[.bool sg, .slice Bv (dl v') ev, .int .i64 us'], .int .i64 0]) (by simp [results, Tryz.results9, go_sem, hr_0, hr_1, hr_2]) rfl ?_
  exact ⟨Bv, ev, rfl, nv.putd HR _ _ _ _ _, (HB.uput3 (by omega) _ _ _).hid⟩
end
end Go.Proofs.YtmiklffjffdkgaaGreatDoor
end

section
/- Parted from Dw: by function. -/
open Go.RowKit
set_option maxRecDepth 100000
namespace Go.Proofs.YtmiklffjffdkgaaGreatDoor
section
variable {W : World} {s : ByteArray} {b pt : Bool} {t u : List UInt8} {v : Nat}
theorem decL_lit {m : Nat} {ds : List Nat} {l : List UInt8} (h : ∀ x ∈ ds, x < 10) (hl : ∀ x, ds.getLast? = some x → x ≠ 0) (hm : m = val 10 ds) (h0 : m ≠ 0) (hr : ds.reverse.map (fun d => UInt8.ofNat (48 + d)) = l) : decL m = l := by
  unfold decL
  rw [if_neg h0, hm, digs_val (by decide) ds h hl, hr]
end
end Go.Proofs.YtmiklffjffdkgaaGreatDoor
end

section
/- Statements of round: over, awake. No conditions. -/
open Go.RowKit
set_option maxRecDepth 100000
namespace Go.Proofs.YtmiklffjffdkgaaGreatDoor
def UStr (W : World) (s : ByteArray) (e : Ending) (w' : World) : Prop := e = .returned (.string s) ∧ Hid (Below W.heap.size W w')
theorem ustr_of {W : World} {l : List UInt8} {s : ByteArray} {e : Ending} {w' : World} (h : TxR W l e w') (hs : s.data.toList = l) : UStr W s e w' := by
  obtain ⟨t, rfl, ht, hb⟩ := h
  exact ⟨by rw [show t = s from ByteArray.ext (Array.ext' (ht.out.trans hs.symm))], hb⟩
theorem qa_self {W : World} {sg : Bool} {A A' : Option Addr} {n c n' c' K : Nat} {r : Rat} (nz : ZA W sg A n c r.num) (nd : Nm W A' n' c' r.den) (hb : Bd r K) : QA W sg A n c A' n' c' r K := ⟨r.num, r.den, nz, nd, Rat.mkRat_self r, hb⟩
section
variable {W : World}
set_option maxHeartbeats 4000000 in
theorem over_h {p : Int} {q : Nat} {r : Rat} {sg : Bool} (hp : -9223372036854775808 ≤ p ∧ p ≤ 9223372036854775807) (hq : q ≤ 18446744073709551615) (h0 : 0 < q) (hr : mkRat p q = r) (hs : decide (r.num < 0) = sg) : Calls Tryz.prog 20 #[.int .i64 p, .int .u64 (q : Int)] W (QRw W sg r) := by
  obtain ⟨sp, hsp⟩ : ∃ x, x = decide (p < 0) := ⟨_, rfl⟩
  have bp : dl p.natAbs ≤ 99999 := Nat.le_trans (dl_le (k := 2) (Nat.lt_of_lt_of_le (show p.natAbs < 18446744073709551616 by omega) (by decide))) (by decide)
  have bq : dl q ≤ 99999 := Nat.le_trans (dl_le (k := 2) (Nat.lt_of_lt_of_le (show q < 18446744073709551616 by omega) (by decide))) (by decide)
  have CZ : Hid (∀ W', Calls Tryz.prog 55 #[.int .i64 p] W' (ZRu W' sp p)) := fun W' => by rw [hsp]; exact zof_h hp.1 hp.2
  have CN : Hid (∀ W', Calls Tryz.prog 56 #[.int .u64 (q : Int)] W' (NumR W' q)) := fun W' => of_h hq
  have CQ : Hid (∀ W' B e B' e', ZA W' sp B (dl p.natAbs) e p → Nm W' B' (dl q) e' q → Calls Tryz.prog 54 #[.agg #[.bool sp, .slice B (dl p.natAbs) e], .agg #[.slice B' (dl q) e']] W' (OfYw W' sg r)) := fun W' B e B' e' h1 h2 => by
    have h3 := of_yes h1 h2 h0 hr bp bq
    unfold OfYes at h3
    rw [hs] at h3
    exact h3
  clear hp hq h0 hr hs hsp bp bq
  have HB := Bel.refl W
  go_enter Tryz.func20, Tryz.ntmps20
  go_wp2_with (first | (go_at_call 55; (with_reducible refine (CZ.out _).mono ?_); rintro e w1 ⟨B1, e1, rfl, z1, hbk⟩; (with_reducible (have HR : At w1 W.heap.size [.bool false, .slice none 0 0, .slice none 0 0] := At.up (at_new0 _ _ _) hbk; replace HB := (HB.al _).up hbk))) | (go_at_call 56; (with_reducible refine (CN.out _).mono ?_); rintro e w2 ⟨B2, e2, rfl, n2, hbk⟩; (with_reducible (replace HB := HB.up hbk; replace HR := HR.up hbk; replace z1 := z1.up hbk))) | (go_at_call 54; (with_reducible refine (CQ.out _ _ _ _ _ z1 n2).mono ?_); rintro e w3 ⟨B3, e3, B4, e4, rfl, z3, n3, hbk⟩; (with_reducible (replace HB := HB.up hbk; replace HR := HR.up hbk)); have hr_l := HR.lt; have hs_0 := HR.c0; have hs_1 := HR.c1; have hs_2 := HR.c2; have hs_f0 := HR.f0; have hs_f1 := HR.f1; have hs_f2 := HR.f2) | fail)
  have n0 := z3.1
  refine name_end ?_
  intro W4 hW4
  have HF : At W4 W.heap.size [.bool sg, .slice B3 (dl r.num.natAbs) e3, .slice B4 (dl r.den) e4] := by rw [hW4]; (repeat (first | with_reducible exact HR | (with_reducible refine At.al ?_ _) | (with_reducible refine At.uput3 (v0 := .bool false) (v1 := .slice none 0 0) (v2 := .slice none 0 0) ?_ _ _ _)))
  have NF : Nm W4 B3 (dl r.num.natAbs) e3 r.num.natAbs := by rw [hW4]; (repeat (first | with_reducible exact n0 | with_reducible exact HR | (with_reducible refine Nm.al ?_ _) | (with_reducible refine Nm.putq ?_ ?_ _ _ _ _ _ _ _)))
  have DF : Nm W4 B4 (dl r.den) e4 r.den := by rw [hW4]; (repeat (first | with_reducible exact n3 | with_reducible exact HR | (with_reducible refine Nm.al ?_ _) | (with_reducible refine Nm.putq ?_ ?_ _ _ _ _ _ _ _)))
  have BF : Bel W W4 := by rw [hW4]; (repeat (first | with_reducible exact HB | (with_reducible refine Bel.al ?_ _) | (with_reducible refine Bel.uput3 ?_ (Nat.le_refl _) _ _ _)))
  clear hW4
  refine bodyPost_ret (v := .agg #[.bool sg, .slice B3 (dl r.num.natAbs) e3, .slice B4 (dl r.den) e4]) (by simp [results, Tryz.results20, go_sem, HF.c0, HF.c1, HF.c2]) rfl ?_
  exact ⟨B3, e3, B4, e4, rfl, z3.mv NF, DF, BF⟩
theorem dec_2 : decL 2 = [50] := decL_lit (ds := [2]) (by intro x hx; simp at hx; subst hx; decide) (by intro x hx; simp at hx; subst hx; decide) rfl (by decide) (by decide)
theorem lt10_3u {a b c : Nat} (ha : a < 10) (hb : b < 10) (hc : c < 10) : ∀ x ∈ [a, b, c], x < 10 := by
  intro x hx; simp at hx; rcases hx with rfl | rfl | rfl <;> assumption
theorem dec_100 : decL 100 = [49, 48, 48] := decL_lit (ds := [0, 0, 1]) (lt10_3u (by decide) (by decide) (by decide)) (by intro x hx; simp at hx; subst hx; decide) rfl (by decide) (by decide)
theorem dec_999 : decL 999 = [57, 57, 57] := decL_lit (ds := [9, 9, 9]) (lt10_3u (by decide) (by decide) (by decide)) (by intro x hx; simp at hx; subst hx; decide) rfl (by decide) (by decide)
theorem dec_10 : decL 10 = [49, 48] := decL_lit (ds := [0, 1]) (by intro x hx; simp at hx; rcases hx with rfl | rfl <;> decide) (by intro x hx; simp at hx; subst hx; decide) rfl (by decide) (by decide)
theorem decd_0 (m : Nat) : decD false m 0 = decL m := by
  unfold decD
  rw [if_neg (by decide), if_pos rfl]
  simp
def x52 : Rat := mkRat 5 2
def x999 : Rat := mkRat 999 10
def ten_ : Rat := ((10 : Int) : Rat)
theorem x52_num : x52.num = 5 := by decide +kernel
theorem x52_den : x52.den = 2 := by decide +kernel
theorem x999_num : x999.num = 999 := by decide +kernel
theorem x999_den : x999.den = 10 := by decide +kernel
theorem bd_lit {r : Rat} {a b : Nat} (ha : r.num.natAbs = a) (hb : r.den = b) (h1 : a < 4294967296) (h2 : b < 4294967296) : Bd r 1 := by
  unfold Bd
  rw [ha, hb, Nat.pow_one]
  exact ⟨h1, h2⟩
theorem x52_bd : Bd x52 1 := bd_lit (a := 5) (b := 2) (by rw [x52_num]; rfl) x52_den (by decide) (by decide)
theorem x999_bd : Bd x999 1 := bd_lit (a := 999) (b := 10) (by rw [x999_num]; rfl) x999_den (by decide) (by decide)
theorem ten_bd : Bd ten_ 1 := bd_lit (a := 10) (b := 1) rfl rfl (by decide) (by decide)
theorem ten1_bd : Bd (ten_ ^ 1) 1 := bd_lit (a := 10) (b := 1) (by decide +kernel) (by decide +kernel) (by decide) (by decide)
theorem to_52 {A A' : Option Addr} {c c' : Nat} (nz : ZA W false A (dl x52.num.natAbs) c x52.num) (nd : Nm W A' (dl x52.den) c' x52.den) : Calls Tryz.prog 8 #[.agg #[.bool false, .slice A (dl x52.num.natAbs) c, .slice A' (dl x52.den) c'], .int .i64 0, .int .i64 7] W (ToR W false 2 0) :=
  to_ok (s := 0) (m := 7) (qa_self nz nd x52_bd) (by decide) (by decide) (by decide) (by decide) (t := 2) (by decide +kernel)
set_option maxHeartbeats 4000000 in
theorem sig_999 {A A' : Option Addr} {c c' : Nat} (nz : ZA W false A (dl x999.num.natAbs) c x999.num) (nd : Nm W A' (dl x999.den) c' x999.den) : Calls Tryz.prog 9 #[.agg #[.bool false, .slice A (dl x999.num.natAbs) c, .slice A' (dl x999.den) c'], .int .i64 2, .int .i64 6] W (ToR W false 100 0) := by
  refine sig_walk (m := 6) (dg := 2) (e := 1) (sc := 0) (u := 1) (um := 1) (us := 0) (v := 100) (sg := false) (by decide) (by decide) ?_ (by decide) ?_ (by decide) (by decide) (by decide) ?_ ?_ ?_
  · intro W' hw
    exact rsign_h (K := 1) (qa_self (nz.up hw.hid) (nd.up hw.hid) x999_bd) (by decide) (by rw [x999_num]; rfl)
  · intro W' hw
    have h1 := expo_h (W := W') (tn := ten_) (K := 1) (pw := ten_ ^ 1) (e := 1) (L1 := 3) (L2 := 2) rfl (nz.up hw.hid) (nd.up hw.hid) (by rw [x999_den]; decide) (by rw [x999_num, show (999 : Int).natAbs = 999 from rfl, dec_999]; rfl) (by rw [x999_den, dec_10]; rfl) (by decide) (by decide) (by decide)
      (fun W2 B f B' f' h2 h3 => rpow_p (k := 1) (qa_self h2 h3 ten_bd) (by decide +kernel) ten_bd (by decide) (by decide) (by decide)) x999_bd.1 x999_bd.2 ten1_bd (by decide) (by decide)
    rwa [if_neg (by rw [x999_num, x999_den]; decide +kernel)] at h1
  · intro W'
    exact unit_p (s := 0) (by decide)
  · intro W' B f hw hn
    have h1 := multiple_h (W := W') (b' := false) (s := 0) (m := 6) (qa_self (nz.up hw.hid) (nd.up hw.hid) x999_bd) hn (show 1 < W32 ^ 1 by decide) (by decide) (by decide) (by decide) (by decide)
    rw [show rdR 6 (x999 * mkRat (10 ^ 0 : Nat) 1) = 100 by decide +kernel] at h1
    exact h1
  · intro W' B f hn
    exact (limit_0 hn).mono fun _ _ ⟨h1, h2, h3⟩ => ⟨B, f, h1, h2, h3⟩
set_option maxHeartbeats 8000000 in
theorem awake5_any (W : World) : Calls Tryz.prog 4 #[] W (BoolR W true) := by
  obtain ⟨v, hv⟩ : ∃ v : Nat, v = 2 := ⟨_, rfl⟩
  obtain ⟨v', hv'⟩ : ∃ v : Nat, v = 100 := ⟨_, rfl⟩
  have CO : Hid (∀ W', Calls Tryz.prog 20 #[.int .i64 5, .int .u64 2] W' (QRw W' false x52)) := fun W' => over_h (q := 2) (by decide) (by decide) (by decide) rfl (by rw [x52_num]; rfl)
  have CO2 : Hid (∀ W', Calls Tryz.prog 20 #[.int .i64 999, .int .u64 10] W' (QRw W' false x999)) := fun W' => over_h (q := 10) (by decide) (by decide) (by decide) rfl (by rw [x999_num]; rfl)
  have CT : Hid (∀ (W' : World) A c A' c', ZA W' false A (dl x52.num.natAbs) c x52.num → Nm W' A' (dl x52.den) c' x52.den → Calls Tryz.prog 8 #[.agg #[.bool false, .slice A (dl x52.num.natAbs) c, .slice A' (dl x52.den) c'], .int .i64 0, .int .i64 7] W' (ToR W' false v 0)) := fun W' A c A' c' h1 h2 => by rw [hv]; exact to_52 h1 h2
  have CS : Hid (∀ (W' : World) A c A' c', ZA W' false A (dl x999.num.natAbs) c x999.num → Nm W' A' (dl x999.den) c' x999.den → Calls Tryz.prog 9 #[.agg #[.bool false, .slice A (dl x999.num.natAbs) c, .slice A' (dl x999.den) c'], .int .i64 2, .int .i64 6] W' (ToR W' false v' 0)) := fun W' A c A' c' h1 h2 => by rw [hv']; exact sig_999 h1 h2
  have CX : Hid (∀ (W' : World) A c, Nm W' A (dl v) c v → Calls Tryz.prog 21 #[.agg #[.bool false, .slice A (dl v) c, .int .i64 0]] W' (UStr W' ⟨#[50]⟩)) := fun W' A c h => (dtext_h (dx_can (b := false) (s := 0) h (by decide) (fun h => by cases h)).y (by rw [hv]; exact Nat.le_trans (dl_le (k := 1) (by decide)) (by decide))).mono fun _ _ h1 => ustr_of h1 (by rw [decd_0, hv, dec_2])
  have CX2 : Hid (∀ (W' : World) A c, Nm W' A (dl v') c v' → Calls Tryz.prog 21 #[.agg #[.bool false, .slice A (dl v') c, .int .i64 0]] W' (UStr W' ⟨#[49, 48, 48]⟩)) := fun W' A c h => (dtext_h (dx_can (b := false) (s := 0) h (by decide) (fun h => by cases h)).y (by rw [hv']; exact Nat.le_trans (dl_le (k := 1) (by decide)) (by decide))).mono fun _ _ h1 => ustr_of h1 (by rw [decd_0, hv', dec_100])
  have CM : Hid (∀ W', Calls Tryz.prog 11 #[.int .i64 1] W' (RetB W' true)) := fun W' => mode_h (m := 1)
  have CM2 : Hid (∀ W', Calls Tryz.prog 11 #[.int .i64 8] W' (RetB W' false)) := fun W' => mode_h (m := 8)
  obtain ⟨x, hx⟩ : ∃ x, x = x52 := ⟨_, rfl⟩
  obtain ⟨y, hy⟩ : ∃ x, x = x999 := ⟨_, rfl⟩
  rw [← hx] at CO CT
  rw [← hy] at CO2 CS
  clear hv hv' hx hy
  have HB := Bel.refl W
  go_enter Tryz.func4, Tryz.ntmps4
  go_wp2_with (first | (go_at_call 20; (with_reducible refine (CO.out _).mono ?_); rintro e w1 ⟨A1, c1, A2, c2, rfl, z1, n1, hbk⟩; (with_reducible (replace HB := HB.up hbk))) | (go_at_call 8; (with_reducible refine (CT.out _ _ _ _ _ z1 n1).mono ?_); rintro e w2 ⟨A3, c3, rfl, n3, hbk⟩; (with_reducible (replace HB := HB.up hbk))) | (go_at_call 20; (with_reducible refine (CO2.out _).mono ?_); rintro e w3 ⟨A4, c4, A5, c5, rfl, z4, n4, hbk⟩; (with_reducible (have HA : At w3 w2.heap.size [.bool false, .slice A3 (dl v) c3, .int .i64 0] := At.up (at_new0 _ _ _) hbk; replace HB := (HB.al _).up hbk; replace n3 := (n3.al _).up hbk)); have ha_0 := HA.c0; have ha_1 := HA.c1; have ha_2 := HA.c2; have ha_l := HA.lt) | (go_at_call 9; (with_reducible refine (CS.out _ _ _ _ _ z4 n4).mono ?_); rintro e w4 ⟨A6, c6, rfl, n6, hbk⟩; (with_reducible (replace HB := HB.up hbk; replace HA := HA.up hbk; replace n3 := n3.up hbk)); clear ha_0 ha_1 ha_2 ha_l; have ha_0 := HA.c0; have ha_1 := HA.c1; have ha_2 := HA.c2; have ha_l := HA.lt) | (go_at_call 21; (with_reducible refine (CX.out _ _ _ (n3.al _)).mono ?_); rintro e w5 ⟨rfl, hbk⟩; (with_reducible (have HC : At w5 w4.heap.size [.bool false, .slice A6 (dl v') c6, .int .i64 0] := At.up (at_new0 _ _ _) hbk; replace HB := (HB.al _).up hbk; replace n6 := (n6.al _).up hbk)); clear ha_0 ha_1 ha_2 ha_l; have hc_0 := HC.c0; have hc_1 := HC.c1; have hc_2 := HC.c2; have hc_l := HC.lt) | (go_at_call 21; (with_reducible refine (CX2.out _ _ _ n6).mono ?_); rintro e w6 ⟨rfl, hbk⟩; (with_reducible (replace HB := HB.up hbk)); clear hc_0 hc_1 hc_2 hc_l) | (go_at_call 11; (with_reducible refine (CM.out _).mono ?_); rintro e w7 ⟨rfl, hbk⟩; replace hbk := Bel.hid hbk; (with_reducible (replace HB := HB.up hbk))) | (go_at_call 11; (with_reducible refine (CM2.out _).mono ?_); rintro e w8 ⟨rfl, hbk⟩; replace hbk := Bel.hid hbk; (with_reducible (replace HB := HB.up hbk))) | fail)
  go_ret
  exact ⟨rfl, HB⟩
end
end Go.Proofs.YtmiklffjffdkgaaGreatDoor
end
