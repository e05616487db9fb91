/- Several texts in one, each with its own sentence and conditions. -/
import Derived.Test.YtfcamfkimnlfgaaGreatDoorQf
import Derived.Test.YtfcamfkimnlfgaaGreatDoorGRsmc11
import Derived.Test.YtfcamfkimnlfgaaGreatDoorGRsmc21
import Derived.Deep.RegionHeld3
import Derived.Deep.Cut
section
/- A fraction that came in; bounds of sums, products, floors. No conditions. -/
open Go.RowKit
set_option maxRecDepth 100000
namespace Go.Proofs.YtfcamfkimnlfgaaGreatDoor
def Bd (r : Rat) (K : Nat) : Prop := r.num.natAbs < W32 ^ K ∧ r.den < W32 ^ K
theorem Bd.more {r : Rat} {K L : Nat} (h : Bd r K) (hl : K ≤ L) : Bd r L := ⟨Nat.lt_of_lt_of_le h.1 (Nat.pow_le_pow_right (by decide) hl), Nat.lt_of_lt_of_le h.2 (Nat.pow_le_pow_right (by decide) hl)⟩
theorem Bd.tt {r : Rat} {K : Nat} (h : Bd r K) : TT r.num r.den r K := ⟨r.den_pos, Rat.mkRat_self r, h.1, h.2⟩
theorem Bd.add {r r' : Rat} {K : Nat} (h : Bd r K) (h' : Bd r' K) : Bd (r + r') (K + K + 1) := by
  obtain ⟨h1, h2, h3, h4⟩ := tt_add h.tt h'.tt
  exact tt_bd ⟨h1, h2, h3, Nat.lt_of_lt_of_le h4 (Nat.pow_le_pow_right (by decide) (by omega))⟩
theorem Bd.mul {r r' : Rat} {K : Nat} (h : Bd r K) (h' : Bd r' K) : Bd (r * r') (K + K) := by
  obtain ⟨h1, h2, h3, h4⟩ := tt_mul h.tt h'.tt
  exact tt_bd ⟨h1, h2, h3, h4⟩
theorem Bd.neg {r : Rat} {K : Nat} (h : Bd r K) : Bd (-r) K := ⟨by rw [Rat.neg_num, Int.natAbs_neg]; exact h.1, h.2⟩
theorem bd_int {z : Int} {K : Nat} (h : z.natAbs < W32 ^ K) (hK : 0 < K) : Bd (z : Rat) K := ⟨h, Nat.one_lt_pow (by omega) (by decide)⟩
theorem bd_floor {r : Rat} {K : Nat} (h : Bd r K) : r.floor.natAbs < W32 ^ K := by
  rw [Rat.floor_def]
  exact Nat.lt_of_le_of_lt (Int.natAbs_ediv_le_natAbs _ _) h.1
theorem QA.more {W : World} {b : Bool} {A A' : Option Addr} {n c n' c' K L : Nat} {r : Rat} (h : QA W b A n c A' n' c' r K) (hl : K ≤ L) : QA W b A n c A' n' c' r L := by
  obtain ⟨z, d, h1, h2, h3, h4, h5⟩ := h
  exact ⟨z, d, h1, h2, h3, Nat.lt_of_lt_of_le h4 (Nat.pow_le_pow_right (by decide) hl), Nat.lt_of_lt_of_le h5 (Nat.pow_le_pow_right (by decide) hl)⟩
/-- What came in: a sign and two slices of words. -/
theorem qa_in {w : World} {b : Bool} {A A' : Option Addr} {n c n' c' : Nat} {ws ws' : List Nat} (h : n = ws.length ∧ n ≤ c ∧ Rd U32 w w.heap.size A ws ∧ Good32 ws) (h' : n' = ws'.length ∧ n' ≤ c' ∧ Rd U32 w w.heap.size A' ws' ∧ Good32 ws') (hn : n ≤ 12 ∧ n' ≤ 12) :
    QA w b A n c A' n' c' (mkRat (zi b (val W32 ws)) (val W32 ws')) 12 := by
  have lt : ∀ {l : List Nat} {k : Nat}, Good32 l → k = l.length → k ≤ 12 → val W32 l < W32 ^ 12 := fun hg hk h12 => Nat.lt_of_lt_of_le (val_lt _ hg) (Nat.pow_le_pow_right (by decide) (by omega))
  exact ⟨_, _, za_of (nm_later (later_of h (by omega)) (Below.refl _ _)), nm_later (later_of h' (by omega)) (Below.refl _ _), rfl, by rw [zi_abs]; exact lt h.2.2.2 h.1 hn.1, lt h'.2.2.2 h'.1 hn.2⟩
section
variable {W : World} {p q : Nat} {v0 v1 v2 x y z : Value} {vs : List Value}
theorem At.put3 (h : At W p [v0, v1, v2]) (x y z : Value) : At (((W.setCell ⟨p, 0, none⟩ x).setCell ⟨p, 1, none⟩ y).setCell ⟨p, 2, none⟩ z) p [x, y, z] :=
  ((h.put (i := 0) (by simp) x).put (i := 1) (by simp) y).put (i := 2) (by simp) z
theorem At.far3 (h : At W p vs) (hq : q ≠ p) (x y z : Value) : At (((W.setCell ⟨q, 0, none⟩ x).setCell ⟨q, 1, none⟩ y).setCell ⟨q, 2, none⟩ z) p vs :=
  ((h.far hq x).far hq y).far hq z
theorem ZA.put3 {s : Bool} {A : Option Addr} {n c : Nat} {u : Int} {b0 : Bool} {B0 B1 : Option Addr} {k0 d0 k1 d1 : Nat} (h : ZA W s A n c u) (hp : At W p [.bool b0, .slice B0 k0 d0, .slice B1 k1 d1]) {b : Bool} {B B' : Option Addr} {k d k' d' : Nat} :
    ZA (((W.setCell ⟨p, 0, none⟩ (.bool b)).setCell ⟨p, 1, none⟩ (.slice B k d)).setCell ⟨p, 2, none⟩ (.slice B' k' d')) s A n c u := ⟨h.1.put3 hp now3, h.2⟩
end
end Go.Proofs.YtfcamfkimnlfgaaGreatDoor
end

section
/- The document's own fractions: QSign, QNeg, QInv, QMul, QAdd. Conditions: less than 100000 fours of digits. -/
open Go.RowKit
set_option maxRecDepth 100000
namespace Go.Proofs.YtfcamfkimnlfgaaGreatDoor
/-- What a call leaves that returns one of the document's own fractions. -/
def RQm (W : World) (s : Bool) (v : Int) (d : Nat) (e : Ending) (w' : World) : Prop := ∃ A c A' c', e = .returned (.agg #[.bool s, .slice A (dq v.natAbs) c, .slice A' (dq d) c']) ∧ Rz w' s A c v ∧ Rn w' A' c' d ∧ Hid (Below W.heap.size W w')
theorem rqm_end {w0 W : World} {s t0 : Bool} {A A' B0 B1 : Option Addr} {c c' d p k0 d0 k1 d1 : Nat} {v : Int} (h : Rz W s A c v) (h' : Rn W A' c' d) (hr : At W p [.bool t0, .slice B0 k0 d0, .slice B1 k1 d1]) (hb : Bel w0 W) (hp : w0.heap.size ≤ p) :
    RQm w0 s v d (.returned (.agg #[.bool s, .slice A (dq v.natAbs) c, .slice A' (dq d) c'])) (((W.setCell ⟨p, 0, none⟩ (.bool s)).setCell ⟨p, 1, none⟩ (.slice A (dq v.natAbs) c)).setCell ⟨p, 2, none⟩ (.slice A' (dq d) c')) :=
  ⟨A, c, A', c', rfl, ⟨h.1.put3 hr, h.2⟩, h'.put3 hr, below3 hb hp _ _ _⟩
section
variable {W : World} {b b' s s1 s2 : Bool} {A A' B B' : Option Addr} {c c' e e' d d' : Nat} {z z' v : Int}
set_option maxHeartbeats 2000000 in
theorem rqsign_h (h : Rz W b A c z) (hv : z.sign = v) : Calls Tryz.prog 14 #[.agg #[.bool b, .slice A (dq z.natAbs) c, .slice A' (dq d) c']] W (IntPost W v) := by
  have CS : Hid (∀ W', Bel W W' → Calls Tryz.prog 83 #[.agg #[.bool b, .slice A (dq z.natAbs) c]] W' (IntPost W' v)) := fun W' hb => rzsign_h (h.up hb.hid) hv
  clear h hv
  have HB := Bel.refl W
  go_enter Tryz.func14, Tryz.ntmps14
  go_wp2_with (first | (go_at_call 83; (with_reducible refine (CS.out _ (HB.al _)).mono ?_); rintro e w1 ⟨rfl, hbk⟩; replace HB := (HB.al _).up hbk) | fail)
  go_ret
  exact ⟨rfl, HB⟩
set_option maxHeartbeats 8000000 in
theorem rqneg_h (h : Rz W b A c z) (h' : Rn W A' c' d) (hs : s = decide (v < 0)) (hv : v = -z) : Calls Tryz.prog 23 #[.agg #[.bool b, .slice A (dq z.natAbs) c, .slice A' (dq d) c']] W (RQm W s v d) := by
  have CN : Hid (∀ W', Rz W' b A c z → Calls Tryz.prog 92 #[.agg #[.bool b, .slice A (dq z.natAbs) c]] W' (RZv W' s v)) := fun W' g => rzneg_h g hs hv
  clear hv hs
  have HB := Bel.refl W
  go_enter Tryz.func23, Tryz.ntmps23
  go_wp2_with fail
  obtain ⟨W1, hW1⟩ : ∃ X, X = ((W.alloc (.cells #[.bool b, .slice A (dq z.natAbs) c, .slice A' (dq d) c'] 36)).alloc (.cells #[.bool false, .slice none 0 0, .slice none 0 0] 36)) := ⟨_, rfl⟩
  rw [← hW1]
  have HP : At W1 (W.heap.size) [.bool b, .slice A (dq z.natAbs) c, .slice A' (dq d) c'] := by rw [hW1]; exact ((at_new0 _ _ _).al _)
  have HR : At W1 (W.heap.size + 1) [.bool false, .slice none 0 0, .slice none 0 0] := by rw [hW1]; exact (at_new1 _ _ _ _)
  replace HB : Bel W W1 := by rw [hW1]; exact ((HB.al _).al _)
  replace h : Rz W1 b A c z := by rw [hW1]; exact ((h.al _).al _)
  replace h' : Rn W1 A' c' d := by rw [hW1]; exact ((h'.al _).al _)
  clear hW1
  have l0 := HP.lt
  have l1 := HR.lt
  go_region_held3 (fun w' => w'.cell? ⟨W.heap.size, 0, none⟩ = some (.bool b) ∧ w'.cell? ⟨W.heap.size, 1, none⟩ = some (.slice A (dq z.natAbs) c) ∧ w'.cell? ⟨W.heap.size, 2, none⟩ = some (.slice A' (dq d) c'))
    (refine ⟨(?_ : At _ W.heap.size [.bool b, .slice A (dq z.natAbs) c, .slice A' (dq d) c']).c0, (?_ : At _ W.heap.size [.bool b, .slice A (dq z.natAbs) c, .slice A' (dq d) c']).c1, (?_ : At _ W.heap.size [.bool b, .slice A (dq z.natAbs) c, .slice A' (dq d) c']).c2⟩ <;> (repeat (first | with_reducible exact HP | (with_reducible refine At.dr ?_) | (with_reducible refine At.al ?_ _) | (with_reducible refine At.far ?_ (by omega) _))))
    (first | (go_at_call 92; (with_reducible refine (CN.out _ h.dr).mono ?_); rintro e w1 ⟨F, f, rfl, nz, hbk⟩; (with_reducible (replace HB := HB.dr.up hbk; replace HP := HP.dr.up hbk; replace HR := HR.dr.up hbk; replace h := h.dr.up hbk; replace h' := h'.dr.up hbk)); have hr_0 := HR.c0; have hr_1 := HR.c1; have hr_2 := HR.c2; have hr_l := HR.lt; have hr_f0 := HR.f0; have hr_f1 := HR.f1; have hr_f2 := HR.f2) | fail)
  go_wp2_with fail
  refine bodyPost_ret (v := .agg #[.bool s, .slice F (dq v.natAbs) f, .slice A' (dq d) c']) (by simp [results, Tryz.results23, go_sem, hr_0, hr_1, hr_2]) rfl ?_
  exact rqm_end nz h' HR HB (by omega)
set_option maxHeartbeats 8000000 in
theorem rqinv_h (h : Rz W b A c z) (h' : Rn W A' c' d) (hs : s = (b && decide (0 < d))) (hv : v.natAbs = d) (hs2 : s = decide (v < 0)) : Calls Tryz.prog 16 #[.agg #[.bool b, .slice A (dq z.natAbs) c, .slice A' (dq d) c']] W (RQm W s v z.natAbs) := by
  have CN : Hid (∀ W', Rn W' A' c' d → Calls Tryz.prog 73 #[.bool b, .slice A' (dq d) c'] W' (RZb W' s A' (dq d) c' d)) := fun W' g => rzof_h g hs
  have HV := hide hv
  have HS := hide hs2
  clear hs hv hs2
  have HB := Bel.refl W
  go_enter Tryz.func16, Tryz.ntmps16
  go_wp2_with fail
  obtain ⟨W1, hW1⟩ : ∃ X, X = ((W.alloc (.cells #[.bool b, .slice A (dq z.natAbs) c, .slice A' (dq d) c'] 36)).alloc (.cells #[.bool false, .slice none 0 0, .slice none 0 0] 36)) := ⟨_, rfl⟩
  rw [← hW1]
  have HP : At W1 (W.heap.size) [.bool b, .slice A (dq z.natAbs) c, .slice A' (dq d) c'] := by rw [hW1]; exact ((at_new0 _ _ _).al _)
  have HR : At W1 (W.heap.size + 1) [.bool false, .slice none 0 0, .slice none 0 0] := by rw [hW1]; exact (at_new1 _ _ _ _)
  replace HB : Bel W W1 := by rw [hW1]; exact ((HB.al _).al _)
  replace h : Rz W1 b A c z := by rw [hW1]; exact ((h.al _).al _)
  replace h' : Rn W1 A' c' d := by rw [hW1]; exact ((h'.al _).al _)
  clear hW1
  have l0 := HP.lt
  have l1 := HR.lt
  go_region_held3 (fun w' => w'.cell? ⟨W.heap.size, 0, none⟩ = some (.bool b) ∧ w'.cell? ⟨W.heap.size, 1, none⟩ = some (.slice A (dq z.natAbs) c) ∧ w'.cell? ⟨W.heap.size, 2, none⟩ = some (.slice A' (dq d) c'))
    (refine ⟨(?_ : At _ W.heap.size [.bool b, .slice A (dq z.natAbs) c, .slice A' (dq d) c']).c0, (?_ : At _ W.heap.size [.bool b, .slice A (dq z.natAbs) c, .slice A' (dq d) c']).c1, (?_ : At _ W.heap.size [.bool b, .slice A (dq z.natAbs) c, .slice A' (dq d) c']).c2⟩ <;> (repeat (first | with_reducible exact HP | (with_reducible refine At.dr ?_) | (with_reducible refine At.al ?_ _) | (with_reducible refine At.far ?_ (by omega) _))))
    (first | (go_at_call 73; (with_reducible refine (CN.out _ h'.dr).mono ?_); rintro e w1 ⟨rfl, nz, hbk⟩; (with_reducible (replace HB := HB.dr.up hbk; replace HP := HP.dr.up hbk; replace HR := HR.dr.up hbk; replace h := h.dr.up hbk; replace h' := h'.dr.up hbk)); have hr_0 := HR.c0; have hr_1 := HR.c1; have hr_2 := HR.c2; have hr_l := HR.lt; have hr_f0 := HR.f0; have hr_f1 := HR.f1; have hr_f2 := HR.f2) | fail)
  go_wp2_with fail
  refine bodyPost_ret (v := .agg #[.bool s, .slice A' (dq d) c', .slice A (dq z.natAbs) c]) (by simp [results, Tryz.results16, go_sem, hr_0, hr_1, hr_2]) rfl ?_
  have hv := HV.out
  subst hv
  exact rqm_end ⟨nz, HS⟩ h.1 HR HB (by omega)
set_option maxHeartbeats 8000000 in
theorem rqmul_h {r : Rat} (h : Rz W b A c z) (h' : Rn W A' c' d) (k : Rz W b' B e z') (k' : Rn W B' e' d') (h0 : 0 < d) (k0 : 0 < d') (hl : dq z.natAbs ≤ 4000) (hl' : dq d ≤ 4000) (kl : dq z'.natAbs ≤ 4000) (kl' : dq d' ≤ 4000) (bl : dq (z * z').natAbs ≤ 99999) (bl' : dq (d * d') ≤ 99999) (hr : mkRat (z * z') (d * d') = r) : Calls Tryz.prog 27 #[.agg #[.bool b, .slice A (dq z.natAbs) c, .slice A' (dq d) c'], .agg #[.bool b', .slice B (dq z'.natAbs) e, .slice B' (dq d') e']] W (RQm W (decide (r.num < 0)) r.num r.den) := by
  obtain ⟨v1, hv1⟩ : ∃ x, x = z * z' := ⟨_, rfl⟩
  obtain ⟨t1, ht1⟩ : ∃ x, x = decide (v1 < 0) := ⟨_, rfl⟩
  obtain ⟨u1, hu1⟩ : ∃ x, x = d * d' := ⟨_, rfl⟩
  obtain ⟨sr, hsr⟩ : ∃ x, x = decide (r.num < 0) := ⟨_, rfl⟩
  rw [← hv1] at bl hr
  rw [← hu1] at bl' hr
  have CM : Hid (∀ W', Rz W' b A c z → Rz W' b' B e z' → Calls Tryz.prog 96 #[.agg #[.bool b, .slice A (dq z.natAbs) c], .agg #[.bool b', .slice B (dq z'.natAbs) e]] W' (RZv W' t1 v1)) := fun W' g g' => rzmul_h g g' (by omega) (by omega) ht1 hv1
  have CN : Hid (∀ W', Rn W' A' c' d → Rn W' B' e' d' → Calls Tryz.prog 87 #[.slice A' (dq d) c', .slice B' (dq d') e'] W' (RefRz W' u1)) := fun W' g g' => by
    rw [hu1]; exact (rMul_any g g' (by omega) (by omega))
  have CQ : Hid (∀ W' F f G g, Rz W' t1 F f v1 → Rn W' G g u1 → Calls Tryz.prog 69 #[.agg #[.bool t1, .slice F (dq v1.natAbs) f], .slice G (dq u1) g] W' (RQm W' sr r.num r.den)) := fun W' F f G g g1 g2 => by
    have h2 := rqof_h g1.1 g2 g1.zi (by rw [hu1]; exact Nat.mul_pos h0 k0) hr bl bl'
    rw [hsr]
    exact h2.mono fun _ _ ⟨A, c, A', c', he, n1, n2, hb⟩ => ⟨A, c, A', c', he, ⟨n1, rfl⟩, n2, hb⟩
  have HSR := hide hsr
  rw [← hsr]
  clear h0 k0 hl hl' kl kl' bl bl' hr hv1 ht1 hu1 hsr
  have HB := Bel.refl W
  go_enter Tryz.func27, Tryz.ntmps27
  go_wp2_with fail
  obtain ⟨W1, hW1⟩ : ∃ X, X = (((W.alloc (.cells #[.bool b, .slice A (dq z.natAbs) c, .slice A' (dq d) c'] 36)).alloc (.cells #[.bool b', .slice B (dq z'.natAbs) e, .slice B' (dq d') e'] 36)).alloc (.cells #[.bool false, .slice none 0 0, .slice none 0 0] 36)) := ⟨_, rfl⟩
  rw [← hW1]
  have HP : At W1 (W.heap.size) [.bool b, .slice A (dq z.natAbs) c, .slice A' (dq d) c'] := by rw [hW1]; exact (((at_new0 _ _ _).al _).al _)
  have HQ : At W1 (W.heap.size + 1) [.bool b', .slice B (dq z'.natAbs) e, .slice B' (dq d') e'] := by rw [hW1]; exact ((at_new1 _ _ _ _).al _)
  have HR : At W1 (W.heap.size + 1 + 1) [.bool false, .slice none 0 0, .slice none 0 0] := by rw [hW1]; exact (at_new2 _ _ _ _ _)
  replace HB : Bel W W1 := by rw [hW1]; exact (((HB.al _).al _).al _)
  replace h : Rz W1 b A c z := by rw [hW1]; exact (((h.al _).al _).al _)
  replace h' : Rn W1 A' c' d := by rw [hW1]; exact (((h'.al _).al _).al _)
  replace k : Rz W1 b' B e z' := by rw [hW1]; exact (((k.al _).al _).al _)
  replace k' : Rn W1 B' e' d' := by rw [hW1]; exact (((k'.al _).al _).al _)
  clear hW1
  have l0 := HP.lt
  have l1 := HQ.lt
  have l2 := HR.lt
  go_region_held3 (fun w' => w'.cell? ⟨W.heap.size, 0, none⟩ = some (.bool b) ∧ w'.cell? ⟨W.heap.size, 1, none⟩ = some (.slice A (dq z.natAbs) c) ∧ w'.cell? ⟨W.heap.size, 2, none⟩ = some (.slice A' (dq d) c') ∧ w'.cell? ⟨W.heap.size + 1, 0, none⟩ = some (.bool b') ∧ w'.cell? ⟨W.heap.size + 1, 1, none⟩ = some (.slice B (dq z'.natAbs) e) ∧ w'.cell? ⟨W.heap.size + 1, 2, none⟩ = some (.slice B' (dq d') e'))
    (refine ⟨(?_ : At _ W.heap.size [.bool b, .slice A (dq z.natAbs) c, .slice A' (dq d) c']).c0, (?_ : At _ W.heap.size [.bool b, .slice A (dq z.natAbs) c, .slice A' (dq d) c']).c1, (?_ : At _ W.heap.size [.bool b, .slice A (dq z.natAbs) c, .slice A' (dq d) c']).c2, (?_ : At _ (W.heap.size + 1) [.bool b', .slice B (dq z'.natAbs) e, .slice B' (dq d') e']).c0, (?_ : At _ (W.heap.size + 1) [.bool b', .slice B (dq z'.natAbs) e, .slice B' (dq d') e']).c1, (?_ : At _ (W.heap.size + 1) [.bool b', .slice B (dq z'.natAbs) e, .slice B' (dq d') e']).c2⟩ <;> (repeat (first | with_reducible exact HP | with_reducible exact HQ | (with_reducible refine At.dr ?_) | (with_reducible refine At.al ?_ _) | (with_reducible refine At.far ?_ (by omega) _))))
    (first | (go_at_call 96; (with_reducible refine (CM.out _ h.dr k.dr).mono ?_); rintro e w1 ⟨F, f, rfl, m1, hbk⟩; (with_reducible (replace HB := HB.dr.up hbk; replace HP := HP.dr.up hbk; replace HQ := HQ.dr.up hbk; replace HR := HR.dr.up hbk; replace h := h.dr.up hbk; replace h' := h'.dr.up hbk; replace k := k.dr.up hbk; replace k' := k'.dr.up hbk))) | (go_at_call 87; (with_reducible refine (CN.out _ h' k').mono ?_); rintro e w2 ⟨G, g, rfl, m2, hbk⟩; (with_reducible (replace HB := HB.up hbk; replace HP := HP.up hbk; replace HQ := HQ.up hbk; replace HR := HR.up hbk; replace h := h.up hbk; replace h' := h'.up hbk; replace k := k.up hbk; replace k' := k'.up hbk; replace m1 := m1.up hbk))) | (go_at_call 69; (with_reducible refine (CQ.out _ _ _ _ _ m1 m2).mono ?_); rintro e w3 ⟨X, i, Y, j, rfl, n1, n2, hbk⟩; (with_reducible (replace HB := HB.up hbk; replace HP := HP.up hbk; replace HQ := HQ.up hbk; replace HR := HR.up hbk; replace h := h.up hbk; replace h' := h'.up hbk; replace k := k.up hbk; replace k' := k'.up hbk)); have hr_0 := HR.c0; have hr_1 := HR.c1; have hr_2 := HR.c2; have hr_l := HR.lt; have hr_f0 := HR.f0; have hr_f1 := HR.f1; have hr_f2 := HR.f2) | fail)
  go_wp2_with fail
  refine bodyPost_ret (v := .agg #[.bool sr, .slice X (dq r.num.natAbs) i, .slice Y (dq r.den) j]) (by simp [results, Tryz.results27, go_sem, hr_0, hr_1, hr_2]) rfl ?_
  exact rqm_end n1 n2 HR HB (by omega)
set_option maxHeartbeats 8000000 in
theorem rqadd_h {r : Rat} (h : Rz W b A c z) (h' : Rn W A' c' d) (k : Rz W b' B e z') (k' : Rn W B' e' d') (h0 : 0 < d) (k0 : 0 < d') (hl : dq z.natAbs ≤ 4000) (hl' : dq d ≤ 4000) (kl : dq z'.natAbs ≤ 4000) (kl' : dq d' ≤ 4000) (b1 : dq (z * (d' : Int)).natAbs ≤ 99999) (b2 : dq (z' * (d : Int)).natAbs ≤ 99999) (bl : dq (z * (d' : Int) + z' * (d : Int)).natAbs ≤ 99999) (bl' : dq (d * d') ≤ 99999) (hr : mkRat (z * (d' : Int) + z' * (d : Int)) (d * d') = r) : Calls Tryz.prog 25 #[.agg #[.bool b, .slice A (dq z.natAbs) c, .slice A' (dq d) c'], .agg #[.bool b', .slice B (dq z'.natAbs) e, .slice B' (dq d') e']] W (RQm W (decide (r.num < 0)) r.num r.den) := by
  obtain ⟨v1, hv1⟩ : ∃ x, x = z * (d' : Int) := ⟨_, rfl⟩
  obtain ⟨t1, ht1⟩ : ∃ x, x = decide (v1 < 0) := ⟨_, rfl⟩
  obtain ⟨v2, hv2⟩ : ∃ x, x = z' * (d : Int) := ⟨_, rfl⟩
  obtain ⟨t2, ht2⟩ : ∃ x, x = decide (v2 < 0) := ⟨_, rfl⟩
  rw [← hv1] at b1
  rw [← hv2] at b2
  rw [← hv1, ← hv2] at bl hr
  obtain ⟨v3, hv3⟩ : ∃ x, x = v1 + v2 := ⟨_, rfl⟩
  obtain ⟨t3, ht3⟩ : ∃ x, x = decide (v3 < 0) := ⟨_, rfl⟩
  obtain ⟨u1, hu1⟩ : ∃ x, x = d * d' := ⟨_, rfl⟩
  obtain ⟨sr, hsr⟩ : ∃ x, x = decide (r.num < 0) := ⟨_, rfl⟩
  rw [← hv3] at bl hr
  rw [← hu1] at bl' hr
  have CM : Hid (∀ W', Rz W' b A c z → Rn W' B' e' d' → Calls Tryz.prog 96 #[.agg #[.bool b, .slice A (dq z.natAbs) c], .agg #[.bool false, .slice B' (dq d') e']] W' (RZv W' t1 v1)) := fun W' g g' => rzmul_h (b' := false) (z' := (d' : Int)) g ⟨g', (decide_eq_false (by omega)).symm⟩ (by omega) (by rw [Int.natAbs_natCast]; omega) ht1 hv1
  have CO : Hid (∀ W', Rz W' b' B e z' → Rn W' A' c' d → Calls Tryz.prog 96 #[.agg #[.bool b', .slice B (dq z'.natAbs) e], .agg #[.bool false, .slice A' (dq d) c']] W' (RZv W' t2 v2)) := fun W' g g' => rzmul_h (b' := false) (z' := (d : Int)) g ⟨g', (decide_eq_false (by omega)).symm⟩ (by omega) (by rw [Int.natAbs_natCast]; omega) ht2 hv2
  have CA : Hid (∀ W' F f G g, Rz W' t1 F f v1 → Rz W' t2 G g v2 → Calls Tryz.prog 95 #[.agg #[.bool t1, .slice F (dq v1.natAbs) f], .agg #[.bool t2, .slice G (dq v2.natAbs) g]] W' (RZv W' t3 v3)) := fun W' F f G g g1 g2 => rzadd_h g1 g2 b1 b2 ht3 hv3
  have CN : Hid (∀ W', Rn W' A' c' d → Rn W' B' e' d' → Calls Tryz.prog 87 #[.slice A' (dq d) c', .slice B' (dq d') e'] W' (RefRz W' u1)) := fun W' g g' => by
    rw [hu1]; exact (rMul_any g g' (by omega) (by omega))
  have CQ : Hid (∀ W' F f G g, Rz W' t3 F f v3 → Rn W' G g u1 → Calls Tryz.prog 69 #[.agg #[.bool t3, .slice F (dq v3.natAbs) f], .slice G (dq u1) g] W' (RQm W' sr r.num r.den)) := fun W' F f G g g1 g2 => by
    have h2 := rqof_h g1.1 g2 g1.zi (by rw [hu1]; exact Nat.mul_pos h0 k0) hr bl bl'
    rw [hsr]
    exact h2.mono fun _ _ ⟨A, c, A', c', he, n1, n2, hb⟩ => ⟨A, c, A', c', he, ⟨n1, rfl⟩, n2, hb⟩
  rw [← hsr]
  clear h0 k0 hl hl' kl kl' b1 b2 bl bl' hr hv1 ht1 hv2 ht2 hv3 ht3 hu1 hsr
  have HB := Bel.refl W
  go_enter Tryz.func25, Tryz.ntmps25
  go_wp2_with fail
  obtain ⟨W1, hW1⟩ : ∃ X, X = (((W.alloc (.cells #[.bool b, .slice A (dq z.natAbs) c, .slice A' (dq d) c'] 36)).alloc (.cells #[.bool b', .slice B (dq z'.natAbs) e, .slice B' (dq d') e'] 36)).alloc (.cells #[.bool false, .slice none 0 0, .slice none 0 0] 36)) := ⟨_, rfl⟩
  rw [← hW1]
  have HP : At W1 (W.heap.size) [.bool b, .slice A (dq z.natAbs) c, .slice A' (dq d) c'] := by rw [hW1]; exact (((at_new0 _ _ _).al _).al _)
  have HQ : At W1 (W.heap.size + 1) [.bool b', .slice B (dq z'.natAbs) e, .slice B' (dq d') e'] := by rw [hW1]; exact ((at_new1 _ _ _ _).al _)
  have HR : At W1 (W.heap.size + 1 + 1) [.bool false, .slice none 0 0, .slice none 0 0] := by rw [hW1]; exact (at_new2 _ _ _ _ _)
  replace HB : Bel W W1 := by rw [hW1]; exact (((HB.al _).al _).al _)
  replace h : Rz W1 b A c z := by rw [hW1]; exact (((h.al _).al _).al _)
  replace h' : Rn W1 A' c' d := by rw [hW1]; exact (((h'.al _).al _).al _)
  replace k : Rz W1 b' B e z' := by rw [hW1]; exact (((k.al _).al _).al _)
  replace k' : Rn W1 B' e' d' := by rw [hW1]; exact (((k'.al _).al _).al _)
  clear hW1
  have l0 := HP.lt
  have l1 := HQ.lt
  have l2 := HR.lt
  go_region_held3 (fun w' => w'.cell? ⟨W.heap.size, 0, none⟩ = some (.bool b) ∧ w'.cell? ⟨W.heap.size, 1, none⟩ = some (.slice A (dq z.natAbs) c) ∧ w'.cell? ⟨W.heap.size, 2, none⟩ = some (.slice A' (dq d) c') ∧ w'.cell? ⟨W.heap.size + 1, 0, none⟩ = some (.bool b') ∧ w'.cell? ⟨W.heap.size + 1, 1, none⟩ = some (.slice B (dq z'.natAbs) e) ∧ w'.cell? ⟨W.heap.size + 1, 2, none⟩ = some (.slice B' (dq d') e'))
    (refine ⟨(?_ : At _ W.heap.size [.bool b, .slice A (dq z.natAbs) c, .slice A' (dq d) c']).c0, (?_ : At _ W.heap.size [.bool b, .slice A (dq z.natAbs) c, .slice A' (dq d) c']).c1, (?_ : At _ W.heap.size [.bool b, .slice A (dq z.natAbs) c, .slice A' (dq d) c']).c2, (?_ : At _ (W.heap.size + 1) [.bool b', .slice B (dq z'.natAbs) e, .slice B' (dq d') e']).c0, (?_ : At _ (W.heap.size + 1) [.bool b', .slice B (dq z'.natAbs) e, .slice B' (dq d') e']).c1, (?_ : At _ (W.heap.size + 1) [.bool b', .slice B (dq z'.natAbs) e, .slice B' (dq d') e']).c2⟩ <;> (repeat (first | with_reducible exact HP | with_reducible exact HQ | (with_reducible refine At.dr ?_) | (with_reducible refine At.al ?_ _) | (with_reducible refine At.far ?_ (by omega) _))))
    (first | (go_at_call 96; (with_reducible refine (CM.out _ h.dr k'.dr).mono ?_); rintro e w1 ⟨F1, f1, rfl, m1, hbk⟩; (with_reducible (replace HB := HB.dr.up hbk; replace HP := HP.dr.up hbk; replace HQ := HQ.dr.up hbk; replace HR := HR.dr.up hbk; replace h := h.dr.up hbk; replace h' := h'.dr.up hbk; replace k := k.dr.up hbk; replace k' := k'.dr.up hbk))) | (go_at_call 96; (with_reducible refine (CO.out _ k h').mono ?_); rintro e w2 ⟨F2, f2, rfl, m2, hbk⟩; (with_reducible (replace HB := HB.up hbk; replace HP := HP.up hbk; replace HQ := HQ.up hbk; replace HR := HR.up hbk; replace h := h.up hbk; replace h' := h'.up hbk; replace k := k.up hbk; replace k' := k'.up hbk; replace m1 := m1.up hbk))) | (go_at_call 95; (with_reducible refine (CA.out _ _ _ _ _ m1 m2).mono ?_); rintro e w3 ⟨F3, f3, rfl, m3, hbk⟩; (with_reducible (replace HB := HB.up hbk; replace HP := HP.up hbk; replace HQ := HQ.up hbk; replace HR := HR.up hbk; replace h := h.up hbk; replace h' := h'.up hbk; replace k := k.up hbk; replace k' := k'.up hbk))) | (go_at_call 87; (with_reducible refine (CN.out _ h' k').mono ?_); rintro e w4 ⟨G, g, rfl, m4, hbk⟩; (with_reducible (replace HB := HB.up hbk; replace HP := HP.up hbk; replace HQ := HQ.up hbk; replace HR := HR.up hbk; replace h := h.up hbk; replace h' := h'.up hbk; replace k := k.up hbk; replace k' := k'.up hbk; replace m3 := m3.up hbk))) | (go_at_call 69; (with_reducible refine (CQ.out _ _ _ _ _ m3 m4).mono ?_); rintro e w5 ⟨X, i, Y, j, rfl, n1, n2, hbk⟩; (with_reducible (replace HB := HB.up hbk; replace HP := HP.up hbk; replace HQ := HQ.up hbk; replace HR := HR.up hbk; replace h := h.up hbk; replace h' := h'.up hbk; replace k := k.up hbk; replace k' := k'.up hbk)); have hr_0 := HR.c0; have hr_1 := HR.c1; have hr_2 := HR.c2; have hr_l := HR.lt; have hr_f0 := HR.f0; have hr_f1 := HR.f1; have hr_f2 := HR.f2) | fail)
  go_wp2_with fail
  refine bodyPost_ret (v := .agg #[.bool sr, .slice X (dq r.num.natAbs) i, .slice Y (dq r.den) j]) (by simp [results, Tryz.results25, go_sem, hr_0, hr_1, hr_2]) rfl ?_
  exact rqm_end n1 n2 HR HB (by omega)
end
end Go.Proofs.YtfcamfkimnlfgaaGreatDoor
end

section
/- The document's own fractions: QAdd, QMul of fractions in lowest terms, QFloor, QCmp. Conditions: terms of at most 1000 words. -/
open Go.RowKit
set_option maxRecDepth 100000
namespace Go.Proofs.YtfcamfkimnlfgaaGreatDoor
section
variable {W : World} {b b' s : Bool} {A A' B B' : Option Addr} {c c' e e' d K : Nat} {z v : Int} {r r' : Rat}
theorem dq_bw {m k : Nat} (h : m < W32 ^ k) (hk : k ≤ 33000) : dq m ≤ 99999 := Nat.le_trans (dq_words h) (by omega)
theorem bd_q (h : Bd r K) (hK : K ≤ 1000) : dq r.num.natAbs ≤ 4000 ∧ dq r.den ≤ 4000 := ⟨Nat.le_trans (dq_words h.1) (by omega), Nat.le_trans (dq_words h.2) (by omega)⟩
theorem rqadd_c (hb : Bd r K) (hb' : Bd r' K) (hK : K ≤ 1000) (h : Rz W b A c r.num) (h' : Rn W A' c' r.den) (k : Rz W b' B e r'.num) (k' : Rn W B' e' r'.den) :
    Calls Tryz.prog 25 #[.agg #[.bool b, .slice A (dq r.num.natAbs) c, .slice A' (dq r.den) c'], .agg #[.bool b', .slice B (dq r'.num.natAbs) e, .slice B' (dq r'.den) e']] W (RQm W (decide ((r + r').num < 0)) (r + r').num (r + r').den) := by
  have q := bd_q hb hK
  have q' := bd_q hb' hK
  have t := tt_add hb.tt hb'.tt
  exact rqadd_h h h' k k' r.den_pos r'.den_pos q.1 q.2 q'.1 q'.2 (dq_bw (bd_zmul hb.1 hb'.2) (by omega)) (dq_bw (bd_zmul hb'.1 hb.2) (by omega)) (dq_bw t.2.2.1 (by omega)) (dq_bw t.2.2.2 (by omega)) t.2.1
theorem rqmul_c (hb : Bd r K) (hb' : Bd r' K) (hK : K ≤ 1000) (h : Rz W b A c r.num) (h' : Rn W A' c' r.den) (k : Rz W b' B e r'.num) (k' : Rn W B' e' r'.den) :
    Calls Tryz.prog 27 #[.agg #[.bool b, .slice A (dq r.num.natAbs) c, .slice A' (dq r.den) c'], .agg #[.bool b', .slice B (dq r'.num.natAbs) e, .slice B' (dq r'.den) e']] W (RQm W (decide ((r * r').num < 0)) (r * r').num (r * r').den) := by
  have q := bd_q hb hK
  have q' := bd_q hb' hK
  have t := tt_mul hb.tt hb'.tt
  exact rqmul_h h h' k k' r.den_pos r'.den_pos q.1 q.2 q'.1 q'.2 (dq_bw t.2.2.1 (by omega)) (dq_bw t.2.2.2 (by omega)) t.2.1
theorem rqneg_c (h : Rz W b A c r.num) (h' : Rn W A' c' r.den) (hs : s = decide ((-r).num < 0)) :
    Calls Tryz.prog 23 #[.agg #[.bool b, .slice A (dq r.num.natAbs) c, .slice A' (dq r.den) c']] W (RQm W s (-r).num (-r).den) := rqneg_h h h' hs (Rat.neg_num r)
set_option maxHeartbeats 4000000 in
theorem rqfloor_h (h : Rz W b A c z) (h' : Rn W A' c' d) (h0 : 0 < d) (hl : dq z.natAbs ≤ 4000) (hl' : dq d ≤ 4000) (hv : z / (d : Int) = v) (hs : s = decide (v < 0)) :
    Calls Tryz.prog 30 #[.agg #[.bool b, .slice A (dq z.natAbs) c, .slice A' (dq d) c']] W (RZv W s v) := by
  obtain ⟨u, hu⟩ : ∃ u, u = (z % (d : Int)).natAbs := ⟨_, rfl⟩
  have CD : Hid (∀ W', Bel W W' → Calls Tryz.prog 100 #[.agg #[.bool b, .slice A (dq z.natAbs) c], .agg #[.bool false, .slice A' (dq d) c']] W' (RzD W' s v.natAbs u)) := fun W' hb => by
    rw [hu]
    exact rzdiv_h (b' := false) (z' := (d : Int)) (h.up hb.hid) ⟨h'.up hb.hid, (decide_eq_false (by omega)).symm⟩ (by omega) (by omega) (by rw [Int.natAbs_natCast]; omega) hv rfl hs
  have HS := hide hs
  clear h h' h0 hl hl' hv hs hu
  have HB := Bel.refl W
  go_enter Tryz.func30, Tryz.ntmps30
  go_upto_region 2 with (first | (go_at_call 100; (with_reducible refine (CD.out _ ((HB.al _).al _)).mono ?_); rintro e w1 ⟨B, e1, B', e2, rfl, nz, nr, hbk⟩; (with_reducible (have HR : At w1 (W.heap.size + 1) [.bool false, .slice none 0 0] := At.up (at_new1 _ _ _ _) hbk; replace HB := ((HB.al _).al _).up hbk))) | fail)
  obtain ⟨W2, hW2⟩ : ∃ X, X = (w1.alloc (.cells #[.bool s, .slice B (dq v.natAbs) e1] 34)).alloc (.cells #[.bool false, .slice B' (dq u) e2] 34) := ⟨_, rfl⟩
  rw [← hW2]
  have HQ : At W2 w1.heap.size [.bool s, .slice B (dq v.natAbs) e1] := by rw [hW2]; exact (at_new0 _ _ _).al _
  replace HR : At W2 (W.heap.size + 1) [.bool false, .slice none 0 0] := by rw [hW2]; exact (HR.al _).al _
  replace HB : Bel W W2 := by rw [hW2]; exact (HB.al _).al _
  replace nz : Rn W2 B e1 v.natAbs := by rw [hW2]; exact (nz.al _).al _
  clear hW2
  have hr_0 := HR.c0
  have hr_1 := HR.c1
  have hr_l := HR.lt
  have hr_f0 := HR.f0
  have hr_f1 := HR.f1
  have hq_0 := HQ.c0
  have hq_1 := HQ.c1
  have hq_l := HQ.lt
  go_wp2_with fail
  refine bodyPost_ret (v := .agg #[.bool s, .slice B (dq v.natAbs) e1]) (by simp [results, Tryz.results30, go_sem, hr_0, hr_1]) rfl ?_
  obtain ⟨_, g1, g2⟩ := rn_two HR nz HB (by omega) s (dq v.natAbs)
  exact ⟨B, e1, rfl, ⟨g1, HS⟩, g2⟩
end
end Go.Proofs.YtfcamfkimnlfgaaGreatDoor
end
