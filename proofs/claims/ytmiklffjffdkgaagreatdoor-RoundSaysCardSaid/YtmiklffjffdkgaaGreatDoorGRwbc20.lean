/- Several texts in one, each with its own sentence and conditions. -/
import Derived.Test.YtmiklffjffdkgaaGreatDoorQf
import Derived.Test.YtmiklffjffdkgaaGreatDoorGRwbc9
import Derived.Test.YtmiklffjffdkgaaGreatDoorGRwbc16
import Derived.Test.YtmiklffjffdkgaaGreatDoorGRwbc13
import Derived.Deep.RegionHeld3
import Derived.Test.YtmiklffjffdkgaaGreatDoorQe
import Derived.Test.YtmiklffjffdkgaaGreatDoorGRwbc8
import Derived.Deep.LoopGhost
import Derived.Test.YtmiklffjffdkgaaGreatDoorGRwbc1
section
/- A fraction that came in; bounds of sums, products, floors. No conditions. -/
open Go.RowKit
set_option maxRecDepth 100000
namespace Go.Proofs.YtmiklffjffdkgaaGreatDoor
def Bd (r : Rat) (K : Nat) : Prop := r.num.natAbs < W32 ^ K ∧ r.den < W32 ^ K
theorem Bd.more {r : Rat} {K L : Nat} (h : Bd r K) (hl : K ≤ L) : Bd r L := ⟨Nat.lt_of_lt_of_le h.1 (Nat.pow_le_pow_right (by decide) hl), Nat.lt_of_lt_of_le h.2 (Nat.pow_le_pow_right (by decide) hl)⟩
theorem Bd.tt {r : Rat} {K : Nat} (h : Bd r K) : TT r.num r.den r K := ⟨r.den_pos, Rat.mkRat_self r, h.1, h.2⟩
theorem Bd.add {r r' : Rat} {K : Nat} (h : Bd r K) (h' : Bd r' K) : Bd (r + r') (K + K + 1) := by
  obtain ⟨h1, h2, h3, h4⟩ := tt_add h.tt h'.tt
  exact tt_bd ⟨h1, h2, h3, Nat.lt_of_lt_of_le h4 (Nat.pow_le_pow_right (by decide) (by omega))⟩
theorem Bd.mul {r r' : Rat} {K : Nat} (h : Bd r K) (h' : Bd r' K) : Bd (r * r') (K + K) := by
  obtain ⟨h1, h2, h3, h4⟩ := tt_mul h.tt h'.tt
  exact tt_bd ⟨h1, h2, h3, h4⟩
theorem Bd.neg {r : Rat} {K : Nat} (h : Bd r K) : Bd (-r) K := ⟨by rw [Rat.neg_num, Int.natAbs_neg]; exact h.1, h.2⟩
theorem bd_int {z : Int} {K : Nat} (h : z.natAbs < W32 ^ K) (hK : 0 < K) : Bd (z : Rat) K := ⟨h, Nat.one_lt_pow (by omega) (by decide)⟩
theorem bd_floor {r : Rat} {K : Nat} (h : Bd r K) : r.floor.natAbs < W32 ^ K := by
  rw [Rat.floor_def]
  exact Nat.lt_of_le_of_lt (Int.natAbs_ediv_le_natAbs _ _) h.1
theorem QA.more {W : World} {b : Bool} {A A' : Option Addr} {n c n' c' K L : Nat} {r : Rat} (h : QA W b A n c A' n' c' r K) (hl : K ≤ L) : QA W b A n c A' n' c' r L := by
  obtain ⟨z, d, h1, h2, h3, h4, h5⟩ := h
  exact ⟨z, d, h1, h2, h3, Nat.lt_of_lt_of_le h4 (Nat.pow_le_pow_right (by decide) hl), Nat.lt_of_lt_of_le h5 (Nat.pow_le_pow_right (by decide) hl)⟩
/-- What came in: a sign and two slices of words. -/
theorem qa_in {w : World} {b : Bool} {A A' : Option Addr} {n c n' c' : Nat} {ws ws' : List Nat} (h : n = ws.length ∧ n ≤ c ∧ Rd U32 w w.heap.size A ws ∧ Good32 ws) (h' : n' = ws'.length ∧ n' ≤ c' ∧ Rd U32 w w.heap.size A' ws' ∧ Good32 ws') (hn : n ≤ 12 ∧ n' ≤ 12) :
    QA w b A n c A' n' c' (mkRat (zi b (val W32 ws)) (val W32 ws')) 12 := by
  have lt : ∀ {l : List Nat} {k : Nat}, Good32 l → k = l.length → k ≤ 12 → val W32 l < W32 ^ 12 := fun hg hk h12 => Nat.lt_of_lt_of_le (val_lt _ hg) (Nat.pow_le_pow_right (by decide) (by omega))
  exact ⟨_, _, za_of (nm_later (later_of h (by omega)) (Below.refl _ _)), nm_later (later_of h' (by omega)) (Below.refl _ _), rfl, by rw [zi_abs]; exact lt h.2.2.2 h.1 hn.1, lt h'.2.2.2 h'.1 hn.2⟩
section
variable {W : World} {p q : Nat} {v0 v1 v2 x y z : Value} {vs : List Value}
theorem At.put3 (h : At W p [v0, v1, v2]) (x y z : Value) : At (((W.setCell ⟨p, 0, none⟩ x).setCell ⟨p, 1, none⟩ y).setCell ⟨p, 2, none⟩ z) p [x, y, z] :=
  ((h.put (i := 0) (by simp) x).put (i := 1) (by simp) y).put (i := 2) (by simp) z
theorem At.far3 (h : At W p vs) (hq : q ≠ p) (x y z : Value) : At (((W.setCell ⟨q, 0, none⟩ x).setCell ⟨q, 1, none⟩ y).setCell ⟨q, 2, none⟩ z) p vs :=
  ((h.far hq x).far hq y).far hq z
theorem ZA.put3 {s : Bool} {A : Option Addr} {n c : Nat} {u : Int} {b0 : Bool} {B0 B1 : Option Addr} {k0 d0 k1 d1 : Nat} (h : ZA W s A n c u) (hp : At W p [.bool b0, .slice B0 k0 d0, .slice B1 k1 d1]) {b : Bool} {B B' : Option Addr} {k d k' d' : Nat} :
    ZA (((W.setCell ⟨p, 0, none⟩ (.bool b)).setCell ⟨p, 1, none⟩ (.slice B k d)).setCell ⟨p, 2, none⟩ (.slice B' k' d')) s A n c u := ⟨h.1.put3 hp now3, h.2⟩
end
end Go.Proofs.YtmiklffjffdkgaaGreatDoor
end

section
/- The document's own fractions: QSign, QNeg, QInv, QMul, QAdd. Conditions: less than 100000 fours of digits. -/
open Go.RowKit
set_option maxRecDepth 100000
namespace Go.Proofs.YtmiklffjffdkgaaGreatDoor
/-- What a call leaves that returns one of the document's own fractions. -/
def RQm (W : World) (s : Bool) (v : Int) (d : Nat) (e : Ending) (w' : World) : Prop := ∃ A c A' c', e = .returned (.agg #[.bool s, .slice A (dq v.natAbs) c, .slice A' (dq d) c']) ∧ Rz w' s A c v ∧ Rn w' A' c' d ∧ Hid (Below W.heap.size W w')
theorem rqm_end {w0 W : World} {s t0 : Bool} {A A' B0 B1 : Option Addr} {c c' d p k0 d0 k1 d1 : Nat} {v : Int} (h : Rz W s A c v) (h' : Rn W A' c' d) (hr : At W p [.bool t0, .slice B0 k0 d0, .slice B1 k1 d1]) (hb : Bel w0 W) (hp : w0.heap.size ≤ p) :
    RQm w0 s v d (.returned (.agg #[.bool s, .slice A (dq v.natAbs) c, .slice A' (dq d) c'])) (((W.setCell ⟨p, 0, none⟩ (.bool s)).setCell ⟨p, 1, none⟩ (.slice A (dq v.natAbs) c)).setCell ⟨p, 2, none⟩ (.slice A' (dq d) c')) :=
  ⟨A, c, A', c', rfl, ⟨h.1.put3 hr, h.2⟩, h'.put3 hr, below3 hb hp _ _ _⟩
section
variable {W : World} {b b' s s1 s2 : Bool} {A A' B B' : Option Addr} {c c' e e' d d' : Nat} {z z' v : Int}
set_option maxHeartbeats 2000000 in
theorem rqsign_h (h : Rz W b A c z) (hv : z.sign = v) : Calls Tryz.prog 44 #[.agg #[.bool b, .slice A (dq z.natAbs) c, .slice A' (dq d) c']] W (IntPost W v) := by
  have CS : Hid (∀ W', Bel W W' → Calls Tryz.prog 84 #[.agg #[.bool b, .slice A (dq z.natAbs) c]] W' (IntPost W' v)) := fun W' hb => rzsign_h (h.up hb.hid) hv
  clear h hv
  have HB := Bel.refl W
  go_enter Tryz.func44, Tryz.ntmps44
  go_wp2_with (first | (go_at_call 84; (with_reducible refine (CS.out _ (HB.al _)).mono ?_); rintro e w1 ⟨rfl, hbk⟩; replace HB := (HB.al _).up hbk) | fail)
  go_ret
  exact ⟨rfl, HB⟩
set_option maxHeartbeats 8000000 in
theorem rqneg_h (h : Rz W b A c z) (h' : Rn W A' c' d) (hs : s = decide (v < 0)) (hv : v = -z) : Calls Tryz.prog 40 #[.agg #[.bool b, .slice A (dq z.natAbs) c, .slice A' (dq d) c']] W (RQm W s v d) := by
  have CN : Hid (∀ W', Rz W' b A c z → Calls Tryz.prog 82 #[.agg #[.bool b, .slice A (dq z.natAbs) c]] W' (RZv W' s v)) := fun W' g => rzneg_h g hs hv
  clear hv hs
  have HB := Bel.refl W
  go_enter Tryz.func40, Tryz.ntmps40
  go_wp2_with fail
  obtain ⟨W1, hW1⟩ : ∃ X, X = ((W.alloc (.cells #[.bool b, .slice A (dq z.natAbs) c, .slice A' (dq d) c'] 38)).alloc (.cells #[.bool false, .slice none 0 0, .slice none 0 0] 38)) := ⟨_, rfl⟩
  rw [← hW1]
  have HP : At W1 (W.heap.size) [.bool b, .slice A (dq z.natAbs) c, .slice A' (dq d) c'] := by rw [hW1]; exact ((at_new0 _ _ _).al _)
  have HR : At W1 (W.heap.size + 1) [.bool false, .slice none 0 0, .slice none 0 0] := by rw [hW1]; exact (at_new1 _ _ _ _)
  replace HB : Bel W W1 := by rw [hW1]; exact ((HB.al _).al _)
  replace h : Rz W1 b A c z := by rw [hW1]; exact ((h.al _).al _)
  replace h' : Rn W1 A' c' d := by rw [hW1]; exact ((h'.al _).al _)
  clear hW1
  have l0 := HP.lt
  have l1 := HR.lt
  go_region_held3 (fun w' => w'.cell? ⟨W.heap.size, 0, none⟩ = some (.bool b) ∧ w'.cell? ⟨W.heap.size, 1, none⟩ = some (.slice A (dq z.natAbs) c) ∧ w'.cell? ⟨W.heap.size, 2, none⟩ = some (.slice A' (dq d) c'))
    (refine ⟨(?_ : At _ W.heap.size [.bool b, .slice A (dq z.natAbs) c, .slice A' (dq d) c']).c0, (?_ : At _ W.heap.size [.bool b, .slice A (dq z.natAbs) c, .slice A' (dq d) c']).c1, (?_ : At _ W.heap.size [.bool b, .slice A (dq z.natAbs) c, .slice A' (dq d) c']).c2⟩ <;> (repeat (first | with_reducible exact HP | (with_reducible refine At.dr ?_) | (with_reducible refine At.al ?_ _) | (with_reducible refine At.far ?_ (by omega) _))))
    (first | (go_at_call 82; (with_reducible refine (CN.out _ h.dr).mono ?_); rintro e w1 ⟨F, f, rfl, nz, hbk⟩; (with_reducible (replace HB := HB.dr.up hbk; replace HP := HP.dr.up hbk; replace HR := HR.dr.up hbk; replace h := h.dr.up hbk; replace h' := h'.dr.up hbk)); have hr_0 := HR.c0; have hr_1 := HR.c1; have hr_2 := HR.c2; have hr_l := HR.lt; have hr_f0 := HR.f0; have hr_f1 := HR.f1; have hr_f2 := HR.f2) | fail)
  go_wp2_with fail
  refine bodyPost_ret (v := .agg #[.bool s, .slice F (dq v.natAbs) f, .slice A' (dq d) c']) (by simp [results, Tryz.results40, go_sem, hr_0, hr_1, hr_2]) rfl ?_
  exact rqm_end nz h' HR HB (by omega)
set_option maxHeartbeats 8000000 in
theorem rqinv_h (h : Rz W b A c z) (h' : Rn W A' c' d) (hs : s = (b && decide (0 < d))) (hv : v.natAbs = d) (hs2 : s = decide (v < 0)) : Calls Tryz.prog 48 #[.agg #[.bool b, .slice A (dq z.natAbs) c, .slice A' (dq d) c']] W (RQm W s v z.natAbs) := by
  have CN : Hid (∀ W', Rn W' A' c' d → Calls Tryz.prog 24 #[.bool b, .slice A' (dq d) c'] W' (RZb W' s A' (dq d) c' d)) := fun W' g => rzof_h g hs
  have HV := hide hv
  have HS := hide hs2
  clear hs hv hs2
  have HB := Bel.refl W
  go_enter Tryz.func48, Tryz.ntmps48
  go_wp2_with fail
  obtain ⟨W1, hW1⟩ : ∃ X, X = ((W.alloc (.cells #[.bool b, .slice A (dq z.natAbs) c, .slice A' (dq d) c'] 38)).alloc (.cells #[.bool false, .slice none 0 0, .slice none 0 0] 38)) := ⟨_, rfl⟩
  rw [← hW1]
  have HP : At W1 (W.heap.size) [.bool b, .slice A (dq z.natAbs) c, .slice A' (dq d) c'] := by rw [hW1]; exact ((at_new0 _ _ _).al _)
  have HR : At W1 (W.heap.size + 1) [.bool false, .slice none 0 0, .slice none 0 0] := by rw [hW1]; exact (at_new1 _ _ _ _)
  replace HB : Bel W W1 := by rw [hW1]; exact ((HB.al _).al _)
  replace h : Rz W1 b A c z := by rw [hW1]; exact ((h.al _).al _)
  replace h' : Rn W1 A' c' d := by rw [hW1]; exact ((h'.al _).al _)
  clear hW1
  have l0 := HP.lt
  have l1 := HR.lt
  go_region_held3 (fun w' => w'.cell? ⟨W.heap.size, 0, none⟩ = some (.bool b) ∧ w'.cell? ⟨W.heap.size, 1, none⟩ = some (.slice A (dq z.natAbs) c) ∧ w'.cell? ⟨W.heap.size, 2, none⟩ = some (.slice A' (dq d) c'))
    (refine ⟨(?_ : At _ W.heap.size [.bool b, .slice A (dq z.natAbs) c, .slice A' (dq d) c']).c0, (?_ : At _ W.heap.size [.bool b, .slice A (dq z.natAbs) c, .slice A' (dq d) c']).c1, (?_ : At _ W.heap.size [.bool b, .slice A (dq z.natAbs) c, .slice A' (dq d) c']).c2⟩ <;> (repeat (first | with_reducible exact HP | (with_reducible refine At.dr ?_) | (with_reducible refine At.al ?_ _) | (with_reducible refine At.far ?_ (by omega) _))))
    (first | (go_at_call 24; (with_reducible refine (CN.out _ h'.dr).mono ?_); rintro e w1 ⟨rfl, nz, hbk⟩; (with_reducible (replace HB := HB.dr.up hbk; replace HP := HP.dr.up hbk; replace HR := HR.dr.up hbk; replace h := h.dr.up hbk; replace h' := h'.dr.up hbk)); have hr_0 := HR.c0; have hr_1 := HR.c1; have hr_2 := HR.c2; have hr_l := HR.lt; have hr_f0 := HR.f0; have hr_f1 := HR.f1; have hr_f2 := HR.f2) | fail)
  go_wp2_with fail
  refine bodyPost_ret (v := .agg #[.bool s, .slice A' (dq d) c', .slice A (dq z.natAbs) c]) (by simp [results, Tryz.results48, go_sem, hr_0, hr_1, hr_2]) rfl ?_
  have hv := HV.out
  subst hv
  exact rqm_end ⟨nz, HS⟩ h.1 HR HB (by omega)
set_option maxHeartbeats 8000000 in
theorem rqmul_h {r : Rat} (h : Rz W b A c z) (h' : Rn W A' c' d) (k : Rz W b' B e z') (k' : Rn W B' e' d') (h0 : 0 < d) (k0 : 0 < d') (hl : dq z.natAbs ≤ 4000) (hl' : dq d ≤ 4000) (kl : dq z'.natAbs ≤ 4000) (kl' : dq d' ≤ 4000) (bl : dq (z * z').natAbs ≤ 99999) (bl' : dq (d * d') ≤ 99999) (hr : mkRat (z * z') (d * d') = r) : Calls Tryz.prog 47 #[.agg #[.bool b, .slice A (dq z.natAbs) c, .slice A' (dq d) c'], .agg #[.bool b', .slice B (dq z'.natAbs) e, .slice B' (dq d') e']] W (RQm W (decide (r.num < 0)) r.num r.den) := by
  obtain ⟨v1, hv1⟩ : ∃ x, x = z * z' := ⟨_, rfl⟩
  obtain ⟨t1, ht1⟩ : ∃ x, x = decide (v1 < 0) := ⟨_, rfl⟩
  obtain ⟨u1, hu1⟩ : ∃ x, x = d * d' := ⟨_, rfl⟩
  obtain ⟨sr, hsr⟩ : ∃ x, x = decide (r.num < 0) := ⟨_, rfl⟩
  rw [← hv1] at bl hr
  rw [← hu1] at bl' hr
  have CM : Hid (∀ W', Rz W' b A c z → Rz W' b' B e z' → Calls Tryz.prog 81 #[.agg #[.bool b, .slice A (dq z.natAbs) c], .agg #[.bool b', .slice B (dq z'.natAbs) e]] W' (RZv W' t1 v1)) := fun W' g g' => rzmul_h g g' (by omega) (by omega) ht1 hv1
  have CN : Hid (∀ W', Rn W' A' c' d → Rn W' B' e' d' → Calls Tryz.prog 49 #[.slice A' (dq d) c', .slice B' (dq d') e'] W' (RefRz W' u1)) := fun W' g g' => by
    rw [hu1]; exact (rMul_any g g' (by omega) (by omega))
  have CQ : Hid (∀ W' F f G g, Rz W' t1 F f v1 → Rn W' G g u1 → Calls Tryz.prog 23 #[.agg #[.bool t1, .slice F (dq v1.natAbs) f], .slice G (dq u1) g] W' (RQm W' sr r.num r.den)) := fun W' F f G g g1 g2 => by
    have h2 := rqof_h g1.1 g2 g1.zi (by rw [hu1]; exact Nat.mul_pos h0 k0) hr bl bl'
    rw [hsr]
    exact h2.mono fun _ _ ⟨A, c, A', c', he, n1, n2, hb⟩ => ⟨A, c, A', c', he, ⟨n1, rfl⟩, n2, hb⟩
  have HSR := hide hsr
  rw [← hsr]
  clear h0 k0 hl hl' kl kl' bl bl' hr hv1 ht1 hu1 hsr
  have HB := Bel.refl W
  go_enter Tryz.func47, Tryz.ntmps47
  go_wp2_with fail
  obtain ⟨W1, hW1⟩ : ∃ X, X = (((W.alloc (.cells #[.bool b, .slice A (dq z.natAbs) c, .slice A' (dq d) c'] 38)).alloc (.cells #[.bool b', .slice B (dq z'.natAbs) e, .slice B' (dq d') e'] 38)).alloc (.cells #[.bool false, .slice none 0 0, .slice none 0 0] 38)) := ⟨_, rfl⟩
  rw [← hW1]
  have HP : At W1 (W.heap.size) [.bool b, .slice A (dq z.natAbs) c, .slice A' (dq d) c'] := by rw [hW1]; exact (((at_new0 _ _ _).al _).al _)
  have HQ : At W1 (W.heap.size + 1) [.bool b', .slice B (dq z'.natAbs) e, .slice B' (dq d') e'] := by rw [hW1]; exact ((at_new1 _ _ _ _).al _)
  have HR : At W1 (W.heap.size + 1 + 1) [.bool false, .slice none 0 0, .slice none 0 0] := by rw [hW1]; exact (at_new2 _ _ _ _ _)
  replace HB : Bel W W1 := by rw [hW1]; exact (((HB.al _).al _).al _)
  replace h : Rz W1 b A c z := by rw [hW1]; exact (((h.al _).al _).al _)
  replace h' : Rn W1 A' c' d := by rw [hW1]; exact (((h'.al _).al _).al _)
  replace k : Rz W1 b' B e z' := by rw [hW1]; exact (((k.al _).al _).al _)
  replace k' : Rn W1 B' e' d' := by rw [hW1]; exact (((k'.al _).al _).al _)
  clear hW1
  have l0 := HP.lt
  have l1 := HQ.lt
  have l2 := HR.lt
  go_region_held3 (fun w' => w'.cell? ⟨W.heap.size, 0, none⟩ = some (.bool b) ∧ w'.cell? ⟨W.heap.size, 1, none⟩ = some (.slice A (dq z.natAbs) c) ∧ w'.cell? ⟨W.heap.size, 2, none⟩ = some (.slice A' (dq d) c') ∧ w'.cell? ⟨W.heap.size + 1, 0, none⟩ = some (.bool b') ∧ w'.cell? ⟨W.heap.size + 1, 1, none⟩ = some (.slice B (dq z'.natAbs) e) ∧ w'.cell? ⟨W.heap.size + 1, 2, none⟩ = some (.slice B' (dq d') e'))
    (refine ⟨(?_ : At _ W.heap.size [.bool b, .slice A (dq z.natAbs) c, .slice A' (dq d) c']).c0, (?_ : At _ W.heap.size [.bool b, .slice A (dq z.natAbs) c, .slice A' (dq d) c']).c1, (?_ : At _ W.heap.size [.bool b, .slice A (dq z.natAbs) c, .slice A' (dq d) c']).c2, (?_ : At _ (W.heap.size + 1) [.bool b', .slice B (dq z'.natAbs) e, .slice B' (dq d') e']).c0, (?_ : At _ (W.heap.size + 1) [.bool b', .slice B (dq z'.natAbs) e, .slice B' (dq d') e']).c1, (?_ : At _ (W.heap.size + 1) [.bool b', .slice B (dq z'.natAbs) e, .slice B' (dq d') e']).c2⟩ <;> (repeat (first | with_reducible exact HP | with_reducible exact HQ | (with_reducible refine At.dr ?_) | (with_reducible refine At.al ?_ _) | (with_reducible refine At.far ?_ (by omega) _))))
    (first | (go_at_call 81; (with_reducible refine (CM.out _ h.dr k.dr).mono ?_); rintro e w1 ⟨F, f, rfl, m1, hbk⟩; (with_reducible (replace HB := HB.dr.up hbk; replace HP := HP.dr.up hbk; replace HQ := HQ.dr.up hbk; replace HR := HR.dr.up hbk; replace h := h.dr.up hbk; replace h' := h'.dr.up hbk; replace k := k.dr.up hbk; replace k' := k'.dr.up hbk))) | (go_at_call 49; (with_reducible refine (CN.out _ h' k').mono ?_); rintro e w2 ⟨G, g, rfl, m2, hbk⟩; (with_reducible (replace HB := HB.up hbk; replace HP := HP.up hbk; replace HQ := HQ.up hbk; replace HR := HR.up hbk; replace h := h.up hbk; replace h' := h'.up hbk; replace k := k.up hbk; replace k' := k'.up hbk; replace m1 := m1.up hbk))) | (go_at_call 23; (with_reducible refine (CQ.out _ _ _ _ _ m1 m2).mono ?_); rintro e w3 ⟨X, i, Y, j, rfl, n1, n2, hbk⟩; (with_reducible (replace HB := HB.up hbk; replace HP := HP.up hbk; replace HQ := HQ.up hbk; replace HR := HR.up hbk; replace h := h.up hbk; replace h' := h'.up hbk; replace k := k.up hbk; replace k' := k'.up hbk)); have hr_0 := HR.c0; have hr_1 := HR.c1; have hr_2 := HR.c2; have hr_l := HR.lt; have hr_f0 := HR.f0; have hr_f1 := HR.f1; have hr_f2 := HR.f2) | fail)
  go_wp2_with fail
  refine bodyPost_ret (v := .agg #[.bool sr, .slice X (dq r.num.natAbs) i, .slice Y (dq r.den) j]) (by simp [results, Tryz.results47, go_sem, hr_0, hr_1, hr_2]) rfl ?_
  exact rqm_end n1 n2 HR HB (by omega)
set_option maxHeartbeats 8000000 in
theorem rqadd_h {r : Rat} (h : Rz W b A c z) (h' : Rn W A' c' d) (k : Rz W b' B e z') (k' : Rn W B' e' d') (h0 : 0 < d) (k0 : 0 < d') (hl : dq z.natAbs ≤ 4000) (hl' : dq d ≤ 4000) (kl : dq z'.natAbs ≤ 4000) (kl' : dq d' ≤ 4000) (b1 : dq (z * (d' : Int)).natAbs ≤ 99999) (b2 : dq (z' * (d : Int)).natAbs ≤ 99999) (bl : dq (z * (d' : Int) + z' * (d : Int)).natAbs ≤ 99999) (bl' : dq (d * d') ≤ 99999) (hr : mkRat (z * (d' : Int) + z' * (d : Int)) (d * d') = r) : Calls Tryz.prog 39 #[.agg #[.bool b, .slice A (dq z.natAbs) c, .slice A' (dq d) c'], .agg #[.bool b', .slice B (dq z'.natAbs) e, .slice B' (dq d') e']] W (RQm W (decide (r.num < 0)) r.num r.den) := by
  obtain ⟨v1, hv1⟩ : ∃ x, x = z * (d' : Int) := ⟨_, rfl⟩
  obtain ⟨t1, ht1⟩ : ∃ x, x = decide (v1 < 0) := ⟨_, rfl⟩
  obtain ⟨v2, hv2⟩ : ∃ x, x = z' * (d : Int) := ⟨_, rfl⟩
  obtain ⟨t2, ht2⟩ : ∃ x, x = decide (v2 < 0) := ⟨_, rfl⟩
  rw [← hv1] at b1
  rw [← hv2] at b2
  rw [← hv1, ← hv2] at bl hr
  obtain ⟨v3, hv3⟩ : ∃ x, x = v1 + v2 := ⟨_, rfl⟩
  obtain ⟨t3, ht3⟩ : ∃ x, x = decide (v3 < 0) := ⟨_, rfl⟩
  obtain ⟨u1, hu1⟩ : ∃ x, x = d * d' := ⟨_, rfl⟩
  obtain ⟨sr, hsr⟩ : ∃ x, x = decide (r.num < 0) := ⟨_, rfl⟩
  rw [← hv3] at bl hr
  rw [← hu1] at bl' hr
  have CM : Hid (∀ W', Rz W' b A c z → Rn W' B' e' d' → Calls Tryz.prog 81 #[.agg #[.bool b, .slice A (dq z.natAbs) c], .agg #[.bool false, .slice B' (dq d') e']] W' (RZv W' t1 v1)) := fun W' g g' => rzmul_h (b' := false) (z' := (d' : Int)) g ⟨g', (decide_eq_false (by omega)).symm⟩ (by omega) (by rw [Int.natAbs_natCast]; omega) ht1 hv1
  have CO : Hid (∀ W', Rz W' b' B e z' → Rn W' A' c' d → Calls Tryz.prog 81 #[.agg #[.bool b', .slice B (dq z'.natAbs) e], .agg #[.bool false, .slice A' (dq d) c']] W' (RZv W' t2 v2)) := fun W' g g' => rzmul_h (b' := false) (z' := (d : Int)) g ⟨g', (decide_eq_false (by omega)).symm⟩ (by omega) (by rw [Int.natAbs_natCast]; omega) ht2 hv2
  have CA : Hid (∀ W' F f G g, Rz W' t1 F f v1 → Rz W' t2 G g v2 → Calls Tryz.prog 36 #[.agg #[.bool t1, .slice F (dq v1.natAbs) f], .agg #[.bool t2, .slice G (dq v2.natAbs) g]] W' (RZv W' t3 v3)) := fun W' F f G g g1 g2 => rzadd_h g1 g2 b1 b2 ht3 hv3
  have CN : Hid (∀ W', Rn W' A' c' d → Rn W' B' e' d' → Calls Tryz.prog 49 #[.slice A' (dq d) c', .slice B' (dq d') e'] W' (RefRz W' u1)) := fun W' g g' => by
    rw [hu1]; exact (rMul_any g g' (by omega) (by omega))
  have CQ : Hid (∀ W' F f G g, Rz W' t3 F f v3 → Rn W' G g u1 → Calls Tryz.prog 23 #[.agg #[.bool t3, .slice F (dq v3.natAbs) f], .slice G (dq u1) g] W' (RQm W' sr r.num r.den)) := fun W' F f G g g1 g2 => by
    have h2 := rqof_h g1.1 g2 g1.zi (by rw [hu1]; exact Nat.mul_pos h0 k0) hr bl bl'
    rw [hsr]
    exact h2.mono fun _ _ ⟨A, c, A', c', he, n1, n2, hb⟩ => ⟨A, c, A', c', he, ⟨n1, rfl⟩, n2, hb⟩
  rw [← hsr]
  clear h0 k0 hl hl' kl kl' b1 b2 bl bl' hr hv1 ht1 hv2 ht2 hv3 ht3 hu1 hsr
  have HB := Bel.refl W
  go_enter Tryz.func39, Tryz.ntmps39
  go_wp2_with fail
  obtain ⟨W1, hW1⟩ : ∃ X, X = (((W.alloc (.cells #[.bool b, .slice A (dq z.natAbs) c, .slice A' (dq d) c'] 38)).alloc (.cells #[.bool b', .slice B (dq z'.natAbs) e, .slice B' (dq d') e'] 38)).alloc (.cells #[.bool false, .slice none 0 0, .slice none 0 0] 38)) := ⟨_, rfl⟩
  rw [← hW1]
  have HP : At W1 (W.heap.size) [.bool b, .slice A (dq z.natAbs) c, .slice A' (dq d) c'] := by rw [hW1]; exact (((at_new0 _ _ _).al _).al _)
  have HQ : At W1 (W.heap.size + 1) [.bool b', .slice B (dq z'.natAbs) e, .slice B' (dq d') e'] := by rw [hW1]; exact ((at_new1 _ _ _ _).al _)
  have HR : At W1 (W.heap.size + 1 + 1) [.bool false, .slice none 0 0, .slice none 0 0] := by rw [hW1]; exact (at_new2 _ _ _ _ _)
  replace HB : Bel W W1 := by rw [hW1]; exact (((HB.al _).al _).al _)
  replace h : Rz W1 b A c z := by rw [hW1]; exact (((h.al _).al _).al _)
  replace h' : Rn W1 A' c' d := by rw [hW1]; exact (((h'.al _).al _).al _)
  replace k : Rz W1 b' B e z' := by rw [hW1]; exact (((k.al _).al _).al _)
  replace k' : Rn W1 B' e' d' := by rw [hW1]; exact (((k'.al _).al _).al _)
  clear hW1
  have l0 := HP.lt
  have l1 := HQ.lt
  have l2 := HR.lt
  go_region_held3 (fun w' => w'.cell? ⟨W.heap.size, 0, none⟩ = some (.bool b) ∧ w'.cell? ⟨W.heap.size, 1, none⟩ = some (.slice A (dq z.natAbs) c) ∧ w'.cell? ⟨W.heap.size, 2, none⟩ = some (.slice A' (dq d) c') ∧ w'.cell? ⟨W.heap.size + 1, 0, none⟩ = some (.bool b') ∧ w'.cell? ⟨W.heap.size + 1, 1, none⟩ = some (.slice B (dq z'.natAbs) e) ∧ w'.cell? ⟨W.heap.size + 1, 2, none⟩ = some (.slice B' (dq d') e'))
    (refine ⟨(?_ : At _ W.heap.size [.bool b, .slice A (dq z.natAbs) c, .slice A' (dq d) c']).c0, (?_ : At _ W.heap.size [.bool b, .slice A (dq z.natAbs) c, .slice A' (dq d) c']).c1, (?_ : At _ W.heap.size [.bool b, .slice A (dq z.natAbs) c, .slice A' (dq d) c']).c2, (?_ : At _ (W.heap.size + 1) [.bool b', .slice B (dq z'.natAbs) e, .slice B' (dq d') e']).c0, (?_ : At _ (W.heap.size + 1) [.bool b', .slice B (dq z'.natAbs) e, .slice B' (dq d') e']).c1, (?_ : At _ (W.heap.size + 1) [.bool b', .slice B (dq z'.natAbs) e, .slice B' (dq d') e']).c2⟩ <;> (repeat (first | with_reducible exact HP | with_reducible exact HQ | (with_reducible refine At.dr ?_) | (with_reducible refine At.al ?_ _) | (with_reducible refine At.far ?_ (by omega) _))))
    (first | (go_at_call 81; (with_reducible refine (CM.out _ h.dr k'.dr).mono ?_); rintro e w1 ⟨F1, f1, rfl, m1, hbk⟩; (with_reducible (replace HB := HB.dr.up hbk; replace HP := HP.dr.up hbk; replace HQ := HQ.dr.up hbk; replace HR := HR.dr.up hbk; replace h := h.dr.up hbk; replace h' := h'.dr.up hbk; replace k := k.dr.up hbk; replace k' := k'.dr.up hbk))) | (go_at_call 81; (with_reducible refine (CO.out _ k h').mono ?_); rintro e w2 ⟨F2, f2, rfl, m2, hbk⟩; (with_reducible (replace HB := HB.up hbk; replace HP := HP.up hbk; replace HQ := HQ.up hbk; replace HR := HR.up hbk; replace h := h.up hbk; replace h' := h'.up hbk; replace k := k.up hbk; replace k' := k'.up hbk; replace m1 := m1.up hbk))) | (go_at_call 36; (with_reducible refine (CA.out _ _ _ _ _ m1 m2).mono ?_); rintro e w3 ⟨F3, f3, rfl, m3, hbk⟩; (with_reducible (replace HB := HB.up hbk; replace HP := HP.up hbk; replace HQ := HQ.up hbk; replace HR := HR.up hbk; replace h := h.up hbk; replace h' := h'.up hbk; replace k := k.up hbk; replace k' := k'.up hbk))) | (go_at_call 49; (with_reducible refine (CN.out _ h' k').mono ?_); rintro e w4 ⟨G, g, rfl, m4, hbk⟩; (with_reducible (replace HB := HB.up hbk; replace HP := HP.up hbk; replace HQ := HQ.up hbk; replace HR := HR.up hbk; replace h := h.up hbk; replace h' := h'.up hbk; replace k := k.up hbk; replace k' := k'.up hbk; replace m3 := m3.up hbk))) | (go_at_call 23; (with_reducible refine (CQ.out _ _ _ _ _ m3 m4).mono ?_); rintro e w5 ⟨X, i, Y, j, rfl, n1, n2, hbk⟩; (with_reducible (replace HB := HB.up hbk; replace HP := HP.up hbk; replace HQ := HQ.up hbk; replace HR := HR.up hbk; replace h := h.up hbk; replace h' := h'.up hbk; replace k := k.up hbk; replace k' := k'.up hbk)); have hr_0 := HR.c0; have hr_1 := HR.c1; have hr_2 := HR.c2; have hr_l := HR.lt; have hr_f0 := HR.f0; have hr_f1 := HR.f1; have hr_f2 := HR.f2) | fail)
  go_wp2_with fail
  refine bodyPost_ret (v := .agg #[.bool sr, .slice X (dq r.num.natAbs) i, .slice Y (dq r.den) j]) (by simp [results, Tryz.results39, go_sem, hr_0, hr_1, hr_2]) rfl ?_
  exact rqm_end n1 n2 HR HB (by omega)
end
end Go.Proofs.YtmiklffjffdkgaaGreatDoor
end

section
/- Package rat: Good of any fraction, Inv. Conditions: terms of at most 20000 words. -/
open Go.RowKit
set_option maxRecDepth 100000
namespace Go.Proofs.YtmiklffjffdkgaaGreatDoor
section
variable {W w : World} {b : Bool} {A A' : Option Addr} {n c n' c' K m m' : Nat} {r : Rat} {z : Int}
/-- Whether the words of a number are valid: one answer in every later world. -/
theorem ngood_e (h : Nm w A n c m) : ∃ g, ∀ W', Bel w W' → Calls Tryz.prog 50 #[.agg #[.slice A n c]] W' (RetB W' g) := by
  obtain ⟨ws, h1, h2, h3, hr, h4⟩ := h.out
  refine ⟨goodB ws, fun W' hb => ?_⟩
  exact (Good_any (c := c) h1 ((hr.below hb).more (Below.size hb)) (by omega)).mono fun e w' ⟨he, hb2⟩ => ⟨he, hb2⟩
set_option maxHeartbeats 1000000 in
theorem zgood_f (hn : ∀ W', Bel W W' → Calls Tryz.prog 50 #[.agg #[.slice A n c]] W' (RetB W' false)) :
    Calls Tryz.prog 32 #[.agg #[.bool b, .slice A n c]] W (RetB W false) := by
  have CG := hide hn
  clear hn
  have HB := Bel.refl W
  go_enter Tryz.func32, Tryz.ntmps32
  go_wp2_with (first | (go_at_call 50; (with_reducible refine (CG.out _ (HB.al _)).mono ?_); rintro e w1 ⟨rfl, hbk⟩; have HP := At.up (at_new0 _ _ _) hbk; replace HB := (HB.al _).up hbk; have hp_0 := HP.c0; have hp_1 := HP.c1; have hp_l := HP.lt) | fail)
  go_ret
  exact ⟨rfl, HB⟩
set_option maxHeartbeats 1000000 in
theorem zgood_p (hn : ∀ W', Bel W W' → Calls Tryz.prog 50 #[.agg #[.slice A n c]] W' (RetB W' true)) :
    Calls Tryz.prog 32 #[.agg #[.bool false, .slice A n c]] W (RetB W true) := by
  have CG := hide hn
  clear hn
  have HB := Bel.refl W
  go_enter Tryz.func32, Tryz.ntmps32
  go_wp2_with (first | (go_at_call 50; (with_reducible refine (CG.out _ (HB.al _)).mono ?_); rintro e w1 ⟨rfl, hbk⟩; have HP := At.up (at_new0 _ _ _) hbk; replace HB := (HB.al _).up hbk; have hp_0 := HP.c0; have hp_1 := HP.c1; have hp_l := HP.lt) | fail)
  go_ret
  exact ⟨rfl, HB⟩
set_option maxHeartbeats 1000000 in
theorem zgood_t (hn : ∀ W', Bel W W' → Calls Tryz.prog 50 #[.agg #[.slice A n c]] W' (RetB W' true)) (hz : ∀ W', Bel W W' → Calls Tryz.prog 76 #[.agg #[.slice A n c]] W' (BoolR W' false)) :
    Calls Tryz.prog 32 #[.agg #[.bool true, .slice A n c]] W (RetB W true) := by
  have CG := hide hn
  have CZ := hide hz
  clear hz
  clear hn
  have HB := Bel.refl W
  go_enter Tryz.func32, Tryz.ntmps32
  go_wp2_with (first | (go_at_call 50; (with_reducible refine (CG.out _ (HB.al _)).mono ?_); rintro e w1 ⟨rfl, hbk⟩; have HP := At.up (at_new0 _ _ _) hbk; replace HB := (HB.al _).up hbk; have hp_0 := HP.c0; have hp_1 := HP.c1; have hp_l := HP.lt) | (go_at_call 76; (with_reducible refine (CZ.out _ HB).mono ?_); rintro e w2 ⟨rfl, hbk⟩; replace HB := HB.up hbk) | fail)
  go_ret
  exact ⟨rfl, HB⟩
set_option maxHeartbeats 1000000 in
theorem zgood_n (hn : ∀ W', Bel W W' → Calls Tryz.prog 50 #[.agg #[.slice A n c]] W' (RetB W' true)) (hz : ∀ W', Bel W W' → Calls Tryz.prog 76 #[.agg #[.slice A n c]] W' (BoolR W' true)) :
    Calls Tryz.prog 32 #[.agg #[.bool true, .slice A n c]] W (RetB W false) := by
  have CG := hide hn
  have CZ := hide hz
  clear hz
  clear hn
  have HB := Bel.refl W
  go_enter Tryz.func32, Tryz.ntmps32
  go_wp2_with (first | (go_at_call 50; (with_reducible refine (CG.out _ (HB.al _)).mono ?_); rintro e w1 ⟨rfl, hbk⟩; have HP := At.up (at_new0 _ _ _) hbk; replace HB := (HB.al _).up hbk; have hp_0 := HP.c0; have hp_1 := HP.c1; have hp_l := HP.lt) | (go_at_call 76; (with_reducible refine (CZ.out _ HB).mono ?_); rintro e w2 ⟨rfl, hbk⟩; replace HB := HB.up hbk) | fail)
  go_ret
  exact ⟨rfl, HB⟩
theorem zisz_e (h : Nm w A n c m) : ∃ f, ∀ W', Bel w W' → Calls Tryz.prog 76 #[.agg #[.slice A n c]] W' (BoolR W' f) := by
  by_cases h0 : m = 0
  · exact ⟨true, fun W' hb => isZero_yes (h.up hb) h0⟩
  · exact ⟨false, fun W' hb => isZero_no (h.up hb) (by omega)⟩
/-- One of num.Good's two walks, in every later world with one answer. -/
theorem zgood_e (h : ZA w b A n c z) : ∃ u, ∀ W', Bel w W' → Calls Tryz.prog 32 #[.agg #[.bool b, .slice A n c]] W' (RetB W' u) := by
  obtain ⟨g, hg⟩ := ngood_e h.1
  obtain ⟨f, hf⟩ := zisz_e h.1
  cases g
  · refine ⟨false, fun W' hb => ?_⟩
    exact zgood_f (fun W2 hb2 => hg W2 (Bel.up hb hb2))
  · cases b
    · exact ⟨true, fun W' hb => zgood_p (fun W2 hb2 => hg W2 (Bel.up hb hb2))⟩
    · cases f
      · exact ⟨true, fun W' hb => zgood_t (fun W2 hb2 => hg W2 (Bel.up hb hb2)) (fun W2 hb2 => hf W2 (Bel.up hb hb2))⟩
      · exact ⟨false, fun W' hb => zgood_n (fun W2 hb2 => hg W2 (Bel.up hb hb2)) (fun W2 hb2 => hf W2 (Bel.up hb hb2))⟩
def OfYs2 (W : World) (sg : Bool) (r : Rat) (e : Ending) (w' : World) : Prop := ∃ A c A' c', e = .returned (.tuple #[.agg #[.bool sg, .slice A (dl r.num.natAbs) c, .slice A' (dl r.den) c'], .bool true]) ∧ ZA w' sg A (dl r.num.natAbs) c r.num ∧ Nm w' A' (dl r.den) c' r.den ∧ Hid (Below W.heap.size W w')
end
end Go.Proofs.YtmiklffjffdkgaaGreatDoor
end

section
/- Low. Conditions: lengths that fit int. -/
open Go.RowKit
set_option maxRecDepth 100000
namespace Go.Proofs.YtmiklffjffdkgaaGreatDoor
def LowPost (w : World) (m : Nat) (e : Ending) (w' : World) : Prop :=
  e = .returned (.tuple #[.int .u64 ((if m < 18446744073709551616 then m else 0 : Nat) : Int), .bool (decide (m < 18446744073709551616))]) ∧ Below w.heap.size w w'
theorem low_ret {v u : Int} {b b' : Bool} (h : v = u) (hb : b = b') : Ending.returned (.tuple #[.int .u64 v, .bool b]) = .returned (.tuple #[.int .u64 u, .bool b']) := by rw [h, hb]
end Go.Proofs.YtmiklffjffdkgaaGreatDoor
end

section
/- Pow. Conditions: every power up to the last has at most 100000 words. -/
open Go.RowKit
set_option maxRecDepth 100000
namespace Go.Proofs.YtmiklffjffdkgaaGreatDoor
def box (A : Option Addr) (n c : Nat) : Obj := .cells #[.slice A n c] 24 (0, 0)
theorem Can.setBox {w : World} {A : Option Addr} {c m : Nat} (h : Can w w.heap.size A c m) {p : Addr} {a : Option Addr} {l k : Nat} (hc : w.cell? p = some (.slice a l k)) (u : Value) : Can (w.setCell p u) (w.setCell p u).heap.size A c m := by
  refine ⟨h.1, ?_⟩
  have := h.2.setBox hc u
  simpa [World.setCell] using this
theorem Arg.setBox {w : World} {A : Option Addr} {n c m : Nat} (h : Arg w w.heap.size A n c m) {p : Addr} {a : Option Addr} {l k : Nat} (hc : w.cell? p = some (.slice a l k)) (u : Value) : Arg (w.setCell p u) (w.setCell p u).heap.size A n c m := by
  obtain ⟨ws, h1, h2, h3, h4, h5⟩ := h
  refine ⟨ws, h1, h2, h3, ?_, h5⟩
  have := h4.setBox hc u
  simpa [World.setCell] using this
/-- The two variables' boxes, and what they tell. -/
def PowInv (w wr : World) (p i j m : Nat) (A1 : Option Addr) (c1 : Nat) (A2 : Option Addr) (n2 c2 : Nat) : Prop :=
  wr.heap[p]? = some (box A1 (dl (m ^ i)) c1) ∧ wr.heap[p + 1]? = some (box A2 n2 c2) ∧ wr.heap[w.heap.size + 1]? = some (box none 0 0) ∧ Can wr wr.heap.size A1 c1 (m ^ i) ∧ Arg wr wr.heap.size A2 n2 c2 (m ^ j) ∧ Below w.heap.size w wr ∧ w.heap.size + 2 ≤ p
theorem lt_of_heap {w : World} {g : Nat} {o : Obj} (h : w.heap[g]? = some o) : g < w.heap.size := by
  rcases Nat.lt_or_ge g w.heap.size with hlt | hge
  · exact hlt
  · rw [Array.getElem?_eq_none hge] at h; cases h
section
variable {w wr w2 : World} {p i j m c1 n2 c2 : Nat} {A1 A2 : Option Addr}
theorem PowInv.below (h : PowInv w wr p i j m A1 c1 A2 n2 c2) (hb : Below wr.heap.size wr w2) : PowInv w w2 p i j m A1 c1 A2 n2 c2 := by
  obtain ⟨h1, h2, h3, h4, h5, h6, h7⟩ := h
  exact ⟨(hb.block _ (lt_of_heap h1)).trans h1, (hb.block _ (lt_of_heap h2)).trans h2, (hb.block _ (lt_of_heap h3)).trans h3, (h4.below hb).more hb.size, (h5.below hb).more hb.size, h6.trans (hb.mono h6.size), h7⟩
theorem set_heap {w : World} {g : Nat} {A : Option Addr} {n c : Nat} (h : w.heap[g]? = some (box A n c)) (B : Option Addr) (k d : Nat) : (w.setCell ⟨g, 0, none⟩ (.slice B k d)).heap[g]? = some (box B k d) := by
  unfold box at h ⊢
  rw [heap_setCell_same w g 0 _ _ _ h]; rfl
theorem PowInv.setP (h : PowInv w wr p i j m A1 c1 A2 n2 c2) {i' : Nat} {B : Option Addr} {d : Nat} (hc : Can wr wr.heap.size B d (m ^ i')) : PowInv w (wr.setCell ⟨p, 0, none⟩ (.slice B (dl (m ^ i')) d)) p i' j m B d A2 n2 c2 := by
  obtain ⟨h1, h2, h3, h4, h5, h6, h7⟩ := h
  have e := (one_cell h1).1
  exact ⟨set_heap h1 _ _ _, (Below.heap_setCell _ _ _ _ (by simp)).trans h2, (Below.heap_setCell _ _ _ _ (by simp; omega)).trans h3, hc.setBox e _, h5.setBox e _, h6.setCell (by simp; omega) _, h7⟩
theorem PowInv.setS (h : PowInv w wr p i j m A1 c1 A2 n2 c2) {j' : Nat} {B : Option Addr} {d : Nat} (hc : Can wr wr.heap.size B d (m ^ j')) (hl : dl (m ^ j') ≤ 100000) : PowInv w (wr.setCell ⟨p + 1, 0, none⟩ (.slice B (dl (m ^ j')) d)) p i j' m A1 c1 B (dl (m ^ j')) d := by
  obtain ⟨h1, h2, h3, h4, h5, h6, h7⟩ := h
  have e := (one_cell h2).1
  exact ⟨(Below.heap_setCell _ _ _ _ (by simp)).trans h1, set_heap h2 _ _ _, (Below.heap_setCell _ _ _ _ (by simp; omega)).trans h3, h4.setBox e _, (hc.arg hl).setBox e _, h6.setCell (by simp; omega) _, h7⟩
end
theorem start2' (wa : World) (v0 v1 : Value) (t : TypeId) :
    ((wa.alloc (.cells #[v0] t)).alloc (.cells #[v1] t)).cell? ⟨wa.heap.size, 0, none⟩ = some v0 ∧ ((wa.alloc (.cells #[v0] t)).alloc (.cells #[v1] t)).heap[wa.heap.size + 1]? = some (.cells #[v1] t (0, 0)) ∧
    Below wa.heap.size wa ((wa.alloc (.cells #[v0] t)).alloc (.cells #[v1] t)) ∧ wa.heap.size + 2 ≤ ((wa.alloc (.cells #[v0] t)).alloc (.cells #[v1] t)).heap.size := by
  have b1 : (wa.alloc (.cells #[v0] t)).heap[wa.heap.size]? = some (.cells #[v0] t (0, 0)) := heap_alloc_new wa _
  have b2 : ((wa.alloc (.cells #[v0] t)).alloc (.cells #[v1] t)).heap[wa.heap.size + 1]? = some (.cells #[v1] t (0, 0)) := by simpa using heap_alloc_new (wa.alloc (.cells #[v0] t)) (.cells #[v1] t)
  have c1 : ((wa.alloc (.cells #[v0] t)).alloc (.cells #[v1] t)).heap[wa.heap.size]? = some (.cells #[v0] t (0, 0)) := (Below.heap_alloc _ _ _ (by simp)).trans b1
  exact ⟨(one_cell c1).1, b2, ((Below.refl _ _).alloc (Nat.le_refl _) _).alloc (by simp) _, by simp⟩
theorem pow_start {w w1 : World} {A : Option Addr} {n c : Nat} (hb : Hid (Below ((w.alloc (.cells #[.slice A n c] 24)).alloc (.cells #[.slice none 0 0] 24)).heap.size ((w.alloc (.cells #[.slice A n c] 24)).alloc (.cells #[.slice none 0 0] 24)) w1)) :
    Hid (w1.heap[w.heap.size + 1]? = some (box none 0 0) ∧ Below w.heap.size w w1 ∧ w.heap.size + 2 ≤ w1.heap.size) ∧ ∀ o, (w1.alloc o).cell? ⟨w.heap.size, 0, none⟩ = some (.slice A n c) := by
  obtain ⟨s1, s2, s3, s4⟩ := start2' w (.slice A n c) (.slice none 0 0) 24
  have hs := hb.out.size
  exact ⟨⟨(hb.out.block _ (by omega)).trans s2, s3.trans (hb.out.mono s3.size), by omega⟩, fun o => (World.cell?_alloc_lt w1 o _ (show w.heap.size < w1.heap.size by omega)).trans ((hb.out.cell (show w.heap.size < _ by omega)).trans s1)⟩
def NumH (W : World) (v : Nat) (e : Ending) (w' : World) : Prop := ∃ A c, e = .returned (.agg #[.slice A (dl v) c]) ∧ Hid (Can w' w'.heap.size A c v) ∧ Hid (Below W.heap.size W w')
theorem mul_inv1 {w W : World} {p i j m c1 n2 c2 : Nat} {A1 A2 : Option Addr} (P : PowInv w W p i j m A1 c1 A2 n2 c2) (hl : dl (m ^ i) ≤ 100000) : Calls Tryz.prog 68 #[.agg #[.slice A1 (dl (m ^ i)) c1], .agg #[.slice A2 n2 c2]] W (NumH W (m ^ (i + j))) := by
  rw [Nat.pow_add]
  exact (Mul_any (P.2.2.2.1.arg hl) P.2.2.2.2.1).mono fun _ _ h => h
theorem mul_inv2 {w W : World} {p i j m c1 n2 c2 : Nat} {A1 A2 : Option Addr} (P : PowInv w W p i j m A1 c1 A2 n2 c2) : Calls Tryz.prog 68 #[.agg #[.slice A2 n2 c2], .agg #[.slice A2 n2 c2]] W (NumH W (m ^ (j + j))) := by
  rw [Nat.pow_add]
  exact (Mul_any P.2.2.2.2.1 P.2.2.2.2.1).mono fun _ _ h => h
theorem pow_odd {i j kk k : Nat} (h : i + j * kk = k) (ho : kk % 2 = 1) : (i + j) + (j + j) * (kk / 2) = k := by
  obtain ⟨t, ht⟩ : ∃ t, kk = 2 * t + 1 := ⟨kk / 2, by omega⟩
  subst ht
  rw [show (2 * t + 1) / 2 = t by omega, Nat.add_mul]
  rw [Nat.mul_add, Nat.mul_one, Nat.mul_left_comm] at h
  omega
theorem pow_even {i j kk k : Nat} (h : i + j * kk = k) (ho : kk % 2 = 0) : i + (j + j) * (kk / 2) = k := by
  obtain ⟨t, ht⟩ : ∃ t, kk = 2 * t := ⟨kk / 2, by omega⟩
  subst ht
  rw [show (2 * t) / 2 = t by omega, Nat.add_mul]
  rw [Nat.mul_left_comm] at h
  omega
theorem two_le {i j kk k : Nat} (h : i + j * kk = k) (ht : 2 ≤ kk) : j + j ≤ k := by
  have h2 : j * 2 ≤ j * kk := Nat.mul_le_mul_left _ ht
  omega
set_option maxHeartbeats 4000000 in
theorem Pow_any {A : Option Addr} {n c m k : Nat} {w : World} (h : Arg w w.heap.size A n c m) (hk : k ≤ 1000000) (hb : ∀ i, i ≤ k → dl (m ^ i) ≤ 100000) :
    Calls Tryz.prog 98 #[.agg #[.slice A n c], .int .i64 (k : Int)] w (NumH w (m ^ k)) := by
  have H := hide (fun W (hbb : Below w.heap.size w W) => (h.below hbb).more hbb.size)
  have HB := hide hb
  have CO : Hid (∀ W, Calls Tryz.prog 56 #[.int .u64 1] W (NumH W 1)) := fun W => (Of_any (n := 1) (w := W) (by decide)).mono fun _ _ h => h
  clear h hb
  go_enter Tryz.func98, Tryz.ntmps98
  go_wp2_with (first | (go_at_call 56; go_must (refine (CO.out _).mono ?_); rintro e w1 ⟨A1, c1, rfl, hc1, hbk⟩; obtain ⟨HBX, e2⟩ := pow_start (A := A) (n := n) (c := c) hbk))
  obtain ⟨hr0, hw1, hw2⟩ := HBX.out
  have HP0 : Hid (PowInv w ((w1.alloc (.cells #[.slice A1 (dl 1) c1] 24)).alloc (.cells #[.slice A n c] 24)) w1.heap.size 0 1 m A1 c1 A n c) := by
    obtain ⟨_, s2, s3, s4⟩ := start2' w1 (.slice A1 (dl 1) c1) (.slice A n c) 24
    have s1 : ((w1.alloc (.cells #[.slice A1 (dl 1) c1] 24)).alloc (.cells #[.slice A n c] 24)).heap[w1.heap.size]? = some (.cells #[.slice A1 (dl 1) c1] 24 (0, 0)) := (Below.heap_alloc _ _ _ (by simp)).trans (heap_alloc_new w1 _)
    exact ⟨by rw [Nat.pow_zero]; exact s1, s2, (s3.block _ (by omega)).trans hr0, by rw [Nat.pow_zero]; exact (hc1.out.below s3).more s3.size, by rw [Nat.pow_one]; exact H.out _ (hw1.trans (s3.mono hw1.size)), hw1.trans (s3.mono hw1.size), hw2⟩
  clear hr0 hw1 hw2 HBX e2 hc1 hbk
  go_loopw [1] (fun kv wr => ∃ (kk i j : Nat) (B1 : Option Addr) (d1 : Nat) (B2 : Option Addr) (n2 d2 : Nat), kv = .int .i64 (kk : Int) ∧ kk ≤ k ∧ Hid (i + j * kk = k) ∧ Hid (PowInv w wr w1.heap.size i j m B1 d1 B2 n2 d2))
    (fun kv _ => (intOf kv).toNat)
  case atStart => exact ⟨k, 0, 1, _, _, _, _, _, rfl, Nat.le_refl _, by simp [Hid], HP0⟩
  case round =>
    obtain ⟨kk, i, j, B1, d1, B2, n2, d2, rfl, hkk, hexp, P⟩ := hrel
    have r1 := (one_cell P.out.1).1
    have f1 := (one_cell P.out.1).2
    have r2 := (one_cell P.out.2.1).1
    have f2 := (one_cell P.out.2.1).2
    have r3 := (one_cell P.out.2.2.1).1
    have f3 := (one_cell P.out.2.2.1).2
    by_cases h0 : kk = 0
    · subst h0
      have HI : Hid (i = k) := by have := hexp.out; rw [Nat.mul_zero] at this; exact this
      go_wp2
      refine bodyPost_ret (v := .agg #[.slice B1 (dl (m ^ i)) d1]) (by simp [results, Tryz.results98, go_sem, r3]) rfl ?_
      rw [← HI.out]
      exact ⟨B1, d1, rfl, P.out.2.2.2.1.setBox r3 _, P.out.2.2.2.2.2.1.setCell (by simp) _⟩
    · have hk1 : 0 < kk := by omega
      have HIK : Hid (i + j ≤ k ∧ j ≤ k ∧ i ≤ k) := by
        have h1 := hexp.out
        have h2 : j * 1 ≤ j * kk := Nat.mul_le_mul_left _ hk1
        unfold Hid; omega
      clear h0
      by_cases hodd : kk % 2 = 1
      · have HO := hide (pow_odd hexp.out hodd)
        have hod : (((kk : Int) % 2) == 1) = true := by rw [beq_iff_eq]; omega
        by_cases ht : kk / 2 = 0
        · have HT := hide ht
          have hti : ¬ (0 : Int) < (kk : Int) / 2 := by omega
          clear hodd ht
          go_wp2_with (first | (go_at_call 68; go_must (refine (mul_inv1 P.out (HB.out _ HIK.out.2.2)).mono ?_); rintro e w2 ⟨B3, d3, rfl, hc3, hbk⟩; have P2 := hide (P.out.below hbk.out); have r1 := (one_cell P2.out.1).1; have f1 := (one_cell P2.out.1).2))
          go_roundw
          case rel => exact ⟨kk / 2, i + j, j, B3, d3, B2, n2, d2, rfl, by omega, by have := HO.out; rw [HT.out, Nat.mul_zero] at this; unfold Hid; rw [HT.out, Nat.mul_zero]; exact this, P2.out.setP hc3.out⟩
          case measure => simp [intOf]; omega
        · have hti : (0 : Int) < (kk : Int) / 2 := by omega
          have HJJ := hide (two_le hexp.out (show 2 ≤ kk by omega))
          clear hodd ht
          go_wp2_with (first | (go_at_call 68; ((with_reducible refine (mul_inv1 P.out (HB.out _ HIK.out.2.2)).mono ?_)); rintro e w2 ⟨B3, d3, rfl, hc3, hbk⟩; have P2 := hide (P.out.below hbk.out); have r1 := (one_cell P2.out.1).1; have f1 := (one_cell P2.out.1).2; have P3 := hide (P2.out.setP hc3.out); have r2 := (one_cell P3.out.2.1).1) | (go_at_call 68; (refine (mul_inv2 P3.out).mono ?_); rintro e w4 ⟨B4, d4, rfl, hc4, hbk⟩; have P4 := hide (P3.out.below hbk.out); have r2 := (one_cell P4.out.2.1).1; have f2 := (one_cell P4.out.2.1).2))
          go_roundw
          case rel => exact ⟨kk / 2, i + j, j + j, B3, d3, B4, _, d4, rfl, by omega, HO, P4.out.setS hc4.out (HB.out _ HJJ.out)⟩
          case measure => simp [intOf]; omega
      · have HE := hide (pow_even hexp.out (by omega))
        have hod : (((kk : Int) % 2) == 1) = false := by rw [beq_eq_false_iff_ne]; omega
        have hti : (0 : Int) < (kk : Int) / 2 := by omega
        have HJJ := hide (two_le hexp.out (show 2 ≤ kk by omega))
        clear hodd
        go_wp2_with (first | (go_at_call 68; (refine (mul_inv2 P.out).mono ?_); rintro e w4 ⟨B4, d4, rfl, hc4, hbk⟩; have P4 := hide (P.out.below hbk.out); have r2 := (one_cell P4.out.2.1).1; have f2 := (one_cell P4.out.2.1).2))
        go_roundw
        case rel => exact ⟨kk / 2, i, j + j, B1, d1, B4, _, d4, rfl, by omega, HE, P4.out.setS hc4.out (HB.out _ HJJ.out)⟩
        case measure => simp [intOf]; omega
end Go.Proofs.YtmiklffjffdkgaaGreatDoor
end

section
/- Pow where the power is below 1: it is 1. No conditions on sizes. -/
open Go.RowKit
set_option maxRecDepth 100000
namespace Go.Proofs.YtmiklffjffdkgaaGreatDoor
set_option maxHeartbeats 1000000 in
theorem Pow_low {A : Option Addr} {n c : Nat} {k : Int} {w : World} (hk : k ≤ 0) (hk2 : -9223372036854775808 ≤ k) : Calls Tryz.prog 98 #[.agg #[.slice A n c], .int .i64 k] w (NumH w 1) := by
  have CO : Hid (∀ W, Calls Tryz.prog 56 #[.int .u64 1] W (NumH W 1)) := fun W => (Of_any (n := 1) (w := W) (by decide)).mono fun _ _ h => h
  go_enter Tryz.func98, Tryz.ntmps98
  go_wp2_with (first | (go_at_call 56; go_must (refine (CO.out _).mono ?_); rintro e w1 ⟨A1, c1, rfl, hc1, hbk⟩; obtain ⟨HBX, e2⟩ := pow_start (A := A) (n := n) (c := c) hbk; have HBX := hide HBX))
  obtain ⟨hr0, hw1, hw2⟩ := HBX.out.out
  have HP0 : Hid (((w1.alloc (.cells #[.slice A1 (dl 1) c1] 24)).alloc (.cells #[.slice A n c] 24)).heap[w1.heap.size]? = some (box A1 (dl 1) c1) ∧ ((w1.alloc (.cells #[.slice A1 (dl 1) c1] 24)).alloc (.cells #[.slice A n c] 24)).heap[w.heap.size + 1]? = some (box none 0 0) ∧
      Can ((w1.alloc (.cells #[.slice A1 (dl 1) c1] 24)).alloc (.cells #[.slice A n c] 24)) ((w1.alloc (.cells #[.slice A1 (dl 1) c1] 24)).alloc (.cells #[.slice A n c] 24)).heap.size A1 c1 1 ∧ Below w.heap.size w ((w1.alloc (.cells #[.slice A1 (dl 1) c1] 24)).alloc (.cells #[.slice A n c] 24))) := by
    obtain ⟨_, s2, s3, s4⟩ := start2' w1 (.slice A1 (dl 1) c1) (.slice A n c) 24
    have s1 : ((w1.alloc (.cells #[.slice A1 (dl 1) c1] 24)).alloc (.cells #[.slice A n c] 24)).heap[w1.heap.size]? = some (.cells #[.slice A1 (dl 1) c1] 24 (0, 0)) := (Below.heap_alloc _ _ _ (by simp)).trans (heap_alloc_new w1 _)
    exact ⟨s1, (s3.block _ (by omega)).trans hr0, (hc1.out.below s3).more s3.size, hw1.trans (s3.mono hw1.size)⟩
  have r1 := (one_cell HP0.out.1).1
  have r3 := (one_cell HP0.out.2.1).1
  have f3 := (one_cell HP0.out.2.1).2
  refine wp_loop_rounds 1 ?_; rw [rounds_succ]
  go_wp2
  refine bodyPost_ret (v := .agg #[.slice A1 (dl 1) c1]) (by simp [results, Tryz.results98, go_sem, r3]) rfl ?_
  exact ⟨A1, c1, rfl, HP0.out.2.2.1.setBox r3 _, HP0.out.2.2.2.setCell (by simp) _⟩
end Go.Proofs.YtmiklffjffdkgaaGreatDoor
end

section
/- NatKnown's calls, each in the form that the walk wants: Low, Parse, Text, Good, Pow, and slices written out. No conditions. -/
open Go.RowKit
set_option maxRecDepth 100000
namespace Go.Proofs.YtmiklffjffdkgaaGreatDoor
/-- A slice written out: the words need not be trimmed. -/
theorem nm_lit {W : World} {g n m : Nat} {ws : List Nat} (h : Blk U32 92 W g ws) (hn : n = ws.length) (h1 : n ≤ 100000) (hg : Good32 ws) (hv : val W32 ws = m) : Nm W (some ⟨g, 0, none⟩) n n m :=
  ⟨ws, hn, Nat.le_refl _, h1, h.rd0 h.lt, hg, hv⟩
def LowR (W : World) (v : Int) (b : Bool) (e : Ending) (w' : World) : Prop := e = .returned (.tuple #[.int .u64 v, .bool b]) ∧ Hid (Below W.heap.size W w')
section
variable {W : World} {A : Option Addr} {n c m : Nat}
def ParNo (W : World) (e : Ending) (w' : World) : Prop := e = .returned (.tuple #[.agg #[.slice none 0 0], .bool false]) ∧ Hid (Below W.heap.size W w')
def ParYes (W : World) (v : Nat) (e : Ending) (w' : World) : Prop := ∃ A c, e = .returned (.tuple #[.agg #[.slice A (dl v) c], .bool true]) ∧ Nm w' A (dl v) c v ∧ Hid (Below W.heap.size W w')
def TextR (W : World) (s : ByteArray) (e : Ending) (w' : World) : Prop := e = .returned (.string s) ∧ Hid (Below W.heap.size W w')
theorem text_r {s : ByteArray} (h : Nm W A n c m) (hs : s.data.toList = decL m) : Calls Tryz.prog 58 #[.agg #[.slice A n c]] W (TextR W s) := by
  refine (Text_any h.out).mono fun e w' ⟨t, he, ht, hb⟩ => ⟨?_, hb⟩
  rw [he, show t = s from ByteArray.ext (Array.ext' (ht.trans hs.symm))]
theorem good_no {g : Nat} {ws : List Nat} (h : Blk U32 92 W g ws) (hn : n = ws.length) (h1 : n ≤ 100000) (hg : goodB ws = false) : Calls Tryz.prog 50 #[.agg #[.slice (some ⟨g, 0, none⟩) n c]] W (BoolR W false) := by
  refine (Good_any hn (h.rd0 h.lt) (by omega)).mono fun e w' ⟨he, hb⟩ => ⟨?_, hb⟩
  rw [he, hg]
theorem good_nil : Calls Tryz.prog 50 #[.agg #[.slice none 0 0]] W (BoolR W true) := by
  refine (Good_any (n := 0) (c := 0) (A := none) (ws := []) rfl (fun h => absurd h (by decide)) (by omega)).mono fun e w' ⟨he, hb⟩ => ⟨?_, hb⟩
  rw [he]; rfl
theorem pow_h {k : Nat} {v : Nat} (h : Nm W A n c m) (hk : k ≤ 1000000) (hb : ∀ i, i ≤ k → dl (m ^ i) ≤ 100000) (hv : m ^ k = v) : Calls Tryz.prog 98 #[.agg #[.slice A n c], .int .i64 (k : Int)] W (NumR W v) := by
  subst hv
  exact (Pow_any h.out hk hb).mono fun _ _ ⟨A2, c2, he, hc, hbk⟩ => ⟨A2, c2, he, nm_can hc.out (hb k (Nat.le_refl _)), hbk⟩
theorem pow_low_h {k : Int} (hk : k ≤ 0) (hk2 : -9223372036854775808 ≤ k) : Calls Tryz.prog 98 #[.agg #[.slice A n c], .int .i64 k] W (NumR W 1) :=
  (Pow_low hk hk2).mono fun _ _ ⟨A2, c2, he, hc, hbk⟩ => ⟨A2, c2, he, nm_can hc.out (Nat.le_trans (dl_le (k := 1) (by decide)) (by decide)), hbk⟩
theorem pow_ten20 (h : Nm W A n c 10) : Calls Tryz.prog 98 #[.agg #[.slice A n c], .int .i64 20] W (NumR W (10 ^ 20)) :=
  pow_h (k := 20) h (by decide) (fun i hi => Nat.le_trans (dl_le (k := 20) (Nat.lt_of_le_of_lt (Nat.pow_le_pow_right (by decide) hi) (Nat.pow_lt_pow_left (by decide) (by decide)))) (by decide)) rfl
end
theorem lit3 (W : World) (a b c : Nat) : Blk U32 92 (W.alloc (.cells #[.int .u32 (a : Int), .int .u32 (b : Int), .int .u32 (c : Int)] 92)) W.heap.size [a, b, c] := heap_alloc_new W _
theorem good32_3 {a b c : Nat} (ha : a < W32) (hb : b < W32) (hc : c < W32) : Good32 [a, b, c] := by
  intro x hx; simp at hx; rcases hx with rfl | rfl | rfl <;> assumption
end Go.Proofs.YtmiklffjffdkgaaGreatDoor
end

section
/- Numerals: the digits behind the point, and those that are not noughts at the end. No conditions. -/
open Go.RowKit
set_option maxRecDepth 100000
namespace Go.Proofs.YtmiklffjffdkgaaGreatDoor
/-- The digits behind the point. -/
def partL (m s : Nat) : List UInt8 := (decL (10 ^ s + m % 10 ^ s)).drop 1
theorem decL_all (m : Nat) : (decL m).all isDig = true := by
  have h := (numL_decL m).2
  unfold digB at h
  rw [Bool.and_eq_true] at h
  exact h.2
theorem decL_ne (m : Nat) : decL m ≠ [] := by
  have h := (numL_decL m).2
  unfold digB at h
  rw [Bool.and_eq_true] at h
  intro e
  rw [e] at h
  exact absurd h.1 (by simp)
theorem numL_one (c : UInt8) (t : List UInt8) : numL (c :: t) = (c.toNat - 48) * 10 ^ t.length + numL t := by
  have h := numL_append [c] t
  rw [List.singleton_append] at h
  rw [h]
  congr 2
  simp [numL]
theorem one_rest {s r : Nat} (hr : r < 10 ^ s) : ∃ t, decL (10 ^ s + r) = 49 :: t ∧ t.length = s ∧ numL t = r ∧ t.all isDig = true := by
  obtain ⟨c, t, hct⟩ : ∃ c t, decL (10 ^ s + r) = c :: t := by
    cases h : decL (10 ^ s + r) with
    | nil => exact absurd h (decL_ne _)
    | cons c t => exact ⟨c, t, rfl⟩
  have hp : 10 ^ (s + 1) = 10 ^ s * 10 := Nat.pow_succ ..
  have hall := decL_all (10 ^ s + r)
  have hnum := (numL_decL (10 ^ s + r)).1
  have hle := dt_le (m := 10 ^ s + r) (k := s + 1) (by omega) (by omega)
  have hlt := numL_lt _ hall
  rw [hnum] at hlt
  have hge : s < (decL (10 ^ s + r)).length := by
    rcases Nat.lt_or_ge s (decL (10 ^ s + r)).length with h | h
    · exact h
    · have := Nat.pow_le_pow_right (n := 10) (by decide) h
      omega
  rw [hct] at hall hnum hle hge
  rw [List.length_cons] at hle hge
  have hl : t.length = s := by omega
  rw [numL_one, hl] at hnum
  rw [List.all_cons, Bool.and_eq_true] at hall
  have ht := numL_lt t hall.2
  rw [hl] at ht
  have h0 : 0 < 10 ^ s := Nat.pow_pos (by decide)
  have h1 : c.toNat - 48 = 1 := by
    have e1 : ((c.toNat - 48) * 10 ^ s + numL t) / 10 ^ s = c.toNat - 48 := by
      rw [Nat.mul_comm, Nat.mul_add_div h0, Nat.div_eq_of_lt ht, Nat.add_zero]
    have e2 : (10 ^ s + r) / 10 ^ s = 1 := by
      rw [Nat.add_div_left _ h0, Nat.div_eq_of_lt hr]
    rw [← e1, hnum, e2]
  rw [h1, Nat.one_mul] at hnum
  have hc : c = 49 := UInt8.toNat_inj.1 (by show c.toNat = 49; omega)
  exact ⟨t, by rw [hct, hc], hl, by omega, hall.2⟩
theorem part_facts (m s : Nat) : decL (10 ^ s + m % 10 ^ s) = 49 :: partL m s ∧ (partL m s).length = s ∧ numL (partL m s) = m % 10 ^ s ∧ (partL m s).all isDig = true := by
  obtain ⟨t, h1, h2, h3, h4⟩ := one_rest (Nat.mod_lt m (Nat.pow_pos (n := s) (show 0 < 10 by decide)))
  have e : partL m s = t := by unfold partL; rw [h1]; rfl
  rw [e]
  exact ⟨h1, h2, h3, h4⟩
theorem back_num (m s : Nat) : numL (decL (m / 10 ^ s) ++ partL m s) = m := by
  obtain ⟨_, h2, h3, _⟩ := part_facts m s
  rw [numL_append, (numL_decL _).1, h2, h3, Nat.mul_comm]
  exact Nat.div_add_mod m (10 ^ s)
theorem digB_app {a b : List UInt8} (ha : digB a = true) (hb : b.all isDig = true) : digB (a ++ b) = true := by
  unfold digB at ha ⊢
  rw [Bool.and_eq_true] at ha ⊢
  refine ⟨?_, by rw [List.all_append, ha.2, hb]; rfl⟩
  cases a with
  | nil => simp at ha
  | cons x xs => rfl
theorem back_dig (m s : Nat) : digB (decL (m / 10 ^ s) ++ partL m s) = true := digB_app (numL_decL _).2 (part_facts m s).2.2.2
/-- A text without the noughts at its end. -/
def strip (l : List UInt8) : List UInt8 := (l.reverse.dropWhile (· == 48)).reverse
theorem rev_strip (l : List UInt8) : ∃ k, l.reverse = List.replicate k 48 ++ l.reverse.dropWhile (· == 48) := by
  generalize l.reverse = r
  induction r with
  | nil => exact ⟨0, rfl⟩
  | cons x xs ih =>
    by_cases h : x = 48
    · obtain ⟨k, hk⟩ := ih
      subst h
      refine ⟨k + 1, ?_⟩
      rw [List.dropWhile_cons, if_pos (by rfl), List.replicate_succ, List.cons_append, ← hk]
    · refine ⟨0, ?_⟩
      rw [List.dropWhile_cons, if_neg (by simpa using h)]
      rfl
theorem strip_app (l : List UInt8) : l = strip l ++ List.replicate (l.length - (strip l).length) 48 := by
  obtain ⟨k, hk⟩ := rev_strip l
  have h1 : l = strip l ++ List.replicate k 48 := by
    have := congrArg List.reverse hk
    rw [List.reverse_reverse, List.reverse_append, List.reverse_replicate] at this
    exact this
  have h2 : l.length = (strip l).length + k := by
    have := congrArg List.length h1
    rwa [List.length_append, List.length_replicate] at this
  rw [show l.length - (strip l).length = k by omega]
  exact h1
theorem strip_last {l : List UInt8} (h : strip l ≠ []) : ∃ a d, strip l = a ++ [d] ∧ d ≠ 48 := by
  unfold strip at h ⊢
  cases hr : l.reverse.dropWhile (· == 48) with
  | nil => rw [hr] at h; exact absurd rfl h
  | cons x xs =>
    refine ⟨xs.reverse, x, by simp, ?_⟩
    have h1 := List.head?_dropWhile_not (p := (· == 48)) l.reverse
    rw [hr] at h1
    simpa using h1
theorem numL_noughts (k : Nat) : numL (List.replicate k 48) = 0 := by
  induction k with
  | zero => rfl
  | succ k ih => rw [List.replicate_succ, numL_one, ih]; simp
/-- How many digits behind the point are left. -/
def shortS (m s : Nat) : Nat := (strip (partL m s)).length
theorem short_le (m s : Nat) : shortS m s ≤ s := by
  have h := congrArg List.length (strip_app (partL m s))
  rw [List.length_append, (part_facts m s).2.1] at h
  unfold shortS
  omega
theorem dvd_rest {m s k : Nat} (hk : k ≤ s) : 10 ^ k ∣ m ↔ 10 ^ k ∣ m % 10 ^ s := by
  have h1 : 10 ^ k ∣ 10 ^ s := Nat.pow_dvd_pow 10 hk
  have h2 := Nat.div_add_mod m (10 ^ s)
  constructor
  · intro h
    exact (Nat.dvd_add_right (Nat.dvd_trans h1 (Nat.dvd_mul_right _ (m / 10 ^ s)))).1 (by rw [h2]; exact h)
  · intro h
    rw [← h2]
    exact (Nat.dvd_add_right (Nat.dvd_trans h1 (Nat.dvd_mul_right _ (m / 10 ^ s)))).2 h
theorem short_num (m s : Nat) : m % 10 ^ s = numL (strip (partL m s)) * 10 ^ (s - shortS m s) := by
  have h := strip_app (partL m s)
  have h1 := (part_facts m s).2.2.1
  rw [h, numL_append, numL_noughts, List.length_replicate, (part_facts m s).2.1] at h1
  unfold shortS
  omega
theorem short_dvd (m s : Nat) : 10 ^ (s - shortS m s) ∣ m := by
  rw [dvd_rest (s := s) (by omega), short_num]
  exact Nat.dvd_mul_left _ _
theorem short_ndvd {m s : Nat} (h : 0 < shortS m s) : ¬ 10 ^ (s - shortS m s + 1) ∣ m := by
  have hle := short_le m s
  rw [dvd_rest (s := s) (by omega), short_num]
  obtain ⟨a, d, had, hd⟩ := strip_last (l := partL m s) (by intro e; unfold shortS at h; rw [e] at h; exact absurd h (by decide))
  have hdig : isDig d = true := by
    have h1 := (part_facts m s).2.2.2
    rw [strip_app (partL m s), had] at h1
    simp only [List.all_append, Bool.and_eq_true, List.all_cons] at h1
    exact h1.1.2.1
  rw [had, numL_snoc]
  have h2 := (dig_iff d).1 hdig
  have h3 : d.toNat ≠ 48 := fun e => hd (UInt8.toNat_inj.1 (by show d.toNat = 48; exact e))
  rw [Nat.pow_succ, Nat.mul_comm (10 ^ _) 10]
  intro h4
  have h5 := Nat.dvd_of_mul_dvd_mul_right (Nat.pow_pos (by decide)) h4
  omega
/-- The least scale that tells the number just. -/
theorem short_least {m s j : Nat} : (10 ^ s ∣ m * 10 ^ j ∧ j ≤ s) ↔ (shortS m s ≤ j ∧ j ≤ s) := by
  have hle := short_le m s
  constructor
  · rintro ⟨h, hj⟩
    refine ⟨?_, hj⟩
    rcases Nat.lt_or_ge j (shortS m s) with h1 | h1
    · exfalso
      refine short_ndvd (m := m) (s := s) (by omega) ?_
      have e : 10 ^ s = 10 ^ (s - j) * 10 ^ j := by rw [← Nat.pow_add]; congr 1; omega
      rw [e] at h
      have h2 := Nat.dvd_of_mul_dvd_mul_right (Nat.pow_pos (by decide)) h
      exact Nat.dvd_trans (Nat.pow_dvd_pow 10 (by omega)) h2
    · exact h1
  · rintro ⟨h1, hj⟩
    refine ⟨?_, hj⟩
    have e : 10 ^ s = 10 ^ (s - j) * 10 ^ j := by rw [← Nat.pow_add]; congr 1; omega
    rw [e]
    exact Nat.mul_dvd_mul (Nat.dvd_trans (Nat.pow_dvd_pow 10 (by omega)) (short_dvd m s)) (Nat.dvd_refl _)
end Go.Proofs.YtmiklffjffdkgaaGreatDoor
end

section
/- Package dec: isZero, power, Good, counted. Conditions: at most 100000 words. -/
open Go.RowKit
set_option maxRecDepth 100000
namespace Go.Proofs.YtmiklffjffdkgaaGreatDoor
theorem nowD {b : Bool} {A : Option Addr} {n c : Nat} {s : Int} : NoW [.bool b, .slice A n c, .int .i64 s] := by
  intro u hu x
  simp at hu
  rcases hu with rfl | rfl | rfl <;> (intro e; cases e)
theorem Nm.putD {W : World} {p : Nat} {v0 v1 v2 : Value} {A : Option Addr} {n c m : Nat} (h : Nm W A n c m) (hp : At W p [v0, v1, v2]) (hw : NoW [v0, v1, v2]) {b : Bool} {B : Option Addr} {k d : Nat} {s : Int} :
    Nm (((W.setCell ⟨p, 0, none⟩ (.bool b)).setCell ⟨p, 1, none⟩ (.slice B k d)).setCell ⟨p, 2, none⟩ (.int .i64 s)) A n c m := by
  have h1 := hp.put (i := 0) (by simp) (.bool b)
  have h2 := h1.put (i := 1) (by simp) (.slice B k d)
  have w1 : NoW [.bool b, v1, v2] := by
    intro u hu x; simp at hu
    rcases hu with rfl | rfl | rfl
    · intro e; cases e
    · exact hw _ (by simp) x
    · exact hw _ (by simp) x
  have w2 : NoW [.bool b, .slice B k d, v2] := by
    intro u hu x; simp at hu
    rcases hu with rfl | rfl | rfl
    · intro e; cases e
    · intro e; cases e
    · exact hw _ (by simp) x
  exact ((h.put hp (by simp) hw _).put h1 (by simp) w1 _).put h2 (by simp) w2 _
theorem At.put1 {W : World} {p : Nat} {v : Value} (h : At W p [v]) (u : Value) : At (W.setCell ⟨p, 0, none⟩ u) p [u] := h.put (i := 0) (by simp) u
theorem Bel.put {w W : World} (h : Bel w W) {p i : Nat} (hp : w.heap.size ≤ p) (u : Value) : Bel w (W.setCell ⟨p, i, none⟩ u) := Below.setCell h hp u
theorem Nm.putx {W : World} {A : Option Addr} {n c m : Nat} {p : Addr} (h : Nm W A n c m) (hv : ∃ v, W.cell? p = some v ∧ ∀ x : Nat, v ≠ U32 x) (u : Value) : Nm (W.setCell p u) A n c m := by
  obtain ⟨v, h1, h2⟩ := hv
  exact h.setn h1 h2 u
theorem not_u32 {A : Option Addr} {n c : Nat} : ∀ x : Nat, Value.slice A n c ≠ U32 x := fun x h => by cases h
/-- The world at a walk's end, by a name. -/
theorem name_end {P : Program} {f : Func} {R : Ending → World → Prop} {x : Exit} {a : Act} {X : World} (h : ∀ W', W' = X → bodyPost P f R x a W') : bodyPost P f R x a X := h X rfl
/-- What a call leaves that returns a number by its own box. -/
theorem ret_n {W w2 : World} {B : Option Addr} {d p v : Nat} {v0 : Value} (hW : Bel W w2) (hp : W.heap.size ≤ p) (hR : At w2 p [v0]) (hw : NoW [v0]) (hn : Nm w2 B (dl v) d v) :
    NumR W v (.returned (.agg #[.slice B (dl v) d])) (w2.setCell ⟨p, 0, none⟩ (.slice B (dl v) d)) :=
  ⟨B, d, rfl, hn.put (i := 0) hR (by simp) hw _, Below.setCell hW hp _⟩
section
variable {W w : World} {b b' : Bool} {A A' : Option Addr} {n n' c c' m m' : Nat} {s s' : Int}
theorem dzero_h (h : Nm W A n c m) : Calls Tryz.prog 51 #[.agg #[.slice A n c]] W (RetB W (decide (m = 0))) := by
  obtain ⟨u, hu⟩ : ∃ u, u = cmpI m 0 := ⟨_, rfl⟩
  have CC : Hid (∀ o, Calls Tryz.prog 31 #[.agg #[.slice A n c], .agg #[.slice none 0 0]] (W.alloc o) (IntPost (W.alloc o) u)) := fun o => by rw [hu]; exact cmp_u (h.al o) (nm_nil _ none 0)
  have HU : Hid ((u == 0) = decide (m = 0)) := by rw [hu]; exact cmpI_beq m 0
  clear h hu
  go_enter Tryz.func51, Tryz.ntmps51
  go_wp2_with (go_at_call 31; (with_reducible refine (CC.out _).mono ?_); rintro e w1 ⟨rfl, hbk⟩)
  go_ret
  exact ⟨bool_ret (by first | exact HU.out | (have := HU.out; simpa using this)), (bx1 hbk).2.2⟩
theorem ten_le {k : Nat} (hk : k ≤ 60) : dl (10 ^ k) ≤ 60 := dl_le (k := 60) (Nat.lt_of_le_of_lt (Nat.pow_le_pow_right (by decide) hk) (Nat.pow_lt_pow_left (by decide) (by decide)))
theorem power_h {k : Nat} (hk : k ≤ 60) : Calls Tryz.prog 93 #[.int .i64 (k : Int)] W (NumR W (10 ^ k)) := by
  obtain ⟨u, hu⟩ : ∃ u, u = 10 ^ k := ⟨_, rfl⟩
  have CO : Hid (∀ W', Calls Tryz.prog 56 #[.int .u64 10] W' (NumR W' 10)) := fun W' => of_h (v := 10) (by omega)
  have CP : Hid (∀ W' B e, Nm W' B (dl 10) e 10 → Calls Tryz.prog 98 #[.agg #[.slice B (dl 10) e], .int .i64 (k : Int)] W' (NumR W' u)) := fun W' B e h => pow_h h (by omega) (fun i hi => Nat.le_trans (ten_le (k := i) (by omega)) (by decide)) hu.symm
  have HU := hide hu
  clear hu
  have HB := Bel.refl W
  clear hk
  go_enter Tryz.func93, Tryz.ntmps93
  go_wp2_with (first | (go_at_call 56; (with_reducible refine (CO.out _).mono ?_); rintro e w1 ⟨B, e1, rfl, nb, hbk⟩; have HR := At.up (at_new0 _ _ _) hbk; replace HB := (HB.al _).up hbk) | (go_at_call 98; (with_reducible refine (CP.out _ _ _ nb).mono ?_); rintro e w2 ⟨B2, e2, rfl, nb2, hbk⟩; replace HB := HB.up hbk; replace HR := HR.up hbk; have hr_0 := HR.c0; have hr_l := HR.lt; have hr_f0 := HR.f0) | fail)
  refine bodyPost_ret (v := .agg #[.slice B2 (dl u) e2]) (by simp [results, Tryz.results93, go_sem, hr_0]) rfl ?_
  rw [HU.out]
  exact ret_n HB (Nat.le_refl _) HR now1 (by rw [← HU.out]; exact nb2)
set_option maxHeartbeats 1000000 in
theorem dgood_1 (h1 : ∀ W', Bel W W' → Calls Tryz.prog 50 #[.agg #[.slice A n c]] W' (RetB W' false)) : Calls Tryz.prog 16 #[.agg #[.bool b, .slice A n c, .int .i64 s]] W (RetB W false) := by
  have C1 := hide h1
  clear h1
  have HB := Bel.refl W
  go_enter Tryz.func16, Tryz.ntmps16
  go_wp2_with (first | (go_at_call 50; (with_reducible refine (C1.out _ (HB.al _)).mono ?_); rintro e w1 ⟨rfl, hbk⟩; have HA := At.up (at_new0 _ _ _) hbk; replace HB := (HB.al _).up hbk; have ha_0 := HA.c0; have ha_1 := HA.c1; have ha_2 := HA.c2; have ha_l := HA.lt) | fail)
  go_ret
  exact ⟨rfl, HB⟩
set_option maxHeartbeats 1000000 in
theorem dgood_2 (h1 : ∀ W', Bel W W' → Calls Tryz.prog 50 #[.agg #[.slice A n c]] W' (RetB W' true)) (hs : ¬ 0 ≤ s) : Calls Tryz.prog 16 #[.agg #[.bool b, .slice A n c, .int .i64 s]] W (RetB W false) := by
  have C1 := hide h1
  clear h1
  have HB := Bel.refl W
  go_enter Tryz.func16, Tryz.ntmps16
  go_wp2_with (first | (go_at_call 50; (with_reducible refine (C1.out _ (HB.al _)).mono ?_); rintro e w1 ⟨rfl, hbk⟩; have HA := At.up (at_new0 _ _ _) hbk; replace HB := (HB.al _).up hbk; have ha_0 := HA.c0; have ha_1 := HA.c1; have ha_2 := HA.c2; have ha_l := HA.lt) | fail)
  go_ret
  exact ⟨rfl, HB⟩
set_option maxHeartbeats 1000000 in
theorem dgood_3 (h1 : ∀ W', Bel W W' → Calls Tryz.prog 50 #[.agg #[.slice A n c]] W' (RetB W' true)) (hs : 0 ≤ s) (hs2 : ¬ s ≤ 60) : Calls Tryz.prog 16 #[.agg #[.bool b, .slice A n c, .int .i64 s]] W (RetB W false) := by
  have C1 := hide h1
  clear h1
  have HB := Bel.refl W
  go_enter Tryz.func16, Tryz.ntmps16
  go_wp2_with (first | (go_at_call 50; (with_reducible refine (C1.out _ (HB.al _)).mono ?_); rintro e w1 ⟨rfl, hbk⟩; have HA := At.up (at_new0 _ _ _) hbk; replace HB := (HB.al _).up hbk; have ha_0 := HA.c0; have ha_1 := HA.c1; have ha_2 := HA.c2; have ha_l := HA.lt) | fail)
  go_ret
  exact ⟨rfl, HB⟩
set_option maxHeartbeats 1000000 in
theorem dgood_4 (h1 : ∀ W', Bel W W' → Calls Tryz.prog 50 #[.agg #[.slice A n c]] W' (RetB W' true)) (hs : 0 ≤ s) (hs2 : s ≤ 60) : Calls Tryz.prog 16 #[.agg #[.bool false, .slice A n c, .int .i64 s]] W (RetB W true) := by
  have C1 := hide h1
  clear h1
  have HB := Bel.refl W
  go_enter Tryz.func16, Tryz.ntmps16
  go_wp2_with (first | (go_at_call 50; (with_reducible refine (C1.out _ (HB.al _)).mono ?_); rintro e w1 ⟨rfl, hbk⟩; have HA := At.up (at_new0 _ _ _) hbk; replace HB := (HB.al _).up hbk; have ha_0 := HA.c0; have ha_1 := HA.c1; have ha_2 := HA.c2; have ha_l := HA.lt) | fail)
  go_ret
  exact ⟨rfl, HB⟩
set_option maxHeartbeats 1000000 in
theorem dgood_5 (h1 : ∀ W', Bel W W' → Calls Tryz.prog 50 #[.agg #[.slice A n c]] W' (RetB W' true))(h2 : ∀ W', Bel W W' → Calls Tryz.prog 51 #[.agg #[.slice A n c]] W' (RetB W' false)) (hs : 0 ≤ s) (hs2 : s ≤ 60) : Calls Tryz.prog 16 #[.agg #[.bool true, .slice A n c, .int .i64 s]] W (RetB W true) := by
  have C1 := hide h1
  have C2 := hide h2
  clear h2
  clear h1
  have HB := Bel.refl W
  go_enter Tryz.func16, Tryz.ntmps16
  go_wp2_with (first | (go_at_call 50; (with_reducible refine (C1.out _ (HB.al _)).mono ?_); rintro e w1 ⟨rfl, hbk⟩; have HA := At.up (at_new0 _ _ _) hbk; replace HB := (HB.al _).up hbk; have ha_0 := HA.c0; have ha_1 := HA.c1; have ha_2 := HA.c2; have ha_l := HA.lt) | (go_at_call 51; (with_reducible refine (C2.out _ HB).mono ?_); rintro e w2 ⟨rfl, hbk⟩; replace HB := HB.up hbk) | fail)
  go_ret
  exact ⟨rfl, HB⟩
set_option maxHeartbeats 1000000 in
theorem dgood_6 (h1 : ∀ W', Bel W W' → Calls Tryz.prog 50 #[.agg #[.slice A n c]] W' (RetB W' true))(h2 : ∀ W', Bel W W' → Calls Tryz.prog 51 #[.agg #[.slice A n c]] W' (RetB W' true)) (hs : 0 ≤ s) (hs2 : s ≤ 60) : Calls Tryz.prog 16 #[.agg #[.bool true, .slice A n c, .int .i64 s]] W (RetB W false) := by
  have C1 := hide h1
  have C2 := hide h2
  clear h2
  clear h1
  have HB := Bel.refl W
  go_enter Tryz.func16, Tryz.ntmps16
  go_wp2_with (first | (go_at_call 50; (with_reducible refine (C1.out _ (HB.al _)).mono ?_); rintro e w1 ⟨rfl, hbk⟩; have HA := At.up (at_new0 _ _ _) hbk; replace HB := (HB.al _).up hbk; have ha_0 := HA.c0; have ha_1 := HA.c1; have ha_2 := HA.c2; have ha_l := HA.lt) | (go_at_call 51; (with_reducible refine (C2.out _ HB).mono ?_); rintro e w2 ⟨rfl, hbk⟩; replace HB := HB.up hbk) | fail)
  go_ret
  exact ⟨rfl, HB⟩

/-- Whether a numeral is valid: one answer in every later world. -/
theorem dgood_e (h : Nm w A n c m) (s : Int) : ∃ u, (u = true → 0 ≤ s ∧ s ≤ 60 ∧ (b = true → 0 < m)) ∧ ∀ W', Bel w W' → Calls Tryz.prog 16 #[.agg #[.bool b, .slice A n c, .int .i64 s]] W' (RetB W' u) := by
  obtain ⟨g, hg⟩ := ngood_e h
  have e1 : ∀ W', Bel w W' → ∀ W2, Bel W' W2 → Calls Tryz.prog 50 #[.agg #[.slice A n c]] W2 (RetB W2 g) := fun W' hb W2 hb2 => hg W2 (Bel.up hb hb2)
  have e2 : ∀ W', Bel w W' → ∀ W2, Bel W' W2 → Calls Tryz.prog 51 #[.agg #[.slice A n c]] W2 (RetB W2 (decide (m = 0))) := fun W' hb W2 hb2 => dzero_h (h.up (Bel.up hb hb2))
  cases g
  · exact ⟨false, (fun h => by cases h), fun W' hb => dgood_1 (e1 W' hb)⟩
  · by_cases h0 : 0 ≤ s
    · by_cases h6 : s ≤ 60
      · cases b
        · exact ⟨true, fun _ => ⟨h0, h6, fun h => by cases h⟩, fun W' hb => dgood_4 (e1 W' hb) h0 h6⟩
        · by_cases hm : m = 0
          · rw [decide_eq_true hm] at e2
            exact ⟨false, (fun h => by cases h), fun W' hb => dgood_6 (e1 W' hb) (e2 W' hb) h0 h6⟩
          · rw [decide_eq_false hm] at e2
            exact ⟨true, fun _ => ⟨h0, h6, fun _ => by omega⟩, fun W' hb => dgood_5 (e1 W' hb) (e2 W' hb) h0 h6⟩
      · exact ⟨false, (fun h => by cases h), fun W' hb => dgood_3 (e1 W' hb) h0 h6⟩
    · exact ⟨false, (fun h => by cases h), fun W' hb => dgood_2 (e1 W' hb) h0⟩
/-- A valid numeral: m is what its digits make, s how many are behind the point. -/
structure DX (W : World) (b : Bool) (A : Option Addr) (n c : Nat) (m s : Nat) : Prop where
  nm : Nm W A n c m
  sc : s ≤ 60
  ng : b = true → 0 < m
  gd : ∀ W', Bel W W' → Calls Tryz.prog 16 #[.agg #[.bool b, .slice A n c, .int .i64 (s : Int)]] W' (RetB W' true)
theorem DX.bel {W W' : World} {s : Nat} (h : DX W b A n c m s) (hb : Bel W W') : DX W' b A n c m s := ⟨h.nm.up hb.hid, h.sc, h.ng, fun W2 h2 => h.gd W2 (hb.up h2.hid)⟩
theorem DX.up {W W' : World} {s : Nat} (h : DX W b A n c m s) (hb : Hid (Below W.heap.size W W')) : DX W' b A n c m s := h.bel (Bel.of hb)
theorem DX.al {s : Nat} (h : DX W b A n c m s) (o : Obj) : DX (W.alloc o) b A n c m s := h.bel ((Bel.refl W).al o)
theorem DX.dr {s : Nat} (h : DX W b A n c m s) : DX W.drew b A n c m s := h.bel (Bel.refl W).dr
theorem dx_can {s : Nat} (h : Nm W A (dl m) c m) (hs : s ≤ 60) (hn : b = true → 0 < m) : DX W b A (dl m) c m s := by
  refine ⟨h, hs, hn, fun W' hb => ?_⟩
  cases b
  · exact dgood_4 (fun W2 hb2 => good_h (h.up (Bel.up hb hb2))) (by omega) (by omega)
  · refine dgood_5 (fun W2 hb2 => good_h (h.up (Bel.up hb hb2))) (fun W2 hb2 => ?_) (by omega) (by omega)
    have h1 := dzero_h (h.up (Bel.up hb hb2))
    rwa [decide_eq_false (by have := hn rfl; omega)] at h1
theorem dx_zero (W : World) : DX W false none 0 0 0 0 := by
  refine ⟨nm_nil _ _ _, by decide, (fun h => by cases h), fun W' hb => ?_⟩
  exact dgood_4 (fun W2 hb2 => good_nil.mono fun _ _ h => h) (by omega) (by omega)
/-- What counted returns. -/
def CnR (W : World) (b : Bool) (A : Option Addr) (n c : Nat) (s : Nat) (e : Ending) (w' : World) : Prop := e = .returned (.agg #[.bool b, .slice A n c, .int .i64 (s : Int)]) ∧ Hid (Below W.heap.size W w')
set_option maxHeartbeats 1000000 in
theorem counted_no (h : ∀ W', Bel W W' → Calls Tryz.prog 16 #[.agg #[.bool b, .slice A n c, .int .i64 s]] W' (RetB W' false)) : Calls Tryz.prog 57 #[.agg #[.bool b, .slice A n c, .int .i64 s]] W (fun e w' => e = .returned (.agg #[.bool false, .slice none 0 0, .int .i64 0]) ∧ Bel W w') := by
  have CG := hide h
  clear h
  have HB := Bel.refl W
  go_enter Tryz.func57, Tryz.ntmps57
  go_wp2_with (first | (go_at_call 16; (with_reducible refine (CG.out _ ((HB.al _).al _)).mono ?_); rintro e w1 ⟨rfl, hbk⟩; have HA := At.up ((at_new0 _ _ _).al _) hbk; have HR := At.up (at_new1 _ _ _ _) hbk; replace HB := ((HB.al _).al _).up hbk; have ha_0 := HA.c0; have ha_1 := HA.c1; have ha_2 := HA.c2; have ha_l := HA.lt; have hr_0 := HR.c0; have hr_1 := HR.c1; have hr_2 := HR.c2; have hr_l := HR.lt; have hr_f0 := HR.f0; have hr_f1 := HR.f1; have hr_f2 := HR.f2) | fail)
  refine bodyPost_ret (v := .agg #[.bool false, .slice none 0 0, .int .i64 0]) (by simp [results, Tryz.results57, go_sem, hr_0, hr_1, hr_2]) rfl ?_
  exact ⟨rfl, below3 HB (by omega) _ _ _⟩
set_option maxHeartbeats 1000000 in
theorem counted_yes (h : ∀ W', Bel W W' → Calls Tryz.prog 16 #[.agg #[.bool b, .slice A n c, .int .i64 s]] W' (RetB W' true)) : Calls Tryz.prog 57 #[.agg #[.bool b, .slice A n c, .int .i64 s]] W (fun e w' => e = .returned (.agg #[.bool b, .slice A n c, .int .i64 s]) ∧ Bel W w') := by
  have CG := hide h
  clear h
  have HB := Bel.refl W
  go_enter Tryz.func57, Tryz.ntmps57
  go_wp2_with (first | (go_at_call 16; (with_reducible refine (CG.out _ ((HB.al _).al _)).mono ?_); rintro e w1 ⟨rfl, hbk⟩; have HA := At.up ((at_new0 _ _ _).al _) hbk; have HR := At.up (at_new1 _ _ _ _) hbk; replace HB := ((HB.al _).al _).up hbk; have ha_0 := HA.c0; have ha_1 := HA.c1; have ha_2 := HA.c2; have ha_l := HA.lt; have hr_0 := HR.c0; have hr_1 := HR.c1; have hr_2 := HR.c2; have hr_l := HR.lt; have hr_f0 := HR.f0; have hr_f1 := HR.f1; have hr_f2 := HR.f2) | fail)
  refine bodyPost_ret (v := .agg #[.bool b, .slice A n c, .int .i64 s]) (by simp [results, Tryz.results57, go_sem, hr_0, hr_1, hr_2]) rfl ?_
  exact ⟨rfl, below3 HB (by omega) _ _ _⟩

theorem dx_counted {s : Nat} (h : DX W b A n c m s) : Calls Tryz.prog 57 #[.agg #[.bool b, .slice A n c, .int .i64 (s : Int)]] W (CnR W b A n c s) := (counted_yes h.gd).mono fun _ _ h => h
/-- Any numeral as an argument: what it counts as. -/
def DY (W : World) (x : Value) (b : Bool) (A : Option Addr) (n c : Nat) (m s : Nat) : Prop := DX W b A n c m s ∧ Hid (∀ W', Bel W W' → Calls Tryz.prog 57 #[x] W' (CnR W' b A n c s))
theorem DX.y {s : Nat} (h : DX W b A n c m s) : DY W (.agg #[.bool b, .slice A n c, .int .i64 (s : Int)]) b A n c m s := ⟨h, fun W' hb => dx_counted (h.bel hb)⟩
theorem DY.bel {x : Value} {s : Nat} {W' : World} (h : DY W x b A n c m s) (hb : Bel W W') : DY W' x b A n c m s := ⟨h.1.bel hb, fun W2 h2 => h.2.out W2 (hb.up h2.hid)⟩
theorem dy_no {s : Int} (h : ∀ W', Bel W W' → Calls Tryz.prog 16 #[.agg #[.bool b, .slice A n c, .int .i64 s]] W' (RetB W' false)) : DY W (.agg #[.bool b, .slice A n c, .int .i64 s]) false none 0 0 0 0 :=
  ⟨dx_zero W, fun W' hb => (counted_no (fun W2 h2 => h W2 (hb.up h2.hid))).mono fun _ _ h => h⟩
end
end Go.Proofs.YtmiklffjffdkgaaGreatDoor
end

section
/- The document's own numerals: DWhole, DRat. Conditions: numbers of at most 99999 of its words, scales of at most 1000. -/
open Go.RowKit
set_option maxRecDepth 100000
namespace Go.Proofs.YtmiklffjffdkgaaGreatDoor
section
variable {W : World} {b : Bool} {A : Option Addr} {c m s : Nat}
theorem ten_dq {s : Nat} (hs : s ≤ 1000) : dq (10 ^ s) ≤ 99999 := Nat.le_trans (dq_le (ten_lt s)) (by omega)
set_option maxHeartbeats 4000000 in
theorem rdrat_h {z : Int} {t : Bool} {r : Rat} (h : Rn W A c z.natAbs) (ht : t = (b && decide (0 < z.natAbs))) (hz : z = zi t z.natAbs) (hl : dq z.natAbs ≤ 99999) (hs : s ≤ 1000) (hr : mkRat z (10 ^ s) = r) :
    Calls Tryz.prog 52 #[.agg #[.bool b, .slice A (dq z.natAbs) c, .int .i64 (s : Int)]] W (RQm W (decide (r.num < 0)) r.num r.den) := by
  obtain ⟨p, hp⟩ : ∃ p, p = 10 ^ s := ⟨_, rfl⟩
  obtain ⟨sr, hsr⟩ : ∃ x, x = decide (r.num < 0) := ⟨_, rfl⟩
  have CT : Hid (∀ W', Calls Tryz.prog 46 #[.int .i64 (s : Int)] W' (RefPost W' p)) := fun W' => by rw [hp]; exact rTen_any (by omega)
  have CZ : Hid (∀ W', Rn W' A c z.natAbs → Calls Tryz.prog 24 #[.bool b, .slice A (dq z.natAbs) c] W' (RZb W' t A (dq z.natAbs) c z.natAbs)) := fun W' g => rzof_h g ht
  have CQ : Hid (∀ W' G g, Rn W' A c z.natAbs → Rn W' G g p → Calls Tryz.prog 23 #[.agg #[.bool t, .slice A (dq z.natAbs) c], .slice G (dq p) g] W' (RQm W' sr r.num r.den)) := fun W' G g g1 g2 => by
    have h2 := rqof_h (r := r) g1 g2 hz (by rw [hp]; exact Nat.pow_pos (by decide)) (by rw [hp]; exact hr) hl (by rw [hp]; exact ten_dq hs)
    rw [hsr]
    exact h2.mono fun _ _ ⟨A, c, A', c', he, n1, n2, hb⟩ => ⟨A, c, A', c', he, ⟨n1, rfl⟩, n2, hb⟩
  rw [← hsr]
  obtain ⟨m, hm⟩ : ∃ m, m = z.natAbs := ⟨_, rfl⟩
  rw [← hm] at h CZ CQ ⊢
  have HB := Bel.refl W
  clear hl hs hp hz hr hsr ht hm
  go_enter Tryz.func52, Tryz.ntmps52
  go_wp2_with fail
  obtain ⟨W1, hW1⟩ : ∃ X, X = (W.alloc (.cells #[.bool b, .slice A (dq m) c, .int .i64 (s : Int)] 50)).alloc (.cells #[.bool false, .slice none 0 0, .slice none 0 0] 38) := ⟨_, rfl⟩
  rw [← hW1]
  have HP : At W1 W.heap.size [.bool b, .slice A (dq m) c, .int .i64 (s : Int)] := by rw [hW1]; exact (at_new0 _ _ _).al _
  have HR : At W1 (W.heap.size + 1) [.bool false, .slice none 0 0, .slice none 0 0] := by rw [hW1]; exact at_new1 _ _ _ _
  replace HB : Bel W W1 := by rw [hW1]; exact (HB.al _).al _
  replace h : Rn W1 A c m := by rw [hW1]; exact (h.al _).al _
  clear hW1
  have l0 := HP.lt
  have l1 := HR.lt
  go_region_held3 (fun w' => w'.cell? ⟨W.heap.size, 0, none⟩ = some (.bool b) ∧ w'.cell? ⟨W.heap.size, 1, none⟩ = some (.slice A (dq m) c) ∧ w'.cell? ⟨W.heap.size, 2, none⟩ = some (.int .i64 (s : Int)))
    (refine ⟨(?_ : At _ W.heap.size [.bool b, .slice A (dq m) c, .int .i64 (s : Int)]).c0, (?_ : At _ W.heap.size [.bool b, .slice A (dq m) c, .int .i64 (s : Int)]).c1, (?_ : At _ W.heap.size [.bool b, .slice A (dq m) c, .int .i64 (s : Int)]).c2⟩ <;> (repeat (first | with_reducible exact HP | (with_reducible refine At.dr ?_) | (with_reducible refine At.al ?_ _) | (with_reducible refine At.far ?_ (by omega) _))))
    (first
      | (go_at_call 24; (with_reducible refine (CZ.out _ h.dr).mono ?_); rintro e w1 ⟨rfl, nz, hbk⟩; (with_reducible (replace HB := HB.dr.up hbk; replace HP := HP.dr.up hbk; replace HR := HR.dr.up hbk; replace h := h.dr.up hbk)))
      | (go_at_call 46; (with_reducible refine (CT.out _).mono ?_); rintro e w2 ⟨B, d, rfl, n1, hbk⟩; (with_reducible (replace HB := HB.up hbk; replace HP := HP.up hbk; replace HR := HR.up hbk; replace h := h.up hbk)))
      | (go_at_call 23; (with_reducible refine (CQ.out _ _ _ h (Rn.of n1)).mono ?_); rintro e w3 ⟨X, i, Y, j, rfl, nq, nr, hbk⟩; (with_reducible (replace HB := HB.up hbk; replace HP := HP.up hbk; replace HR := HR.up hbk)); have hr_0 := HR.c0; have hr_1 := HR.c1; have hr_2 := HR.c2; have hr_l := HR.lt; have hr_f0 := HR.f0; have hr_f1 := HR.f1; have hr_f2 := HR.f2)
      | fail)
  go_wp2_with fail
  refine bodyPost_ret (v := .agg #[.bool sr, .slice X (dq r.num.natAbs) i, .slice Y (dq r.den) j]) (by simp [results, Tryz.results52, go_sem, hr_0, hr_1, hr_2]) rfl ?_
  exact rqm_end nq nr HR HB (by omega)
end
end Go.Proofs.YtmiklffjffdkgaaGreatDoor
end
