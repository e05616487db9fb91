/- Several texts in one, each with its own sentence and conditions. -/
import Derived.Test.YteahcbeohopdlaaDoorQf
import Derived.Test.YteahcbeohopdlaaDoorGRkc10
import Derived.Test.YteahcbeohopdlaaDoorQe
import Derived.Test.YteahcbeohopdlaaDoorGRkc22
import Derived.Test.YteahcbeohopdlaaDoorGRkc6
import Derived.Test.YteahcbeohopdlaaDoorGRkc8
import Derived.Test.YteahcbeohopdlaaDoorGRkc7
import Derived.Deep.LoopGhost
import Derived.Test.YteahcbeohopdlaaDoorKp
import Derived.Test.YteahcbeohopdlaaDoorGRkc9
section
/- A fraction that came in; bounds of sums, products, floors. No conditions. -/
open Go.RowKit
set_option maxRecDepth 100000
namespace Go.Proofs.YteahcbeohopdlaaDoor
def Bd (r : Rat) (K : Nat) : Prop := r.num.natAbs < W32 ^ K ∧ r.den < W32 ^ K
theorem Bd.more {r : Rat} {K L : Nat} (h : Bd r K) (hl : K ≤ L) : Bd r L := ⟨Nat.lt_of_lt_of_le h.1 (Nat.pow_le_pow_right (by decide) hl), Nat.lt_of_lt_of_le h.2 (Nat.pow_le_pow_right (by decide) hl)⟩
theorem Bd.tt {r : Rat} {K : Nat} (h : Bd r K) : TT r.num r.den r K := ⟨r.den_pos, Rat.mkRat_self r, h.1, h.2⟩
theorem Bd.add {r r' : Rat} {K : Nat} (h : Bd r K) (h' : Bd r' K) : Bd (r + r') (K + K + 1) := by
  obtain ⟨h1, h2, h3, h4⟩ := tt_add h.tt h'.tt
  exact tt_bd ⟨h1, h2, h3, Nat.lt_of_lt_of_le h4 (Nat.pow_le_pow_right (by decide) (by omega))⟩
theorem Bd.mul {r r' : Rat} {K : Nat} (h : Bd r K) (h' : Bd r' K) : Bd (r * r') (K + K) := by
  obtain ⟨h1, h2, h3, h4⟩ := tt_mul h.tt h'.tt
  exact tt_bd ⟨h1, h2, h3, h4⟩
theorem Bd.neg {r : Rat} {K : Nat} (h : Bd r K) : Bd (-r) K := ⟨by rw [Rat.neg_num, Int.natAbs_neg]; exact h.1, h.2⟩
theorem bd_int {z : Int} {K : Nat} (h : z.natAbs < W32 ^ K) (hK : 0 < K) : Bd (z : Rat) K := ⟨h, Nat.one_lt_pow (by omega) (by decide)⟩
theorem bd_floor {r : Rat} {K : Nat} (h : Bd r K) : r.floor.natAbs < W32 ^ K := by
  rw [Rat.floor_def]
  exact Nat.lt_of_le_of_lt (Int.natAbs_ediv_le_natAbs _ _) h.1
theorem QA.more {W : World} {b : Bool} {A A' : Option Addr} {n c n' c' K L : Nat} {r : Rat} (h : QA W b A n c A' n' c' r K) (hl : K ≤ L) : QA W b A n c A' n' c' r L := by
  obtain ⟨z, d, h1, h2, h3, h4, h5⟩ := h
  exact ⟨z, d, h1, h2, h3, Nat.lt_of_lt_of_le h4 (Nat.pow_le_pow_right (by decide) hl), Nat.lt_of_lt_of_le h5 (Nat.pow_le_pow_right (by decide) hl)⟩
/-- What came in: a sign and two slices of words. -/
theorem qa_in {w : World} {b : Bool} {A A' : Option Addr} {n c n' c' : Nat} {ws ws' : List Nat} (h : n = ws.length ∧ n ≤ c ∧ Rd U32 w w.heap.size A ws ∧ Good32 ws) (h' : n' = ws'.length ∧ n' ≤ c' ∧ Rd U32 w w.heap.size A' ws' ∧ Good32 ws') (hn : n ≤ 12 ∧ n' ≤ 12) :
    QA w b A n c A' n' c' (mkRat (zi b (val W32 ws)) (val W32 ws')) 12 := by
  have lt : ∀ {l : List Nat} {k : Nat}, Good32 l → k = l.length → k ≤ 12 → val W32 l < W32 ^ 12 := fun hg hk h12 => Nat.lt_of_lt_of_le (val_lt _ hg) (Nat.pow_le_pow_right (by decide) (by omega))
  exact ⟨_, _, za_of (nm_later (later_of h (by omega)) (Below.refl _ _)), nm_later (later_of h' (by omega)) (Below.refl _ _), rfl, by rw [zi_abs]; exact lt h.2.2.2 h.1 hn.1, lt h'.2.2.2 h'.1 hn.2⟩
section
variable {W : World} {p q : Nat} {v0 v1 v2 x y z : Value} {vs : List Value}
theorem At.put3 (h : At W p [v0, v1, v2]) (x y z : Value) : At (((W.setCell ⟨p, 0, none⟩ x).setCell ⟨p, 1, none⟩ y).setCell ⟨p, 2, none⟩ z) p [x, y, z] :=
  ((h.put (i := 0) (by simp) x).put (i := 1) (by simp) y).put (i := 2) (by simp) z
theorem At.far3 (h : At W p vs) (hq : q ≠ p) (x y z : Value) : At (((W.setCell ⟨q, 0, none⟩ x).setCell ⟨q, 1, none⟩ y).setCell ⟨q, 2, none⟩ z) p vs :=
  ((h.far hq x).far hq y).far hq z
theorem ZA.put3 {s : Bool} {A : Option Addr} {n c : Nat} {u : Int} {b0 : Bool} {B0 B1 : Option Addr} {k0 d0 k1 d1 : Nat} (h : ZA W s A n c u) (hp : At W p [.bool b0, .slice B0 k0 d0, .slice B1 k1 d1]) {b : Bool} {B B' : Option Addr} {k d k' d' : Nat} :
    ZA (((W.setCell ⟨p, 0, none⟩ (.bool b)).setCell ⟨p, 1, none⟩ (.slice B k d)).setCell ⟨p, 2, none⟩ (.slice B' k' d')) s A n c u := ⟨h.1.put3 hp now3, h.2⟩
end
end Go.Proofs.YteahcbeohopdlaaDoor
end

section
/- Package rat: Good of any fraction, Inv. Conditions: terms of at most 20000 words. -/
open Go.RowKit
set_option maxRecDepth 100000
namespace Go.Proofs.YteahcbeohopdlaaDoor
section
variable {W w : World} {b : Bool} {A A' : Option Addr} {n c n' c' K m m' : Nat} {r : Rat} {z : Int}
/-- Whether the words of a number are valid: one answer in every later world. -/
theorem ngood_e (h : Nm w A n c m) : ∃ g, ∀ W', Bel w W' → Calls Tryd.prog 33 #[.agg #[.slice A n c]] W' (RetB W' g) := by
  obtain ⟨ws, h1, h2, h3, hr, h4⟩ := h.out
  refine ⟨goodB ws, fun W' hb => ?_⟩
  exact (Good_any (c := c) h1 ((hr.below hb).more (Below.size hb)) (by omega)).mono fun e w' ⟨he, hb2⟩ => ⟨he, hb2⟩
set_option maxHeartbeats 1000000 in
theorem zgood_f (hn : ∀ W', Bel W W' → Calls Tryd.prog 33 #[.agg #[.slice A n c]] W' (RetB W' false)) :
    Calls Tryd.prog 32 #[.agg #[.bool b, .slice A n c]] W (RetB W false) := by
  have CG := hide hn
  clear hn
  have HB := Bel.refl W
  go_enter Tryd.func32, Tryd.ntmps32
  go_wp2_with (first | (go_at_call 33; (with_reducible refine (CG.out _ (HB.al _)).mono ?_); rintro e w1 ⟨rfl, hbk⟩; have HP := At.up (at_new0 _ _ _) hbk; replace HB := (HB.al _).up hbk; have hp_0 := HP.c0; have hp_1 := HP.c1; have hp_l := HP.lt) | fail)
  go_ret
  exact ⟨rfl, HB⟩
set_option maxHeartbeats 1000000 in
theorem zgood_p (hn : ∀ W', Bel W W' → Calls Tryd.prog 33 #[.agg #[.slice A n c]] W' (RetB W' true)) :
    Calls Tryd.prog 32 #[.agg #[.bool false, .slice A n c]] W (RetB W true) := by
  have CG := hide hn
  clear hn
  have HB := Bel.refl W
  go_enter Tryd.func32, Tryd.ntmps32
  go_wp2_with (first | (go_at_call 33; (with_reducible refine (CG.out _ (HB.al _)).mono ?_); rintro e w1 ⟨rfl, hbk⟩; have HP := At.up (at_new0 _ _ _) hbk; replace HB := (HB.al _).up hbk; have hp_0 := HP.c0; have hp_1 := HP.c1; have hp_l := HP.lt) | fail)
  go_ret
  exact ⟨rfl, HB⟩
set_option maxHeartbeats 1000000 in
theorem zgood_t (hn : ∀ W', Bel W W' → Calls Tryd.prog 33 #[.agg #[.slice A n c]] W' (RetB W' true)) (hz : ∀ W', Bel W W' → Calls Tryd.prog 64 #[.agg #[.slice A n c]] W' (BoolR W' false)) :
    Calls Tryd.prog 32 #[.agg #[.bool true, .slice A n c]] W (RetB W true) := by
  have CG := hide hn
  have CZ := hide hz
  clear hz
  clear hn
  have HB := Bel.refl W
  go_enter Tryd.func32, Tryd.ntmps32
  go_wp2_with (first | (go_at_call 33; (with_reducible refine (CG.out _ (HB.al _)).mono ?_); rintro e w1 ⟨rfl, hbk⟩; have HP := At.up (at_new0 _ _ _) hbk; replace HB := (HB.al _).up hbk; have hp_0 := HP.c0; have hp_1 := HP.c1; have hp_l := HP.lt) | (go_at_call 64; (with_reducible refine (CZ.out _ HB).mono ?_); rintro e w2 ⟨rfl, hbk⟩; replace HB := HB.up hbk) | fail)
  go_ret
  exact ⟨rfl, HB⟩
set_option maxHeartbeats 1000000 in
theorem zgood_n (hn : ∀ W', Bel W W' → Calls Tryd.prog 33 #[.agg #[.slice A n c]] W' (RetB W' true)) (hz : ∀ W', Bel W W' → Calls Tryd.prog 64 #[.agg #[.slice A n c]] W' (BoolR W' true)) :
    Calls Tryd.prog 32 #[.agg #[.bool true, .slice A n c]] W (RetB W false) := by
  have CG := hide hn
  have CZ := hide hz
  clear hz
  clear hn
  have HB := Bel.refl W
  go_enter Tryd.func32, Tryd.ntmps32
  go_wp2_with (first | (go_at_call 33; (with_reducible refine (CG.out _ (HB.al _)).mono ?_); rintro e w1 ⟨rfl, hbk⟩; have HP := At.up (at_new0 _ _ _) hbk; replace HB := (HB.al _).up hbk; have hp_0 := HP.c0; have hp_1 := HP.c1; have hp_l := HP.lt) | (go_at_call 64; (with_reducible refine (CZ.out _ HB).mono ?_); rintro e w2 ⟨rfl, hbk⟩; replace HB := HB.up hbk) | fail)
  go_ret
  exact ⟨rfl, HB⟩
theorem zisz_e (h : Nm w A n c m) : ∃ f, ∀ W', Bel w W' → Calls Tryd.prog 64 #[.agg #[.slice A n c]] W' (BoolR W' f) := by
  by_cases h0 : m = 0
  · exact ⟨true, fun W' hb => isZero_yes (h.up hb) h0⟩
  · exact ⟨false, fun W' hb => isZero_no (h.up hb) (by omega)⟩
/-- One of num.Good's two walks, in every later world with one answer. -/
theorem zgood_e (h : ZA w b A n c z) : ∃ u, ∀ W', Bel w W' → Calls Tryd.prog 32 #[.agg #[.bool b, .slice A n c]] W' (RetB W' u) := by
  obtain ⟨g, hg⟩ := ngood_e h.1
  obtain ⟨f, hf⟩ := zisz_e h.1
  cases g
  · refine ⟨false, fun W' hb => ?_⟩
    exact zgood_f (fun W2 hb2 => hg W2 (Bel.up hb hb2))
  · cases b
    · exact ⟨true, fun W' hb => zgood_p (fun W2 hb2 => hg W2 (Bel.up hb hb2))⟩
    · cases f
      · exact ⟨true, fun W' hb => zgood_t (fun W2 hb2 => hg W2 (Bel.up hb hb2)) (fun W2 hb2 => hf W2 (Bel.up hb hb2))⟩
      · exact ⟨false, fun W' hb => zgood_n (fun W2 hb2 => hg W2 (Bel.up hb hb2)) (fun W2 hb2 => hf W2 (Bel.up hb hb2))⟩
set_option maxHeartbeats 1000000 in
theorem rgood_1 (h1 : ∀ W', Bel W W' → Calls Tryd.prog 32 #[.agg #[.bool b, .slice A n c]] W' (RetB W' false)) :
    Calls Tryd.prog 44 #[.agg #[.bool b, .slice A n c, .slice A' n' c']] W (RetB W false) := by
  have C1 := hide h1
  clear h1
  have HB := Bel.refl W
  go_enter Tryd.func44, Tryd.ntmps44
  go_wp2_with (first | (go_at_call 32; (with_reducible refine (C1.out _ (HB.al _)).mono ?_); rintro e w1 ⟨rfl, hbk⟩; have HQ := At.up (at_new0 _ _ _) hbk; replace HB := (HB.al _).up hbk; have hq_0 := HQ.c0; have hq_1 := HQ.c1; have hq_2 := HQ.c2; have hq_l := HQ.lt) | fail)
  go_ret
  exact ⟨rfl, HB⟩
set_option maxHeartbeats 1000000 in
theorem rgood_2 (h1 : ∀ W', Bel W W' → Calls Tryd.prog 32 #[.agg #[.bool b, .slice A n c]] W' (RetB W' true)) (h2 : ∀ W', Bel W W' → Calls Tryd.prog 33 #[.agg #[.slice A' n' c']] W' (RetB W' false)) :
    Calls Tryd.prog 44 #[.agg #[.bool b, .slice A n c, .slice A' n' c']] W (RetB W false) := by
  have C1 := hide h1
  clear h1
  have C2 := hide h2
  clear h2
  have HB := Bel.refl W
  go_enter Tryd.func44, Tryd.ntmps44
  go_wp2_with (first | (go_at_call 32; (with_reducible refine (C1.out _ (HB.al _)).mono ?_); rintro e w1 ⟨rfl, hbk⟩; have HQ := At.up (at_new0 _ _ _) hbk; replace HB := (HB.al _).up hbk; have hq_0 := HQ.c0; have hq_1 := HQ.c1; have hq_2 := HQ.c2; have hq_l := HQ.lt) | (go_at_call 33; (with_reducible refine (C2.out _ HB).mono ?_); rintro e w2 ⟨rfl, hbk⟩; replace HB := HB.up hbk; replace HQ := HQ.up hbk; clear hq_0 hq_1 hq_2 hq_l; have hq_0 := HQ.c0; have hq_1 := HQ.c1; have hq_2 := HQ.c2; have hq_l := HQ.lt) | fail)
  go_ret
  exact ⟨rfl, HB⟩
set_option maxHeartbeats 1000000 in
theorem rgood_3 (h1 : ∀ W', Bel W W' → Calls Tryd.prog 32 #[.agg #[.bool b, .slice A n c]] W' (RetB W' true)) (h2 : ∀ W', Bel W W' → Calls Tryd.prog 33 #[.agg #[.slice A' n' c']] W' (RetB W' true)) (h3 : ∀ W', Bel W W' → Calls Tryd.prog 95 #[.agg #[.slice A' n' c']] W' (RetB W' true)) :
    Calls Tryd.prog 44 #[.agg #[.bool b, .slice A n c, .slice A' n' c']] W (RetB W false) := by
  have C1 := hide h1
  clear h1
  have C2 := hide h2
  clear h2
  have C3 := hide h3
  clear h3
  have HB := Bel.refl W
  go_enter Tryd.func44, Tryd.ntmps44
  go_wp2_with (first | (go_at_call 32; (with_reducible refine (C1.out _ (HB.al _)).mono ?_); rintro e w1 ⟨rfl, hbk⟩; have HQ := At.up (at_new0 _ _ _) hbk; replace HB := (HB.al _).up hbk; have hq_0 := HQ.c0; have hq_1 := HQ.c1; have hq_2 := HQ.c2; have hq_l := HQ.lt) | (go_at_call 33; (with_reducible refine (C2.out _ HB).mono ?_); rintro e w2 ⟨rfl, hbk⟩; replace HB := HB.up hbk; replace HQ := HQ.up hbk; clear hq_0 hq_1 hq_2 hq_l; have hq_0 := HQ.c0; have hq_1 := HQ.c1; have hq_2 := HQ.c2; have hq_l := HQ.lt) | (go_at_call 95; (with_reducible refine (C3.out _ HB).mono ?_); rintro e w3 ⟨rfl, hbk⟩; replace HB := HB.up hbk; replace HQ := HQ.up hbk; clear hq_0 hq_1 hq_2 hq_l; have hq_0 := HQ.c0; have hq_1 := HQ.c1; have hq_2 := HQ.c2; have hq_l := HQ.lt) | fail)
  go_ret
  exact ⟨rfl, HB⟩
set_option maxHeartbeats 1000000 in
theorem rgood_4 (h1 : ∀ W', Bel W W' → Calls Tryd.prog 32 #[.agg #[.bool b, .slice A n c]] W' (RetB W' true)) (h2 : ∀ W', Bel W W' → Calls Tryd.prog 33 #[.agg #[.slice A' n' c']] W' (RetB W' true)) (h3 : ∀ W', Bel W W' → Calls Tryd.prog 95 #[.agg #[.slice A' n' c']] W' (RetB W' false)) {g : Nat} {u : Bool} (h4 : ∀ W', Bel W W' → Calls Tryd.prog 97 #[.agg #[.slice A n c], .agg #[.slice A' n' c']] W' (NumR W' g)) (h5 : ∀ W' B e, Nm W' B (dl g) e g → Calls Tryd.prog 96 #[.agg #[.slice B (dl g) e]] W' (RetB W' u)) :
    Calls Tryd.prog 44 #[.agg #[.bool b, .slice A n c, .slice A' n' c']] W (RetB W u) := by
  have C1 := hide h1
  clear h1
  have C2 := hide h2
  clear h2
  have C3 := hide h3
  clear h3
  have C4 := hide h4
  clear h4
  have C5 := hide h5
  clear h5
  have HB := Bel.refl W
  go_enter Tryd.func44, Tryd.ntmps44
  go_wp2_with (first | (go_at_call 32; (with_reducible refine (C1.out _ (HB.al _)).mono ?_); rintro e w1 ⟨rfl, hbk⟩; have HQ := At.up (at_new0 _ _ _) hbk; replace HB := (HB.al _).up hbk; have hq_0 := HQ.c0; have hq_1 := HQ.c1; have hq_2 := HQ.c2; have hq_l := HQ.lt) | (go_at_call 33; (with_reducible refine (C2.out _ HB).mono ?_); rintro e w2 ⟨rfl, hbk⟩; replace HB := HB.up hbk; replace HQ := HQ.up hbk; clear hq_0 hq_1 hq_2 hq_l; have hq_0 := HQ.c0; have hq_1 := HQ.c1; have hq_2 := HQ.c2; have hq_l := HQ.lt) | (go_at_call 95; (with_reducible refine (C3.out _ HB).mono ?_); rintro e w3 ⟨rfl, hbk⟩; replace HB := HB.up hbk; replace HQ := HQ.up hbk; clear hq_0 hq_1 hq_2 hq_l; have hq_0 := HQ.c0; have hq_1 := HQ.c1; have hq_2 := HQ.c2; have hq_l := HQ.lt) | (go_at_call 97; (with_reducible refine (C4.out _ HB).mono ?_); rintro e w4 ⟨gA, gc, rfl, gn, hbk⟩; replace HB := HB.up hbk; replace HQ := HQ.up hbk; clear hq_0 hq_1 hq_2 hq_l; have hq_0 := HQ.c0; have hq_1 := HQ.c1; have hq_2 := HQ.c2; have hq_l := HQ.lt) | (go_at_call 96; (with_reducible refine (C5.out _ _ _ gn).mono ?_); rintro e w5 ⟨rfl, hbk⟩; replace HB := HB.up hbk) | fail)
  go_ret
  exact ⟨rfl, HB⟩

/-- Whether a fraction is valid: one answer in every later world. -/
theorem rgood_e (h : QA w b A n c A' n' c' r K) (hK : K ≤ 20000) : ∃ u, ∀ W', Bel w W' → Calls Tryd.prog 44 #[.agg #[.bool b, .slice A n c, .slice A' n' c']] W' (RetB W' u) := by
  obtain ⟨z, d, hz, hd, h1, h2, h3⟩ := h
  obtain ⟨u1, hu1⟩ := zgood_e hz
  obtain ⟨u2, hu2⟩ := ngood_e hd
  have e1 : ∀ W', Bel w W' → ∀ W2, Bel W' W2 → Calls Tryd.prog 32 #[.agg #[.bool b, .slice A n c]] W2 (RetB W2 u1) := fun W' hb W2 hb2 => hu1 W2 (Bel.up hb hb2)
  have e2 : ∀ W', Bel w W' → ∀ W2, Bel W' W2 → Calls Tryd.prog 33 #[.agg #[.slice A' n' c']] W2 (RetB W2 u2) := fun W' hb W2 hb2 => hu2 W2 (Bel.up hb hb2)
  have e3 : ∀ W', Bel w W' → ∀ W2, Bel W' W2 → Calls Tryd.prog 95 #[.agg #[.slice A' n' c']] W2 (RetB W2 (decide (d = 0))) := fun W' hb W2 hb2 => rzero_h (hd.up (Bel.up hb hb2))
  cases u1
  · exact ⟨false, fun W' hb => rgood_1 (e1 W' hb)⟩
  · cases u2
    · exact ⟨false, fun W' hb => rgood_2 (e1 W' hb) (e2 W' hb)⟩
    · by_cases h0 : d = 0
      · rw [decide_eq_true h0] at e3
        exact ⟨false, fun W' hb => rgood_3 (e1 W' hb) (e2 W' hb) (e3 W' hb)⟩
      · rw [decide_eq_false h0] at e3
        exact ⟨decide (Nat.gcd z.natAbs d = 1), fun W' hb => rgood_4 (g := Nat.gcd z.natAbs d) (e1 W' hb) (e2 W' hb) (e3 W' hb) (fun W2 hb2 => gcd_h (hz.up (Bel.up hb hb2)).1 (hd.up (Bel.up hb hb2)) rfl (dl_bd2 h2 (by omega)) (dl_bd2 h3 (by omega))) (fun W2 B e hn => rone_h hn)⟩
/-- What is valid is. -/
theorem rgood_yes (nz : ZA W (decide (r.num < 0)) A (dl r.num.natAbs) c r.num) (nd : Nm W A' (dl r.den) c' r.den) (hb : Bd r K) (hK : K ≤ 20000) : Calls Tryd.prog 44 #[.agg #[.bool (decide (r.num < 0)), .slice A (dl r.num.natAbs) c, .slice A' (dl r.den) c']] W (RetB W true) :=
  rgood_4 (g := 1) (u := true) (fun W2 hb2 => zgood_h (nz.up hb2)) (fun W2 hb2 => good_h (nd.up hb2)) (fun W2 hb2 => by
    have h1 := rzero_h (nd.up hb2)
    rw [decide_eq_false r.den_nz] at h1
    exact h1) (fun W2 hb2 => gcd_h (nz.up hb2).1 (nd.up hb2) r.reduced (dl_bd2 hb.1 (by omega)) (dl_bd2 hb.2 (by omega))) (fun W2 B e hn => by
    have h1 := rone_h hn
    rw [decide_eq_true rfl] at h1
    exact h1)
def OfYs2 (W : World) (sg : Bool) (r : Rat) (e : Ending) (w' : World) : Prop := ∃ A c A' c', e = .returned (.tuple #[.agg #[.bool sg, .slice A (dl r.num.natAbs) c, .slice A' (dl r.den) c'], .bool true]) ∧ ZA w' sg A (dl r.num.natAbs) c r.num ∧ Nm w' A' (dl r.den) c' r.den ∧ Hid (Below W.heap.size W w')
end
end Go.Proofs.YteahcbeohopdlaaDoor
end

section
/- Low. Conditions: lengths that fit int. -/
open Go.RowKit
set_option maxRecDepth 100000
namespace Go.Proofs.YteahcbeohopdlaaDoor
def LowPost (w : World) (m : Nat) (e : Ending) (w' : World) : Prop :=
  e = .returned (.tuple #[.int .u64 ((if m < 18446744073709551616 then m else 0 : Nat) : Int), .bool (decide (m < 18446744073709551616))]) ∧ Below w.heap.size w w'
theorem low_ret {v u : Int} {b b' : Bool} (h : v = u) (hb : b = b') : Ending.returned (.tuple #[.int .u64 v, .bool b]) = .returned (.tuple #[.int .u64 u, .bool b']) := by rw [h, hb]
end Go.Proofs.YteahcbeohopdlaaDoor
end

section
/- The document's own numbers: Pow. Conditions: every power up to the last has at most 100000 fours of digits. -/
open Go.RowKit
set_option maxRecDepth 100000
namespace Go.Proofs.YteahcbeohopdlaaDoor
end Go.Proofs.YteahcbeohopdlaaDoor
end

section
/- The document's own Ten: a power of ten of at most 400000 digits. -/
open Go.RowKit
set_option maxRecDepth 100000
namespace Go.Proofs.YteahcbeohopdlaaDoor
theorem ten_lt (k : Nat) : 10 ^ k < D4 ^ (k + 1) := by
  have : 10 ^ k ≤ D4 ^ k := Nat.pow_le_pow_left (by decide) k
  have h2 : D4 ^ k < D4 ^ (k + 1) := Nat.pow_lt_pow_right (by decide) (by omega)
  omega
end Go.Proofs.YteahcbeohopdlaaDoor
end

section
/- Pow. Conditions: every power up to the last has at most 100000 words. -/
open Go.RowKit
set_option maxRecDepth 100000
namespace Go.Proofs.YteahcbeohopdlaaDoor
def box (A : Option Addr) (n c : Nat) : Obj := .cells #[.slice A n c] 24 (0, 0)
theorem Can.setBox {w : World} {A : Option Addr} {c m : Nat} (h : Can w w.heap.size A c m) {p : Addr} {a : Option Addr} {l k : Nat} (hc : w.cell? p = some (.slice a l k)) (u : Value) : Can (w.setCell p u) (w.setCell p u).heap.size A c m := by
  refine ⟨h.1, ?_⟩
  have := h.2.setBox hc u
  simpa [World.setCell] using this
theorem Arg.setBox {w : World} {A : Option Addr} {n c m : Nat} (h : Arg w w.heap.size A n c m) {p : Addr} {a : Option Addr} {l k : Nat} (hc : w.cell? p = some (.slice a l k)) (u : Value) : Arg (w.setCell p u) (w.setCell p u).heap.size A n c m := by
  obtain ⟨ws, h1, h2, h3, h4, h5⟩ := h
  refine ⟨ws, h1, h2, h3, ?_, h5⟩
  have := h4.setBox hc u
  simpa [World.setCell] using this
/-- The two variables' boxes, and what they tell. -/
def PowInv (w wr : World) (p i j m : Nat) (A1 : Option Addr) (c1 : Nat) (A2 : Option Addr) (n2 c2 : Nat) : Prop :=
  wr.heap[p]? = some (box A1 (dl (m ^ i)) c1) ∧ wr.heap[p + 1]? = some (box A2 n2 c2) ∧ wr.heap[w.heap.size + 1]? = some (box none 0 0) ∧ Can wr wr.heap.size A1 c1 (m ^ i) ∧ Arg wr wr.heap.size A2 n2 c2 (m ^ j) ∧ Below w.heap.size w wr ∧ w.heap.size + 2 ≤ p
theorem lt_of_heap {w : World} {g : Nat} {o : Obj} (h : w.heap[g]? = some o) : g < w.heap.size := by
  rcases Nat.lt_or_ge g w.heap.size with hlt | hge
  · exact hlt
  · rw [Array.getElem?_eq_none hge] at h; cases h
section
variable {w wr w2 : World} {p i j m c1 n2 c2 : Nat} {A1 A2 : Option Addr}
theorem PowInv.below (h : PowInv w wr p i j m A1 c1 A2 n2 c2) (hb : Below wr.heap.size wr w2) : PowInv w w2 p i j m A1 c1 A2 n2 c2 := by
  obtain ⟨h1, h2, h3, h4, h5, h6, h7⟩ := h
  exact ⟨(hb.block _ (lt_of_heap h1)).trans h1, (hb.block _ (lt_of_heap h2)).trans h2, (hb.block _ (lt_of_heap h3)).trans h3, (h4.below hb).more hb.size, (h5.below hb).more hb.size, h6.trans (hb.mono h6.size), h7⟩
theorem set_heap {w : World} {g : Nat} {A : Option Addr} {n c : Nat} (h : w.heap[g]? = some (box A n c)) (B : Option Addr) (k d : Nat) : (w.setCell ⟨g, 0, none⟩ (.slice B k d)).heap[g]? = some (box B k d) := by
  unfold box at h ⊢
  rw [heap_setCell_same w g 0 _ _ _ h]; rfl
theorem PowInv.setP (h : PowInv w wr p i j m A1 c1 A2 n2 c2) {i' : Nat} {B : Option Addr} {d : Nat} (hc : Can wr wr.heap.size B d (m ^ i')) : PowInv w (wr.setCell ⟨p, 0, none⟩ (.slice B (dl (m ^ i')) d)) p i' j m B d A2 n2 c2 := by
  obtain ⟨h1, h2, h3, h4, h5, h6, h7⟩ := h
  have e := (one_cell h1).1
  exact ⟨set_heap h1 _ _ _, (Below.heap_setCell _ _ _ _ (by simp)).trans h2, (Below.heap_setCell _ _ _ _ (by simp; omega)).trans h3, hc.setBox e _, h5.setBox e _, h6.setCell (by simp; omega) _, h7⟩
theorem PowInv.setS (h : PowInv w wr p i j m A1 c1 A2 n2 c2) {j' : Nat} {B : Option Addr} {d : Nat} (hc : Can wr wr.heap.size B d (m ^ j')) (hl : dl (m ^ j') ≤ 100000) : PowInv w (wr.setCell ⟨p + 1, 0, none⟩ (.slice B (dl (m ^ j')) d)) p i j' m A1 c1 B (dl (m ^ j')) d := by
  obtain ⟨h1, h2, h3, h4, h5, h6, h7⟩ := h
  have e := (one_cell h2).1
  exact ⟨(Below.heap_setCell _ _ _ _ (by simp)).trans h1, set_heap h2 _ _ _, (Below.heap_setCell _ _ _ _ (by simp; omega)).trans h3, h4.setBox e _, (hc.arg hl).setBox e _, h6.setCell (by simp; omega) _, h7⟩
end
theorem start2' (wa : World) (v0 v1 : Value) (t : TypeId) :
    ((wa.alloc (.cells #[v0] t)).alloc (.cells #[v1] t)).cell? ⟨wa.heap.size, 0, none⟩ = some v0 ∧ ((wa.alloc (.cells #[v0] t)).alloc (.cells #[v1] t)).heap[wa.heap.size + 1]? = some (.cells #[v1] t (0, 0)) ∧
    Below wa.heap.size wa ((wa.alloc (.cells #[v0] t)).alloc (.cells #[v1] t)) ∧ wa.heap.size + 2 ≤ ((wa.alloc (.cells #[v0] t)).alloc (.cells #[v1] t)).heap.size := by
  have b1 : (wa.alloc (.cells #[v0] t)).heap[wa.heap.size]? = some (.cells #[v0] t (0, 0)) := heap_alloc_new wa _
  have b2 : ((wa.alloc (.cells #[v0] t)).alloc (.cells #[v1] t)).heap[wa.heap.size + 1]? = some (.cells #[v1] t (0, 0)) := by simpa using heap_alloc_new (wa.alloc (.cells #[v0] t)) (.cells #[v1] t)
  have c1 : ((wa.alloc (.cells #[v0] t)).alloc (.cells #[v1] t)).heap[wa.heap.size]? = some (.cells #[v0] t (0, 0)) := (Below.heap_alloc _ _ _ (by simp)).trans b1
  exact ⟨(one_cell c1).1, b2, ((Below.refl _ _).alloc (Nat.le_refl _) _).alloc (by simp) _, by simp⟩
theorem pow_start {w w1 : World} {A : Option Addr} {n c : Nat} (hb : Hid (Below ((w.alloc (.cells #[.slice A n c] 24)).alloc (.cells #[.slice none 0 0] 24)).heap.size ((w.alloc (.cells #[.slice A n c] 24)).alloc (.cells #[.slice none 0 0] 24)) w1)) :
    Hid (w1.heap[w.heap.size + 1]? = some (box none 0 0) ∧ Below w.heap.size w w1 ∧ w.heap.size + 2 ≤ w1.heap.size) ∧ ∀ o, (w1.alloc o).cell? ⟨w.heap.size, 0, none⟩ = some (.slice A n c) := by
  obtain ⟨s1, s2, s3, s4⟩ := start2' w (.slice A n c) (.slice none 0 0) 24
  have hs := hb.out.size
  exact ⟨⟨(hb.out.block _ (by omega)).trans s2, s3.trans (hb.out.mono s3.size), by omega⟩, fun o => (World.cell?_alloc_lt w1 o _ (show w.heap.size < w1.heap.size by omega)).trans ((hb.out.cell (show w.heap.size < _ by omega)).trans s1)⟩
def NumH (W : World) (v : Nat) (e : Ending) (w' : World) : Prop := ∃ A c, e = .returned (.agg #[.slice A (dl v) c]) ∧ Hid (Can w' w'.heap.size A c v) ∧ Hid (Below W.heap.size W w')
theorem mul_inv1 {w W : World} {p i j m c1 n2 c2 : Nat} {A1 A2 : Option Addr} (P : PowInv w W p i j m A1 c1 A2 n2 c2) (hl : dl (m ^ i) ≤ 100000) : Calls Tryd.prog 78 #[.agg #[.slice A1 (dl (m ^ i)) c1], .agg #[.slice A2 n2 c2]] W (NumH W (m ^ (i + j))) := by
  rw [Nat.pow_add]
  exact (Mul_any (P.2.2.2.1.arg hl) P.2.2.2.2.1).mono fun _ _ h => h
theorem mul_inv2 {w W : World} {p i j m c1 n2 c2 : Nat} {A1 A2 : Option Addr} (P : PowInv w W p i j m A1 c1 A2 n2 c2) : Calls Tryd.prog 78 #[.agg #[.slice A2 n2 c2], .agg #[.slice A2 n2 c2]] W (NumH W (m ^ (j + j))) := by
  rw [Nat.pow_add]
  exact (Mul_any P.2.2.2.2.1 P.2.2.2.2.1).mono fun _ _ h => h
theorem pow_odd {i j kk k : Nat} (h : i + j * kk = k) (ho : kk % 2 = 1) : (i + j) + (j + j) * (kk / 2) = k := by
  obtain ⟨t, ht⟩ : ∃ t, kk = 2 * t + 1 := ⟨kk / 2, by omega⟩
  subst ht
  rw [show (2 * t + 1) / 2 = t by omega, Nat.add_mul]
  rw [Nat.mul_add, Nat.mul_one, Nat.mul_left_comm] at h
  omega
theorem pow_even {i j kk k : Nat} (h : i + j * kk = k) (ho : kk % 2 = 0) : i + (j + j) * (kk / 2) = k := by
  obtain ⟨t, ht⟩ : ∃ t, kk = 2 * t := ⟨kk / 2, by omega⟩
  subst ht
  rw [show (2 * t) / 2 = t by omega, Nat.add_mul]
  rw [Nat.mul_left_comm] at h
  omega
theorem two_le {i j kk k : Nat} (h : i + j * kk = k) (ht : 2 ≤ kk) : j + j ≤ k := by
  have h2 : j * 2 ≤ j * kk := Nat.mul_le_mul_left _ ht
  omega
set_option maxHeartbeats 4000000 in
theorem Pow_any {A : Option Addr} {n c m k : Nat} {w : World} (h : Arg w w.heap.size A n c m) (hk : k ≤ 1000000) (hb : ∀ i, i ≤ k → dl (m ^ i) ≤ 100000) :
    Calls Tryd.prog 126 #[.agg #[.slice A n c], .int .i64 (k : Int)] w (NumH w (m ^ k)) := by
  have H := hide (fun W (hbb : Below w.heap.size w W) => (h.below hbb).more hbb.size)
  have HB := hide hb
  have CO : Hid (∀ W, Calls Tryd.prog 40 #[.int .u64 1] W (NumH W 1)) := fun W => (Of_any (n := 1) (w := W) (by decide)).mono fun _ _ h => h
  clear h hb
  go_enter Tryd.func126, Tryd.ntmps126
  go_wp2_with (first | (go_at_call 40; go_must (refine (CO.out _).mono ?_); rintro e w1 ⟨A1, c1, rfl, hc1, hbk⟩; obtain ⟨HBX, e2⟩ := pow_start (A := A) (n := n) (c := c) hbk))
  obtain ⟨hr0, hw1, hw2⟩ := HBX.out
  have HP0 : Hid (PowInv w ((w1.alloc (.cells #[.slice A1 (dl 1) c1] 24)).alloc (.cells #[.slice A n c] 24)) w1.heap.size 0 1 m A1 c1 A n c) := by
    obtain ⟨_, s2, s3, s4⟩ := start2' w1 (.slice A1 (dl 1) c1) (.slice A n c) 24
    have s1 : ((w1.alloc (.cells #[.slice A1 (dl 1) c1] 24)).alloc (.cells #[.slice A n c] 24)).heap[w1.heap.size]? = some (.cells #[.slice A1 (dl 1) c1] 24 (0, 0)) := (Below.heap_alloc _ _ _ (by simp)).trans (heap_alloc_new w1 _)
    exact ⟨by rw [Nat.pow_zero]; exact s1, s2, (s3.block _ (by omega)).trans hr0, by rw [Nat.pow_zero]; exact (hc1.out.below s3).more s3.size, by rw [Nat.pow_one]; exact H.out _ (hw1.trans (s3.mono hw1.size)), hw1.trans (s3.mono hw1.size), hw2⟩
  clear hr0 hw1 hw2 HBX e2 hc1 hbk
  go_loopw [1] (fun kv wr => ∃ (kk i j : Nat) (B1 : Option Addr) (d1 : Nat) (B2 : Option Addr) (n2 d2 : Nat), kv = .int .i64 (kk : Int) ∧ kk ≤ k ∧ Hid (i + j * kk = k) ∧ Hid (PowInv w wr w1.heap.size i j m B1 d1 B2 n2 d2))
    (fun kv _ => (intOf kv).toNat)
  case atStart => exact ⟨k, 0, 1, _, _, _, _, _, rfl, Nat.le_refl _, by simp [Hid], HP0⟩
  case round =>
    obtain ⟨kk, i, j, B1, d1, B2, n2, d2, rfl, hkk, hexp, P⟩ := hrel
    have r1 := (one_cell P.out.1).1
    have f1 := (one_cell P.out.1).2
    have r2 := (one_cell P.out.2.1).1
    have f2 := (one_cell P.out.2.1).2
    have r3 := (one_cell P.out.2.2.1).1
    have f3 := (one_cell P.out.2.2.1).2
    by_cases h0 : kk = 0
    · subst h0
      have HI : Hid (i = k) := by have := hexp.out; rw [Nat.mul_zero] at this; exact this
      go_wp2
      refine bodyPost_ret (v := .agg #[.slice B1 (dl (m ^ i)) d1]) (by simp [results, Tryd.results126, go_sem, r3]) rfl ?_
      rw [← HI.out]
      exact ⟨B1, d1, rfl, P.out.2.2.2.1.setBox r3 _, P.out.2.2.2.2.2.1.setCell (by simp) _⟩
    · have hk1 : 0 < kk := by omega
      have HIK : Hid (i + j ≤ k ∧ j ≤ k ∧ i ≤ k) := by
        have h1 := hexp.out
        have h2 : j * 1 ≤ j * kk := Nat.mul_le_mul_left _ hk1
        unfold Hid; omega
      clear h0
      by_cases hodd : kk % 2 = 1
      · have HO := hide (pow_odd hexp.out hodd)
        have hod : (((kk : Int) % 2) == 1) = true := by rw [beq_iff_eq]; omega
        by_cases ht : kk / 2 = 0
        · have HT := hide ht
          have hti : ¬ (0 : Int) < (kk : Int) / 2 := by omega
          clear hodd ht
          go_wp2_with (first | (go_at_call 78; go_must (refine (mul_inv1 P.out (HB.out _ HIK.out.2.2)).mono ?_); rintro e w2 ⟨B3, d3, rfl, hc3, hbk⟩; have P2 := hide (P.out.below hbk.out); have r1 := (one_cell P2.out.1).1; have f1 := (one_cell P2.out.1).2))
          go_roundw
          case rel => exact ⟨kk / 2, i + j, j, B3, d3, B2, n2, d2, rfl, by omega, by have := HO.out; rw [HT.out, Nat.mul_zero] at this; unfold Hid; rw [HT.out, Nat.mul_zero]; exact this, P2.out.setP hc3.out⟩
          case measure => simp [intOf]; omega
        · have hti : (0 : Int) < (kk : Int) / 2 := by omega
          have HJJ := hide (two_le hexp.out (show 2 ≤ kk by omega))
          clear hodd ht
          go_wp2_with (first | (go_at_call 78; ((with_reducible refine (mul_inv1 P.out (HB.out _ HIK.out.2.2)).mono ?_)); rintro e w2 ⟨B3, d3, rfl, hc3, hbk⟩; have P2 := hide (P.out.below hbk.out); have r1 := (one_cell P2.out.1).1; have f1 := (one_cell P2.out.1).2; have P3 := hide (P2.out.setP hc3.out); have r2 := (one_cell P3.out.2.1).1) | (go_at_call 78; (refine (mul_inv2 P3.out).mono ?_); rintro e w4 ⟨B4, d4, rfl, hc4, hbk⟩; have P4 := hide (P3.out.below hbk.out); have r2 := (one_cell P4.out.2.1).1; have f2 := (one_cell P4.out.2.1).2))
          go_roundw
          case rel => exact ⟨kk / 2, i + j, j + j, B3, d3, B4, _, d4, rfl, by omega, HO, P4.out.setS hc4.out (HB.out _ HJJ.out)⟩
          case measure => simp [intOf]; omega
      · have HE := hide (pow_even hexp.out (by omega))
        have hod : (((kk : Int) % 2) == 1) = false := by rw [beq_eq_false_iff_ne]; omega
        have hti : (0 : Int) < (kk : Int) / 2 := by omega
        have HJJ := hide (two_le hexp.out (show 2 ≤ kk by omega))
        clear hodd
        go_wp2_with (first | (go_at_call 78; (refine (mul_inv2 P.out).mono ?_); rintro e w4 ⟨B4, d4, rfl, hc4, hbk⟩; have P4 := hide (P.out.below hbk.out); have r2 := (one_cell P4.out.2.1).1; have f2 := (one_cell P4.out.2.1).2))
        go_roundw
        case rel => exact ⟨kk / 2, i, j + j, B1, d1, B4, _, d4, rfl, by omega, HE, P4.out.setS hc4.out (HB.out _ HJJ.out)⟩
        case measure => simp [intOf]; omega
end Go.Proofs.YteahcbeohopdlaaDoor
end

section
/- Pow where the power is below 1: it is 1. No conditions on sizes. -/
open Go.RowKit
set_option maxRecDepth 100000
namespace Go.Proofs.YteahcbeohopdlaaDoor
set_option maxHeartbeats 1000000 in
theorem Pow_low {A : Option Addr} {n c : Nat} {k : Int} {w : World} (hk : k ≤ 0) (hk2 : -9223372036854775808 ≤ k) : Calls Tryd.prog 126 #[.agg #[.slice A n c], .int .i64 k] w (NumH w 1) := by
  have CO : Hid (∀ W, Calls Tryd.prog 40 #[.int .u64 1] W (NumH W 1)) := fun W => (Of_any (n := 1) (w := W) (by decide)).mono fun _ _ h => h
  go_enter Tryd.func126, Tryd.ntmps126
  go_wp2_with (first | (go_at_call 40; go_must (refine (CO.out _).mono ?_); rintro e w1 ⟨A1, c1, rfl, hc1, hbk⟩; obtain ⟨HBX, e2⟩ := pow_start (A := A) (n := n) (c := c) hbk; have HBX := hide HBX))
  obtain ⟨hr0, hw1, hw2⟩ := HBX.out.out
  have HP0 : Hid (((w1.alloc (.cells #[.slice A1 (dl 1) c1] 24)).alloc (.cells #[.slice A n c] 24)).heap[w1.heap.size]? = some (box A1 (dl 1) c1) ∧ ((w1.alloc (.cells #[.slice A1 (dl 1) c1] 24)).alloc (.cells #[.slice A n c] 24)).heap[w.heap.size + 1]? = some (box none 0 0) ∧
      Can ((w1.alloc (.cells #[.slice A1 (dl 1) c1] 24)).alloc (.cells #[.slice A n c] 24)) ((w1.alloc (.cells #[.slice A1 (dl 1) c1] 24)).alloc (.cells #[.slice A n c] 24)).heap.size A1 c1 1 ∧ Below w.heap.size w ((w1.alloc (.cells #[.slice A1 (dl 1) c1] 24)).alloc (.cells #[.slice A n c] 24))) := by
    obtain ⟨_, s2, s3, s4⟩ := start2' w1 (.slice A1 (dl 1) c1) (.slice A n c) 24
    have s1 : ((w1.alloc (.cells #[.slice A1 (dl 1) c1] 24)).alloc (.cells #[.slice A n c] 24)).heap[w1.heap.size]? = some (.cells #[.slice A1 (dl 1) c1] 24 (0, 0)) := (Below.heap_alloc _ _ _ (by simp)).trans (heap_alloc_new w1 _)
    exact ⟨s1, (s3.block _ (by omega)).trans hr0, (hc1.out.below s3).more s3.size, hw1.trans (s3.mono hw1.size)⟩
  have r1 := (one_cell HP0.out.1).1
  have r3 := (one_cell HP0.out.2.1).1
  have f3 := (one_cell HP0.out.2.1).2
  refine wp_loop_rounds 1 ?_; rw [rounds_succ]
  go_wp2
  refine bodyPost_ret (v := .agg #[.slice A1 (dl 1) c1]) (by simp [results, Tryd.results126, go_sem, r3]) rfl ?_
  exact ⟨A1, c1, rfl, HP0.out.2.2.1.setBox r3 _, HP0.out.2.2.2.setCell (by simp) _⟩
end Go.Proofs.YteahcbeohopdlaaDoor
end

section
/- NatKnown's calls, each in the form that the walk wants: Low, Parse, Text, Good, Pow, and slices written out. No conditions. -/
open Go.RowKit
set_option maxRecDepth 100000
namespace Go.Proofs.YteahcbeohopdlaaDoor
/-- A slice written out: the words need not be trimmed. -/
theorem nm_lit {W : World} {g n m : Nat} {ws : List Nat} (h : Blk U32 111 W g ws) (hn : n = ws.length) (h1 : n ≤ 100000) (hg : Good32 ws) (hv : val W32 ws = m) : Nm W (some ⟨g, 0, none⟩) n n m :=
  ⟨ws, hn, Nat.le_refl _, h1, h.rd0 h.lt, hg, hv⟩
def LowR (W : World) (v : Int) (b : Bool) (e : Ending) (w' : World) : Prop := e = .returned (.tuple #[.int .u64 v, .bool b]) ∧ Hid (Below W.heap.size W w')
section
variable {W : World} {A : Option Addr} {n c m : Nat}
def ParNo (W : World) (e : Ending) (w' : World) : Prop := e = .returned (.tuple #[.agg #[.slice none 0 0], .bool false]) ∧ Hid (Below W.heap.size W w')
def ParYes (W : World) (v : Nat) (e : Ending) (w' : World) : Prop := ∃ A c, e = .returned (.tuple #[.agg #[.slice A (dl v) c], .bool true]) ∧ Nm w' A (dl v) c v ∧ Hid (Below W.heap.size W w')
theorem parse_no {s : ByteArray} (hs : s.size ≤ 100000) (hd : digB s.data.toList = false) : Calls Tryd.prog 74 #[.string s] W (ParNo W) := by
  refine (Parse_any s W hs).mono fun e w' h1 => ?_
  unfold ParsePost at h1
  rw [if_neg (by rw [hd]; simp)] at h1
  exact h1
theorem parse_yes {s : ByteArray} {v : Nat} (hs : s.size ≤ 100000) (hd : digB s.data.toList = true) (hv : numL s.data.toList = v) (hl : dl v ≤ 100000) : Calls Tryd.prog 74 #[.string s] W (ParYes W v) := by
  subst hv
  refine (Parse_any s W hs).mono fun e w' h1 => ?_
  unfold ParsePost at h1
  rw [if_pos hd] at h1
  obtain ⟨A2, c2, he, hc, hb⟩ := h1
  exact ⟨A2, c2, he, nm_can hc hl, hb⟩
def TextR (W : World) (s : ByteArray) (e : Ending) (w' : World) : Prop := e = .returned (.string s) ∧ Hid (Below W.heap.size W w')
theorem text_r {s : ByteArray} (h : Nm W A n c m) (hs : s.data.toList = decL m) : Calls Tryd.prog 80 #[.agg #[.slice A n c]] W (TextR W s) := by
  refine (Text_any h.out).mono fun e w' ⟨t, he, ht, hb⟩ => ⟨?_, hb⟩
  rw [he, show t = s from ByteArray.ext (Array.ext' (ht.trans hs.symm))]
theorem good_no {g : Nat} {ws : List Nat} (h : Blk U32 111 W g ws) (hn : n = ws.length) (h1 : n ≤ 100000) (hg : goodB ws = false) : Calls Tryd.prog 33 #[.agg #[.slice (some ⟨g, 0, none⟩) n c]] W (BoolR W false) := by
  refine (Good_any hn (h.rd0 h.lt) (by omega)).mono fun e w' ⟨he, hb⟩ => ⟨?_, hb⟩
  rw [he, hg]
theorem good_nil : Calls Tryd.prog 33 #[.agg #[.slice none 0 0]] W (BoolR W true) := by
  refine (Good_any (n := 0) (c := 0) (A := none) (ws := []) rfl (fun h => absurd h (by decide)) (by omega)).mono fun e w' ⟨he, hb⟩ => ⟨?_, hb⟩
  rw [he]; rfl
theorem pow_h {k : Nat} {v : Nat} (h : Nm W A n c m) (hk : k ≤ 1000000) (hb : ∀ i, i ≤ k → dl (m ^ i) ≤ 100000) (hv : m ^ k = v) : Calls Tryd.prog 126 #[.agg #[.slice A n c], .int .i64 (k : Int)] W (NumR W v) := by
  subst hv
  exact (Pow_any h.out hk hb).mono fun _ _ ⟨A2, c2, he, hc, hbk⟩ => ⟨A2, c2, he, nm_can hc.out (hb k (Nat.le_refl _)), hbk⟩
theorem pow_low_h {k : Int} (hk : k ≤ 0) (hk2 : -9223372036854775808 ≤ k) : Calls Tryd.prog 126 #[.agg #[.slice A n c], .int .i64 k] W (NumR W 1) :=
  (Pow_low hk hk2).mono fun _ _ ⟨A2, c2, he, hc, hbk⟩ => ⟨A2, c2, he, nm_can hc.out (Nat.le_trans (dl_le (k := 1) (by decide)) (by decide)), hbk⟩
theorem pow_ten20 (h : Nm W A n c 10) : Calls Tryd.prog 126 #[.agg #[.slice A n c], .int .i64 20] W (NumR W (10 ^ 20)) :=
  pow_h (k := 20) h (by decide) (fun i hi => Nat.le_trans (dl_le (k := 20) (Nat.lt_of_le_of_lt (Nat.pow_le_pow_right (by decide) hi) (Nat.pow_lt_pow_left (by decide) (by decide)))) (by decide)) rfl
end
theorem lit3 (W : World) (a b c : Nat) : Blk U32 111 (W.alloc (.cells #[.int .u32 (a : Int), .int .u32 (b : Int), .int .u32 (c : Int)] 111)) W.heap.size [a, b, c] := heap_alloc_new W _
theorem good32_3 {a b c : Nat} (ha : a < W32) (hb : b < W32) (hc : c < W32) : Good32 [a, b, c] := by
  intro x hx; simp at hx; rcases hx with rfl | rfl | rfl <;> assumption
end Go.Proofs.YteahcbeohopdlaaDoor
end

section
/- Numerals: the digits behind the point, and those that are not noughts at the end. No conditions. -/
open Go.RowKit
set_option maxRecDepth 100000
namespace Go.Proofs.YteahcbeohopdlaaDoor
/-- The digits behind the point. -/
def partL (m s : Nat) : List UInt8 := (decL (10 ^ s + m % 10 ^ s)).drop 1
theorem decL_all (m : Nat) : (decL m).all isDig = true := by
  have h := (numL_decL m).2
  unfold digB at h
  rw [Bool.and_eq_true] at h
  exact h.2
theorem decL_ne (m : Nat) : decL m ≠ [] := by
  have h := (numL_decL m).2
  unfold digB at h
  rw [Bool.and_eq_true] at h
  intro e
  rw [e] at h
  exact absurd h.1 (by simp)
theorem numL_one (c : UInt8) (t : List UInt8) : numL (c :: t) = (c.toNat - 48) * 10 ^ t.length + numL t := by
  have h := numL_append [c] t
  rw [List.singleton_append] at h
  rw [h]
  congr 2
  simp [numL]
theorem one_rest {s r : Nat} (hr : r < 10 ^ s) : ∃ t, decL (10 ^ s + r) = 49 :: t ∧ t.length = s ∧ numL t = r ∧ t.all isDig = true := by
  obtain ⟨c, t, hct⟩ : ∃ c t, decL (10 ^ s + r) = c :: t := by
    cases h : decL (10 ^ s + r) with
    | nil => exact absurd h (decL_ne _)
    | cons c t => exact ⟨c, t, rfl⟩
  have hp : 10 ^ (s + 1) = 10 ^ s * 10 := Nat.pow_succ ..
  have hall := decL_all (10 ^ s + r)
  have hnum := (numL_decL (10 ^ s + r)).1
  have hle := dt_le (m := 10 ^ s + r) (k := s + 1) (by omega) (by omega)
  have hlt := numL_lt _ hall
  rw [hnum] at hlt
  have hge : s < (decL (10 ^ s + r)).length := by
    rcases Nat.lt_or_ge s (decL (10 ^ s + r)).length with h | h
    · exact h
    · have := Nat.pow_le_pow_right (n := 10) (by decide) h
      omega
  rw [hct] at hall hnum hle hge
  rw [List.length_cons] at hle hge
  have hl : t.length = s := by omega
  rw [numL_one, hl] at hnum
  rw [List.all_cons, Bool.and_eq_true] at hall
  have ht := numL_lt t hall.2
  rw [hl] at ht
  have h0 : 0 < 10 ^ s := Nat.pow_pos (by decide)
  have h1 : c.toNat - 48 = 1 := by
    have e1 : ((c.toNat - 48) * 10 ^ s + numL t) / 10 ^ s = c.toNat - 48 := by
      rw [Nat.mul_comm, Nat.mul_add_div h0, Nat.div_eq_of_lt ht, Nat.add_zero]
    have e2 : (10 ^ s + r) / 10 ^ s = 1 := by
      rw [Nat.add_div_left _ h0, Nat.div_eq_of_lt hr]
    rw [← e1, hnum, e2]
  rw [h1, Nat.one_mul] at hnum
  have hc : c = 49 := UInt8.toNat_inj.1 (by show c.toNat = 49; omega)
  exact ⟨t, by rw [hct, hc], hl, by omega, hall.2⟩
theorem part_facts (m s : Nat) : decL (10 ^ s + m % 10 ^ s) = 49 :: partL m s ∧ (partL m s).length = s ∧ numL (partL m s) = m % 10 ^ s ∧ (partL m s).all isDig = true := by
  obtain ⟨t, h1, h2, h3, h4⟩ := one_rest (Nat.mod_lt m (Nat.pow_pos (n := s) (show 0 < 10 by decide)))
  have e : partL m s = t := by unfold partL; rw [h1]; rfl
  rw [e]
  exact ⟨h1, h2, h3, h4⟩
theorem back_num (m s : Nat) : numL (decL (m / 10 ^ s) ++ partL m s) = m := by
  obtain ⟨_, h2, h3, _⟩ := part_facts m s
  rw [numL_append, (numL_decL _).1, h2, h3, Nat.mul_comm]
  exact Nat.div_add_mod m (10 ^ s)
theorem digB_app {a b : List UInt8} (ha : digB a = true) (hb : b.all isDig = true) : digB (a ++ b) = true := by
  unfold digB at ha ⊢
  rw [Bool.and_eq_true] at ha ⊢
  refine ⟨?_, by rw [List.all_append, ha.2, hb]; rfl⟩
  cases a with
  | nil => simp at ha
  | cons x xs => rfl
theorem back_dig (m s : Nat) : digB (decL (m / 10 ^ s) ++ partL m s) = true := digB_app (numL_decL _).2 (part_facts m s).2.2.2
/-- A text without the noughts at its end. -/
def strip (l : List UInt8) : List UInt8 := (l.reverse.dropWhile (· == 48)).reverse
theorem rev_strip (l : List UInt8) : ∃ k, l.reverse = List.replicate k 48 ++ l.reverse.dropWhile (· == 48) := by
  generalize l.reverse = r
  induction r with
  | nil => exact ⟨0, rfl⟩
  | cons x xs ih =>
    by_cases h : x = 48
    · obtain ⟨k, hk⟩ := ih
      subst h
      refine ⟨k + 1, ?_⟩
      rw [List.dropWhile_cons, if_pos (by rfl), List.replicate_succ, List.cons_append, ← hk]
    · refine ⟨0, ?_⟩
      rw [List.dropWhile_cons, if_neg (by simpa using h)]
      rfl
theorem strip_app (l : List UInt8) : l = strip l ++ List.replicate (l.length - (strip l).length) 48 := by
  obtain ⟨k, hk⟩ := rev_strip l
  have h1 : l = strip l ++ List.replicate k 48 := by
    have := congrArg List.reverse hk
    rw [List.reverse_reverse, List.reverse_append, List.reverse_replicate] at this
    exact this
  have h2 : l.length = (strip l).length + k := by
    have := congrArg List.length h1
    rwa [List.length_append, List.length_replicate] at this
  rw [show l.length - (strip l).length = k by omega]
  exact h1
theorem strip_last {l : List UInt8} (h : strip l ≠ []) : ∃ a d, strip l = a ++ [d] ∧ d ≠ 48 := by
  unfold strip at h ⊢
  cases hr : l.reverse.dropWhile (· == 48) with
  | nil => rw [hr] at h; exact absurd rfl h
  | cons x xs =>
    refine ⟨xs.reverse, x, by simp, ?_⟩
    have h1 := List.head?_dropWhile_not (p := (· == 48)) l.reverse
    rw [hr] at h1
    simpa using h1
theorem numL_noughts (k : Nat) : numL (List.replicate k 48) = 0 := by
  induction k with
  | zero => rfl
  | succ k ih => rw [List.replicate_succ, numL_one, ih]; simp
/-- How many digits behind the point are left. -/
def shortS (m s : Nat) : Nat := (strip (partL m s)).length
theorem short_le (m s : Nat) : shortS m s ≤ s := by
  have h := congrArg List.length (strip_app (partL m s))
  rw [List.length_append, (part_facts m s).2.1] at h
  unfold shortS
  omega
theorem dvd_rest {m s k : Nat} (hk : k ≤ s) : 10 ^ k ∣ m ↔ 10 ^ k ∣ m % 10 ^ s := by
  have h1 : 10 ^ k ∣ 10 ^ s := Nat.pow_dvd_pow 10 hk
  have h2 := Nat.div_add_mod m (10 ^ s)
  constructor
  · intro h
    exact (Nat.dvd_add_right (Nat.dvd_trans h1 (Nat.dvd_mul_right _ (m / 10 ^ s)))).1 (by rw [h2]; exact h)
  · intro h
    rw [← h2]
    exact (Nat.dvd_add_right (Nat.dvd_trans h1 (Nat.dvd_mul_right _ (m / 10 ^ s)))).2 h
theorem short_num (m s : Nat) : m % 10 ^ s = numL (strip (partL m s)) * 10 ^ (s - shortS m s) := by
  have h := strip_app (partL m s)
  have h1 := (part_facts m s).2.2.1
  rw [h, numL_append, numL_noughts, List.length_replicate, (part_facts m s).2.1] at h1
  unfold shortS
  omega
theorem short_dvd (m s : Nat) : 10 ^ (s - shortS m s) ∣ m := by
  rw [dvd_rest (s := s) (by omega), short_num]
  exact Nat.dvd_mul_left _ _
theorem short_ndvd {m s : Nat} (h : 0 < shortS m s) : ¬ 10 ^ (s - shortS m s + 1) ∣ m := by
  have hle := short_le m s
  rw [dvd_rest (s := s) (by omega), short_num]
  obtain ⟨a, d, had, hd⟩ := strip_last (l := partL m s) (by intro e; unfold shortS at h; rw [e] at h; exact absurd h (by decide))
  have hdig : isDig d = true := by
    have h1 := (part_facts m s).2.2.2
    rw [strip_app (partL m s), had] at h1
    simp only [List.all_append, Bool.and_eq_true, List.all_cons] at h1
    exact h1.1.2.1
  rw [had, numL_snoc]
  have h2 := (dig_iff d).1 hdig
  have h3 : d.toNat ≠ 48 := fun e => hd (UInt8.toNat_inj.1 (by show d.toNat = 48; exact e))
  rw [Nat.pow_succ, Nat.mul_comm (10 ^ _) 10]
  intro h4
  have h5 := Nat.dvd_of_mul_dvd_mul_right (Nat.pow_pos (by decide)) h4
  omega
/-- The least scale that tells the number just. -/
theorem short_least {m s j : Nat} : (10 ^ s ∣ m * 10 ^ j ∧ j ≤ s) ↔ (shortS m s ≤ j ∧ j ≤ s) := by
  have hle := short_le m s
  constructor
  · rintro ⟨h, hj⟩
    refine ⟨?_, hj⟩
    rcases Nat.lt_or_ge j (shortS m s) with h1 | h1
    · exfalso
      refine short_ndvd (m := m) (s := s) (by omega) ?_
      have e : 10 ^ s = 10 ^ (s - j) * 10 ^ j := by rw [← Nat.pow_add]; congr 1; omega
      rw [e] at h
      have h2 := Nat.dvd_of_mul_dvd_mul_right (Nat.pow_pos (by decide)) h
      exact Nat.dvd_trans (Nat.pow_dvd_pow 10 (by omega)) h2
    · exact h1
  · rintro ⟨h1, hj⟩
    refine ⟨?_, hj⟩
    have e : 10 ^ s = 10 ^ (s - j) * 10 ^ j := by rw [← Nat.pow_add]; congr 1; omega
    rw [e]
    exact Nat.mul_dvd_mul (Nat.dvd_trans (Nat.pow_dvd_pow 10 (by omega)) (short_dvd m s)) (Nat.dvd_refl _)
end Go.Proofs.YteahcbeohopdlaaDoor
end
