/- Several texts in one, each with its own sentence and conditions. -/
import Derived.Test.YteieelgdiccppaaDoorQf
import Derived.Test.YteieelgdiccppaaDoorGUwc10
import Derived.Test.YteieelgdiccppaaDoorQe
import Derived.Test.YteieelgdiccppaaDoorGUwc22
import Derived.Test.YteieelgdiccppaaDoorGUwc6
import Derived.Test.YteieelgdiccppaaDoorGUwc8
import Derived.Test.YteieelgdiccppaaDoorGUwc7
import Derived.Deep.LoopGhost
import Derived.Test.YteieelgdiccppaaDoorKp
section
/- A fraction that came in; bounds of sums, products, floors. No conditions. -/
open Go.RowKit
set_option maxRecDepth 100000
namespace Go.Proofs.YteieelgdiccppaaDoor
def Bd (r : Rat) (K : Nat) : Prop := r.num.natAbs < W32 ^ K ∧ r.den < W32 ^ K
theorem Bd.more {r : Rat} {K L : Nat} (h : Bd r K) (hl : K ≤ L) : Bd r L := ⟨Nat.lt_of_lt_of_le h.1 (Nat.pow_le_pow_right (by decide) hl), Nat.lt_of_lt_of_le h.2 (Nat.pow_le_pow_right (by decide) hl)⟩
theorem Bd.tt {r : Rat} {K : Nat} (h : Bd r K) : TT r.num r.den r K := ⟨r.den_pos, Rat.mkRat_self r, h.1, h.2⟩
theorem Bd.add {r r' : Rat} {K : Nat} (h : Bd r K) (h' : Bd r' K) : Bd (r + r') (K + K + 1) := by
  obtain ⟨h1, h2, h3, h4⟩ := tt_add h.tt h'.tt
  exact tt_bd ⟨h1, h2, h3, Nat.lt_of_lt_of_le h4 (Nat.pow_le_pow_right (by decide) (by omega))⟩
theorem Bd.mul {r r' : Rat} {K : Nat} (h : Bd r K) (h' : Bd r' K) : Bd (r * r') (K + K) := by
  obtain ⟨h1, h2, h3, h4⟩ := tt_mul h.tt h'.tt
  exact tt_bd ⟨h1, h2, h3, h4⟩
theorem Bd.neg {r : Rat} {K : Nat} (h : Bd r K) : Bd (-r) K := ⟨by rw [Rat.neg_num, Int.natAbs_neg]; exact h.1, h.2⟩
theorem bd_int {z : Int} {K : Nat} (h : z.natAbs < W32 ^ K) (hK : 0 < K) : Bd (z : Rat) K := ⟨h, Nat.one_lt_pow (by omega) (by decide)⟩
theorem bd_floor {r : Rat} {K : Nat} (h : Bd r K) : r.floor.natAbs < W32 ^ K := by
  rw [Rat.floor_def]
  exact Nat.lt_of_le_of_lt (Int.natAbs_ediv_le_natAbs _ _) h.1
theorem QA.more {W : World} {b : Bool} {A A' : Option Addr} {n c n' c' K L : Nat} {r : Rat} (h : QA W b A n c A' n' c' r K) (hl : K ≤ L) : QA W b A n c A' n' c' r L := by
  obtain ⟨z, d, h1, h2, h3, h4, h5⟩ := h
  exact ⟨z, d, h1, h2, h3, Nat.lt_of_lt_of_le h4 (Nat.pow_le_pow_right (by decide) hl), Nat.lt_of_lt_of_le h5 (Nat.pow_le_pow_right (by decide) hl)⟩
/-- What came in: a sign and two slices of words. -/
theorem qa_in {w : World} {b : Bool} {A A' : Option Addr} {n c n' c' : Nat} {ws ws' : List Nat} (h : n = ws.length ∧ n ≤ c ∧ Rd U32 w w.heap.size A ws ∧ Good32 ws) (h' : n' = ws'.length ∧ n' ≤ c' ∧ Rd U32 w w.heap.size A' ws' ∧ Good32 ws') (hn : n ≤ 12 ∧ n' ≤ 12) :
    QA w b A n c A' n' c' (mkRat (zi b (val W32 ws)) (val W32 ws')) 12 := by
  have lt : ∀ {l : List Nat} {k : Nat}, Good32 l → k = l.length → k ≤ 12 → val W32 l < W32 ^ 12 := fun hg hk h12 => Nat.lt_of_lt_of_le (val_lt _ hg) (Nat.pow_le_pow_right (by decide) (by omega))
  exact ⟨_, _, za_of (nm_later (later_of h (by omega)) (Below.refl _ _)), nm_later (later_of h' (by omega)) (Below.refl _ _), rfl, by rw [zi_abs]; exact lt h.2.2.2 h.1 hn.1, lt h'.2.2.2 h'.1 hn.2⟩
section
variable {W : World} {p q : Nat} {v0 v1 v2 x y z : Value} {vs : List Value}
theorem At.put3 (h : At W p [v0, v1, v2]) (x y z : Value) : At (((W.setCell ⟨p, 0, none⟩ x).setCell ⟨p, 1, none⟩ y).setCell ⟨p, 2, none⟩ z) p [x, y, z] :=
  ((h.put (i := 0) (by simp) x).put (i := 1) (by simp) y).put (i := 2) (by simp) z
theorem At.far3 (h : At W p vs) (hq : q ≠ p) (x y z : Value) : At (((W.setCell ⟨q, 0, none⟩ x).setCell ⟨q, 1, none⟩ y).setCell ⟨q, 2, none⟩ z) p vs :=
  ((h.far hq x).far hq y).far hq z
theorem ZA.put3 {s : Bool} {A : Option Addr} {n c : Nat} {u : Int} {b0 : Bool} {B0 B1 : Option Addr} {k0 d0 k1 d1 : Nat} (h : ZA W s A n c u) (hp : At W p [.bool b0, .slice B0 k0 d0, .slice B1 k1 d1]) {b : Bool} {B B' : Option Addr} {k d k' d' : Nat} :
    ZA (((W.setCell ⟨p, 0, none⟩ (.bool b)).setCell ⟨p, 1, none⟩ (.slice B k d)).setCell ⟨p, 2, none⟩ (.slice B' k' d')) s A n c u := ⟨h.1.put3 hp now3, h.2⟩
end
end Go.Proofs.YteieelgdiccppaaDoor
end

section
/- Package rat: Good of any fraction, Inv. Conditions: terms of at most 20000 words. -/
open Go.RowKit
set_option maxRecDepth 100000
namespace Go.Proofs.YteieelgdiccppaaDoor
section
variable {W w : World} {b : Bool} {A A' : Option Addr} {n c n' c' K m m' : Nat} {r : Rat} {z : Int}
/-- Whether the words of a number are valid: one answer in every later world. -/
theorem ngood_e (h : Nm w A n c m) : ∃ g, ∀ W', Bel w W' → Calls Tryd.prog 20 #[.agg #[.slice A n c]] W' (RetB W' g) := by
  obtain ⟨ws, h1, h2, h3, hr, h4⟩ := h.out
  refine ⟨goodB ws, fun W' hb => ?_⟩
  exact (Good_any (c := c) h1 ((hr.below hb).more (Below.size hb)) (by omega)).mono fun e w' ⟨he, hb2⟩ => ⟨he, hb2⟩
set_option maxHeartbeats 1000000 in
theorem zgood_f (hn : ∀ W', Bel W W' → Calls Tryd.prog 20 #[.agg #[.slice A n c]] W' (RetB W' false)) :
    Calls Tryd.prog 29 #[.agg #[.bool b, .slice A n c]] W (RetB W false) := by
  have CG := hide hn
  clear hn
  have HB := Bel.refl W
  go_enter Tryd.func29, Tryd.ntmps29
  go_wp2_with (first | (go_at_call 20; (with_reducible refine (CG.out _ (HB.al _)).mono ?_); rintro e w1 ⟨rfl, hbk⟩; have HP := At.up (at_new0 _ _ _) hbk; replace HB := (HB.al _).up hbk; have hp_0 := HP.c0; have hp_1 := HP.c1; have hp_l := HP.lt) | fail)
  go_ret
  exact ⟨rfl, HB⟩
set_option maxHeartbeats 1000000 in
theorem zgood_p (hn : ∀ W', Bel W W' → Calls Tryd.prog 20 #[.agg #[.slice A n c]] W' (RetB W' true)) :
    Calls Tryd.prog 29 #[.agg #[.bool false, .slice A n c]] W (RetB W true) := by
  have CG := hide hn
  clear hn
  have HB := Bel.refl W
  go_enter Tryd.func29, Tryd.ntmps29
  go_wp2_with (first | (go_at_call 20; (with_reducible refine (CG.out _ (HB.al _)).mono ?_); rintro e w1 ⟨rfl, hbk⟩; have HP := At.up (at_new0 _ _ _) hbk; replace HB := (HB.al _).up hbk; have hp_0 := HP.c0; have hp_1 := HP.c1; have hp_l := HP.lt) | fail)
  go_ret
  exact ⟨rfl, HB⟩
set_option maxHeartbeats 1000000 in
theorem zgood_t (hn : ∀ W', Bel W W' → Calls Tryd.prog 20 #[.agg #[.slice A n c]] W' (RetB W' true)) (hz : ∀ W', Bel W W' → Calls Tryd.prog 88 #[.agg #[.slice A n c]] W' (BoolR W' false)) :
    Calls Tryd.prog 29 #[.agg #[.bool true, .slice A n c]] W (RetB W true) := by
  have CG := hide hn
  have CZ := hide hz
  clear hz
  clear hn
  have HB := Bel.refl W
  go_enter Tryd.func29, Tryd.ntmps29
  go_wp2_with (first | (go_at_call 20; (with_reducible refine (CG.out _ (HB.al _)).mono ?_); rintro e w1 ⟨rfl, hbk⟩; have HP := At.up (at_new0 _ _ _) hbk; replace HB := (HB.al _).up hbk; have hp_0 := HP.c0; have hp_1 := HP.c1; have hp_l := HP.lt) | (go_at_call 88; (with_reducible refine (CZ.out _ HB).mono ?_); rintro e w2 ⟨rfl, hbk⟩; replace HB := HB.up hbk) | fail)
  go_ret
  exact ⟨rfl, HB⟩
set_option maxHeartbeats 1000000 in
theorem zgood_n (hn : ∀ W', Bel W W' → Calls Tryd.prog 20 #[.agg #[.slice A n c]] W' (RetB W' true)) (hz : ∀ W', Bel W W' → Calls Tryd.prog 88 #[.agg #[.slice A n c]] W' (BoolR W' true)) :
    Calls Tryd.prog 29 #[.agg #[.bool true, .slice A n c]] W (RetB W false) := by
  have CG := hide hn
  have CZ := hide hz
  clear hz
  clear hn
  have HB := Bel.refl W
  go_enter Tryd.func29, Tryd.ntmps29
  go_wp2_with (first | (go_at_call 20; (with_reducible refine (CG.out _ (HB.al _)).mono ?_); rintro e w1 ⟨rfl, hbk⟩; have HP := At.up (at_new0 _ _ _) hbk; replace HB := (HB.al _).up hbk; have hp_0 := HP.c0; have hp_1 := HP.c1; have hp_l := HP.lt) | (go_at_call 88; (with_reducible refine (CZ.out _ HB).mono ?_); rintro e w2 ⟨rfl, hbk⟩; replace HB := HB.up hbk) | fail)
  go_ret
  exact ⟨rfl, HB⟩
theorem zisz_e (h : Nm w A n c m) : ∃ f, ∀ W', Bel w W' → Calls Tryd.prog 88 #[.agg #[.slice A n c]] W' (BoolR W' f) := by
  by_cases h0 : m = 0
  · exact ⟨true, fun W' hb => isZero_yes (h.up hb) h0⟩
  · exact ⟨false, fun W' hb => isZero_no (h.up hb) (by omega)⟩
/-- One of num.Good's two walks, in every later world with one answer. -/
theorem zgood_e (h : ZA w b A n c z) : ∃ u, ∀ W', Bel w W' → Calls Tryd.prog 29 #[.agg #[.bool b, .slice A n c]] W' (RetB W' u) := by
  obtain ⟨g, hg⟩ := ngood_e h.1
  obtain ⟨f, hf⟩ := zisz_e h.1
  cases g
  · refine ⟨false, fun W' hb => ?_⟩
    exact zgood_f (fun W2 hb2 => hg W2 (Bel.up hb hb2))
  · cases b
    · exact ⟨true, fun W' hb => zgood_p (fun W2 hb2 => hg W2 (Bel.up hb hb2))⟩
    · cases f
      · exact ⟨true, fun W' hb => zgood_t (fun W2 hb2 => hg W2 (Bel.up hb hb2)) (fun W2 hb2 => hf W2 (Bel.up hb hb2))⟩
      · exact ⟨false, fun W' hb => zgood_n (fun W2 hb2 => hg W2 (Bel.up hb hb2)) (fun W2 hb2 => hf W2 (Bel.up hb hb2))⟩
set_option maxHeartbeats 1000000 in
theorem rgood_1 (h1 : ∀ W', Bel W W' → Calls Tryd.prog 29 #[.agg #[.bool b, .slice A n c]] W' (RetB W' false)) :
    Calls Tryd.prog 69 #[.agg #[.bool b, .slice A n c, .slice A' n' c']] W (RetB W false) := by
  have C1 := hide h1
  clear h1
  have HB := Bel.refl W
  go_enter Tryd.func69, Tryd.ntmps69
  go_wp2_with (first | (go_at_call 29; (with_reducible refine (C1.out _ (HB.al _)).mono ?_); rintro e w1 ⟨rfl, hbk⟩; have HQ := At.up (at_new0 _ _ _) hbk; replace HB := (HB.al _).up hbk; have hq_0 := HQ.c0; have hq_1 := HQ.c1; have hq_2 := HQ.c2; have hq_l := HQ.lt) | fail)
  go_ret
  exact ⟨rfl, HB⟩
set_option maxHeartbeats 1000000 in
theorem rgood_2 (h1 : ∀ W', Bel W W' → Calls Tryd.prog 29 #[.agg #[.bool b, .slice A n c]] W' (RetB W' true)) (h2 : ∀ W', Bel W W' → Calls Tryd.prog 20 #[.agg #[.slice A' n' c']] W' (RetB W' false)) :
    Calls Tryd.prog 69 #[.agg #[.bool b, .slice A n c, .slice A' n' c']] W (RetB W false) := by
  have C1 := hide h1
  clear h1
  have C2 := hide h2
  clear h2
  have HB := Bel.refl W
  go_enter Tryd.func69, Tryd.ntmps69
  go_wp2_with (first | (go_at_call 29; (with_reducible refine (C1.out _ (HB.al _)).mono ?_); rintro e w1 ⟨rfl, hbk⟩; have HQ := At.up (at_new0 _ _ _) hbk; replace HB := (HB.al _).up hbk; have hq_0 := HQ.c0; have hq_1 := HQ.c1; have hq_2 := HQ.c2; have hq_l := HQ.lt) | (go_at_call 20; (with_reducible refine (C2.out _ HB).mono ?_); rintro e w2 ⟨rfl, hbk⟩; replace HB := HB.up hbk; replace HQ := HQ.up hbk; clear hq_0 hq_1 hq_2 hq_l; have hq_0 := HQ.c0; have hq_1 := HQ.c1; have hq_2 := HQ.c2; have hq_l := HQ.lt) | fail)
  go_ret
  exact ⟨rfl, HB⟩
set_option maxHeartbeats 1000000 in
theorem rgood_3 (h1 : ∀ W', Bel W W' → Calls Tryd.prog 29 #[.agg #[.bool b, .slice A n c]] W' (RetB W' true)) (h2 : ∀ W', Bel W W' → Calls Tryd.prog 20 #[.agg #[.slice A' n' c']] W' (RetB W' true)) (h3 : ∀ W', Bel W W' → Calls Tryd.prog 116 #[.agg #[.slice A' n' c']] W' (RetB W' true)) :
    Calls Tryd.prog 69 #[.agg #[.bool b, .slice A n c, .slice A' n' c']] W (RetB W false) := by
  have C1 := hide h1
  clear h1
  have C2 := hide h2
  clear h2
  have C3 := hide h3
  clear h3
  have HB := Bel.refl W
  go_enter Tryd.func69, Tryd.ntmps69
  go_wp2_with (first | (go_at_call 29; (with_reducible refine (C1.out _ (HB.al _)).mono ?_); rintro e w1 ⟨rfl, hbk⟩; have HQ := At.up (at_new0 _ _ _) hbk; replace HB := (HB.al _).up hbk; have hq_0 := HQ.c0; have hq_1 := HQ.c1; have hq_2 := HQ.c2; have hq_l := HQ.lt) | (go_at_call 20; (with_reducible refine (C2.out _ HB).mono ?_); rintro e w2 ⟨rfl, hbk⟩; replace HB := HB.up hbk; replace HQ := HQ.up hbk; clear hq_0 hq_1 hq_2 hq_l; have hq_0 := HQ.c0; have hq_1 := HQ.c1; have hq_2 := HQ.c2; have hq_l := HQ.lt) | (go_at_call 116; (with_reducible refine (C3.out _ HB).mono ?_); rintro e w3 ⟨rfl, hbk⟩; replace HB := HB.up hbk; replace HQ := HQ.up hbk; clear hq_0 hq_1 hq_2 hq_l; have hq_0 := HQ.c0; have hq_1 := HQ.c1; have hq_2 := HQ.c2; have hq_l := HQ.lt) | fail)
  go_ret
  exact ⟨rfl, HB⟩
set_option maxHeartbeats 1000000 in
theorem rgood_4 (h1 : ∀ W', Bel W W' → Calls Tryd.prog 29 #[.agg #[.bool b, .slice A n c]] W' (RetB W' true)) (h2 : ∀ W', Bel W W' → Calls Tryd.prog 20 #[.agg #[.slice A' n' c']] W' (RetB W' true)) (h3 : ∀ W', Bel W W' → Calls Tryd.prog 116 #[.agg #[.slice A' n' c']] W' (RetB W' false)) {g : Nat} {u : Bool} (h4 : ∀ W', Bel W W' → Calls Tryd.prog 21 #[.agg #[.slice A n c], .agg #[.slice A' n' c']] W' (NumR W' g)) (h5 : ∀ W' B e, Nm W' B (dl g) e g → Calls Tryd.prog 117 #[.agg #[.slice B (dl g) e]] W' (RetB W' u)) :
    Calls Tryd.prog 69 #[.agg #[.bool b, .slice A n c, .slice A' n' c']] W (RetB W u) := by
  have C1 := hide h1
  clear h1
  have C2 := hide h2
  clear h2
  have C3 := hide h3
  clear h3
  have C4 := hide h4
  clear h4
  have C5 := hide h5
  clear h5
  have HB := Bel.refl W
  go_enter Tryd.func69, Tryd.ntmps69
  go_wp2_with (first | (go_at_call 29; (with_reducible refine (C1.out _ (HB.al _)).mono ?_); rintro e w1 ⟨rfl, hbk⟩; have HQ := At.up (at_new0 _ _ _) hbk; replace HB := (HB.al _).up hbk; have hq_0 := HQ.c0; have hq_1 := HQ.c1; have hq_2 := HQ.c2; have hq_l := HQ.lt) | (go_at_call 20; (with_reducible refine (C2.out _ HB).mono ?_); rintro e w2 ⟨rfl, hbk⟩; replace HB := HB.up hbk; replace HQ := HQ.up hbk; clear hq_0 hq_1 hq_2 hq_l; have hq_0 := HQ.c0; have hq_1 := HQ.c1; have hq_2 := HQ.c2; have hq_l := HQ.lt) | (go_at_call 116; (with_reducible refine (C3.out _ HB).mono ?_); rintro e w3 ⟨rfl, hbk⟩; replace HB := HB.up hbk; replace HQ := HQ.up hbk; clear hq_0 hq_1 hq_2 hq_l; have hq_0 := HQ.c0; have hq_1 := HQ.c1; have hq_2 := HQ.c2; have hq_l := HQ.lt) | (go_at_call 21; (with_reducible refine (C4.out _ HB).mono ?_); rintro e w4 ⟨gA, gc, rfl, gn, hbk⟩; replace HB := HB.up hbk; replace HQ := HQ.up hbk; clear hq_0 hq_1 hq_2 hq_l; have hq_0 := HQ.c0; have hq_1 := HQ.c1; have hq_2 := HQ.c2; have hq_l := HQ.lt) | (go_at_call 117; (with_reducible refine (C5.out _ _ _ gn).mono ?_); rintro e w5 ⟨rfl, hbk⟩; replace HB := HB.up hbk) | fail)
  go_ret
  exact ⟨rfl, HB⟩

/-- Whether a fraction is valid: one answer in every later world. -/
theorem rgood_e (h : QA w b A n c A' n' c' r K) (hK : K ≤ 20000) : ∃ u, ∀ W', Bel w W' → Calls Tryd.prog 69 #[.agg #[.bool b, .slice A n c, .slice A' n' c']] W' (RetB W' u) := by
  obtain ⟨z, d, hz, hd, h1, h2, h3⟩ := h
  obtain ⟨u1, hu1⟩ := zgood_e hz
  obtain ⟨u2, hu2⟩ := ngood_e hd
  have e1 : ∀ W', Bel w W' → ∀ W2, Bel W' W2 → Calls Tryd.prog 29 #[.agg #[.bool b, .slice A n c]] W2 (RetB W2 u1) := fun W' hb W2 hb2 => hu1 W2 (Bel.up hb hb2)
  have e2 : ∀ W', Bel w W' → ∀ W2, Bel W' W2 → Calls Tryd.prog 20 #[.agg #[.slice A' n' c']] W2 (RetB W2 u2) := fun W' hb W2 hb2 => hu2 W2 (Bel.up hb hb2)
  have e3 : ∀ W', Bel w W' → ∀ W2, Bel W' W2 → Calls Tryd.prog 116 #[.agg #[.slice A' n' c']] W2 (RetB W2 (decide (d = 0))) := fun W' hb W2 hb2 => rzero_h (hd.up (Bel.up hb hb2))
  cases u1
  · exact ⟨false, fun W' hb => rgood_1 (e1 W' hb)⟩
  · cases u2
    · exact ⟨false, fun W' hb => rgood_2 (e1 W' hb) (e2 W' hb)⟩
    · by_cases h0 : d = 0
      · rw [decide_eq_true h0] at e3
        exact ⟨false, fun W' hb => rgood_3 (e1 W' hb) (e2 W' hb) (e3 W' hb)⟩
      · rw [decide_eq_false h0] at e3
        exact ⟨decide (Nat.gcd z.natAbs d = 1), fun W' hb => rgood_4 (g := Nat.gcd z.natAbs d) (e1 W' hb) (e2 W' hb) (e3 W' hb) (fun W2 hb2 => gcd_h (hz.up (Bel.up hb hb2)).1 (hd.up (Bel.up hb hb2)) rfl (dl_bd2 h2 (by omega)) (dl_bd2 h3 (by omega))) (fun W2 B e hn => rone_h hn)⟩
/-- What is valid is. -/
theorem rgood_yes (nz : ZA W (decide (r.num < 0)) A (dl r.num.natAbs) c r.num) (nd : Nm W A' (dl r.den) c' r.den) (hb : Bd r K) (hK : K ≤ 20000) : Calls Tryd.prog 69 #[.agg #[.bool (decide (r.num < 0)), .slice A (dl r.num.natAbs) c, .slice A' (dl r.den) c']] W (RetB W true) :=
  rgood_4 (g := 1) (u := true) (fun W2 hb2 => zgood_h (nz.up hb2)) (fun W2 hb2 => good_h (nd.up hb2)) (fun W2 hb2 => by
    have h1 := rzero_h (nd.up hb2)
    rw [decide_eq_false r.den_nz] at h1
    exact h1) (fun W2 hb2 => gcd_h (nz.up hb2).1 (nd.up hb2) r.reduced (dl_bd2 hb.1 (by omega)) (dl_bd2 hb.2 (by omega))) (fun W2 B e hn => by
    have h1 := rone_h hn
    rw [decide_eq_true rfl] at h1
    exact h1)
def OfYs2 (W : World) (sg : Bool) (r : Rat) (e : Ending) (w' : World) : Prop := ∃ A c A' c', e = .returned (.tuple #[.agg #[.bool sg, .slice A (dl r.num.natAbs) c, .slice A' (dl r.den) c'], .bool true]) ∧ ZA w' sg A (dl r.num.natAbs) c r.num ∧ Nm w' A' (dl r.den) c' r.den ∧ Hid (Below W.heap.size W w')
end
end Go.Proofs.YteieelgdiccppaaDoor
end

section
/- Low. Conditions: lengths that fit int. -/
open Go.RowKit
set_option maxRecDepth 100000
namespace Go.Proofs.YteieelgdiccppaaDoor
def LowPost (w : World) (m : Nat) (e : Ending) (w' : World) : Prop :=
  e = .returned (.tuple #[.int .u64 ((if m < 18446744073709551616 then m else 0 : Nat) : Int), .bool (decide (m < 18446744073709551616))]) ∧ Below w.heap.size w w'
theorem low_ret {v u : Int} {b b' : Bool} (h : v = u) (hb : b = b') : Ending.returned (.tuple #[.int .u64 v, .bool b]) = .returned (.tuple #[.int .u64 u, .bool b']) := by rw [h, hb]
set_option maxHeartbeats 1000000 in
theorem Low_any {A : Option Addr} {n c m : Nat} {w : World} (h : Arg w w.heap.size A n c m) : Calls Tryd.prog 13 #[.agg #[.slice A n c]] w (LowPost w m) := by
  have H : Hid (∀ o, Arg (w.alloc o) w.heap.size A n c m) := fun o => h.below ((Below.refl _ _).alloc (Nat.le_refl _) _)
  have HX : Hid (∀ o, Rd U32 (w.alloc o) w.heap.size A (digs W32 m)) := fun o => (h.digs.1.below ((Below.refl _ _).alloc (Nat.le_refl _) _)).2
  have HBW : Hid (∀ o, Below w.heap.size w (w.alloc o)) := fun o => (Below.refl _ _).alloc (Nat.le_refl _) _
  clear h
  rcases (show dl m = 0 ∨ dl m = 1 ∨ dl m = 2 ∨ 3 ≤ dl m by omega) with hd | hd | hd | hd
  · have hm := hide (dl_zero hd)
    go_enter Tryd.func13, Tryd.ntmps13
    go_wp2_with (first | (go_at_call 73; go_must (refine (trim_arg (H.out _)).mono ?_); rintro e w2 ⟨rfl, rfl⟩))
    go_ret2
    exact ⟨low_ret (by rw [hm.out]; rfl) (by rw [hm.out]; rfl), HBW.out _⟩
  · obtain ⟨e, hlt⟩ := digs_one hd
    rw [e] at HX
    have hm := hide (word_le hlt)
    obtain ⟨ad, rfl, hab, hc⟩ := (HX.out (.cells #[.slice A n c] 25)).at_ (k := 0) (by simp)
    have hc : (w.alloc (.cells #[.slice (some ad) n c] 25)).cell? ad = some (.int .u32 (m : Int)) := hc
    have hml := word_le hlt
    clear e hlt
    go_enter Tryd.func13, Tryd.ntmps13
    go_wp2_with (first | (go_at_call 73; go_must (refine (trim_arg (H.out _)).mono ?_); rintro e w2 ⟨rfl, rfl⟩))
    go_ret2
    exact ⟨low_ret (by rw [if_pos (by have := hm.out; omega)]) (by rw [decide_eq_true (by have := hm.out; omega)]), HBW.out _⟩
  · obtain ⟨e, hlt⟩ := digs_two hd
    rw [e] at HX
    have HM : Hid (m < 18446744073709551616) := by unfold Hid; rw [W32_eq] at hlt; omega
    obtain ⟨hi, hhi⟩ : ∃ hi, hi = m / W32 := ⟨_, rfl⟩
    obtain ⟨lo, hlo⟩ : ∃ lo, lo = m % W32 := ⟨_, rfl⟩
    rw [← hhi, ← hlo] at HX
    obtain ⟨ad, rfl, hab, hc⟩ := (HX.out (.cells #[.slice A n c] 25)).at_ (k := 0) (by simp)
    have hc : (w.alloc (.cells #[.slice (some ad) n c] 25)).cell? ad = some (.int .u32 (lo : Int)) := hc
    obtain ⟨ad', e', hab', hc'⟩ := (HX.out (.cells #[.slice (some ad) n c] 25)).at_ (k := 1) (by simp)
    cases e'
    have hc' : (w.alloc (.cells #[.slice (some ad) n c] 25)).cell? ⟨ad.block, ad.off + 1, none⟩ = some (.int .u32 (hi : Int)) := hc'
    have hl1 : lo ≤ 4294967295 := word_le (by rw [hlo]; exact lo_lt m)
    have hl2 : hi ≤ 4294967295 := word_le (by rw [hhi]; exact hlt)
    have HE : Hid (m = hi * 4294967296 + lo) := by unfold Hid; have := lohi m; rw [← hlo, ← hhi, W32_eq] at this; omega
    clear e hlt hhi hlo
    go_enter Tryd.func13, Tryd.ntmps13
    go_wp2_with (first | (go_at_call 73; go_must (refine (trim_arg (H.out _)).mono ?_); rintro e w2 ⟨rfl, rfl⟩))
    go_quiet (fail)
    go_wp2
    go_ret2
    exact ⟨low_ret (by rw [if_pos HM.out, HE.out]; exact or64 hl2 hl1) (by rw [decide_eq_true HM.out]), below_drewN (HBW.out _) _⟩
  · have hm := hide (dl_three hd)
    go_enter Tryd.func13, Tryd.ntmps13
    go_wp2_with (first | (go_at_call 73; go_must (refine (trim_arg (H.out _)).mono ?_); rintro e w2 ⟨rfl, rfl⟩))
    go_ret2
    exact ⟨low_ret (by rw [if_neg (by have := hm.out; omega)]; rfl) (by rw [decide_eq_false (by have := hm.out; omega)]), HBW.out _⟩
end Go.Proofs.YteieelgdiccppaaDoor
end

section
/- The document's own numbers: Pow. Conditions: every power up to the last has at most 100000 fours of digits. -/
open Go.RowKit
set_option maxRecDepth 100000
namespace Go.Proofs.YteieelgdiccppaaDoor
set_option maxHeartbeats 1000000 in
theorem rPow_any {A : Option Addr} {c m k : Nat} {w : World} (h : RN w w.heap.size A c m) (hk : k ≤ 1000000) (hb : ∀ i, i ≤ k → dq (m ^ i) ≤ 100000) (hm : dq m ≤ 100000) :
    Calls Tryd.prog 85 #[.slice A (dq m) c, .int .i64 (k : Int)] w (RefPost w (m ^ k)) := by
  have H := hide h
  have HB := hide hb
  have CO : Hid (∀ W, Calls Tryd.prog 19 #[.int .u64 1] W (RefPost W 1)) := fun W => Small_any (n := 1) (w := W) (by decide)
  clear h hb
  go_enter Tryd.func85, Tryd.ntmps85
  go_wp2_with (first | (go_at_call 19; go_must (refine (CO.out _).mono ?_); rintro e w1 ⟨A1, c1, rfl, hr1, hb1⟩))
  go_loopw [5, 6] (fun rv iv wr => ∃ (i : Nat) (B : Option Addr) (d : Nat), i ≤ k ∧ iv = .int .i64 (i : Int) ∧ rv = .slice B (dq (m ^ i)) d ∧ Hid (RN wr wr.heap.size B d (m ^ i)) ∧ Hid (Below w.heap.size w wr))
    (fun _ iv _ => k - (intOf iv).toNat)
  case atStart => exact ⟨0, A1, c1, Nat.zero_le _, rfl, by rw [Nat.pow_zero], by rw [Nat.pow_zero]; exact hr1, hb1⟩
  case round =>
    obtain ⟨i, B, d, hi, rfl, rfl, hr, hbel⟩ := hrel
    by_cases hlt : i < k
    · have CM : Hid (Calls Tryd.prog 96 #[.slice B (dq (m ^ i)) d, .slice A (dq m) c] wr (RefPost wr (m ^ (i + 1)))) := by
        unfold Hid
        rw [Nat.pow_succ]
        exact rMul_any hr.out ((H.out.below hbel.out).more hbel.out.size) (HB.out i hi) hm
      go_wp2_with (first | (go_at_call 96; go_must (refine CM.out.mono ?_); rintro e w2 ⟨B2, d2, rfl, hr2, hb2⟩))
      go_roundw
      case rel => exact ⟨i + 1, B2, d2, by omega, by go_num, rfl, hr2, hbel.out.trans (hb2.out.mono hbel.out.size)⟩
      case measure => simp [intOf]; omega
    · obtain rfl : i = k := by omega
      go_wp2
      go_ret
      exact ⟨B, d, rfl, hr, hbel⟩
set_option maxHeartbeats 1000000 in
/-- Of a power below 1: 1. -/
theorem rPow_low {A : Option Addr} {n c : Nat} {k : Int} {w : World} (hk : k ≤ 0) (hk2 : -9223372036854775808 ≤ k) : Calls Tryd.prog 85 #[.slice A n c, .int .i64 k] w (RefPost w 1) := by
  have CO : Hid (∀ W, Calls Tryd.prog 19 #[.int .u64 1] W (RefPost W 1)) := fun W => Small_any (n := 1) (w := W) (by decide)
  go_enter Tryd.func85, Tryd.ntmps85
  go_wp2_with (first | (go_at_call 19; go_must (refine (CO.out _).mono ?_); rintro e w1 ⟨A1, c1, rfl, hr1, hb1⟩))
  refine wp_loop_rounds 1 ?_; rw [rounds_succ]
  go_wp2
  go_ret
  exact ⟨A1, c1, rfl, hr1, hb1⟩
end Go.Proofs.YteieelgdiccppaaDoor
end

section
/- The document's own Ten: a power of ten of at most 400000 digits. -/
open Go.RowKit
set_option maxRecDepth 100000
namespace Go.Proofs.YteieelgdiccppaaDoor
theorem ten_lt (k : Nat) : 10 ^ k < D4 ^ (k + 1) := by
  have : 10 ^ k ≤ D4 ^ k := Nat.pow_le_pow_left (by decide) k
  have h2 : D4 ^ k < D4 ^ (k + 1) := Nat.pow_lt_pow_right (by decide) (by omega)
  omega
theorem rTen_any {k : Nat} {w : World} (hk : k ≤ 90000) :
    Calls Tryd.prog 23 #[.int .i64 (k : Int)] w (RefPost w (10 ^ k)) := by
  have HK := hide hk
  clear hk
  have CO : Hid (∀ W, Calls Tryd.prog 19 #[.int .u64 10] W (RefPost W 10)) := fun W => Small_any (n := 10) (w := W) (by decide)
  have CP : Hid (∀ (W : World) (A : Option Addr) (c : Nat), RN W W.heap.size A c 10 → Calls Tryd.prog 85 #[.slice A (dq 10) c, .int .i64 (k : Int)] W (RefPost W (10 ^ k))) := fun W A c h => rPow_any h (by have := HK.out; omega) (fun i hi => by have := HK.out; exact Nat.le_trans (dq_le (ten_lt i)) (by omega)) (Nat.le_trans (dq_le (show 10 < D4 ^ 1 by decide)) (by decide))
  go_enter Tryd.func23, Tryd.ntmps23
  go_wp2_with (first | (go_at_call 19; go_must (refine (CO.out _).mono ?_); rintro e w1 ⟨A1, c1, rfl, hr1, hb1⟩) | (go_at_call 85; go_must (refine (CP.out _ _ _ hr1.out).mono ?_); rintro e w2 ⟨A2, c2, rfl, hr2, hb2⟩))
  go_ret
  exact ⟨A2, c2, rfl, hr2, hb1.out.trans (hb2.out.mono hb1.out.size)⟩
end Go.Proofs.YteieelgdiccppaaDoor
end

section
/- Pow. Conditions: every power up to the last has at most 100000 words. -/
open Go.RowKit
set_option maxRecDepth 100000
namespace Go.Proofs.YteieelgdiccppaaDoor
def box (A : Option Addr) (n c : Nat) : Obj := .cells #[.slice A n c] 25 (0, 0)
theorem Can.setBox {w : World} {A : Option Addr} {c m : Nat} (h : Can w w.heap.size A c m) {p : Addr} {a : Option Addr} {l k : Nat} (hc : w.cell? p = some (.slice a l k)) (u : Value) : Can (w.setCell p u) (w.setCell p u).heap.size A c m := by
  refine ⟨h.1, ?_⟩
  have := h.2.setBox hc u
  simpa [World.setCell] using this
theorem Arg.setBox {w : World} {A : Option Addr} {n c m : Nat} (h : Arg w w.heap.size A n c m) {p : Addr} {a : Option Addr} {l k : Nat} (hc : w.cell? p = some (.slice a l k)) (u : Value) : Arg (w.setCell p u) (w.setCell p u).heap.size A n c m := by
  obtain ⟨ws, h1, h2, h3, h4, h5⟩ := h
  refine ⟨ws, h1, h2, h3, ?_, h5⟩
  have := h4.setBox hc u
  simpa [World.setCell] using this
/-- The two variables' boxes, and what they tell. -/
def PowInv (w wr : World) (p i j m : Nat) (A1 : Option Addr) (c1 : Nat) (A2 : Option Addr) (n2 c2 : Nat) : Prop :=
  wr.heap[p]? = some (box A1 (dl (m ^ i)) c1) ∧ wr.heap[p + 1]? = some (box A2 n2 c2) ∧ wr.heap[w.heap.size + 1]? = some (box none 0 0) ∧ Can wr wr.heap.size A1 c1 (m ^ i) ∧ Arg wr wr.heap.size A2 n2 c2 (m ^ j) ∧ Below w.heap.size w wr ∧ w.heap.size + 2 ≤ p
theorem lt_of_heap {w : World} {g : Nat} {o : Obj} (h : w.heap[g]? = some o) : g < w.heap.size := by
  rcases Nat.lt_or_ge g w.heap.size with hlt | hge
  · exact hlt
  · rw [Array.getElem?_eq_none hge] at h; cases h
section
variable {w wr w2 : World} {p i j m c1 n2 c2 : Nat} {A1 A2 : Option Addr}
theorem PowInv.below (h : PowInv w wr p i j m A1 c1 A2 n2 c2) (hb : Below wr.heap.size wr w2) : PowInv w w2 p i j m A1 c1 A2 n2 c2 := by
  obtain ⟨h1, h2, h3, h4, h5, h6, h7⟩ := h
  exact ⟨(hb.block _ (lt_of_heap h1)).trans h1, (hb.block _ (lt_of_heap h2)).trans h2, (hb.block _ (lt_of_heap h3)).trans h3, (h4.below hb).more hb.size, (h5.below hb).more hb.size, h6.trans (hb.mono h6.size), h7⟩
theorem set_heap {w : World} {g : Nat} {A : Option Addr} {n c : Nat} (h : w.heap[g]? = some (box A n c)) (B : Option Addr) (k d : Nat) : (w.setCell ⟨g, 0, none⟩ (.slice B k d)).heap[g]? = some (box B k d) := by
  unfold box at h ⊢
  rw [heap_setCell_same w g 0 _ _ _ h]; rfl
theorem PowInv.setP (h : PowInv w wr p i j m A1 c1 A2 n2 c2) {i' : Nat} {B : Option Addr} {d : Nat} (hc : Can wr wr.heap.size B d (m ^ i')) : PowInv w (wr.setCell ⟨p, 0, none⟩ (.slice B (dl (m ^ i')) d)) p i' j m B d A2 n2 c2 := by
  obtain ⟨h1, h2, h3, h4, h5, h6, h7⟩ := h
  have e := (one_cell h1).1
  exact ⟨set_heap h1 _ _ _, (Below.heap_setCell _ _ _ _ (by simp)).trans h2, (Below.heap_setCell _ _ _ _ (by simp; omega)).trans h3, hc.setBox e _, h5.setBox e _, h6.setCell (by simp; omega) _, h7⟩
theorem PowInv.setS (h : PowInv w wr p i j m A1 c1 A2 n2 c2) {j' : Nat} {B : Option Addr} {d : Nat} (hc : Can wr wr.heap.size B d (m ^ j')) (hl : dl (m ^ j') ≤ 100000) : PowInv w (wr.setCell ⟨p + 1, 0, none⟩ (.slice B (dl (m ^ j')) d)) p i j' m A1 c1 B (dl (m ^ j')) d := by
  obtain ⟨h1, h2, h3, h4, h5, h6, h7⟩ := h
  have e := (one_cell h2).1
  exact ⟨(Below.heap_setCell _ _ _ _ (by simp)).trans h1, set_heap h2 _ _ _, (Below.heap_setCell _ _ _ _ (by simp; omega)).trans h3, h4.setBox e _, (hc.arg hl).setBox e _, h6.setCell (by simp; omega) _, h7⟩
end
theorem start2' (wa : World) (v0 v1 : Value) (t : TypeId) :
    ((wa.alloc (.cells #[v0] t)).alloc (.cells #[v1] t)).cell? ⟨wa.heap.size, 0, none⟩ = some v0 ∧ ((wa.alloc (.cells #[v0] t)).alloc (.cells #[v1] t)).heap[wa.heap.size + 1]? = some (.cells #[v1] t (0, 0)) ∧
    Below wa.heap.size wa ((wa.alloc (.cells #[v0] t)).alloc (.cells #[v1] t)) ∧ wa.heap.size + 2 ≤ ((wa.alloc (.cells #[v0] t)).alloc (.cells #[v1] t)).heap.size := by
  have b1 : (wa.alloc (.cells #[v0] t)).heap[wa.heap.size]? = some (.cells #[v0] t (0, 0)) := heap_alloc_new wa _
  have b2 : ((wa.alloc (.cells #[v0] t)).alloc (.cells #[v1] t)).heap[wa.heap.size + 1]? = some (.cells #[v1] t (0, 0)) := by simpa using heap_alloc_new (wa.alloc (.cells #[v0] t)) (.cells #[v1] t)
  have c1 : ((wa.alloc (.cells #[v0] t)).alloc (.cells #[v1] t)).heap[wa.heap.size]? = some (.cells #[v0] t (0, 0)) := (Below.heap_alloc _ _ _ (by simp)).trans b1
  exact ⟨(one_cell c1).1, b2, ((Below.refl _ _).alloc (Nat.le_refl _) _).alloc (by simp) _, by simp⟩
theorem pow_start {w w1 : World} {A : Option Addr} {n c : Nat} (hb : Hid (Below ((w.alloc (.cells #[.slice A n c] 25)).alloc (.cells #[.slice none 0 0] 25)).heap.size ((w.alloc (.cells #[.slice A n c] 25)).alloc (.cells #[.slice none 0 0] 25)) w1)) :
    Hid (w1.heap[w.heap.size + 1]? = some (box none 0 0) ∧ Below w.heap.size w w1 ∧ w.heap.size + 2 ≤ w1.heap.size) ∧ ∀ o, (w1.alloc o).cell? ⟨w.heap.size, 0, none⟩ = some (.slice A n c) := by
  obtain ⟨s1, s2, s3, s4⟩ := start2' w (.slice A n c) (.slice none 0 0) 25
  have hs := hb.out.size
  exact ⟨⟨(hb.out.block _ (by omega)).trans s2, s3.trans (hb.out.mono s3.size), by omega⟩, fun o => (World.cell?_alloc_lt w1 o _ (show w.heap.size < w1.heap.size by omega)).trans ((hb.out.cell (show w.heap.size < _ by omega)).trans s1)⟩
def NumH (W : World) (v : Nat) (e : Ending) (w' : World) : Prop := ∃ A c, e = .returned (.agg #[.slice A (dl v) c]) ∧ Hid (Can w' w'.heap.size A c v) ∧ Hid (Below W.heap.size W w')
theorem mul_inv1 {w W : World} {p i j m c1 n2 c2 : Nat} {A1 A2 : Option Addr} (P : PowInv w W p i j m A1 c1 A2 n2 c2) (hl : dl (m ^ i) ≤ 100000) : Calls Tryd.prog 72 #[.agg #[.slice A1 (dl (m ^ i)) c1], .agg #[.slice A2 n2 c2]] W (NumH W (m ^ (i + j))) := by
  rw [Nat.pow_add]
  exact (Mul_any (P.2.2.2.1.arg hl) P.2.2.2.2.1).mono fun _ _ h => h
theorem mul_inv2 {w W : World} {p i j m c1 n2 c2 : Nat} {A1 A2 : Option Addr} (P : PowInv w W p i j m A1 c1 A2 n2 c2) : Calls Tryd.prog 72 #[.agg #[.slice A2 n2 c2], .agg #[.slice A2 n2 c2]] W (NumH W (m ^ (j + j))) := by
  rw [Nat.pow_add]
  exact (Mul_any P.2.2.2.2.1 P.2.2.2.2.1).mono fun _ _ h => h
theorem pow_odd {i j kk k : Nat} (h : i + j * kk = k) (ho : kk % 2 = 1) : (i + j) + (j + j) * (kk / 2) = k := by
  obtain ⟨t, ht⟩ : ∃ t, kk = 2 * t + 1 := ⟨kk / 2, by omega⟩
  subst ht
  rw [show (2 * t + 1) / 2 = t by omega, Nat.add_mul]
  rw [Nat.mul_add, Nat.mul_one, Nat.mul_left_comm] at h
  omega
theorem pow_even {i j kk k : Nat} (h : i + j * kk = k) (ho : kk % 2 = 0) : i + (j + j) * (kk / 2) = k := by
  obtain ⟨t, ht⟩ : ∃ t, kk = 2 * t := ⟨kk / 2, by omega⟩
  subst ht
  rw [show (2 * t) / 2 = t by omega, Nat.add_mul]
  rw [Nat.mul_left_comm] at h
  omega
theorem two_le {i j kk k : Nat} (h : i + j * kk = k) (ht : 2 ≤ kk) : j + j ≤ k := by
  have h2 : j * 2 ≤ j * kk := Nat.mul_le_mul_left _ ht
  omega
set_option maxHeartbeats 4000000 in
theorem Pow_any {A : Option Addr} {n c m k : Nat} {w : World} (h : Arg w w.heap.size A n c m) (hk : k ≤ 1000000) (hb : ∀ i, i ≤ k → dl (m ^ i) ≤ 100000) :
    Calls Tryd.prog 22 #[.agg #[.slice A n c], .int .i64 (k : Int)] w (NumH w (m ^ k)) := by
  have H := hide (fun W (hbb : Below w.heap.size w W) => (h.below hbb).more hbb.size)
  have HB := hide hb
  have CO : Hid (∀ W, Calls Tryd.prog 12 #[.int .u64 1] W (NumH W 1)) := fun W => (Of_any (n := 1) (w := W) (by decide)).mono fun _ _ h => h
  clear h hb
  go_enter Tryd.func22, Tryd.ntmps22
  go_wp2_with (first | (go_at_call 12; go_must (refine (CO.out _).mono ?_); rintro e w1 ⟨A1, c1, rfl, hc1, hbk⟩; obtain ⟨HBX, e2⟩ := pow_start (A := A) (n := n) (c := c) hbk))
  obtain ⟨hr0, hw1, hw2⟩ := HBX.out
  have HP0 : Hid (PowInv w ((w1.alloc (.cells #[.slice A1 (dl 1) c1] 25)).alloc (.cells #[.slice A n c] 25)) w1.heap.size 0 1 m A1 c1 A n c) := by
    obtain ⟨_, s2, s3, s4⟩ := start2' w1 (.slice A1 (dl 1) c1) (.slice A n c) 25
    have s1 : ((w1.alloc (.cells #[.slice A1 (dl 1) c1] 25)).alloc (.cells #[.slice A n c] 25)).heap[w1.heap.size]? = some (.cells #[.slice A1 (dl 1) c1] 25 (0, 0)) := (Below.heap_alloc _ _ _ (by simp)).trans (heap_alloc_new w1 _)
    exact ⟨by rw [Nat.pow_zero]; exact s1, s2, (s3.block _ (by omega)).trans hr0, by rw [Nat.pow_zero]; exact (hc1.out.below s3).more s3.size, by rw [Nat.pow_one]; exact H.out _ (hw1.trans (s3.mono hw1.size)), hw1.trans (s3.mono hw1.size), hw2⟩
  clear hr0 hw1 hw2 HBX e2 hc1 hbk
  go_loopw [1] (fun kv wr => ∃ (kk i j : Nat) (B1 : Option Addr) (d1 : Nat) (B2 : Option Addr) (n2 d2 : Nat), kv = .int .i64 (kk : Int) ∧ kk ≤ k ∧ Hid (i + j * kk = k) ∧ Hid (PowInv w wr w1.heap.size i j m B1 d1 B2 n2 d2))
    (fun kv _ => (intOf kv).toNat)
  case atStart => exact ⟨k, 0, 1, _, _, _, _, _, rfl, Nat.le_refl _, by simp [Hid], HP0⟩
  case round =>
    obtain ⟨kk, i, j, B1, d1, B2, n2, d2, rfl, hkk, hexp, P⟩ := hrel
    have r1 := (one_cell P.out.1).1
    have f1 := (one_cell P.out.1).2
    have r2 := (one_cell P.out.2.1).1
    have f2 := (one_cell P.out.2.1).2
    have r3 := (one_cell P.out.2.2.1).1
    have f3 := (one_cell P.out.2.2.1).2
    by_cases h0 : kk = 0
    · subst h0
      have HI : Hid (i = k) := by have := hexp.out; rw [Nat.mul_zero] at this; exact this
      go_wp2
      refine bodyPost_ret (v := .agg #[.slice B1 (dl (m ^ i)) d1]) (by simp [results, Tryd.results22, go_sem, r3]) rfl ?_
      rw [← HI.out]
      exact ⟨B1, d1, rfl, P.out.2.2.2.1.setBox r3 _, P.out.2.2.2.2.2.1.setCell (by simp) _⟩
    · have hk1 : 0 < kk := by omega
      have HIK : Hid (i + j ≤ k ∧ j ≤ k ∧ i ≤ k) := by
        have h1 := hexp.out
        have h2 : j * 1 ≤ j * kk := Nat.mul_le_mul_left _ hk1
        unfold Hid; omega
      clear h0
      by_cases hodd : kk % 2 = 1
      · have HO := hide (pow_odd hexp.out hodd)
        have hod : (((kk : Int) % 2) == 1) = true := by rw [beq_iff_eq]; omega
        by_cases ht : kk / 2 = 0
        · have HT := hide ht
          have hti : ¬ (0 : Int) < (kk : Int) / 2 := by omega
          clear hodd ht
          go_wp2_with (first | (go_at_call 72; go_must (refine (mul_inv1 P.out (HB.out _ HIK.out.2.2)).mono ?_); rintro e w2 ⟨B3, d3, rfl, hc3, hbk⟩; have P2 := hide (P.out.below hbk.out); have r1 := (one_cell P2.out.1).1; have f1 := (one_cell P2.out.1).2))
          go_roundw
          case rel => exact ⟨kk / 2, i + j, j, B3, d3, B2, n2, d2, rfl, by omega, by have := HO.out; rw [HT.out, Nat.mul_zero] at this; unfold Hid; rw [HT.out, Nat.mul_zero]; exact this, P2.out.setP hc3.out⟩
          case measure => simp [intOf]; omega
        · have hti : (0 : Int) < (kk : Int) / 2 := by omega
          have HJJ := hide (two_le hexp.out (show 2 ≤ kk by omega))
          clear hodd ht
          go_wp2_with (first | (go_at_call 72; ((with_reducible refine (mul_inv1 P.out (HB.out _ HIK.out.2.2)).mono ?_)); rintro e w2 ⟨B3, d3, rfl, hc3, hbk⟩; have P2 := hide (P.out.below hbk.out); have r1 := (one_cell P2.out.1).1; have f1 := (one_cell P2.out.1).2; have P3 := hide (P2.out.setP hc3.out); have r2 := (one_cell P3.out.2.1).1) | (go_at_call 72; (refine (mul_inv2 P3.out).mono ?_); rintro e w4 ⟨B4, d4, rfl, hc4, hbk⟩; have P4 := hide (P3.out.below hbk.out); have r2 := (one_cell P4.out.2.1).1; have f2 := (one_cell P4.out.2.1).2))
          go_roundw
          case rel => exact ⟨kk / 2, i + j, j + j, B3, d3, B4, _, d4, rfl, by omega, HO, P4.out.setS hc4.out (HB.out _ HJJ.out)⟩
          case measure => simp [intOf]; omega
      · have HE := hide (pow_even hexp.out (by omega))
        have hod : (((kk : Int) % 2) == 1) = false := by rw [beq_eq_false_iff_ne]; omega
        have hti : (0 : Int) < (kk : Int) / 2 := by omega
        have HJJ := hide (two_le hexp.out (show 2 ≤ kk by omega))
        clear hodd
        go_wp2_with (first | (go_at_call 72; (refine (mul_inv2 P.out).mono ?_); rintro e w4 ⟨B4, d4, rfl, hc4, hbk⟩; have P4 := hide (P.out.below hbk.out); have r2 := (one_cell P4.out.2.1).1; have f2 := (one_cell P4.out.2.1).2))
        go_roundw
        case rel => exact ⟨kk / 2, i, j + j, B1, d1, B4, _, d4, rfl, by omega, HE, P4.out.setS hc4.out (HB.out _ HJJ.out)⟩
        case measure => simp [intOf]; omega
end Go.Proofs.YteieelgdiccppaaDoor
end

section
/- Pow where the power is below 1: it is 1. No conditions on sizes. -/
open Go.RowKit
set_option maxRecDepth 100000
namespace Go.Proofs.YteieelgdiccppaaDoor
set_option maxHeartbeats 1000000 in
theorem Pow_low {A : Option Addr} {n c : Nat} {k : Int} {w : World} (hk : k ≤ 0) (hk2 : -9223372036854775808 ≤ k) : Calls Tryd.prog 22 #[.agg #[.slice A n c], .int .i64 k] w (NumH w 1) := by
  have CO : Hid (∀ W, Calls Tryd.prog 12 #[.int .u64 1] W (NumH W 1)) := fun W => (Of_any (n := 1) (w := W) (by decide)).mono fun _ _ h => h
  go_enter Tryd.func22, Tryd.ntmps22
  go_wp2_with (first | (go_at_call 12; go_must (refine (CO.out _).mono ?_); rintro e w1 ⟨A1, c1, rfl, hc1, hbk⟩; obtain ⟨HBX, e2⟩ := pow_start (A := A) (n := n) (c := c) hbk; have HBX := hide HBX))
  obtain ⟨hr0, hw1, hw2⟩ := HBX.out.out
  have HP0 : Hid (((w1.alloc (.cells #[.slice A1 (dl 1) c1] 25)).alloc (.cells #[.slice A n c] 25)).heap[w1.heap.size]? = some (box A1 (dl 1) c1) ∧ ((w1.alloc (.cells #[.slice A1 (dl 1) c1] 25)).alloc (.cells #[.slice A n c] 25)).heap[w.heap.size + 1]? = some (box none 0 0) ∧
      Can ((w1.alloc (.cells #[.slice A1 (dl 1) c1] 25)).alloc (.cells #[.slice A n c] 25)) ((w1.alloc (.cells #[.slice A1 (dl 1) c1] 25)).alloc (.cells #[.slice A n c] 25)).heap.size A1 c1 1 ∧ Below w.heap.size w ((w1.alloc (.cells #[.slice A1 (dl 1) c1] 25)).alloc (.cells #[.slice A n c] 25))) := by
    obtain ⟨_, s2, s3, s4⟩ := start2' w1 (.slice A1 (dl 1) c1) (.slice A n c) 25
    have s1 : ((w1.alloc (.cells #[.slice A1 (dl 1) c1] 25)).alloc (.cells #[.slice A n c] 25)).heap[w1.heap.size]? = some (.cells #[.slice A1 (dl 1) c1] 25 (0, 0)) := (Below.heap_alloc _ _ _ (by simp)).trans (heap_alloc_new w1 _)
    exact ⟨s1, (s3.block _ (by omega)).trans hr0, (hc1.out.below s3).more s3.size, hw1.trans (s3.mono hw1.size)⟩
  have r1 := (one_cell HP0.out.1).1
  have r3 := (one_cell HP0.out.2.1).1
  have f3 := (one_cell HP0.out.2.1).2
  refine wp_loop_rounds 1 ?_; rw [rounds_succ]
  go_wp2
  refine bodyPost_ret (v := .agg #[.slice A1 (dl 1) c1]) (by simp [results, Tryd.results22, go_sem, r3]) rfl ?_
  exact ⟨A1, c1, rfl, HP0.out.2.2.1.setBox r3 _, HP0.out.2.2.2.setCell (by simp) _⟩
end Go.Proofs.YteieelgdiccppaaDoor
end

section
/- NatKnown's calls, each in the form that the walk wants: Low, Parse, Text, Good, Pow, and slices written out. No conditions. -/
open Go.RowKit
set_option maxRecDepth 100000
namespace Go.Proofs.YteieelgdiccppaaDoor
/-- A slice written out: the words need not be trimmed. -/
theorem nm_lit {W : World} {g n m : Nat} {ws : List Nat} (h : Blk U32 30 W g ws) (hn : n = ws.length) (h1 : n ≤ 100000) (hg : Good32 ws) (hv : val W32 ws = m) : Nm W (some ⟨g, 0, none⟩) n n m :=
  ⟨ws, hn, Nat.le_refl _, h1, h.rd0 h.lt, hg, hv⟩
def LowR (W : World) (v : Int) (b : Bool) (e : Ending) (w' : World) : Prop := e = .returned (.tuple #[.int .u64 v, .bool b]) ∧ Hid (Below W.heap.size W w')
section
variable {W : World} {A : Option Addr} {n c m : Nat}
theorem low_yes {v : Int} (h : Nm W A n c m) (hm : m < 18446744073709551616) (hv : (m : Int) = v) : Calls Tryd.prog 13 #[.agg #[.slice A n c]] W (LowR W v true) := by
  subst hv
  refine (Low_any h.out).mono fun e w' ⟨he, hb⟩ => ⟨?_, hb⟩
  rw [he, if_pos hm, decide_eq_true hm]
theorem low_no (h : Nm W A n c m) (hm : ¬ m < 18446744073709551616) : Calls Tryd.prog 13 #[.agg #[.slice A n c]] W (LowR W 0 false) := by
  refine (Low_any h.out).mono fun e w' ⟨he, hb⟩ => ⟨?_, hb⟩
  rw [he, if_neg hm, decide_eq_false hm]; rfl
def ParNo (W : World) (e : Ending) (w' : World) : Prop := e = .returned (.tuple #[.agg #[.slice none 0 0], .bool false]) ∧ Hid (Below W.heap.size W w')
def ParYes (W : World) (v : Nat) (e : Ending) (w' : World) : Prop := ∃ A c, e = .returned (.tuple #[.agg #[.slice A (dl v) c], .bool true]) ∧ Nm w' A (dl v) c v ∧ Hid (Below W.heap.size W w')
theorem parse_no {s : ByteArray} (hs : s.size ≤ 100000) (hd : digB s.data.toList = false) : Calls Tryd.prog 16 #[.string s] W (ParNo W) := by
  refine (Parse_any s W hs).mono fun e w' h1 => ?_
  unfold ParsePost at h1
  rw [if_neg (by rw [hd]; simp)] at h1
  exact h1
theorem parse_yes {s : ByteArray} {v : Nat} (hs : s.size ≤ 100000) (hd : digB s.data.toList = true) (hv : numL s.data.toList = v) (hl : dl v ≤ 100000) : Calls Tryd.prog 16 #[.string s] W (ParYes W v) := by
  subst hv
  refine (Parse_any s W hs).mono fun e w' h1 => ?_
  unfold ParsePost at h1
  rw [if_pos hd] at h1
  obtain ⟨A2, c2, he, hc, hb⟩ := h1
  exact ⟨A2, c2, he, nm_can hc hl, hb⟩
def TextR (W : World) (s : ByteArray) (e : Ending) (w' : World) : Prop := e = .returned (.string s) ∧ Hid (Below W.heap.size W w')
theorem text_r {s : ByteArray} (h : Nm W A n c m) (hs : s.data.toList = decL m) : Calls Tryd.prog 17 #[.agg #[.slice A n c]] W (TextR W s) := by
  refine (Text_any h.out).mono fun e w' ⟨t, he, ht, hb⟩ => ⟨?_, hb⟩
  rw [he, show t = s from ByteArray.ext (Array.ext' (ht.trans hs.symm))]
theorem good_no {g : Nat} {ws : List Nat} (h : Blk U32 30 W g ws) (hn : n = ws.length) (h1 : n ≤ 100000) (hg : goodB ws = false) : Calls Tryd.prog 20 #[.agg #[.slice (some ⟨g, 0, none⟩) n c]] W (BoolR W false) := by
  refine (Good_any hn (h.rd0 h.lt) (by omega)).mono fun e w' ⟨he, hb⟩ => ⟨?_, hb⟩
  rw [he, hg]
theorem good_nil : Calls Tryd.prog 20 #[.agg #[.slice none 0 0]] W (BoolR W true) := by
  refine (Good_any (n := 0) (c := 0) (A := none) (ws := []) rfl (fun h => absurd h (by decide)) (by omega)).mono fun e w' ⟨he, hb⟩ => ⟨?_, hb⟩
  rw [he]; rfl
theorem pow_h {k : Nat} {v : Nat} (h : Nm W A n c m) (hk : k ≤ 1000000) (hb : ∀ i, i ≤ k → dl (m ^ i) ≤ 100000) (hv : m ^ k = v) : Calls Tryd.prog 22 #[.agg #[.slice A n c], .int .i64 (k : Int)] W (NumR W v) := by
  subst hv
  exact (Pow_any h.out hk hb).mono fun _ _ ⟨A2, c2, he, hc, hbk⟩ => ⟨A2, c2, he, nm_can hc.out (hb k (Nat.le_refl _)), hbk⟩
theorem pow_low_h {k : Int} (hk : k ≤ 0) (hk2 : -9223372036854775808 ≤ k) : Calls Tryd.prog 22 #[.agg #[.slice A n c], .int .i64 k] W (NumR W 1) :=
  (Pow_low hk hk2).mono fun _ _ ⟨A2, c2, he, hc, hbk⟩ => ⟨A2, c2, he, nm_can hc.out (Nat.le_trans (dl_le (k := 1) (by decide)) (by decide)), hbk⟩
theorem pow_ten20 (h : Nm W A n c 10) : Calls Tryd.prog 22 #[.agg #[.slice A n c], .int .i64 20] W (NumR W (10 ^ 20)) :=
  pow_h (k := 20) h (by decide) (fun i hi => Nat.le_trans (dl_le (k := 20) (Nat.lt_of_le_of_lt (Nat.pow_le_pow_right (by decide) hi) (Nat.pow_lt_pow_left (by decide) (by decide)))) (by decide)) rfl
end
theorem lit3 (W : World) (a b c : Nat) : Blk U32 30 (W.alloc (.cells #[.int .u32 (a : Int), .int .u32 (b : Int), .int .u32 (c : Int)] 30)) W.heap.size [a, b, c] := heap_alloc_new W _
theorem good32_3 {a b c : Nat} (ha : a < W32) (hb : b < W32) (hc : c < W32) : Good32 [a, b, c] := by
  intro x hx; simp at hx; rcases hx with rfl | rfl | rfl <;> assumption
theorem low_101 (W : World) (o : Obj) : Calls Tryd.prog 13 #[.agg #[.slice (some ⟨W.heap.size + 1, 0, none⟩) 3 3]] ((W.alloc o).alloc (.cells #[.int .u32 1, .int .u32 0, .int .u32 1] 30)) (LowR ((W.alloc o).alloc (.cells #[.int .u32 1, .int .u32 0, .int .u32 1] 30)) 0 false) := by
  have h := nm_lit (n := 3) (lit3 (W.alloc o) 1 0 1) rfl (by decide) (good32_3 (by decide) (by decide) (by decide)) (m := 1 + W32 * (0 + W32 * (1 + W32 * 0))) rfl
  rw [show (W.alloc o).heap.size = W.heap.size + 1 by simp] at h
  exact low_no h (by decide)
theorem low_700 (W : World) : Calls Tryd.prog 13 #[.agg #[.slice (some ⟨W.heap.size, 0, none⟩) 3 3]] (W.alloc (.cells #[.int .u32 7, .int .u32 0, .int .u32 0] 30)) (LowR (W.alloc (.cells #[.int .u32 7, .int .u32 0, .int .u32 0] 30)) 7 true) :=
  low_yes (nm_lit (lit3 W 7 0 0) rfl (by decide) (good32_3 (by decide) (by decide) (by decide)) (m := 7 + W32 * (0 + W32 * (0 + W32 * 0))) rfl) (by decide) rfl
end Go.Proofs.YteieelgdiccppaaDoor
end
