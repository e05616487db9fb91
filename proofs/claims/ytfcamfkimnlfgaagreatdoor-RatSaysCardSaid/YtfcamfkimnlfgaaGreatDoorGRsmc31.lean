/- Several texts in one, each with its own sentence and conditions. -/
import Derived.Test.YtfcamfkimnlfgaaGreatDoorGRsmc29
import Derived.Test.YtfcamfkimnlfgaaGreatDoorGRsmc28
import Derived.Test.YtfcamfkimnlfgaaGreatDoorGRsmc30
import Derived.Deep.RegionHeld3
section
/- Package round: Mode, isOdd, leans, rises. Conditions: numbers of at most 99998 words. -/
open Go.RowKit
set_option maxRecDepth 100000
namespace Go.Proofs.YtfcamfkimnlfgaaGreatDoor
theorem call_named {P : Program} {f : FuncId} {args : Array Value} {X : World} {Q : Ending → World → Prop} (h : ∀ W', W' = X → Calls P f args W' Q) : Calls P f args X Q := h X rfl
theorem At.put2 {W : World} {p : Nat} {v0 v1 : Value} (h : At W p [v0, v1]) (x y : Value) : At ((W.setCell ⟨p, 0, none⟩ x).setCell ⟨p, 1, none⟩ y) p [x, y] := (h.put (i := 0) (by simp) x).put (i := 1) (by simp) y
theorem At.far2 {W : World} {p q : Nat} {vs : List Value} (h : At W p vs) (hq : q ≠ p) (x y : Value) : At ((W.setCell ⟨q, 0, none⟩ x).setCell ⟨q, 1, none⟩ y) p vs := (h.far hq x).far hq y
theorem Bel.put2 {w W : World} (h : Bel w W) {p : Nat} (hp : w.heap.size ≤ p) (x y : Value) : Bel w ((W.setCell ⟨p, 0, none⟩ x).setCell ⟨p, 1, none⟩ y) := (h.put hp x).put hp y
theorem Nm.putz {W : World} {p : Nat} {A : Option Addr} {n c m : Nat} (h : Nm W A n c m) (hp : At W p [.bool false, .slice none 0 0]) (b : Bool) (B : Option Addr) (k d : Nat) :
    Nm ((W.setCell ⟨p, 0, none⟩ (.bool b)).setCell ⟨p, 1, none⟩ (.slice B k d)) A n c m :=
  (h.put hp (i := 0) (by simp) now2 _).put (hp.put (i := 0) (by simp) (.bool b)) (i := 1) (by simp) now2 _
/-- As ZR, the sign by a name of its own. -/
def ZRu (W : World) (sg : Bool) (z : Int) (e : Ending) (w' : World) : Prop := ∃ A c, e = .returned (.agg #[.bool sg, .slice A (dl z.natAbs) c]) ∧ ZA w' sg A (dl z.natAbs) c z ∧ Hid (Below W.heap.size W w')
theorem ZA.mv {W W' : World} {b : Bool} {A : Option Addr} {n c : Nat} {z : Int} (h : ZA W b A n c z) (h1 : Nm W' A n c z.natAbs) : ZA W' b A n c z := ⟨h1, h.2⟩
def ZDivS (W : World) (sq sr : Bool) (q r : Int) (e : Ending) (w' : World) : Prop :=
  ∃ A c A' c', e = .returned (.tuple #[.agg #[.bool sq, .slice A (dl q.natAbs) c], .agg #[.bool sr, .slice A' (dl r.natAbs) c'], .bool true]) ∧ ZA w' sq A (dl q.natAbs) c q ∧ ZA w' sr A' (dl r.natAbs) c' r ∧ Hid (Below W.heap.size W w')
section
variable {W : World} {b b' : Bool} {A A' : Option Addr} {n n' c c' m m' q r : Nat} {z f : Int}
theorem mode_h {m : Int} : Calls Tryz.prog 61 #[.int .i64 m] W (RetB W (decide (1 ≤ m ∧ m ≤ 7))) := by
  have HB := Bel.refl W
  by_cases h1 : 1 ≤ m
  · by_cases h2 : m ≤ 7
    · rw [decide_eq_true (show 1 ≤ m ∧ m ≤ 7 from ⟨h1, h2⟩)]
      go_enter Tryz.func61, Tryz.ntmps61
      go_wp2
      go_ret
      exact ⟨rfl, HB⟩
    · rw [decide_eq_false (show ¬ (1 ≤ m ∧ m ≤ 7) from fun h => h2 h.2)]
      go_enter Tryz.func61, Tryz.ntmps61
      go_wp2
      go_ret
      exact ⟨rfl, HB⟩
  · rw [decide_eq_false (show ¬ (1 ≤ m ∧ m ≤ 7) from fun h => h1 h.1)]
    go_enter Tryz.func61, Tryz.ntmps61
    go_wp2
    go_ret
    exact ⟨rfl, HB⟩
set_option maxHeartbeats 8000000 in
theorem odd_h (h : ZA W b A n c z) (hd : dl z.natAbs ≤ 99999) : Calls Tryz.prog 187 #[.agg #[.bool b, .slice A n c]] W (RetB W (decide (z % 2 ≠ 0))) := by
  obtain ⟨k, hk⟩ : ∃ k, z / 2 = k := ⟨_, rfl⟩
  obtain ⟨v, hv⟩ : ∃ v, z % 2 = v := ⟨_, rfl⟩
  obtain ⟨u, hu⟩ : ∃ u, v.sign = u := ⟨_, rfl⟩
  obtain ⟨t, ht⟩ : ∃ t : Int, t = 2 := ⟨_, rfl⟩
  obtain ⟨bk, hbk'⟩ : ∃ x, x = decide (k < 0) := ⟨_, rfl⟩
  obtain ⟨bv, hbv⟩ : ∃ x, x = decide (v < 0) := ⟨_, rfl⟩
  obtain ⟨bt, hbt⟩ : ∃ x, x = decide (t < 0) := ⟨_, rfl⟩
  have CO : Hid (∀ W', Calls Tryz.prog 156 #[.int .i64 2] W' (ZRu W' bt t)) := fun W' => by rw [hbt, ht]; exact zof_h (by decide) (by decide)
  have CD : Hid (∀ W' B e, Bel W W' → ZA W' bt B (dl t.natAbs) e t → Calls Tryz.prog 99 #[.agg #[.bool b, .slice A n c], .agg #[.bool bt, .slice B (dl t.natAbs) e]] W' (ZDivS W' bk bv k v)) := fun W' B e hb h1 => by
    rw [hbk', hbv]
    exact zdiv_h (h.up hb) h1 (by rw [ht]; decide) hd (by rw [ht]; exact hk) (by rw [ht]; exact hv)
  have CS : Hid (∀ W' B e, ZA W' bv B (dl v.natAbs) e v → Calls Tryz.prog 88 #[.agg #[.bool bv, .slice B (dl v.natAbs) e]] W' (IntPost W' u)) := fun W' B e h1 => sign_h h1 hu
  have HU : Hid ((u != 0) = decide (v ≠ 0)) := by
    unfold Hid
    rw [← hu]
    rcases Int.lt_trichotomy v 0 with h0 | h0 | h0
    · rw [Int.sign_eq_neg_one_of_neg h0, decide_eq_true (by omega)]; rfl
    · rw [h0]; rfl
    · rw [Int.sign_eq_one_of_pos h0, decide_eq_true (by omega)]; rfl
  rw [hv]
  clear h hd hk hv hu ht hbk' hbv hbt
  have HB := Bel.refl W
  go_enter Tryz.func187, Tryz.ntmps187
  go_wp2_with fail
  obtain ⟨W1, hW1⟩ : ∃ X, X = W.alloc (.cells #[.bool b, .slice A n c] 26) := ⟨_, rfl⟩
  rw [← hW1]
  have HA : At W1 W.heap.size [.bool b, .slice A n c] := by rw [hW1]; exact at_new0 _ _ _
  replace HB : Bel W W1 := by rw [hW1]; exact HB.al _
  clear hW1
  have la := HA.lt
  go_region_held3 (fun w' => w'.cell? ⟨W.heap.size, 0, none⟩ = some (.bool b) ∧ w'.cell? ⟨W.heap.size, 1, none⟩ = some (.slice A n c))
    (refine ⟨(?_ : At _ W.heap.size [.bool b, .slice A n c]).c0, (?_ : At _ W.heap.size [.bool b, .slice A n c]).c1⟩ <;> (repeat (first | with_reducible exact HA | (with_reducible refine At.dr ?_) | (with_reducible refine At.al ?_ _) | (with_reducible refine At.far ?_ (by omega) _))))
    (first | (go_at_call 156; (with_reducible refine (CO.out _).mono ?_); rintro e w2 ⟨B2, e2, rfl, z2, hbk⟩; (with_reducible (replace HB := HB.dr.up hbk; replace HA := HA.dr.up hbk)); have lz0 := HA.lt; (try have lz2 := HP0.lt); (try have lz3 := HP1.lt)) | (go_at_call 156; (with_reducible refine (CO.out _).mono ?_); rintro e w2 ⟨B2, e2, rfl, z2, hbk⟩; (with_reducible (have HP0 := At.up (at_new0 _ [.bool false, .slice none 0 0] _).dr hbk; replace HB := (HB.al _).dr.up hbk; replace HA := (HA.al _).dr.up hbk)); have lz0 := HA.lt; (try have lz2 := HP0.lt); (try have lz3 := HP1.lt)) | (go_at_call 156; (with_reducible refine (CO.out _).mono ?_); rintro e w2 ⟨B2, e2, rfl, z2, hbk⟩; (with_reducible (have HP0 := At.up ((at_new0 _ [.bool false, .slice none 0 0] _).al _).dr hbk; have HP1 := At.up (at_new1 _ _ [.bool false, .slice none 0 0] _).dr hbk; replace HB := ((HB.al _).al _).dr.up hbk; replace HA := ((HA.al _).al _).dr.up hbk)); have lz0 := HA.lt; (try have lz2 := HP0.lt); (try have lz3 := HP1.lt)) | (go_at_call 99; (with_reducible refine (CD.out _ _ _ HB z2).mono ?_); rintro e w3 ⟨Aq, cq, Ar, cr, rfl, zq, zr, hbk⟩; (with_reducible (replace HB := HB.up hbk; replace HA := HA.up hbk)); (try (with_reducible replace HP0 := HP0.up hbk)); (try (with_reducible replace HP1 := HP1.up hbk)); (try have hp0_0 := HP0.c0); (try have hp0_1 := HP0.c1); (try have fhp0_0 := HP0.f0); (try have fhp0_1 := HP0.f1); (try have lhp0 := HP0.lt); (try have hp1_0 := HP1.c0); (try have hp1_1 := HP1.c1); (try have fhp1_0 := HP1.f0); (try have fhp1_1 := HP1.f1); (try have lhp1 := HP1.lt); (try have hq0_0 := HQ0.c0); (try have hq0_1 := HQ0.c1); (try have fhq0_0 := HQ0.f0); (try have fhq0_1 := HQ0.f1); (try have lhq0 := HQ0.lt); (try have hq1_0 := HQ1.c0); (try have hq1_1 := HQ1.c1); (try have fhq1_0 := HQ1.f0); (try have fhq1_1 := HQ1.f1); (try have lhq1 := HQ1.lt); have lz1 := HA.lt) | (go_at_call 99; (with_reducible refine (CD.out _ _ _ (HB.al _) (z2.al _)).mono ?_); rintro e w3 ⟨Aq, cq, Ar, cr, rfl, zq, zr, hbk⟩; (with_reducible (have HQ0 := At.up (at_new0 _ [.bool false, .slice none 0 0] _) hbk; replace HB := (HB.al _).up hbk; replace HA := (HA.al _).up hbk)); (try (with_reducible replace HP0 := (HP0.al _).up hbk)); (try (with_reducible replace HP1 := (HP1.al _).up hbk)); (try have hp0_0 := HP0.c0); (try have hp0_1 := HP0.c1); (try have fhp0_0 := HP0.f0); (try have fhp0_1 := HP0.f1); (try have lhp0 := HP0.lt); (try have hp1_0 := HP1.c0); (try have hp1_1 := HP1.c1); (try have fhp1_0 := HP1.f0); (try have fhp1_1 := HP1.f1); (try have lhp1 := HP1.lt); (try have hq0_0 := HQ0.c0); (try have hq0_1 := HQ0.c1); (try have fhq0_0 := HQ0.f0); (try have fhq0_1 := HQ0.f1); (try have lhq0 := HQ0.lt); (try have hq1_0 := HQ1.c0); (try have hq1_1 := HQ1.c1); (try have fhq1_0 := HQ1.f0); (try have fhq1_1 := HQ1.f1); (try have lhq1 := HQ1.lt); have lz1 := HA.lt) | (go_at_call 99; (with_reducible refine (CD.out _ _ _ ((HB.al _).al _) ((z2.al _).al _)).mono ?_); rintro e w3 ⟨Aq, cq, Ar, cr, rfl, zq, zr, hbk⟩; (with_reducible (have HQ0 := At.up ((at_new0 _ [.bool false, .slice none 0 0] _).al _) hbk; have HQ1 := At.up (at_new1 _ _ [.bool false, .slice none 0 0] _) hbk; replace HB := ((HB.al _).al _).up hbk; replace HA := ((HA.al _).al _).up hbk)); (try (with_reducible replace HP0 := ((HP0.al _).al _).up hbk)); (try (with_reducible replace HP1 := ((HP1.al _).al _).up hbk)); (try have hp0_0 := HP0.c0); (try have hp0_1 := HP0.c1); (try have fhp0_0 := HP0.f0); (try have fhp0_1 := HP0.f1); (try have lhp0 := HP0.lt); (try have hp1_0 := HP1.c0); (try have hp1_1 := HP1.c1); (try have fhp1_0 := HP1.f0); (try have fhp1_1 := HP1.f1); (try have lhp1 := HP1.lt); (try have hq0_0 := HQ0.c0); (try have hq0_1 := HQ0.c1); (try have fhq0_0 := HQ0.f0); (try have fhq0_1 := HQ0.f1); (try have lhq0 := HQ0.lt); (try have hq1_0 := HQ1.c0); (try have hq1_1 := HQ1.c1); (try have fhq1_0 := HQ1.f0); (try have fhq1_1 := HQ1.f1); (try have lhq1 := HQ1.lt); have lz1 := HA.lt) | fail)
  all_goals
    go_wp2_with (first | (go_at_call 88; refine call_named ?_; intro W4 hW4; have zn := zr.1; have NF : Nm W4 Ar (dl v.natAbs) cr v.natAbs := (by rw [hW4]; (repeat (first | with_reducible exact HB | with_reducible exact HA | with_reducible exact HP0 | with_reducible exact HP1 | with_reducible exact HQ0 | with_reducible exact HQ1 | with_reducible exact zn | (with_reducible refine Bel.dr ?_) | (with_reducible refine Bel.al ?_ _) | (with_reducible refine Bel.put2 ?_ (by omega) _ _) | (with_reducible refine Nm.dr ?_) | (with_reducible refine Nm.al ?_ _) | (with_reducible refine Nm.putz ?_ ?_ _ _ _ _) | (with_reducible refine At.dr ?_) | (with_reducible refine At.al ?_ _) | (with_reducible refine At.far2 ?_ (by omega) _ _)  | (with_reducible refine At.put2 (v0 := .bool false) (v1 := .slice none 0 0) ?_ _ _)))); have BF : Bel W W4 := (by rw [hW4]; (repeat (first | with_reducible exact HB | with_reducible exact HA | with_reducible exact HP0 | with_reducible exact HP1 | with_reducible exact HQ0 | with_reducible exact HQ1 | with_reducible exact zn | (with_reducible refine Bel.dr ?_) | (with_reducible refine Bel.al ?_ _) | (with_reducible refine Bel.put2 ?_ (by omega) _ _) | (with_reducible refine Nm.dr ?_) | (with_reducible refine Nm.al ?_ _) | (with_reducible refine Nm.putz ?_ ?_ _ _ _ _) | (with_reducible refine At.dr ?_) | (with_reducible refine At.al ?_ _) | (with_reducible refine At.far2 ?_ (by omega) _ _)  | (with_reducible refine At.put2 (v0 := .bool false) (v1 := .slice none 0 0) ?_ _ _)))); clear hW4; (with_reducible refine (CS.out _ _ _ (zr.mv NF)).mono ?_); rintro e w5 ⟨rfl, hbk⟩; replace BF := BF.up hbk) | fail)
    go_ret
    exact ⟨bool_ret (by first | exact HU.out | (have := HU.out; simpa using this)), BF⟩
set_option maxHeartbeats 8000000 in
theorem leans_h {m : Int} (h : ZA W b A n c z) (hd : dl z.natAbs ≤ 99999) (hm : 1 ≤ m ∧ m ≤ 7) : Calls Tryz.prog 174 #[.agg #[.bool b, .slice A n c], .int .i64 m] W (RetB W (lnUp m z)) := by
  obtain ⟨u, hu⟩ : ∃ u, z.sign = u := ⟨_, rfl⟩
  obtain ⟨x, hx⟩ : ∃ x, x = decide (z % 2 ≠ 0) := ⟨_, rfl⟩
  have HU : Hid (decide (u < 0) = decide (z < 0)) := by
    unfold Hid
    rw [← hu]
    rcases Int.lt_trichotomy z 0 with h0 | h0 | h0
    · rw [Int.sign_eq_neg_one_of_neg h0, decide_eq_true h0]; rfl
    · rw [h0]; rfl
    · rw [Int.sign_eq_one_of_pos h0, decide_eq_false (show ¬ z < 0 by omega)]; rfl
  have CS : Hid (∀ W', Bel W W' → Calls Tryz.prog 88 #[.agg #[.bool b, .slice A n c]] W' (IntPost W' u)) := fun W' hb => sign_h (h.up hb) hu
  have CO : Hid (∀ W', Bel W W' → Calls Tryz.prog 187 #[.agg #[.bool b, .slice A n c]] W' (RetB W' x)) := fun W' hb => by rw [hx]; exact odd_h (h.up hb) hd
  obtain ⟨s, hs⟩ : ∃ s, s = decide (z < 0) := ⟨_, rfl⟩
  rw [← hs] at HU
  have HM : ∀ y : Bool, lnUp m z = y ↔ (if m = 1 ∨ m = 5 then s else if m = 2 ∨ m = 6 then !s else if m = 7 then x else decide (m = 4)) = y := fun y => by unfold lnUp; rw [hs, hx]
  obtain ⟨y, hy⟩ : ∃ y, lnUp m z = y := ⟨_, rfl⟩
  have HY := hide ((HM y).1 hy)
  rw [hy]
  clear hu hx hs HM hy h hd
  have HB := Bel.refl W
  have hmm : m = 1 ∨ m = 2 ∨ m = 3 ∨ m = 4 ∨ m = 5 ∨ m = 6 ∨ m = 7 := by omega
  clear hm
  rcases hmm with rfl | rfl | rfl | rfl | rfl | rfl | rfl
  all_goals
    have HY2 := HY.out
    simp only [Int.reduceEq, or_true, true_or, or_self, or_false, false_or, if_true, if_false, ↓reduceIte, decide_true, decide_false, Bool.false_eq_true] at HY2
    replace HY2 := hide HY2
    clear HY
    go_enter Tryz.func174, Tryz.ntmps174
    go_wp2_with (first | (go_at_call 88; (with_reducible refine (CS.out _ (HB.al _)).mono ?_); rintro e w1 ⟨rfl, hbk⟩; have HA := At.up (at_new0 _ _ _) hbk; replace HB := (HB.al _).up hbk; have ha_0 := HA.c0; have ha_1 := HA.c1; have ha_l := HA.lt) | (go_at_call 187; (with_reducible refine (CO.out _ HB).mono ?_); rintro e w2 ⟨rfl, hbk⟩; replace hbk := Bel.hid hbk; replace HB := HB.up hbk) | fail)
    go_ret
    exact ⟨bool_ret (by first | exact HY2.out | (rw [← HY2.out]; exact HU.out) | (rw [← HY2.out, ← HU.out]) | (rw [← HY2.out]; rfl) | (rw [← HY2.out, ← HU.out]; rfl)), HB⟩
set_option maxHeartbeats 8000000 in
theorem rises_dir {m : Int} (h : ZA W b A n c f) (hr : Nm W A' n' c' r) {A2 : Option Addr} {n2 c2 : Nat} (hq : Nm W A2 n2 c2 q) (hd : dl f.natAbs ≤ 99999) (hm : 1 ≤ m ∧ m ≤ 7) (h4 : m ≤ 4) : Calls Tryz.prog 157 #[.agg #[.bool b, .slice A n c], .agg #[.slice A' n' c'], .agg #[.slice A2 n2 c2], .int .i64 m] W (RetB W (lnUp m f)) := by
  obtain ⟨x, hx⟩ : ∃ x, x = lnUp m f := ⟨_, rfl⟩
  have CL : Hid (∀ W', Bel W W' → Calls Tryz.prog 174 #[.agg #[.bool b, .slice A n c], .int .i64 m] W' (RetB W' x)) := fun W' hb => by rw [hx]; exact leans_h (h.up hb) hd hm
  have HX := hide hx
  (try rw [← hx])
  have hmm : m = 1 ∨ m = 2 ∨ m = 3 ∨ m = 4 := by omega
  clear h hr hq hd hm h4 hx HX
  have HB := Bel.refl W
  rcases hmm with rfl | rfl | rfl | rfl
  all_goals
    go_enter Tryz.func157, Tryz.ntmps157
    go_wp2_with (first | (go_at_call 174; (with_reducible refine (CL.out _ (((HB.al _).al _).al _)).mono ?_); rintro e w1 ⟨rfl, hbk⟩; replace hbk := Bel.hid hbk; replace HB := (((HB.al _).al _).al _).up hbk) | fail)
    go_ret
    exact ⟨rfl, HB⟩
set_option maxHeartbeats 8000000 in
theorem rises_lo {m : Int} (h : ZA W b A n c f) (hr : Nm W A' n' c' r) {A2 : Option Addr} {n2 c2 : Nat} (hq : Nm W A2 n2 c2 q) (hd : dl f.natAbs ≤ 99999) (hm : 1 ≤ m ∧ m ≤ 7) (h4 : 4 < m) (hc : r + r < q) (hdq : dl (r + r) ≤ 100000) : Calls Tryz.prog 157 #[.agg #[.bool b, .slice A n c], .agg #[.slice A' n' c'], .agg #[.slice A2 n2 c2], .int .i64 m] W (RetB W false) := by
  obtain ⟨x, hx⟩ : ∃ x, x = lnUp m f := ⟨_, rfl⟩
  have CL : Hid (∀ W', Bel W W' → Calls Tryz.prog 174 #[.agg #[.bool b, .slice A n c], .int .i64 m] W' (RetB W' x)) := fun W' hb => by rw [hx]; exact leans_h (h.up hb) hd hm
  have HX := hide hx
  (try rw [← hx])
  obtain ⟨y, hy⟩ : ∃ y, r + r = y := ⟨_, rfl⟩
  rw [hy] at hc hdq
  have CA : Hid (∀ W', Bel W W' → Calls Tryz.prog 117 #[.agg #[.slice A' n' c'], .agg #[.slice A' n' c']] W' (NumR W' y)) := fun W' hb => add_h (hr.up hb) (hr.up hb) hy hdq
  have CC : Hid (∀ W' B e, Bel W W' → Nm W' B (dl y) e y → Calls Tryz.prog 125 #[.agg #[.slice B (dl y) e], .agg #[.slice A2 n2 c2]] W' (IntPost W' (-1))) := fun W' B e hb h1 => cmp_h h1 (hq.up hb) (cmpI_lt hc)
  have m1 : (m == 1) = false := by simp; omega
  have m2 : (m == 2) = false := by simp; omega
  have m3 : (m == 3) = false := by simp; omega
  have m4 : (m == 4) = false := by simp; omega
  clear h hr hq hd hm h4 hc hdq hx hy
  have HB := Bel.refl W
  have H0 := at_new0 W [.bool b, .slice A n c] 26
  have H1 := at_new1 W (.cells #[.bool b, .slice A n c] 26) [.slice A' n' c'] 24
  have H2 := at_new2 W (.cells #[.bool b, .slice A n c] 26) (.cells #[.slice A' n' c'] 24) [.slice A2 n2 c2] 24
  replace H1 := H1.al (.cells #[.slice A2 n2 c2] 24)
  replace H0 := (H0.al (.cells #[.slice A' n' c'] 24)).al (.cells #[.slice A2 n2 c2] 24)
  replace HB := ((HB.al (.cells #[.bool b, .slice A n c] 26)).al (.cells #[.slice A' n' c'] 24)).al (.cells #[.slice A2 n2 c2] 24)
  go_enter Tryz.func157, Tryz.ntmps157
  go_wp2_with fail
  go_region_held3 (fun w' => w'.cell? ⟨W.heap.size + 1, 0, none⟩ = some (.slice A' n' c') ∧ w'.cell? ⟨W.heap.size + 1 + 1, 0, none⟩ = some (.slice A2 n2 c2))
    (refine ⟨(?_ : At _ (W.heap.size + 1) [.slice A' n' c']).c0, (?_ : At _ (W.heap.size + 1 + 1) [.slice A2 n2 c2]).c0⟩ <;> (repeat (first | with_reducible exact H1 | with_reducible exact H2 | (with_reducible refine At.dr ?_) | (with_reducible refine At.al ?_ _) | (with_reducible refine At.far ?_ (by omega) _))))
    (first | (go_at_call 117; (with_reducible refine (CA.out _ HB.dr).mono ?_); rintro e w1 ⟨B1, e1, rfl, n1, hbk⟩; (with_reducible (replace HB := HB.dr.up hbk; replace H0 := H0.dr.up hbk; replace H1 := H1.dr.up hbk; replace H2 := H2.dr.up hbk))) | (go_at_call 125; (with_reducible refine (CC.out _ _ _ HB n1).mono ?_); rintro e w2 ⟨rfl, hbk⟩; (with_reducible (replace HB := HB.up hbk; replace H0 := H0.up hbk; replace H1 := H1.up hbk; replace H2 := H2.up hbk)); have h0_0 := H0.c0; have h0_1 := H0.c1; have h0_l := H0.lt) | fail)
  go_wp2_with (first | (go_at_call 174; (with_reducible refine (CL.out _ HB).mono ?_); rintro e w3 ⟨rfl, hbk⟩; replace hbk := Bel.hid hbk; replace HB := HB.up hbk) | fail)
  go_ret
  exact ⟨rfl, HB⟩
set_option maxHeartbeats 8000000 in
theorem rises_hi {m : Int} (h : ZA W b A n c f) (hr : Nm W A' n' c' r) {A2 : Option Addr} {n2 c2 : Nat} (hq : Nm W A2 n2 c2 q) (hd : dl f.natAbs ≤ 99999) (hm : 1 ≤ m ∧ m ≤ 7) (h4 : 4 < m) (hc : q < r + r) (hdq : dl (r + r) ≤ 100000) : Calls Tryz.prog 157 #[.agg #[.bool b, .slice A n c], .agg #[.slice A' n' c'], .agg #[.slice A2 n2 c2], .int .i64 m] W (RetB W true) := by
  obtain ⟨x, hx⟩ : ∃ x, x = lnUp m f := ⟨_, rfl⟩
  have CL : Hid (∀ W', Bel W W' → Calls Tryz.prog 174 #[.agg #[.bool b, .slice A n c], .int .i64 m] W' (RetB W' x)) := fun W' hb => by rw [hx]; exact leans_h (h.up hb) hd hm
  have HX := hide hx
  (try rw [← hx])
  obtain ⟨y, hy⟩ : ∃ y, r + r = y := ⟨_, rfl⟩
  rw [hy] at hc hdq
  have CA : Hid (∀ W', Bel W W' → Calls Tryz.prog 117 #[.agg #[.slice A' n' c'], .agg #[.slice A' n' c']] W' (NumR W' y)) := fun W' hb => add_h (hr.up hb) (hr.up hb) hy hdq
  have CC : Hid (∀ W' B e, Bel W W' → Nm W' B (dl y) e y → Calls Tryz.prog 125 #[.agg #[.slice B (dl y) e], .agg #[.slice A2 n2 c2]] W' (IntPost W' (1))) := fun W' B e hb h1 => cmp_h h1 (hq.up hb) (cmpI_gt hc)
  have m1 : (m == 1) = false := by simp; omega
  have m2 : (m == 2) = false := by simp; omega
  have m3 : (m == 3) = false := by simp; omega
  have m4 : (m == 4) = false := by simp; omega
  clear h hr hq hd hm h4 hc hdq hx hy
  have HB := Bel.refl W
  have H0 := at_new0 W [.bool b, .slice A n c] 26
  have H1 := at_new1 W (.cells #[.bool b, .slice A n c] 26) [.slice A' n' c'] 24
  have H2 := at_new2 W (.cells #[.bool b, .slice A n c] 26) (.cells #[.slice A' n' c'] 24) [.slice A2 n2 c2] 24
  replace H1 := H1.al (.cells #[.slice A2 n2 c2] 24)
  replace H0 := (H0.al (.cells #[.slice A' n' c'] 24)).al (.cells #[.slice A2 n2 c2] 24)
  replace HB := ((HB.al (.cells #[.bool b, .slice A n c] 26)).al (.cells #[.slice A' n' c'] 24)).al (.cells #[.slice A2 n2 c2] 24)
  go_enter Tryz.func157, Tryz.ntmps157
  go_wp2_with fail
  go_region_held3 (fun w' => w'.cell? ⟨W.heap.size + 1, 0, none⟩ = some (.slice A' n' c') ∧ w'.cell? ⟨W.heap.size + 1 + 1, 0, none⟩ = some (.slice A2 n2 c2))
    (refine ⟨(?_ : At _ (W.heap.size + 1) [.slice A' n' c']).c0, (?_ : At _ (W.heap.size + 1 + 1) [.slice A2 n2 c2]).c0⟩ <;> (repeat (first | with_reducible exact H1 | with_reducible exact H2 | (with_reducible refine At.dr ?_) | (with_reducible refine At.al ?_ _) | (with_reducible refine At.far ?_ (by omega) _))))
    (first | (go_at_call 117; (with_reducible refine (CA.out _ HB.dr).mono ?_); rintro e w1 ⟨B1, e1, rfl, n1, hbk⟩; (with_reducible (replace HB := HB.dr.up hbk; replace H0 := H0.dr.up hbk; replace H1 := H1.dr.up hbk; replace H2 := H2.dr.up hbk))) | (go_at_call 125; (with_reducible refine (CC.out _ _ _ HB n1).mono ?_); rintro e w2 ⟨rfl, hbk⟩; (with_reducible (replace HB := HB.up hbk; replace H0 := H0.up hbk; replace H1 := H1.up hbk; replace H2 := H2.up hbk)); have h0_0 := H0.c0; have h0_1 := H0.c1; have h0_l := H0.lt) | fail)
  go_wp2_with (first | (go_at_call 174; (with_reducible refine (CL.out _ HB).mono ?_); rintro e w3 ⟨rfl, hbk⟩; replace hbk := Bel.hid hbk; replace HB := HB.up hbk) | fail)
  go_ret
  exact ⟨rfl, HB⟩
set_option maxHeartbeats 8000000 in
theorem rises_eq {m : Int} (h : ZA W b A n c f) (hr : Nm W A' n' c' r) {A2 : Option Addr} {n2 c2 : Nat} (hq : Nm W A2 n2 c2 q) (hd : dl f.natAbs ≤ 99999) (hm : 1 ≤ m ∧ m ≤ 7) (h4 : 4 < m) (hc : r + r = q) (hdq : dl (r + r) ≤ 100000) : Calls Tryz.prog 157 #[.agg #[.bool b, .slice A n c], .agg #[.slice A' n' c'], .agg #[.slice A2 n2 c2], .int .i64 m] W (RetB W (lnUp m f)) := by
  obtain ⟨x, hx⟩ : ∃ x, x = lnUp m f := ⟨_, rfl⟩
  have CL : Hid (∀ W', Bel W W' → Calls Tryz.prog 174 #[.agg #[.bool b, .slice A n c], .int .i64 m] W' (RetB W' x)) := fun W' hb => by rw [hx]; exact leans_h (h.up hb) hd hm
  have HX := hide hx
  (try rw [← hx])
  obtain ⟨y, hy⟩ : ∃ y, r + r = y := ⟨_, rfl⟩
  rw [hy] at hc hdq
  have CA : Hid (∀ W', Bel W W' → Calls Tryz.prog 117 #[.agg #[.slice A' n' c'], .agg #[.slice A' n' c']] W' (NumR W' y)) := fun W' hb => add_h (hr.up hb) (hr.up hb) hy hdq
  have CC : Hid (∀ W' B e, Bel W W' → Nm W' B (dl y) e y → Calls Tryz.prog 125 #[.agg #[.slice B (dl y) e], .agg #[.slice A2 n2 c2]] W' (IntPost W' (0))) := fun W' B e hb h1 => cmp_h h1 (hq.up hb) (cmpI_eq hc)
  have m1 : (m == 1) = false := by simp; omega
  have m2 : (m == 2) = false := by simp; omega
  have m3 : (m == 3) = false := by simp; omega
  have m4 : (m == 4) = false := by simp; omega
  clear h hr hq hd hm h4 hc hdq hx hy
  have HB := Bel.refl W
  have H0 := at_new0 W [.bool b, .slice A n c] 26
  have H1 := at_new1 W (.cells #[.bool b, .slice A n c] 26) [.slice A' n' c'] 24
  have H2 := at_new2 W (.cells #[.bool b, .slice A n c] 26) (.cells #[.slice A' n' c'] 24) [.slice A2 n2 c2] 24
  replace H1 := H1.al (.cells #[.slice A2 n2 c2] 24)
  replace H0 := (H0.al (.cells #[.slice A' n' c'] 24)).al (.cells #[.slice A2 n2 c2] 24)
  replace HB := ((HB.al (.cells #[.bool b, .slice A n c] 26)).al (.cells #[.slice A' n' c'] 24)).al (.cells #[.slice A2 n2 c2] 24)
  go_enter Tryz.func157, Tryz.ntmps157
  go_wp2_with fail
  go_region_held3 (fun w' => w'.cell? ⟨W.heap.size + 1, 0, none⟩ = some (.slice A' n' c') ∧ w'.cell? ⟨W.heap.size + 1 + 1, 0, none⟩ = some (.slice A2 n2 c2))
    (refine ⟨(?_ : At _ (W.heap.size + 1) [.slice A' n' c']).c0, (?_ : At _ (W.heap.size + 1 + 1) [.slice A2 n2 c2]).c0⟩ <;> (repeat (first | with_reducible exact H1 | with_reducible exact H2 | (with_reducible refine At.dr ?_) | (with_reducible refine At.al ?_ _) | (with_reducible refine At.far ?_ (by omega) _))))
    (first | (go_at_call 117; (with_reducible refine (CA.out _ HB.dr).mono ?_); rintro e w1 ⟨B1, e1, rfl, n1, hbk⟩; (with_reducible (replace HB := HB.dr.up hbk; replace H0 := H0.dr.up hbk; replace H1 := H1.dr.up hbk; replace H2 := H2.dr.up hbk))) | (go_at_call 125; (with_reducible refine (CC.out _ _ _ HB n1).mono ?_); rintro e w2 ⟨rfl, hbk⟩; (with_reducible (replace HB := HB.up hbk; replace H0 := H0.up hbk; replace H1 := H1.up hbk; replace H2 := H2.up hbk)); have h0_0 := H0.c0; have h0_1 := H0.c1; have h0_l := H0.lt) | fail)
  go_wp2_with (first | (go_at_call 174; (with_reducible refine (CL.out _ HB).mono ?_); rintro e w3 ⟨rfl, hbk⟩; replace hbk := Bel.hid hbk; replace HB := HB.up hbk) | fail)
  go_ret
  exact ⟨rfl, HB⟩
theorem rises_h {m : Int} (h : ZA W b A n c f) (hr : Nm W A' n' c' r) {A2 : Option Addr} {n2 c2 : Nat} (hq : Nm W A2 n2 c2 q) (hd : dl f.natAbs ≤ 99999) (hm : 1 ≤ m ∧ m ≤ 7) (hdq : dl (r + r) ≤ 100000) : Calls Tryz.prog 157 #[.agg #[.bool b, .slice A n c], .agg #[.slice A' n' c'], .agg #[.slice A2 n2 c2], .int .i64 m] W (RetB W (rdUp m f r q)) := by
  unfold rdUp
  by_cases h4 : m ≤ 4
  · rw [if_pos h4]; exact rises_dir h hr hq hd hm h4
  · rw [if_neg h4]
    by_cases h1 : r + r < q
    · rw [if_pos h1]; exact rises_lo h hr hq hd hm (by omega) h1 hdq
    · rw [if_neg h1]
      by_cases h2 : q < r + r
      · rw [if_pos h2]; exact rises_hi h hr hq hd hm (by omega) h2 hdq
      · rw [if_neg h2]; exact rises_eq h hr hq hd hm (by omega) (by omega) hdq
end
end Go.Proofs.YtfcamfkimnlfgaaGreatDoor
end

section
/- Package round: whole. Conditions: terms of at most 20000 words. -/
open Go.RowKit
set_option maxRecDepth 100000
namespace Go.Proofs.YtfcamfkimnlfgaaGreatDoor
theorem dlz_ : dl (0 : Int).natAbs = 0 := by unfold dl; rw [show (0 : Int).natAbs = 0 from rfl, digs_zero]; rfl
section
variable {W : World} {b b' : Bool} {A A' : Option Addr} {n n' c c' q K : Nat} {p f r m : Int}
theorem nabs_div_le (p : Int) (q : Nat) : (p / (q : Int)).natAbs ≤ p.natAbs := by
  by_cases hq : q = 0
  · rw [hq]; simp
  · have h1 := Int.emod_add_mul_ediv p (q : Int)
    have h2 := Int.emod_nonneg p (by omega : (q : Int) ≠ 0)
    have h3 := Int.emod_lt_of_pos p (by omega : (0 : Int) < (q : Int))
    by_cases hp : 0 ≤ p
    · have h4 : p / (q : Int) ≤ p := Int.ediv_le_self _ hp
      have h5 : 0 ≤ p / (q : Int) := Int.ediv_nonneg hp (by omega)
      omega
    · have h4 : p / (q : Int) < 0 := Int.ediv_neg_of_neg_of_pos (by omega) (by omega)
      have h5 : (q : Int) * (p / (q : Int)) ≤ 1 * (p / (q : Int)) := Int.mul_le_mul_of_nonpos_right (by omega) (by omega)
      have h6 : p ≤ p / (q : Int) := Int.le_of_not_gt fun h => by
        have h7 : p / (q : Int) + 1 ≤ p := by omega
        have h8 := Int.mul_le_mul_of_nonneg_left h7 (by omega : (0 : Int) ≤ (q : Int))
        have h9 : (q : Int) * p ≤ 1 * p := Int.mul_le_mul_of_nonpos_right (by omega) (by omega)
        rw [Int.mul_add] at h8
        omega
      omega
set_option maxHeartbeats 8000000 in
theorem whole_0 (hz : ZA W b A n c p) (hq : Nm W A' n' c' q) (hm : 1 ≤ m ∧ m ≤ 7) (bp : p.natAbs < W32 ^ K) (bq : q < W32 ^ K) (hK : K ≤ 20000) (h0 : q = 0) : Calls Tryz.prog 120 #[.agg #[.bool b, .slice A n c], .agg #[.slice A' n' c'], .int .i64 m] W (ZR W (rdZ m p q)) := by
  have HE : rdZ m p q = 0 := by unfold rdZ; rw [if_pos h0]
  rw [HE]
  have CD : Hid (∀ W', Bel W W' → Calls Tryz.prog 99 #[.agg #[.bool b, .slice A n c], .agg #[.bool false, .slice A' n' c']] W' (ZDivNo W')) := fun W' hb => zdiv_no (z' := 0) (hz.up hb) (by have h1 := za_of (b := false) (hq.up hb); rw [zi_false, h0] at h1; exact h1) rfl
  have HZ := hide dlz_
  clear hz hq hm bp bq hK h0 HE
  have HB := Bel.refl W
  go_enter Tryz.func120, Tryz.ntmps120
  go_wp2_with (first | (go_at_call 99; (with_reducible refine (CD.out _ (((HB.al _).al _).al _)).mono ?_); rintro e w1 ⟨rfl, hbk⟩; (with_reducible (have H1 : At w1 (W.heap.size + 1) [.slice A' n' c'] := At.up ((at_new1 _ _ _ _).al _) hbk; have HR : At w1 (W.heap.size + 1 + 1) [.bool false, .slice none 0 0] := At.up (at_new2 _ _ _ _ _) hbk; replace HB := (((HB.al _).al _).al _).up hbk)); have hr_0 := ((HR.al (.cells #[.bool false, .slice none 0 0] 26)).al (.cells #[.bool false, .slice none 0 0] 26)).c0; have hr_1 := ((HR.al (.cells #[.bool false, .slice none 0 0] 26)).al (.cells #[.bool false, .slice none 0 0] 26)).c1; have hr_l := ((HR.al (.cells #[.bool false, .slice none 0 0] 26)).al (.cells #[.bool false, .slice none 0 0] 26)).lt; have hr_f0 := ((HR.al (.cells #[.bool false, .slice none 0 0] 26)).al (.cells #[.bool false, .slice none 0 0] 26)).f0; have hr_f1 := ((HR.al (.cells #[.bool false, .slice none 0 0] 26)).al (.cells #[.bool false, .slice none 0 0] 26)).f1) | fail)
  refine name_end ?_
  intro W4 hW4
  have HF : At W4 (W.heap.size + 1 + 1) [.bool false, .slice none 0 0] := by rw [hW4]; (repeat (first | with_reducible exact HR | (with_reducible refine At.al ?_ _) | (with_reducible refine At.put2 (v0 := .bool false) (v1 := .slice none 0 0) ?_ _ _)))
  have BF : Bel W W4 := by rw [hW4]; (repeat (first | with_reducible exact HB | (with_reducible refine Bel.al ?_ _) | (with_reducible refine Bel.put2 ?_ (by omega) _ _)))
  clear hW4
  refine bodyPost_ret (v := .agg #[.bool false, .slice none 0 0]) (by simp [results, Tryz.results120, go_sem, HF.c0, HF.c1]) rfl ?_
  exact ⟨none, 0, by rw [HZ.out]; rfl, ⟨by rw [HZ.out]; exact nm_nil _ _ _, by unfold Hid; decide⟩, BF⟩
set_option maxHeartbeats 8000000 in
theorem whole_i (hz : ZA W b A n c p) (hq : Nm W A' n' c' q) (hm : 1 ≤ m ∧ m ≤ 7) (bp : p.natAbs < W32 ^ K) (bq : q < W32 ^ K) (hK : K ≤ 20000) (h0 : q ≠ 0) (h1' : p % (q : Int) = 0) : Calls Tryz.prog 120 #[.agg #[.bool b, .slice A n c], .agg #[.slice A' n' c'], .int .i64 m] W (ZR W (rdZ m p q)) := by
  obtain ⟨f, hf⟩ : ∃ f, p / (q : Int) = f := ⟨_, rfl⟩
  obtain ⟨r, hr⟩ : ∃ r, p % (q : Int) = r := ⟨_, rfl⟩
  obtain ⟨t, ht⟩ : ∃ t, rdZ m p q = t := ⟨_, rfl⟩
  rw [ht]
  unfold rdZ at ht
  rw [if_neg h0, hf, hr] at ht
  have bf : f.natAbs < W32 ^ K := by rw [← hf]; exact Nat.lt_of_le_of_lt (nabs_div_le p q) bp
  have br : r.natAbs < W32 ^ K := by
    have h2 := Int.emod_nonneg p (by omega : (q : Int) ≠ 0)
    have h3 := Int.emod_lt_of_pos p (by omega : (0 : Int) < (q : Int))
    omega
  have hr0 : 0 ≤ r := by rw [← hr]; exact Int.emod_nonneg p (by omega : (q : Int) ≠ 0)
  have df : dl f.natAbs ≤ 99998 := Nat.le_trans (dl_le bf) (by omega)
  have dr : dl (r.natAbs + r.natAbs) ≤ 100000 := Nat.le_trans (dl_le (bd_add br br)) (by omega)
  rw [hr] at h1'
  obtain ⟨sf, hsf⟩ : ∃ x, x = decide (f < 0) := ⟨_, rfl⟩
  obtain ⟨sr, hsr⟩ : ∃ x, x = decide (r < 0) := ⟨_, rfl⟩
  obtain ⟨st, hst⟩ : ∃ x, x = decide (t < 0) := ⟨_, rfl⟩
  have CD : Hid (∀ W', Bel W W' → Calls Tryz.prog 99 #[.agg #[.bool b, .slice A n c], .agg #[.bool false, .slice A' n' c']] W' (ZDivS W' sf sr f r)) := fun W' hb => by
    rw [hsf, hsr]
    exact zdiv_h (hz.up hb) (za_of (b := false) (hq.up hb)) (by rw [zi_false]; omega) (Nat.le_trans (dl_le bp) (by omega)) (by rw [zi_false]; exact hf) (by rw [zi_false]; exact hr)
  have CS : Hid (∀ W' B e, ZA W' sr B (dl r.natAbs) e r → Calls Tryz.prog 88 #[.agg #[.bool sr, .slice B (dl r.natAbs) e]] W' (IntPost W' 0)) := fun W' B e h1 => sign_h h1 (by rw [h1']; rfl)
  have HT : t = f := by rw [← ht, if_pos h1']
  have HT2 := hide HT
  clear HT
  have HS := hide hst
  have HSF := hide hsf
  clear hz hq hm bp bq hK h0 hf hr ht bf br hr0 df dr hsf hsr hst h1'
  have HB := Bel.refl W
  go_enter Tryz.func120, Tryz.ntmps120
  go_wp2_with (first | (go_at_call 99; (with_reducible refine (CD.out _ (((HB.al _).al _).al _)).mono ?_); rintro e w1 ⟨Bf, ef, Br, er, rfl, zf, zr, hbk⟩; (with_reducible (have H1 : At w1 (W.heap.size + 1) [.slice A' n' c'] := At.up ((at_new1 _ _ _ _).al _) hbk; have HR : At w1 (W.heap.size + 1 + 1) [.bool false, .slice none 0 0] := At.up (at_new2 _ _ _ _ _) hbk; replace HB := (((HB.al _).al _).al _).up hbk)); have hr_0 := HR.c0; have hr_1 := HR.c1; have hr_l := HR.lt; have h1_0 := H1.c0; have h1_l := H1.lt; have HRL := HR.lt) | (go_at_call 88; (with_reducible refine (CS.out _ _ _ ((zr.al _).al _)).mono ?_); rintro e w2 ⟨rfl, hbk⟩; (with_reducible (have HF : At w2 w1.heap.size [.bool sf, .slice Bf (dl f.natAbs) ef] := At.up ((at_new0 _ _ _).al _) hbk; have HT : At w2 (w1.heap.size + 1) [.bool sr, .slice Br (dl r.natAbs) er] := At.up (at_new1 _ _ _ _) hbk; replace HB := ((HB.al _).al _).up hbk; replace HR := ((HR.al _).al _).up hbk; replace H1 := ((H1.al _).al _).up hbk; replace zf := ((zf.al _).al _).up hbk; replace zr := ((zr.al _).al _).up hbk)); clear hr_0 hr_1 hr_l h1_0 h1_l; have hf_0 := HF.c0; have hf_1 := HF.c1; have hf_l := HF.lt; have ht_0 := HT.c0; have ht_1 := HT.c1; have ht_l := HT.lt; have hr_0 := HR.c0; have hr_1 := HR.c1; have hr_l := HR.lt; have hr_f0 := HR.f0; have hr_f1 := HR.f1; have h1_0 := H1.c0; have h1_l := H1.lt; have zn := zr.1) | fail)
  rw [HT2.out]
  refine bodyPost_ret (v := .agg #[.bool sf, .slice Bf (dl f.natAbs) ef]) (by simp [results, Tryz.results120, go_sem, hr_0, hr_1]) rfl ?_
  rw [HSF.out] at zf ⊢
  exact ret_z HB (by omega) HR now2 zf
set_option maxHeartbeats 8000000 in
theorem whole_u (hz : ZA W b A n c p) (hq : Nm W A' n' c' q) (hm : 1 ≤ m ∧ m ≤ 7) (bp : p.natAbs < W32 ^ K) (bq : q < W32 ^ K) (hK : K ≤ 20000) (h0 : q ≠ 0) (h1' : ¬ p % (q : Int) = 0) (h2' : rdUp m (p / (q : Int)) (p % (q : Int)).natAbs q = true) : Calls Tryz.prog 120 #[.agg #[.bool b, .slice A n c], .agg #[.slice A' n' c'], .int .i64 m] W (ZR W (rdZ m p q)) := by
  obtain ⟨f, hf⟩ : ∃ f, p / (q : Int) = f := ⟨_, rfl⟩
  obtain ⟨r, hr⟩ : ∃ r, p % (q : Int) = r := ⟨_, rfl⟩
  obtain ⟨t, ht⟩ : ∃ t, rdZ m p q = t := ⟨_, rfl⟩
  rw [ht]
  unfold rdZ at ht
  rw [if_neg h0, hf, hr] at ht
  have bf : f.natAbs < W32 ^ K := by rw [← hf]; exact Nat.lt_of_le_of_lt (nabs_div_le p q) bp
  have br : r.natAbs < W32 ^ K := by
    have h2 := Int.emod_nonneg p (by omega : (q : Int) ≠ 0)
    have h3 := Int.emod_lt_of_pos p (by omega : (0 : Int) < (q : Int))
    omega
  have hr0 : 0 ≤ r := by rw [← hr]; exact Int.emod_nonneg p (by omega : (q : Int) ≠ 0)
  have df : dl f.natAbs ≤ 99998 := Nat.le_trans (dl_le bf) (by omega)
  have dr : dl (r.natAbs + r.natAbs) ≤ 100000 := Nat.le_trans (dl_le (bd_add br br)) (by omega)
  rw [hr] at h1'
  rw [hf, hr] at h2'
  obtain ⟨sf, hsf⟩ : ∃ x, x = decide (f < 0) := ⟨_, rfl⟩
  obtain ⟨sr, hsr⟩ : ∃ x, x = decide (r < 0) := ⟨_, rfl⟩
  obtain ⟨st, hst⟩ : ∃ x, x = decide (t < 0) := ⟨_, rfl⟩
  have CD : Hid (∀ W', Bel W W' → Calls Tryz.prog 99 #[.agg #[.bool b, .slice A n c], .agg #[.bool false, .slice A' n' c']] W' (ZDivS W' sf sr f r)) := fun W' hb => by
    rw [hsf, hsr]
    exact zdiv_h (hz.up hb) (za_of (b := false) (hq.up hb)) (by rw [zi_false]; omega) (Nat.le_trans (dl_le bp) (by omega)) (by rw [zi_false]; exact hf) (by rw [zi_false]; exact hr)
  have CS : Hid (∀ W' B e, ZA W' sr B (dl r.natAbs) e r → Calls Tryz.prog 88 #[.agg #[.bool sr, .slice B (dl r.natAbs) e]] W' (IntPost W' 1)) := fun W' B e h1 => sign_h h1 (Int.sign_eq_one_of_pos (by omega))
  have CR : Hid (∀ W' B e B' e', Bel W W' → ZA W' sf B (dl f.natAbs) e f → Nm W' B' (dl r.natAbs) e' r.natAbs → Calls Tryz.prog 157 #[.agg #[.bool sf, .slice B (dl f.natAbs) e], .agg #[.slice B' (dl r.natAbs) e'], .agg #[.slice A' n' c'], .int .i64 m] W' (RetB W' true)) := fun W' B e B' e' hb h1 h2 => by
    have h3 := rises_h h1 h2 (hq.up hb.hid) (by omega) hm dr
    rwa [h2'] at h3
  obtain ⟨one, hone⟩ : ∃ x : Int, x = 1 := ⟨_, rfl⟩
  obtain ⟨s1, hs1⟩ : ∃ x, x = decide (one < 0) := ⟨_, rfl⟩
  have CO : Hid (∀ W', Calls Tryz.prog 156 #[.int .i64 1] W' (ZRu W' s1 one)) := fun W' => by rw [hs1, hone]; exact zof_h (by decide) (by decide)
  have CA : Hid (∀ W' B e B' e', ZA W' sf B (dl f.natAbs) e f → ZA W' s1 B' (dl one.natAbs) e' one → Calls Tryz.prog 93 #[.agg #[.bool sf, .slice B (dl f.natAbs) e], .agg #[.bool s1, .slice B' (dl one.natAbs) e']] W' (ZRu W' st t)) := fun W' B e B' e' h1 h2 => by
    rw [hst]
    refine zadd_h h1 h2 ?_ ?_
    · rw [hone, ← ht, if_neg h1', if_pos h2']
    · rw [← ht, if_neg h1', if_pos h2']
      exact Nat.le_trans (dl_mono (b := f.natAbs + 1) (by omega)) (Nat.le_trans (dl_succ _) (by omega))
  have HS := hide hst
  have HSF := hide hsf
  clear hz hq hm bp bq hK h0 hf hr ht bf br hr0 df dr hsf hsr hst h1' h2' hone hs1
  have HB := Bel.refl W
  go_enter Tryz.func120, Tryz.ntmps120
  go_wp2_with (first | (go_at_call 99; (with_reducible refine (CD.out _ (((HB.al _).al _).al _)).mono ?_); rintro e w1 ⟨Bf, ef, Br, er, rfl, zf, zr, hbk⟩; (with_reducible (have H1 : At w1 (W.heap.size + 1) [.slice A' n' c'] := At.up ((at_new1 _ _ _ _).al _) hbk; have HR : At w1 (W.heap.size + 1 + 1) [.bool false, .slice none 0 0] := At.up (at_new2 _ _ _ _ _) hbk; replace HB := (((HB.al _).al _).al _).up hbk)); have hr_0 := HR.c0; have hr_1 := HR.c1; have hr_l := HR.lt; have h1_0 := H1.c0; have h1_l := H1.lt; have HRL := HR.lt) | (go_at_call 88; (with_reducible refine (CS.out _ _ _ ((zr.al _).al _)).mono ?_); rintro e w2 ⟨rfl, hbk⟩; (with_reducible (have HF : At w2 w1.heap.size [.bool sf, .slice Bf (dl f.natAbs) ef] := At.up ((at_new0 _ _ _).al _) hbk; have HT : At w2 (w1.heap.size + 1) [.bool sr, .slice Br (dl r.natAbs) er] := At.up (at_new1 _ _ _ _) hbk; replace HB := ((HB.al _).al _).up hbk; replace HR := ((HR.al _).al _).up hbk; replace H1 := ((H1.al _).al _).up hbk; replace zf := ((zf.al _).al _).up hbk; replace zr := ((zr.al _).al _).up hbk)); clear hr_0 hr_1 hr_l h1_0 h1_l; have hf_0 := HF.c0; have hf_1 := HF.c1; have hf_l := HF.lt; have ht_0 := HT.c0; have ht_1 := HT.c1; have ht_l := HT.lt; have hr_0 := HR.c0; have hr_1 := HR.c1; have hr_l := HR.lt; have hr_f0 := HR.f0; have hr_f1 := HR.f1; have h1_0 := H1.c0; have h1_l := H1.lt; have zn := zr.1) | (go_at_call 157; (with_reducible refine (CR.out _ _ _ _ _ HB zf zn).mono ?_); rintro e w3 ⟨rfl, hbk⟩; replace hbk := Bel.hid hbk; (with_reducible (replace HB := HB.up hbk; replace HR := HR.up hbk; replace HF := HF.up hbk; replace HT := HT.up hbk; replace H1 := H1.up hbk; replace zf := zf.up hbk)); clear hf_0 hf_1 hf_l ht_0 ht_1 ht_l hr_0 hr_1 hr_l hr_f0 hr_f1 h1_0 h1_l; have hf_0 := HF.c0; have hf_1 := HF.c1; have hf_l := HF.lt; have hr_0 := HR.c0; have hr_1 := HR.c1; have hr_l := HR.lt; have hr_f0 := HR.f0; have hr_f1 := HR.f1) | fail)
  clear hf_0 hf_1 hf_l hr_0 hr_1 hr_l hr_f0 hr_f1
  go_region_held3 (fun w' => w'.cell? ⟨w1.heap.size, 0, none⟩ = some (.bool sf) ∧ w'.cell? ⟨w1.heap.size, 1, none⟩ = some (.slice Bf (dl f.natAbs) ef))
    (refine ⟨(?_ : At _ w1.heap.size [.bool sf, .slice Bf (dl f.natAbs) ef]).c0, (?_ : At _ w1.heap.size [.bool sf, .slice Bf (dl f.natAbs) ef]).c1⟩ <;> (repeat (first | with_reducible exact HF | (with_reducible refine At.dr ?_) | (with_reducible refine At.al ?_ _) | (with_reducible refine At.far ?_ (by omega) _))))
    (first | (go_at_call 156; (with_reducible refine (CO.out _).mono ?_); rintro e w4 ⟨Bo, eo, rfl, zo, hbk⟩; (with_reducible (replace HB := HB.dr.up hbk; replace HR := HR.dr.up hbk; replace HF := HF.dr.up hbk; replace zf := zf.dr.up hbk))) | (go_at_call 93; (with_reducible refine (CA.out _ _ _ _ _ zf zo).mono ?_); rintro e w5 ⟨Bt, et, rfl, zt, hbk⟩; (with_reducible (replace HB := HB.up hbk; replace HR := HR.up hbk; replace HF := HF.up hbk)); have hr_0 := HR.c0; have hr_1 := HR.c1; have hr_l := HR.lt; have hr_f0 := HR.f0; have hr_f1 := HR.f1; have lf := HF.lt; have hne := (show w1.heap.size ≠ W.heap.size + 1 + 1 by omega)) | fail)
  go_wp2_with fail
  refine bodyPost_ret (v := .agg #[.bool st, .slice Bt (dl t.natAbs) et]) (by simp [results, Tryz.results120, go_sem, hr_0, hr_1]) rfl ?_
  rw [HS.out] at zt ⊢
  exact ret_z HB (by omega) HR now2 zt
set_option maxHeartbeats 8000000 in
theorem whole_d (hz : ZA W b A n c p) (hq : Nm W A' n' c' q) (hm : 1 ≤ m ∧ m ≤ 7) (bp : p.natAbs < W32 ^ K) (bq : q < W32 ^ K) (hK : K ≤ 20000) (h0 : q ≠ 0) (h1' : ¬ p % (q : Int) = 0) (h2' : ¬ rdUp m (p / (q : Int)) (p % (q : Int)).natAbs q = true) : Calls Tryz.prog 120 #[.agg #[.bool b, .slice A n c], .agg #[.slice A' n' c'], .int .i64 m] W (ZR W (rdZ m p q)) := by
  obtain ⟨f, hf⟩ : ∃ f, p / (q : Int) = f := ⟨_, rfl⟩
  obtain ⟨r, hr⟩ : ∃ r, p % (q : Int) = r := ⟨_, rfl⟩
  obtain ⟨t, ht⟩ : ∃ t, rdZ m p q = t := ⟨_, rfl⟩
  rw [ht]
  unfold rdZ at ht
  rw [if_neg h0, hf, hr] at ht
  have bf : f.natAbs < W32 ^ K := by rw [← hf]; exact Nat.lt_of_le_of_lt (nabs_div_le p q) bp
  have br : r.natAbs < W32 ^ K := by
    have h2 := Int.emod_nonneg p (by omega : (q : Int) ≠ 0)
    have h3 := Int.emod_lt_of_pos p (by omega : (0 : Int) < (q : Int))
    omega
  have hr0 : 0 ≤ r := by rw [← hr]; exact Int.emod_nonneg p (by omega : (q : Int) ≠ 0)
  have df : dl f.natAbs ≤ 99998 := Nat.le_trans (dl_le bf) (by omega)
  have dr : dl (r.natAbs + r.natAbs) ≤ 100000 := Nat.le_trans (dl_le (bd_add br br)) (by omega)
  rw [hr] at h1'
  rw [hf, hr] at h2'
  obtain ⟨sf, hsf⟩ : ∃ x, x = decide (f < 0) := ⟨_, rfl⟩
  obtain ⟨sr, hsr⟩ : ∃ x, x = decide (r < 0) := ⟨_, rfl⟩
  obtain ⟨st, hst⟩ : ∃ x, x = decide (t < 0) := ⟨_, rfl⟩
  have CD : Hid (∀ W', Bel W W' → Calls Tryz.prog 99 #[.agg #[.bool b, .slice A n c], .agg #[.bool false, .slice A' n' c']] W' (ZDivS W' sf sr f r)) := fun W' hb => by
    rw [hsf, hsr]
    exact zdiv_h (hz.up hb) (za_of (b := false) (hq.up hb)) (by rw [zi_false]; omega) (Nat.le_trans (dl_le bp) (by omega)) (by rw [zi_false]; exact hf) (by rw [zi_false]; exact hr)
  have CS : Hid (∀ W' B e, ZA W' sr B (dl r.natAbs) e r → Calls Tryz.prog 88 #[.agg #[.bool sr, .slice B (dl r.natAbs) e]] W' (IntPost W' 1)) := fun W' B e h1 => sign_h h1 (Int.sign_eq_one_of_pos (by omega))
  have CR : Hid (∀ W' B e B' e', Bel W W' → ZA W' sf B (dl f.natAbs) e f → Nm W' B' (dl r.natAbs) e' r.natAbs → Calls Tryz.prog 157 #[.agg #[.bool sf, .slice B (dl f.natAbs) e], .agg #[.slice B' (dl r.natAbs) e'], .agg #[.slice A' n' c'], .int .i64 m] W' (RetB W' false)) := fun W' B e B' e' hb h1 h2 => by
    have h3 := rises_h h1 h2 (hq.up hb.hid) (by omega) hm dr
    rwa [Bool.eq_false_iff.2 h2'] at h3
  have HT : t = f := by rw [← ht, if_neg h1', if_neg h2']
  have HT2 := hide HT
  clear HT
  have HS := hide hst
  have HSF := hide hsf
  clear hz hq hm bp bq hK h0 hf hr ht bf br hr0 df dr hsf hsr hst h1' h2'
  have HB := Bel.refl W
  go_enter Tryz.func120, Tryz.ntmps120
  go_wp2_with (first | (go_at_call 99; (with_reducible refine (CD.out _ (((HB.al _).al _).al _)).mono ?_); rintro e w1 ⟨Bf, ef, Br, er, rfl, zf, zr, hbk⟩; (with_reducible (have H1 : At w1 (W.heap.size + 1) [.slice A' n' c'] := At.up ((at_new1 _ _ _ _).al _) hbk; have HR : At w1 (W.heap.size + 1 + 1) [.bool false, .slice none 0 0] := At.up (at_new2 _ _ _ _ _) hbk; replace HB := (((HB.al _).al _).al _).up hbk)); have hr_0 := HR.c0; have hr_1 := HR.c1; have hr_l := HR.lt; have h1_0 := H1.c0; have h1_l := H1.lt; have HRL := HR.lt) | (go_at_call 88; (with_reducible refine (CS.out _ _ _ ((zr.al _).al _)).mono ?_); rintro e w2 ⟨rfl, hbk⟩; (with_reducible (have HF : At w2 w1.heap.size [.bool sf, .slice Bf (dl f.natAbs) ef] := At.up ((at_new0 _ _ _).al _) hbk; have HT : At w2 (w1.heap.size + 1) [.bool sr, .slice Br (dl r.natAbs) er] := At.up (at_new1 _ _ _ _) hbk; replace HB := ((HB.al _).al _).up hbk; replace HR := ((HR.al _).al _).up hbk; replace H1 := ((H1.al _).al _).up hbk; replace zf := ((zf.al _).al _).up hbk; replace zr := ((zr.al _).al _).up hbk)); clear hr_0 hr_1 hr_l h1_0 h1_l; have hf_0 := HF.c0; have hf_1 := HF.c1; have hf_l := HF.lt; have ht_0 := HT.c0; have ht_1 := HT.c1; have ht_l := HT.lt; have hr_0 := HR.c0; have hr_1 := HR.c1; have hr_l := HR.lt; have hr_f0 := HR.f0; have hr_f1 := HR.f1; have h1_0 := H1.c0; have h1_l := H1.lt; have zn := zr.1) | (go_at_call 157; (with_reducible refine (CR.out _ _ _ _ _ HB zf zn).mono ?_); rintro e w3 ⟨rfl, hbk⟩; replace hbk := Bel.hid hbk; (with_reducible (replace HB := HB.up hbk; replace HR := HR.up hbk; replace HF := HF.up hbk; replace HT := HT.up hbk; replace H1 := H1.up hbk; replace zf := zf.up hbk)); clear hf_0 hf_1 hf_l ht_0 ht_1 ht_l hr_0 hr_1 hr_l hr_f0 hr_f1 h1_0 h1_l; have hf_0 := HF.c0; have hf_1 := HF.c1; have hf_l := HF.lt; have hr_0 := HR.c0; have hr_1 := HR.c1; have hr_l := HR.lt; have hr_f0 := HR.f0; have hr_f1 := HR.f1) | fail)
  rw [HT2.out]
  refine bodyPost_ret (v := .agg #[.bool sf, .slice Bf (dl f.natAbs) ef]) (by simp [results, Tryz.results120, go_sem, hr_0, hr_1]) rfl ?_
  rw [HSF.out] at zf ⊢
  exact ret_z HB (by omega) HR now2 zf
theorem whole_r (hz : ZA W b A n c p) (hq : Nm W A' n' c' q) (hm : 1 ≤ m ∧ m ≤ 7) (bp : p.natAbs < W32 ^ K) (bq : q < W32 ^ K) (hK : K ≤ 20000) : Calls Tryz.prog 120 #[.agg #[.bool b, .slice A n c], .agg #[.slice A' n' c'], .int .i64 m] W (ZR W (rdZ m p q)) := by
  by_cases h0 : q = 0
  · exact whole_0 hz hq hm bp bq hK h0
  · by_cases h1 : p % (q : Int) = 0
    · exact whole_i hz hq hm bp bq hK h0 h1
    · by_cases h2 : rdUp m (p / (q : Int)) (p % (q : Int)).natAbs q = true
      · exact whole_u hz hq hm bp bq hK h0 h1 h2
      · exact whole_d hz hq hm bp bq hK h0 h1 h2
end
end Go.Proofs.YtfcamfkimnlfgaaGreatDoor
end
