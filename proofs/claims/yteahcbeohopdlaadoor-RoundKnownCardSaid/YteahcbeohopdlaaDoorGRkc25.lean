/- Several texts in one, each with its own sentence and conditions. -/
import Derived.Test.YteahcbeohopdlaaDoorGRkc24
import Derived.Deep.RegionHeld3
import Derived.Test.YteahcbeohopdlaaDoorGRkc12
import Derived.Test.YteahcbeohopdlaaDoorQd2
section
/- Package dec: isZero, power, Good, counted. Conditions: at most 100000 words. -/
open Go.RowKit
set_option maxRecDepth 100000
namespace Go.Proofs.YteahcbeohopdlaaDoor
theorem nowD {b : Bool} {A : Option Addr} {n c : Nat} {s : Int} : NoW [.bool b, .slice A n c, .int .i64 s] := by
  intro u hu x
  simp at hu
  rcases hu with rfl | rfl | rfl <;> (intro e; cases e)
theorem Nm.putD {W : World} {p : Nat} {v0 v1 v2 : Value} {A : Option Addr} {n c m : Nat} (h : Nm W A n c m) (hp : At W p [v0, v1, v2]) (hw : NoW [v0, v1, v2]) {b : Bool} {B : Option Addr} {k d : Nat} {s : Int} :
    Nm (((W.setCell ⟨p, 0, none⟩ (.bool b)).setCell ⟨p, 1, none⟩ (.slice B k d)).setCell ⟨p, 2, none⟩ (.int .i64 s)) A n c m := by
  have h1 := hp.put (i := 0) (by simp) (.bool b)
  have h2 := h1.put (i := 1) (by simp) (.slice B k d)
  have w1 : NoW [.bool b, v1, v2] := by
    intro u hu x; simp at hu
    rcases hu with rfl | rfl | rfl
    · intro e; cases e
    · exact hw _ (by simp) x
    · exact hw _ (by simp) x
  have w2 : NoW [.bool b, .slice B k d, v2] := by
    intro u hu x; simp at hu
    rcases hu with rfl | rfl | rfl
    · intro e; cases e
    · intro e; cases e
    · exact hw _ (by simp) x
  exact ((h.put hp (by simp) hw _).put h1 (by simp) w1 _).put h2 (by simp) w2 _
theorem At.put1 {W : World} {p : Nat} {v : Value} (h : At W p [v]) (u : Value) : At (W.setCell ⟨p, 0, none⟩ u) p [u] := h.put (i := 0) (by simp) u
theorem Bel.put {w W : World} (h : Bel w W) {p i : Nat} (hp : w.heap.size ≤ p) (u : Value) : Bel w (W.setCell ⟨p, i, none⟩ u) := Below.setCell h hp u
theorem Nm.putx {W : World} {A : Option Addr} {n c m : Nat} {p : Addr} (h : Nm W A n c m) (hv : ∃ v, W.cell? p = some v ∧ ∀ x : Nat, v ≠ U32 x) (u : Value) : Nm (W.setCell p u) A n c m := by
  obtain ⟨v, h1, h2⟩ := hv
  exact h.setn h1 h2 u
theorem not_u32 {A : Option Addr} {n c : Nat} : ∀ x : Nat, Value.slice A n c ≠ U32 x := fun x h => by cases h
/-- The world at a walk's end, by a name. -/
theorem name_end {P : Program} {f : Func} {R : Ending → World → Prop} {x : Exit} {a : Act} {X : World} (h : ∀ W', W' = X → bodyPost P f R x a W') : bodyPost P f R x a X := h X rfl
/-- What a call leaves that returns a number by its own box. -/
theorem ret_n {W w2 : World} {B : Option Addr} {d p v : Nat} {v0 : Value} (hW : Bel W w2) (hp : W.heap.size ≤ p) (hR : At w2 p [v0]) (hw : NoW [v0]) (hn : Nm w2 B (dl v) d v) :
    NumR W v (.returned (.agg #[.slice B (dl v) d])) (w2.setCell ⟨p, 0, none⟩ (.slice B (dl v) d)) :=
  ⟨B, d, rfl, hn.put (i := 0) hR (by simp) hw _, Below.setCell hW hp _⟩
section
variable {W w : World} {b b' : Bool} {A A' : Option Addr} {n n' c c' m m' : Nat} {s s' : Int}
theorem dzero_h (h : Nm W A n c m) : Calls Tryd.prog 124 #[.agg #[.slice A n c]] W (RetB W (decide (m = 0))) := by
  obtain ⟨u, hu⟩ : ∃ u, u = cmpI m 0 := ⟨_, rfl⟩
  have CC : Hid (∀ o, Calls Tryd.prog 76 #[.agg #[.slice A n c], .agg #[.slice none 0 0]] (W.alloc o) (IntPost (W.alloc o) u)) := fun o => by rw [hu]; exact cmp_u (h.al o) (nm_nil _ none 0)
  have HU : Hid ((u == 0) = decide (m = 0)) := by rw [hu]; exact cmpI_beq m 0
  clear h hu
  go_enter Tryd.func124, Tryd.ntmps124
  go_wp2_with (go_at_call 76; (with_reducible refine (CC.out _).mono ?_); rintro e w1 ⟨rfl, hbk⟩)
  go_ret
  exact ⟨bool_ret (by first | exact HU.out | (have := HU.out; simpa using this)), (bx1 hbk).2.2⟩
theorem ten_le {k : Nat} (hk : k ≤ 60) : dl (10 ^ k) ≤ 60 := dl_le (k := 60) (Nat.lt_of_le_of_lt (Nat.pow_le_pow_right (by decide) hk) (Nat.pow_lt_pow_left (by decide) (by decide)))
theorem power_h {k : Nat} (hk : k ≤ 60) : Calls Tryd.prog 142 #[.int .i64 (k : Int)] W (NumR W (10 ^ k)) := by
  obtain ⟨u, hu⟩ : ∃ u, u = 10 ^ k := ⟨_, rfl⟩
  have CO : Hid (∀ W', Calls Tryd.prog 40 #[.int .u64 10] W' (NumR W' 10)) := fun W' => of_h (v := 10) (by omega)
  have CP : Hid (∀ W' B e, Nm W' B (dl 10) e 10 → Calls Tryd.prog 126 #[.agg #[.slice B (dl 10) e], .int .i64 (k : Int)] W' (NumR W' u)) := fun W' B e h => pow_h h (by omega) (fun i hi => Nat.le_trans (ten_le (k := i) (by omega)) (by decide)) hu.symm
  have HU := hide hu
  clear hu
  have HB := Bel.refl W
  clear hk
  go_enter Tryd.func142, Tryd.ntmps142
  go_wp2_with (first | (go_at_call 40; (with_reducible refine (CO.out _).mono ?_); rintro e w1 ⟨B, e1, rfl, nb, hbk⟩; have HR := At.up (at_new0 _ _ _) hbk; replace HB := (HB.al _).up hbk) | (go_at_call 126; (with_reducible refine (CP.out _ _ _ nb).mono ?_); rintro e w2 ⟨B2, e2, rfl, nb2, hbk⟩; replace HB := HB.up hbk; replace HR := HR.up hbk; have hr_0 := HR.c0; have hr_l := HR.lt; have hr_f0 := HR.f0) | fail)
  refine bodyPost_ret (v := .agg #[.slice B2 (dl u) e2]) (by simp [results, Tryd.results142, go_sem, hr_0]) rfl ?_
  rw [HU.out]
  exact ret_n HB (Nat.le_refl _) HR now1 (by rw [← HU.out]; exact nb2)
set_option maxHeartbeats 1000000 in
theorem dgood_1 (h1 : ∀ W', Bel W W' → Calls Tryd.prog 33 #[.agg #[.slice A n c]] W' (RetB W' false)) : Calls Tryd.prog 88 #[.agg #[.bool b, .slice A n c, .int .i64 s]] W (RetB W false) := by
  have C1 := hide h1
  clear h1
  have HB := Bel.refl W
  go_enter Tryd.func88, Tryd.ntmps88
  go_wp2_with (first | (go_at_call 33; (with_reducible refine (C1.out _ (HB.al _)).mono ?_); rintro e w1 ⟨rfl, hbk⟩; have HA := At.up (at_new0 _ _ _) hbk; replace HB := (HB.al _).up hbk; have ha_0 := HA.c0; have ha_1 := HA.c1; have ha_2 := HA.c2; have ha_l := HA.lt) | fail)
  go_ret
  exact ⟨rfl, HB⟩
set_option maxHeartbeats 1000000 in
theorem dgood_2 (h1 : ∀ W', Bel W W' → Calls Tryd.prog 33 #[.agg #[.slice A n c]] W' (RetB W' true)) (hs : ¬ 0 ≤ s) : Calls Tryd.prog 88 #[.agg #[.bool b, .slice A n c, .int .i64 s]] W (RetB W false) := by
  have C1 := hide h1
  clear h1
  have HB := Bel.refl W
  go_enter Tryd.func88, Tryd.ntmps88
  go_wp2_with (first | (go_at_call 33; (with_reducible refine (C1.out _ (HB.al _)).mono ?_); rintro e w1 ⟨rfl, hbk⟩; have HA := At.up (at_new0 _ _ _) hbk; replace HB := (HB.al _).up hbk; have ha_0 := HA.c0; have ha_1 := HA.c1; have ha_2 := HA.c2; have ha_l := HA.lt) | fail)
  go_ret
  exact ⟨rfl, HB⟩
set_option maxHeartbeats 1000000 in
theorem dgood_3 (h1 : ∀ W', Bel W W' → Calls Tryd.prog 33 #[.agg #[.slice A n c]] W' (RetB W' true)) (hs : 0 ≤ s) (hs2 : ¬ s ≤ 60) : Calls Tryd.prog 88 #[.agg #[.bool b, .slice A n c, .int .i64 s]] W (RetB W false) := by
  have C1 := hide h1
  clear h1
  have HB := Bel.refl W
  go_enter Tryd.func88, Tryd.ntmps88
  go_wp2_with (first | (go_at_call 33; (with_reducible refine (C1.out _ (HB.al _)).mono ?_); rintro e w1 ⟨rfl, hbk⟩; have HA := At.up (at_new0 _ _ _) hbk; replace HB := (HB.al _).up hbk; have ha_0 := HA.c0; have ha_1 := HA.c1; have ha_2 := HA.c2; have ha_l := HA.lt) | fail)
  go_ret
  exact ⟨rfl, HB⟩
set_option maxHeartbeats 1000000 in
theorem dgood_4 (h1 : ∀ W', Bel W W' → Calls Tryd.prog 33 #[.agg #[.slice A n c]] W' (RetB W' true)) (hs : 0 ≤ s) (hs2 : s ≤ 60) : Calls Tryd.prog 88 #[.agg #[.bool false, .slice A n c, .int .i64 s]] W (RetB W true) := by
  have C1 := hide h1
  clear h1
  have HB := Bel.refl W
  go_enter Tryd.func88, Tryd.ntmps88
  go_wp2_with (first | (go_at_call 33; (with_reducible refine (C1.out _ (HB.al _)).mono ?_); rintro e w1 ⟨rfl, hbk⟩; have HA := At.up (at_new0 _ _ _) hbk; replace HB := (HB.al _).up hbk; have ha_0 := HA.c0; have ha_1 := HA.c1; have ha_2 := HA.c2; have ha_l := HA.lt) | fail)
  go_ret
  exact ⟨rfl, HB⟩
set_option maxHeartbeats 1000000 in
theorem dgood_5 (h1 : ∀ W', Bel W W' → Calls Tryd.prog 33 #[.agg #[.slice A n c]] W' (RetB W' true))(h2 : ∀ W', Bel W W' → Calls Tryd.prog 124 #[.agg #[.slice A n c]] W' (RetB W' false)) (hs : 0 ≤ s) (hs2 : s ≤ 60) : Calls Tryd.prog 88 #[.agg #[.bool true, .slice A n c, .int .i64 s]] W (RetB W true) := by
  have C1 := hide h1
  have C2 := hide h2
  clear h2
  clear h1
  have HB := Bel.refl W
  go_enter Tryd.func88, Tryd.ntmps88
  go_wp2_with (first | (go_at_call 33; (with_reducible refine (C1.out _ (HB.al _)).mono ?_); rintro e w1 ⟨rfl, hbk⟩; have HA := At.up (at_new0 _ _ _) hbk; replace HB := (HB.al _).up hbk; have ha_0 := HA.c0; have ha_1 := HA.c1; have ha_2 := HA.c2; have ha_l := HA.lt) | (go_at_call 124; (with_reducible refine (C2.out _ HB).mono ?_); rintro e w2 ⟨rfl, hbk⟩; replace HB := HB.up hbk) | fail)
  go_ret
  exact ⟨rfl, HB⟩
set_option maxHeartbeats 1000000 in
theorem dgood_6 (h1 : ∀ W', Bel W W' → Calls Tryd.prog 33 #[.agg #[.slice A n c]] W' (RetB W' true))(h2 : ∀ W', Bel W W' → Calls Tryd.prog 124 #[.agg #[.slice A n c]] W' (RetB W' true)) (hs : 0 ≤ s) (hs2 : s ≤ 60) : Calls Tryd.prog 88 #[.agg #[.bool true, .slice A n c, .int .i64 s]] W (RetB W false) := by
  have C1 := hide h1
  have C2 := hide h2
  clear h2
  clear h1
  have HB := Bel.refl W
  go_enter Tryd.func88, Tryd.ntmps88
  go_wp2_with (first | (go_at_call 33; (with_reducible refine (C1.out _ (HB.al _)).mono ?_); rintro e w1 ⟨rfl, hbk⟩; have HA := At.up (at_new0 _ _ _) hbk; replace HB := (HB.al _).up hbk; have ha_0 := HA.c0; have ha_1 := HA.c1; have ha_2 := HA.c2; have ha_l := HA.lt) | (go_at_call 124; (with_reducible refine (C2.out _ HB).mono ?_); rintro e w2 ⟨rfl, hbk⟩; replace HB := HB.up hbk) | fail)
  go_ret
  exact ⟨rfl, HB⟩

/-- Whether a numeral is valid: one answer in every later world. -/
theorem dgood_e (h : Nm w A n c m) (s : Int) : ∃ u, (u = true → 0 ≤ s ∧ s ≤ 60 ∧ (b = true → 0 < m)) ∧ ∀ W', Bel w W' → Calls Tryd.prog 88 #[.agg #[.bool b, .slice A n c, .int .i64 s]] W' (RetB W' u) := by
  obtain ⟨g, hg⟩ := ngood_e h
  have e1 : ∀ W', Bel w W' → ∀ W2, Bel W' W2 → Calls Tryd.prog 33 #[.agg #[.slice A n c]] W2 (RetB W2 g) := fun W' hb W2 hb2 => hg W2 (Bel.up hb hb2)
  have e2 : ∀ W', Bel w W' → ∀ W2, Bel W' W2 → Calls Tryd.prog 124 #[.agg #[.slice A n c]] W2 (RetB W2 (decide (m = 0))) := fun W' hb W2 hb2 => dzero_h (h.up (Bel.up hb hb2))
  cases g
  · exact ⟨false, (fun h => by cases h), fun W' hb => dgood_1 (e1 W' hb)⟩
  · by_cases h0 : 0 ≤ s
    · by_cases h6 : s ≤ 60
      · cases b
        · exact ⟨true, fun _ => ⟨h0, h6, fun h => by cases h⟩, fun W' hb => dgood_4 (e1 W' hb) h0 h6⟩
        · by_cases hm : m = 0
          · rw [decide_eq_true hm] at e2
            exact ⟨false, (fun h => by cases h), fun W' hb => dgood_6 (e1 W' hb) (e2 W' hb) h0 h6⟩
          · rw [decide_eq_false hm] at e2
            exact ⟨true, fun _ => ⟨h0, h6, fun _ => by omega⟩, fun W' hb => dgood_5 (e1 W' hb) (e2 W' hb) h0 h6⟩
      · exact ⟨false, (fun h => by cases h), fun W' hb => dgood_3 (e1 W' hb) h0 h6⟩
    · exact ⟨false, (fun h => by cases h), fun W' hb => dgood_2 (e1 W' hb) h0⟩
/-- A valid numeral: m is what its digits make, s how many are behind the point. -/
structure DX (W : World) (b : Bool) (A : Option Addr) (n c : Nat) (m s : Nat) : Prop where
  nm : Nm W A n c m
  sc : s ≤ 60
  ng : b = true → 0 < m
  gd : ∀ W', Bel W W' → Calls Tryd.prog 88 #[.agg #[.bool b, .slice A n c, .int .i64 (s : Int)]] W' (RetB W' true)
theorem DX.bel {W W' : World} {s : Nat} (h : DX W b A n c m s) (hb : Bel W W') : DX W' b A n c m s := ⟨h.nm.up hb.hid, h.sc, h.ng, fun W2 h2 => h.gd W2 (hb.up h2.hid)⟩
theorem DX.up {W W' : World} {s : Nat} (h : DX W b A n c m s) (hb : Hid (Below W.heap.size W W')) : DX W' b A n c m s := h.bel (Bel.of hb)
theorem DX.al {s : Nat} (h : DX W b A n c m s) (o : Obj) : DX (W.alloc o) b A n c m s := h.bel ((Bel.refl W).al o)
theorem DX.dr {s : Nat} (h : DX W b A n c m s) : DX W.drew b A n c m s := h.bel (Bel.refl W).dr
theorem dx_can {s : Nat} (h : Nm W A (dl m) c m) (hs : s ≤ 60) (hn : b = true → 0 < m) : DX W b A (dl m) c m s := by
  refine ⟨h, hs, hn, fun W' hb => ?_⟩
  cases b
  · exact dgood_4 (fun W2 hb2 => good_h (h.up (Bel.up hb hb2))) (by omega) (by omega)
  · refine dgood_5 (fun W2 hb2 => good_h (h.up (Bel.up hb hb2))) (fun W2 hb2 => ?_) (by omega) (by omega)
    have h1 := dzero_h (h.up (Bel.up hb hb2))
    rwa [decide_eq_false (by have := hn rfl; omega)] at h1
theorem dx_zero (W : World) : DX W false none 0 0 0 0 := by
  refine ⟨nm_nil _ _ _, by decide, (fun h => by cases h), fun W' hb => ?_⟩
  exact dgood_4 (fun W2 hb2 => good_nil.mono fun _ _ h => h) (by omega) (by omega)
/-- What counted returns. -/
def CnR (W : World) (b : Bool) (A : Option Addr) (n c : Nat) (s : Nat) (e : Ending) (w' : World) : Prop := e = .returned (.agg #[.bool b, .slice A n c, .int .i64 (s : Int)]) ∧ Hid (Below W.heap.size W w')
set_option maxHeartbeats 1000000 in
theorem counted_no (h : ∀ W', Bel W W' → Calls Tryd.prog 88 #[.agg #[.bool b, .slice A n c, .int .i64 s]] W' (RetB W' false)) : Calls Tryd.prog 119 #[.agg #[.bool b, .slice A n c, .int .i64 s]] W (fun e w' => e = .returned (.agg #[.bool false, .slice none 0 0, .int .i64 0]) ∧ Bel W w') := by
  have CG := hide h
  clear h
  have HB := Bel.refl W
  go_enter Tryd.func119, Tryd.ntmps119
  go_wp2_with (first | (go_at_call 88; (with_reducible refine (CG.out _ ((HB.al _).al _)).mono ?_); rintro e w1 ⟨rfl, hbk⟩; have HA := At.up ((at_new0 _ _ _).al _) hbk; have HR := At.up (at_new1 _ _ _ _) hbk; replace HB := ((HB.al _).al _).up hbk; have ha_0 := HA.c0; have ha_1 := HA.c1; have ha_2 := HA.c2; have ha_l := HA.lt; have hr_0 := HR.c0; have hr_1 := HR.c1; have hr_2 := HR.c2; have hr_l := HR.lt; have hr_f0 := HR.f0; have hr_f1 := HR.f1; have hr_f2 := HR.f2) | fail)
  refine bodyPost_ret (v := .agg #[.bool false, .slice none 0 0, .int .i64 0]) (by simp [results, Tryd.results119, go_sem, hr_0, hr_1, hr_2]) rfl ?_
  exact ⟨rfl, below3 HB (by omega) _ _ _⟩
set_option maxHeartbeats 1000000 in
theorem counted_yes (h : ∀ W', Bel W W' → Calls Tryd.prog 88 #[.agg #[.bool b, .slice A n c, .int .i64 s]] W' (RetB W' true)) : Calls Tryd.prog 119 #[.agg #[.bool b, .slice A n c, .int .i64 s]] W (fun e w' => e = .returned (.agg #[.bool b, .slice A n c, .int .i64 s]) ∧ Bel W w') := by
  have CG := hide h
  clear h
  have HB := Bel.refl W
  go_enter Tryd.func119, Tryd.ntmps119
  go_wp2_with (first | (go_at_call 88; (with_reducible refine (CG.out _ ((HB.al _).al _)).mono ?_); rintro e w1 ⟨rfl, hbk⟩; have HA := At.up ((at_new0 _ _ _).al _) hbk; have HR := At.up (at_new1 _ _ _ _) hbk; replace HB := ((HB.al _).al _).up hbk; have ha_0 := HA.c0; have ha_1 := HA.c1; have ha_2 := HA.c2; have ha_l := HA.lt; have hr_0 := HR.c0; have hr_1 := HR.c1; have hr_2 := HR.c2; have hr_l := HR.lt; have hr_f0 := HR.f0; have hr_f1 := HR.f1; have hr_f2 := HR.f2) | fail)
  refine bodyPost_ret (v := .agg #[.bool b, .slice A n c, .int .i64 s]) (by simp [results, Tryd.results119, go_sem, hr_0, hr_1, hr_2]) rfl ?_
  exact ⟨rfl, below3 HB (by omega) _ _ _⟩

theorem dx_counted {s : Nat} (h : DX W b A n c m s) : Calls Tryd.prog 119 #[.agg #[.bool b, .slice A n c, .int .i64 (s : Int)]] W (CnR W b A n c s) := (counted_yes h.gd).mono fun _ _ h => h
/-- Any numeral as an argument: what it counts as. -/
def DY (W : World) (x : Value) (b : Bool) (A : Option Addr) (n c : Nat) (m s : Nat) : Prop := DX W b A n c m s ∧ Hid (∀ W', Bel W W' → Calls Tryd.prog 119 #[x] W' (CnR W' b A n c s))
theorem DX.y {s : Nat} (h : DX W b A n c m s) : DY W (.agg #[.bool b, .slice A n c, .int .i64 (s : Int)]) b A n c m s := ⟨h, fun W' hb => dx_counted (h.bel hb)⟩
theorem DY.bel {x : Value} {s : Nat} {W' : World} (h : DY W x b A n c m s) (hb : Bel W W') : DY W' x b A n c m s := ⟨h.1.bel hb, fun W2 h2 => h.2.out W2 (hb.up h2.hid)⟩
theorem dy_no {s : Int} (h : ∀ W', Bel W W' → Calls Tryd.prog 88 #[.agg #[.bool b, .slice A n c, .int .i64 s]] W' (RetB W' false)) : DY W (.agg #[.bool b, .slice A n c, .int .i64 s]) false none 0 0 0 0 :=
  ⟨dx_zero W, fun W' hb => (counted_no (fun W2 h2 => h W2 (hb.up h2.hid))).mono fun _ _ h => h⟩
end
end Go.Proofs.YteahcbeohopdlaaDoor
end

section
/- Package dec: Rat. Conditions: numbers of at most 99999 words. -/
open Go.RowKit
set_option maxRecDepth 100000
namespace Go.Proofs.YteahcbeohopdlaaDoor
theorem At.sput3 {W : World} {p : Nat} {v0 v1 v2 : Value} (h : At W p [v0, v1, v2]) (x y z : Value) : At (((W.setCell ⟨p, 0, none⟩ x).setCell ⟨p, 1, none⟩ y).setCell ⟨p, 2, none⟩ z) p [x, y, z] := h.put3 x y z
/-- As QR, the sign by a name of its own. -/
def QRw (W : World) (sg : Bool) (r : Rat) (e : Ending) (w' : World) : Prop := ∃ A c A' c', e = .returned (.agg #[.bool sg, .slice A (dl r.num.natAbs) c, .slice A' (dl r.den) c']) ∧ ZA w' sg A (dl r.num.natAbs) c r.num ∧ Nm w' A' (dl r.den) c' r.den ∧ Hid (Below W.heap.size W w')
def OfYw (W : World) (sg : Bool) (r : Rat) (e : Ending) (w' : World) : Prop := ∃ A c A' c', e = .returned (.tuple #[.agg #[.bool sg, .slice A (dl r.num.natAbs) c, .slice A' (dl r.den) c'], .bool true]) ∧ ZA w' sg A (dl r.num.natAbs) c r.num ∧ Nm w' A' (dl r.den) c' r.den ∧ Hid (Below W.heap.size W w')
theorem noQ : ∀ x : Nat, Value.bool false ≠ U32 x := fun x h => by cases h
theorem Nm.putq {W : World} {p : Nat} {A : Option Addr} {n c m : Nat} (h : Nm W A n c m) (hp : At W p [.bool false, .slice none 0 0, .slice none 0 0]) (b : Bool) (B : Option Addr) (k d : Nat) (B' : Option Addr) (k' d' : Nat) :
    Nm (((W.setCell ⟨p, 0, none⟩ (.bool b)).setCell ⟨p, 1, none⟩ (.slice B k d)).setCell ⟨p, 2, none⟩ (.slice B' k' d')) A n c m := h.put3 hp now3
theorem Bel.put3 {w W : World} (h : Bel w W) {p : Nat} (hp : w.heap.size ≤ p) (x y z : Value) : Bel w (((W.setCell ⟨p, 0, none⟩ x).setCell ⟨p, 1, none⟩ y).setCell ⟨p, 2, none⟩ z) := below3 h hp x y z
section
variable {W : World} {b b0 : Bool} {A A0 : Option Addr} {n c m s n0 c0 : Nat} {s0 : Int} {r : Rat}
end
end Go.Proofs.YteahcbeohopdlaaDoor
end

section
/- Package round: Mode, isOdd, leans, rises. Conditions: numbers of at most 99998 words. -/
open Go.RowKit
set_option maxRecDepth 100000
namespace Go.Proofs.YteahcbeohopdlaaDoor
theorem call_named {P : Program} {f : FuncId} {args : Array Value} {X : World} {Q : Ending → World → Prop} (h : ∀ W', W' = X → Calls P f args W' Q) : Calls P f args X Q := h X rfl
theorem At.put2 {W : World} {p : Nat} {v0 v1 : Value} (h : At W p [v0, v1]) (x y : Value) : At ((W.setCell ⟨p, 0, none⟩ x).setCell ⟨p, 1, none⟩ y) p [x, y] := (h.put (i := 0) (by simp) x).put (i := 1) (by simp) y
theorem At.far2 {W : World} {p q : Nat} {vs : List Value} (h : At W p vs) (hq : q ≠ p) (x y : Value) : At ((W.setCell ⟨q, 0, none⟩ x).setCell ⟨q, 1, none⟩ y) p vs := (h.far hq x).far hq y
theorem Bel.put2 {w W : World} (h : Bel w W) {p : Nat} (hp : w.heap.size ≤ p) (x y : Value) : Bel w ((W.setCell ⟨p, 0, none⟩ x).setCell ⟨p, 1, none⟩ y) := (h.put hp x).put hp y
theorem Nm.putz {W : World} {p : Nat} {A : Option Addr} {n c m : Nat} (h : Nm W A n c m) (hp : At W p [.bool false, .slice none 0 0]) (b : Bool) (B : Option Addr) (k d : Nat) :
    Nm ((W.setCell ⟨p, 0, none⟩ (.bool b)).setCell ⟨p, 1, none⟩ (.slice B k d)) A n c m :=
  (h.put hp (i := 0) (by simp) now2 _).put (hp.put (i := 0) (by simp) (.bool b)) (i := 1) (by simp) now2 _
/-- As ZR, the sign by a name of its own. -/
def ZRu (W : World) (sg : Bool) (z : Int) (e : Ending) (w' : World) : Prop := ∃ A c, e = .returned (.agg #[.bool sg, .slice A (dl z.natAbs) c]) ∧ ZA w' sg A (dl z.natAbs) c z ∧ Hid (Below W.heap.size W w')
theorem ZA.mv {W W' : World} {b : Bool} {A : Option Addr} {n c : Nat} {z : Int} (h : ZA W b A n c z) (h1 : Nm W' A n c z.natAbs) : ZA W' b A n c z := ⟨h1, h.2⟩
def ZDivS (W : World) (sq sr : Bool) (q r : Int) (e : Ending) (w' : World) : Prop :=
  ∃ A c A' c', e = .returned (.tuple #[.agg #[.bool sq, .slice A (dl q.natAbs) c], .agg #[.bool sr, .slice A' (dl r.natAbs) c'], .bool true]) ∧ ZA w' sq A (dl q.natAbs) c q ∧ ZA w' sr A' (dl r.natAbs) c' r ∧ Hid (Below W.heap.size W w')
section
variable {W : World} {b b' : Bool} {A A' : Option Addr} {n n' c c' m m' q r : Nat} {z f : Int}
theorem mode_h {m : Int} : Calls Tryd.prog 83 #[.int .i64 m] W (RetB W (decide (1 ≤ m ∧ m ≤ 7))) := by
  have HB := Bel.refl W
  by_cases h1 : 1 ≤ m
  · by_cases h2 : m ≤ 7
    · rw [decide_eq_true (show 1 ≤ m ∧ m ≤ 7 from ⟨h1, h2⟩)]
      go_enter Tryd.func83, Tryd.ntmps83
      go_wp2
      go_ret
      exact ⟨rfl, HB⟩
    · rw [decide_eq_false (show ¬ (1 ≤ m ∧ m ≤ 7) from fun h => h2 h.2)]
      go_enter Tryd.func83, Tryd.ntmps83
      go_wp2
      go_ret
      exact ⟨rfl, HB⟩
  · rw [decide_eq_false (show ¬ (1 ≤ m ∧ m ≤ 7) from fun h => h1 h.1)]
    go_enter Tryd.func83, Tryd.ntmps83
    go_wp2
    go_ret
    exact ⟨rfl, HB⟩
set_option maxHeartbeats 8000000 in
theorem odd_h (h : ZA W b A n c z) (hd : dl z.natAbs ≤ 99999) : Calls Tryd.prog 157 #[.agg #[.bool b, .slice A n c]] W (RetB W (decide (z % 2 ≠ 0))) := by
  obtain ⟨k, hk⟩ : ∃ k, z / 2 = k := ⟨_, rfl⟩
  obtain ⟨v, hv⟩ : ∃ v, z % 2 = v := ⟨_, rfl⟩
  obtain ⟨u, hu⟩ : ∃ u, v.sign = u := ⟨_, rfl⟩
  obtain ⟨t, ht⟩ : ∃ t : Int, t = 2 := ⟨_, rfl⟩
  obtain ⟨bk, hbk'⟩ : ∃ x, x = decide (k < 0) := ⟨_, rfl⟩
  obtain ⟨bv, hbv⟩ : ∃ x, x = decide (v < 0) := ⟨_, rfl⟩
  obtain ⟨bt, hbt⟩ : ∃ x, x = decide (t < 0) := ⟨_, rfl⟩
  have CO : Hid (∀ W', Calls Tryd.prog 30 #[.int .i64 2] W' (ZRu W' bt t)) := fun W' => by rw [hbt, ht]; exact zof_h (by decide) (by decide)
  have CD : Hid (∀ W' B e, Bel W W' → ZA W' bt B (dl t.natAbs) e t → Calls Tryd.prog 13 #[.agg #[.bool b, .slice A n c], .agg #[.bool bt, .slice B (dl t.natAbs) e]] W' (ZDivS W' bk bv k v)) := fun W' B e hb h1 => by
    rw [hbk', hbv]
    exact zdiv_h (h.up hb) h1 (by rw [ht]; decide) hd (by rw [ht]; exact hk) (by rw [ht]; exact hv)
  have CS : Hid (∀ W' B e, ZA W' bv B (dl v.natAbs) e v → Calls Tryd.prog 19 #[.agg #[.bool bv, .slice B (dl v.natAbs) e]] W' (IntPost W' u)) := fun W' B e h1 => sign_h h1 hu
  have HU : Hid ((u != 0) = decide (v ≠ 0)) := by
    unfold Hid
    rw [← hu]
    rcases Int.lt_trichotomy v 0 with h0 | h0 | h0
    · rw [Int.sign_eq_neg_one_of_neg h0, decide_eq_true (by omega)]; rfl
    · rw [h0]; rfl
    · rw [Int.sign_eq_one_of_pos h0, decide_eq_true (by omega)]; rfl
  rw [hv]
  clear h hd hk hv hu ht hbk' hbv hbt
  have HB := Bel.refl W
  go_enter Tryd.func157, Tryd.ntmps157
  go_wp2_with fail
  obtain ⟨W1, hW1⟩ : ∃ X, X = W.alloc (.cells #[.bool b, .slice A n c] 26) := ⟨_, rfl⟩
  rw [← hW1]
  have HA : At W1 W.heap.size [.bool b, .slice A n c] := by rw [hW1]; exact at_new0 _ _ _
  replace HB : Bel W W1 := by rw [hW1]; exact HB.al _
  clear hW1
  have la := HA.lt
  go_region_held3 (fun w' => w'.cell? ⟨W.heap.size, 0, none⟩ = some (.bool b) ∧ w'.cell? ⟨W.heap.size, 1, none⟩ = some (.slice A n c))
    (refine ⟨(?_ : At _ W.heap.size [.bool b, .slice A n c]).c0, (?_ : At _ W.heap.size [.bool b, .slice A n c]).c1⟩ <;> (repeat (first | with_reducible exact HA | (with_reducible refine At.dr ?_) | (with_reducible refine At.al ?_ _) | (with_reducible refine At.far ?_ (by omega) _))))
    (first | (go_at_call 30; (with_reducible refine (CO.out _).mono ?_); rintro e w2 ⟨B2, e2, rfl, z2, hbk⟩; (with_reducible (replace HB := HB.dr.up hbk; replace HA := HA.dr.up hbk)); have lz0 := HA.lt; (try have lz2 := HP0.lt); (try have lz3 := HP1.lt)) | (go_at_call 30; (with_reducible refine (CO.out _).mono ?_); rintro e w2 ⟨B2, e2, rfl, z2, hbk⟩; (with_reducible (have HP0 := At.up (at_new0 _ [.bool false, .slice none 0 0] _).dr hbk; replace HB := (HB.al _).dr.up hbk; replace HA := (HA.al _).dr.up hbk)); have lz0 := HA.lt; (try have lz2 := HP0.lt); (try have lz3 := HP1.lt)) | (go_at_call 30; (with_reducible refine (CO.out _).mono ?_); rintro e w2 ⟨B2, e2, rfl, z2, hbk⟩; (with_reducible (have HP0 := At.up ((at_new0 _ [.bool false, .slice none 0 0] _).al _).dr hbk; have HP1 := At.up (at_new1 _ _ [.bool false, .slice none 0 0] _).dr hbk; replace HB := ((HB.al _).al _).dr.up hbk; replace HA := ((HA.al _).al _).dr.up hbk)); have lz0 := HA.lt; (try have lz2 := HP0.lt); (try have lz3 := HP1.lt)) | (go_at_call 13; (with_reducible refine (CD.out _ _ _ HB z2).mono ?_); rintro e w3 ⟨Aq, cq, Ar, cr, rfl, zq, zr, hbk⟩; (with_reducible (replace HB := HB.up hbk; replace HA := HA.up hbk)); (try (with_reducible replace HP0 := HP0.up hbk)); (try (with_reducible replace HP1 := HP1.up hbk)); (try have hp0_0 := HP0.c0); (try have hp0_1 := HP0.c1); (try have fhp0_0 := HP0.f0); (try have fhp0_1 := HP0.f1); (try have lhp0 := HP0.lt); (try have hp1_0 := HP1.c0); (try have hp1_1 := HP1.c1); (try have fhp1_0 := HP1.f0); (try have fhp1_1 := HP1.f1); (try have lhp1 := HP1.lt); (try have hq0_0 := HQ0.c0); (try have hq0_1 := HQ0.c1); (try have fhq0_0 := HQ0.f0); (try have fhq0_1 := HQ0.f1); (try have lhq0 := HQ0.lt); (try have hq1_0 := HQ1.c0); (try have hq1_1 := HQ1.c1); (try have fhq1_0 := HQ1.f0); (try have fhq1_1 := HQ1.f1); (try have lhq1 := HQ1.lt); have lz1 := HA.lt) | (go_at_call 13; (with_reducible refine (CD.out _ _ _ (HB.al _) (z2.al _)).mono ?_); rintro e w3 ⟨Aq, cq, Ar, cr, rfl, zq, zr, hbk⟩; (with_reducible (have HQ0 := At.up (at_new0 _ [.bool false, .slice none 0 0] _) hbk; replace HB := (HB.al _).up hbk; replace HA := (HA.al _).up hbk)); (try (with_reducible replace HP0 := (HP0.al _).up hbk)); (try (with_reducible replace HP1 := (HP1.al _).up hbk)); (try have hp0_0 := HP0.c0); (try have hp0_1 := HP0.c1); (try have fhp0_0 := HP0.f0); (try have fhp0_1 := HP0.f1); (try have lhp0 := HP0.lt); (try have hp1_0 := HP1.c0); (try have hp1_1 := HP1.c1); (try have fhp1_0 := HP1.f0); (try have fhp1_1 := HP1.f1); (try have lhp1 := HP1.lt); (try have hq0_0 := HQ0.c0); (try have hq0_1 := HQ0.c1); (try have fhq0_0 := HQ0.f0); (try have fhq0_1 := HQ0.f1); (try have lhq0 := HQ0.lt); (try have hq1_0 := HQ1.c0); (try have hq1_1 := HQ1.c1); (try have fhq1_0 := HQ1.f0); (try have fhq1_1 := HQ1.f1); (try have lhq1 := HQ1.lt); have lz1 := HA.lt) | (go_at_call 13; (with_reducible refine (CD.out _ _ _ ((HB.al _).al _) ((z2.al _).al _)).mono ?_); rintro e w3 ⟨Aq, cq, Ar, cr, rfl, zq, zr, hbk⟩; (with_reducible (have HQ0 := At.up ((at_new0 _ [.bool false, .slice none 0 0] _).al _) hbk; have HQ1 := At.up (at_new1 _ _ [.bool false, .slice none 0 0] _) hbk; replace HB := ((HB.al _).al _).up hbk; replace HA := ((HA.al _).al _).up hbk)); (try (with_reducible replace HP0 := ((HP0.al _).al _).up hbk)); (try (with_reducible replace HP1 := ((HP1.al _).al _).up hbk)); (try have hp0_0 := HP0.c0); (try have hp0_1 := HP0.c1); (try have fhp0_0 := HP0.f0); (try have fhp0_1 := HP0.f1); (try have lhp0 := HP0.lt); (try have hp1_0 := HP1.c0); (try have hp1_1 := HP1.c1); (try have fhp1_0 := HP1.f0); (try have fhp1_1 := HP1.f1); (try have lhp1 := HP1.lt); (try have hq0_0 := HQ0.c0); (try have hq0_1 := HQ0.c1); (try have fhq0_0 := HQ0.f0); (try have fhq0_1 := HQ0.f1); (try have lhq0 := HQ0.lt); (try have hq1_0 := HQ1.c0); (try have hq1_1 := HQ1.c1); (try have fhq1_0 := HQ1.f0); (try have fhq1_1 := HQ1.f1); (try have lhq1 := HQ1.lt); have lz1 := HA.lt) | fail)
  all_goals
    go_wp2_with (first | (go_at_call 19; refine call_named ?_; intro W4 hW4; have zn := zr.1; have NF : Nm W4 Ar (dl v.natAbs) cr v.natAbs := (by rw [hW4]; (repeat (first | with_reducible exact HB | with_reducible exact HA | with_reducible exact HP0 | with_reducible exact HP1 | with_reducible exact HQ0 | with_reducible exact HQ1 | with_reducible exact zn | (with_reducible refine Bel.dr ?_) | (with_reducible refine Bel.al ?_ _) | (with_reducible refine Bel.put2 ?_ (by omega) _ _) | (with_reducible refine Nm.dr ?_) | (with_reducible refine Nm.al ?_ _) | (with_reducible refine Nm.putz ?_ ?_ _ _ _ _) | (with_reducible refine At.dr ?_) | (with_reducible refine At.al ?_ _) | (with_reducible refine At.far2 ?_ (by omega) _ _)  | (with_reducible refine At.put2 (v0 := .bool false) (v1 := .slice none 0 0) ?_ _ _)))); have BF : Bel W W4 := (by rw [hW4]; (repeat (first | with_reducible exact HB | with_reducible exact HA | with_reducible exact HP0 | with_reducible exact HP1 | with_reducible exact HQ0 | with_reducible exact HQ1 | with_reducible exact zn | (with_reducible refine Bel.dr ?_) | (with_reducible refine Bel.al ?_ _) | (with_reducible refine Bel.put2 ?_ (by omega) _ _) | (with_reducible refine Nm.dr ?_) | (with_reducible refine Nm.al ?_ _) | (with_reducible refine Nm.putz ?_ ?_ _ _ _ _) | (with_reducible refine At.dr ?_) | (with_reducible refine At.al ?_ _) | (with_reducible refine At.far2 ?_ (by omega) _ _)  | (with_reducible refine At.put2 (v0 := .bool false) (v1 := .slice none 0 0) ?_ _ _)))); clear hW4; (with_reducible refine (CS.out _ _ _ (zr.mv NF)).mono ?_); rintro e w5 ⟨rfl, hbk⟩; replace BF := BF.up hbk) | fail)
    go_ret
    exact ⟨bool_ret (by first | exact HU.out | (have := HU.out; simpa using this)), BF⟩
set_option maxHeartbeats 8000000 in
theorem leans_h {m : Int} (h : ZA W b A n c z) (hd : dl z.natAbs ≤ 99999) (hm : 1 ≤ m ∧ m ≤ 7) : Calls Tryd.prog 143 #[.agg #[.bool b, .slice A n c], .int .i64 m] W (RetB W (lnUp m z)) := by
  obtain ⟨u, hu⟩ : ∃ u, z.sign = u := ⟨_, rfl⟩
  obtain ⟨x, hx⟩ : ∃ x, x = decide (z % 2 ≠ 0) := ⟨_, rfl⟩
  have HU : Hid (decide (u < 0) = decide (z < 0)) := by
    unfold Hid
    rw [← hu]
    rcases Int.lt_trichotomy z 0 with h0 | h0 | h0
    · rw [Int.sign_eq_neg_one_of_neg h0, decide_eq_true h0]; rfl
    · rw [h0]; rfl
    · rw [Int.sign_eq_one_of_pos h0, decide_eq_false (show ¬ z < 0 by omega)]; rfl
  have CS : Hid (∀ W', Bel W W' → Calls Tryd.prog 19 #[.agg #[.bool b, .slice A n c]] W' (IntPost W' u)) := fun W' hb => sign_h (h.up hb) hu
  have CO : Hid (∀ W', Bel W W' → Calls Tryd.prog 157 #[.agg #[.bool b, .slice A n c]] W' (RetB W' x)) := fun W' hb => by rw [hx]; exact odd_h (h.up hb) hd
  obtain ⟨s, hs⟩ : ∃ s, s = decide (z < 0) := ⟨_, rfl⟩
  rw [← hs] at HU
  have HM : ∀ y : Bool, lnUp m z = y ↔ (if m = 1 ∨ m = 5 then s else if m = 2 ∨ m = 6 then !s else if m = 7 then x else decide (m = 4)) = y := fun y => by unfold lnUp; rw [hs, hx]
  obtain ⟨y, hy⟩ : ∃ y, lnUp m z = y := ⟨_, rfl⟩
  have HY := hide ((HM y).1 hy)
  rw [hy]
  clear hu hx hs HM hy h hd
  have HB := Bel.refl W
  have hmm : m = 1 ∨ m = 2 ∨ m = 3 ∨ m = 4 ∨ m = 5 ∨ m = 6 ∨ m = 7 := by omega
  clear hm
  rcases hmm with rfl | rfl | rfl | rfl | rfl | rfl | rfl
  all_goals
    have HY2 := HY.out
    simp only [Int.reduceEq, or_true, true_or, or_self, or_false, false_or, if_true, if_false, ↓reduceIte, decide_true, decide_false, Bool.false_eq_true] at HY2
    replace HY2 := hide HY2
    clear HY
    go_enter Tryd.func143, Tryd.ntmps143
    go_wp2_with (first | (go_at_call 19; (with_reducible refine (CS.out _ (HB.al _)).mono ?_); rintro e w1 ⟨rfl, hbk⟩; have HA := At.up (at_new0 _ _ _) hbk; replace HB := (HB.al _).up hbk; have ha_0 := HA.c0; have ha_1 := HA.c1; have ha_l := HA.lt) | (go_at_call 157; (with_reducible refine (CO.out _ HB).mono ?_); rintro e w2 ⟨rfl, hbk⟩; replace hbk := Bel.hid hbk; replace HB := HB.up hbk) | fail)
    go_ret
    exact ⟨bool_ret (by first | exact HY2.out | (rw [← HY2.out]; exact HU.out) | (rw [← HY2.out, ← HU.out]) | (rw [← HY2.out]; rfl) | (rw [← HY2.out, ← HU.out]; rfl)), HB⟩
set_option maxHeartbeats 8000000 in
theorem rises_dir {m : Int} (h : ZA W b A n c f) (hr : Nm W A' n' c' r) {A2 : Option Addr} {n2 c2 : Nat} (hq : Nm W A2 n2 c2 q) (hd : dl f.natAbs ≤ 99999) (hm : 1 ≤ m ∧ m ≤ 7) (h4 : m ≤ 4) : Calls Tryd.prog 125 #[.agg #[.bool b, .slice A n c], .agg #[.slice A' n' c'], .agg #[.slice A2 n2 c2], .int .i64 m] W (RetB W (lnUp m f)) := by
  obtain ⟨x, hx⟩ : ∃ x, x = lnUp m f := ⟨_, rfl⟩
  have CL : Hid (∀ W', Bel W W' → Calls Tryd.prog 143 #[.agg #[.bool b, .slice A n c], .int .i64 m] W' (RetB W' x)) := fun W' hb => by rw [hx]; exact leans_h (h.up hb) hd hm
  have HX := hide hx
  (try rw [← hx])
  have hmm : m = 1 ∨ m = 2 ∨ m = 3 ∨ m = 4 := by omega
  clear h hr hq hd hm h4 hx HX
  have HB := Bel.refl W
  rcases hmm with rfl | rfl | rfl | rfl
  all_goals
    go_enter Tryd.func125, Tryd.ntmps125
    go_wp2_with (first | (go_at_call 143; (with_reducible refine (CL.out _ (((HB.al _).al _).al _)).mono ?_); rintro e w1 ⟨rfl, hbk⟩; replace hbk := Bel.hid hbk; replace HB := (((HB.al _).al _).al _).up hbk) | fail)
    go_ret
    exact ⟨rfl, HB⟩
set_option maxHeartbeats 8000000 in
theorem rises_lo {m : Int} (h : ZA W b A n c f) (hr : Nm W A' n' c' r) {A2 : Option Addr} {n2 c2 : Nat} (hq : Nm W A2 n2 c2 q) (hd : dl f.natAbs ≤ 99999) (hm : 1 ≤ m ∧ m ≤ 7) (h4 : 4 < m) (hc : r + r < q) (hdq : dl (r + r) ≤ 100000) : Calls Tryd.prog 125 #[.agg #[.bool b, .slice A n c], .agg #[.slice A' n' c'], .agg #[.slice A2 n2 c2], .int .i64 m] W (RetB W false) := by
  obtain ⟨x, hx⟩ : ∃ x, x = lnUp m f := ⟨_, rfl⟩
  have CL : Hid (∀ W', Bel W W' → Calls Tryd.prog 143 #[.agg #[.bool b, .slice A n c], .int .i64 m] W' (RetB W' x)) := fun W' hb => by rw [hx]; exact leans_h (h.up hb) hd hm
  have HX := hide hx
  (try rw [← hx])
  obtain ⟨y, hy⟩ : ∃ y, r + r = y := ⟨_, rfl⟩
  rw [hy] at hc hdq
  have CA : Hid (∀ W', Bel W W' → Calls Tryd.prog 65 #[.agg #[.slice A' n' c'], .agg #[.slice A' n' c']] W' (NumR W' y)) := fun W' hb => add_h (hr.up hb) (hr.up hb) hy hdq
  have CC : Hid (∀ W' B e, Bel W W' → Nm W' B (dl y) e y → Calls Tryd.prog 76 #[.agg #[.slice B (dl y) e], .agg #[.slice A2 n2 c2]] W' (IntPost W' (-1))) := fun W' B e hb h1 => cmp_h h1 (hq.up hb) (cmpI_lt hc)
  have m1 : (m == 1) = false := by simp; omega
  have m2 : (m == 2) = false := by simp; omega
  have m3 : (m == 3) = false := by simp; omega
  have m4 : (m == 4) = false := by simp; omega
  clear h hr hq hd hm h4 hc hdq hx hy
  have HB := Bel.refl W
  have H0 := at_new0 W [.bool b, .slice A n c] 26
  have H1 := at_new1 W (.cells #[.bool b, .slice A n c] 26) [.slice A' n' c'] 24
  have H2 := at_new2 W (.cells #[.bool b, .slice A n c] 26) (.cells #[.slice A' n' c'] 24) [.slice A2 n2 c2] 24
  replace H1 := H1.al (.cells #[.slice A2 n2 c2] 24)
  replace H0 := (H0.al (.cells #[.slice A' n' c'] 24)).al (.cells #[.slice A2 n2 c2] 24)
  replace HB := ((HB.al (.cells #[.bool b, .slice A n c] 26)).al (.cells #[.slice A' n' c'] 24)).al (.cells #[.slice A2 n2 c2] 24)
  go_enter Tryd.func125, Tryd.ntmps125
  go_wp2_with fail
  go_region_held3 (fun w' => w'.cell? ⟨W.heap.size + 1, 0, none⟩ = some (.slice A' n' c') ∧ w'.cell? ⟨W.heap.size + 1 + 1, 0, none⟩ = some (.slice A2 n2 c2))
    (refine ⟨(?_ : At _ (W.heap.size + 1) [.slice A' n' c']).c0, (?_ : At _ (W.heap.size + 1 + 1) [.slice A2 n2 c2]).c0⟩ <;> (repeat (first | with_reducible exact H1 | with_reducible exact H2 | (with_reducible refine At.dr ?_) | (with_reducible refine At.al ?_ _) | (with_reducible refine At.far ?_ (by omega) _))))
    (first | (go_at_call 65; (with_reducible refine (CA.out _ HB.dr).mono ?_); rintro e w1 ⟨B1, e1, rfl, n1, hbk⟩; (with_reducible (replace HB := HB.dr.up hbk; replace H0 := H0.dr.up hbk; replace H1 := H1.dr.up hbk; replace H2 := H2.dr.up hbk))) | (go_at_call 76; (with_reducible refine (CC.out _ _ _ HB n1).mono ?_); rintro e w2 ⟨rfl, hbk⟩; (with_reducible (replace HB := HB.up hbk; replace H0 := H0.up hbk; replace H1 := H1.up hbk; replace H2 := H2.up hbk)); have h0_0 := H0.c0; have h0_1 := H0.c1; have h0_l := H0.lt) | fail)
  go_wp2_with (first | (go_at_call 143; (with_reducible refine (CL.out _ HB).mono ?_); rintro e w3 ⟨rfl, hbk⟩; replace hbk := Bel.hid hbk; replace HB := HB.up hbk) | fail)
  go_ret
  exact ⟨rfl, HB⟩
set_option maxHeartbeats 8000000 in
theorem rises_hi {m : Int} (h : ZA W b A n c f) (hr : Nm W A' n' c' r) {A2 : Option Addr} {n2 c2 : Nat} (hq : Nm W A2 n2 c2 q) (hd : dl f.natAbs ≤ 99999) (hm : 1 ≤ m ∧ m ≤ 7) (h4 : 4 < m) (hc : q < r + r) (hdq : dl (r + r) ≤ 100000) : Calls Tryd.prog 125 #[.agg #[.bool b, .slice A n c], .agg #[.slice A' n' c'], .agg #[.slice A2 n2 c2], .int .i64 m] W (RetB W true) := by
  obtain ⟨x, hx⟩ : ∃ x, x = lnUp m f := ⟨_, rfl⟩
  have CL : Hid (∀ W', Bel W W' → Calls Tryd.prog 143 #[.agg #[.bool b, .slice A n c], .int .i64 m] W' (RetB W' x)) := fun W' hb => by rw [hx]; exact leans_h (h.up hb) hd hm
  have HX := hide hx
  (try rw [← hx])
  obtain ⟨y, hy⟩ : ∃ y, r + r = y := ⟨_, rfl⟩
  rw [hy] at hc hdq
  have CA : Hid (∀ W', Bel W W' → Calls Tryd.prog 65 #[.agg #[.slice A' n' c'], .agg #[.slice A' n' c']] W' (NumR W' y)) := fun W' hb => add_h (hr.up hb) (hr.up hb) hy hdq
  have CC : Hid (∀ W' B e, Bel W W' → Nm W' B (dl y) e y → Calls Tryd.prog 76 #[.agg #[.slice B (dl y) e], .agg #[.slice A2 n2 c2]] W' (IntPost W' (1))) := fun W' B e hb h1 => cmp_h h1 (hq.up hb) (cmpI_gt hc)
  have m1 : (m == 1) = false := by simp; omega
  have m2 : (m == 2) = false := by simp; omega
  have m3 : (m == 3) = false := by simp; omega
  have m4 : (m == 4) = false := by simp; omega
  clear h hr hq hd hm h4 hc hdq hx hy
  have HB := Bel.refl W
  have H0 := at_new0 W [.bool b, .slice A n c] 26
  have H1 := at_new1 W (.cells #[.bool b, .slice A n c] 26) [.slice A' n' c'] 24
  have H2 := at_new2 W (.cells #[.bool b, .slice A n c] 26) (.cells #[.slice A' n' c'] 24) [.slice A2 n2 c2] 24
  replace H1 := H1.al (.cells #[.slice A2 n2 c2] 24)
  replace H0 := (H0.al (.cells #[.slice A' n' c'] 24)).al (.cells #[.slice A2 n2 c2] 24)
  replace HB := ((HB.al (.cells #[.bool b, .slice A n c] 26)).al (.cells #[.slice A' n' c'] 24)).al (.cells #[.slice A2 n2 c2] 24)
  go_enter Tryd.func125, Tryd.ntmps125
  go_wp2_with fail
  go_region_held3 (fun w' => w'.cell? ⟨W.heap.size + 1, 0, none⟩ = some (.slice A' n' c') ∧ w'.cell? ⟨W.heap.size + 1 + 1, 0, none⟩ = some (.slice A2 n2 c2))
    (refine ⟨(?_ : At _ (W.heap.size + 1) [.slice A' n' c']).c0, (?_ : At _ (W.heap.size + 1 + 1) [.slice A2 n2 c2]).c0⟩ <;> (repeat (first | with_reducible exact H1 | with_reducible exact H2 | (with_reducible refine At.dr ?_) | (with_reducible refine At.al ?_ _) | (with_reducible refine At.far ?_ (by omega) _))))
    (first | (go_at_call 65; (with_reducible refine (CA.out _ HB.dr).mono ?_); rintro e w1 ⟨B1, e1, rfl, n1, hbk⟩; (with_reducible (replace HB := HB.dr.up hbk; replace H0 := H0.dr.up hbk; replace H1 := H1.dr.up hbk; replace H2 := H2.dr.up hbk))) | (go_at_call 76; (with_reducible refine (CC.out _ _ _ HB n1).mono ?_); rintro e w2 ⟨rfl, hbk⟩; (with_reducible (replace HB := HB.up hbk; replace H0 := H0.up hbk; replace H1 := H1.up hbk; replace H2 := H2.up hbk)); have h0_0 := H0.c0; have h0_1 := H0.c1; have h0_l := H0.lt) | fail)
  go_wp2_with (first | (go_at_call 143; (with_reducible refine (CL.out _ HB).mono ?_); rintro e w3 ⟨rfl, hbk⟩; replace hbk := Bel.hid hbk; replace HB := HB.up hbk) | fail)
  go_ret
  exact ⟨rfl, HB⟩
set_option maxHeartbeats 8000000 in
theorem rises_eq {m : Int} (h : ZA W b A n c f) (hr : Nm W A' n' c' r) {A2 : Option Addr} {n2 c2 : Nat} (hq : Nm W A2 n2 c2 q) (hd : dl f.natAbs ≤ 99999) (hm : 1 ≤ m ∧ m ≤ 7) (h4 : 4 < m) (hc : r + r = q) (hdq : dl (r + r) ≤ 100000) : Calls Tryd.prog 125 #[.agg #[.bool b, .slice A n c], .agg #[.slice A' n' c'], .agg #[.slice A2 n2 c2], .int .i64 m] W (RetB W (lnUp m f)) := by
  obtain ⟨x, hx⟩ : ∃ x, x = lnUp m f := ⟨_, rfl⟩
  have CL : Hid (∀ W', Bel W W' → Calls Tryd.prog 143 #[.agg #[.bool b, .slice A n c], .int .i64 m] W' (RetB W' x)) := fun W' hb => by rw [hx]; exact leans_h (h.up hb) hd hm
  have HX := hide hx
  (try rw [← hx])
  obtain ⟨y, hy⟩ : ∃ y, r + r = y := ⟨_, rfl⟩
  rw [hy] at hc hdq
  have CA : Hid (∀ W', Bel W W' → Calls Tryd.prog 65 #[.agg #[.slice A' n' c'], .agg #[.slice A' n' c']] W' (NumR W' y)) := fun W' hb => add_h (hr.up hb) (hr.up hb) hy hdq
  have CC : Hid (∀ W' B e, Bel W W' → Nm W' B (dl y) e y → Calls Tryd.prog 76 #[.agg #[.slice B (dl y) e], .agg #[.slice A2 n2 c2]] W' (IntPost W' (0))) := fun W' B e hb h1 => cmp_h h1 (hq.up hb) (cmpI_eq hc)
  have m1 : (m == 1) = false := by simp; omega
  have m2 : (m == 2) = false := by simp; omega
  have m3 : (m == 3) = false := by simp; omega
  have m4 : (m == 4) = false := by simp; omega
  clear h hr hq hd hm h4 hc hdq hx hy
  have HB := Bel.refl W
  have H0 := at_new0 W [.bool b, .slice A n c] 26
  have H1 := at_new1 W (.cells #[.bool b, .slice A n c] 26) [.slice A' n' c'] 24
  have H2 := at_new2 W (.cells #[.bool b, .slice A n c] 26) (.cells #[.slice A' n' c'] 24) [.slice A2 n2 c2] 24
  replace H1 := H1.al (.cells #[.slice A2 n2 c2] 24)
  replace H0 := (H0.al (.cells #[.slice A' n' c'] 24)).al (.cells #[.slice A2 n2 c2] 24)
  replace HB := ((HB.al (.cells #[.bool b, .slice A n c] 26)).al (.cells #[.slice A' n' c'] 24)).al (.cells #[.slice A2 n2 c2] 24)
  go_enter Tryd.func125, Tryd.ntmps125
  go_wp2_with fail
  go_region_held3 (fun w' => w'.cell? ⟨W.heap.size + 1, 0, none⟩ = some (.slice A' n' c') ∧ w'.cell? ⟨W.heap.size + 1 + 1, 0, none⟩ = some (.slice A2 n2 c2))
    (refine ⟨(?_ : At _ (W.heap.size + 1) [.slice A' n' c']).c0, (?_ : At _ (W.heap.size + 1 + 1) [.slice A2 n2 c2]).c0⟩ <;> (repeat (first | with_reducible exact H1 | with_reducible exact H2 | (with_reducible refine At.dr ?_) | (with_reducible refine At.al ?_ _) | (with_reducible refine At.far ?_ (by omega) _))))
    (first | (go_at_call 65; (with_reducible refine (CA.out _ HB.dr).mono ?_); rintro e w1 ⟨B1, e1, rfl, n1, hbk⟩; (with_reducible (replace HB := HB.dr.up hbk; replace H0 := H0.dr.up hbk; replace H1 := H1.dr.up hbk; replace H2 := H2.dr.up hbk))) | (go_at_call 76; (with_reducible refine (CC.out _ _ _ HB n1).mono ?_); rintro e w2 ⟨rfl, hbk⟩; (with_reducible (replace HB := HB.up hbk; replace H0 := H0.up hbk; replace H1 := H1.up hbk; replace H2 := H2.up hbk)); have h0_0 := H0.c0; have h0_1 := H0.c1; have h0_l := H0.lt) | fail)
  go_wp2_with (first | (go_at_call 143; (with_reducible refine (CL.out _ HB).mono ?_); rintro e w3 ⟨rfl, hbk⟩; replace hbk := Bel.hid hbk; replace HB := HB.up hbk) | fail)
  go_ret
  exact ⟨rfl, HB⟩
theorem rises_h {m : Int} (h : ZA W b A n c f) (hr : Nm W A' n' c' r) {A2 : Option Addr} {n2 c2 : Nat} (hq : Nm W A2 n2 c2 q) (hd : dl f.natAbs ≤ 99999) (hm : 1 ≤ m ∧ m ≤ 7) (hdq : dl (r + r) ≤ 100000) : Calls Tryd.prog 125 #[.agg #[.bool b, .slice A n c], .agg #[.slice A' n' c'], .agg #[.slice A2 n2 c2], .int .i64 m] W (RetB W (rdUp m f r q)) := by
  unfold rdUp
  by_cases h4 : m ≤ 4
  · rw [if_pos h4]; exact rises_dir h hr hq hd hm h4
  · rw [if_neg h4]
    by_cases h1 : r + r < q
    · rw [if_pos h1]; exact rises_lo h hr hq hd hm (by omega) h1 hdq
    · rw [if_neg h1]
      by_cases h2 : q < r + r
      · rw [if_pos h2]; exact rises_hi h hr hq hd hm (by omega) h2 hdq
      · rw [if_neg h2]; exact rises_eq h hr hq hd hm (by omega) (by omega) hdq
end
end Go.Proofs.YteahcbeohopdlaaDoor
end
