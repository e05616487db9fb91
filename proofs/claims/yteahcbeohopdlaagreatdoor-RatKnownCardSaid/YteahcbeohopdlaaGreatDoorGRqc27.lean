/- Several texts in one, each with its own sentence and conditions. -/
import Derived.Test.YteahcbeohopdlaaGreatDoorGRqc25
import Derived.Test.YteahcbeohopdlaaGreatDoorGRqc26
import Derived.Deep.RegionHeld3
section
/- Package dec: isZero, power, Good, counted. Conditions: at most 100000 words. -/
open Go.RowKit
set_option maxRecDepth 100000
namespace Go.Proofs.YteahcbeohopdlaaGreatDoor
theorem nowD {b : Bool} {A : Option Addr} {n c : Nat} {s : Int} : NoW [.bool b, .slice A n c, .int .i64 s] := by
  intro u hu x
  simp at hu
  rcases hu with rfl | rfl | rfl <;> (intro e; cases e)
theorem Nm.putD {W : World} {p : Nat} {v0 v1 v2 : Value} {A : Option Addr} {n c m : Nat} (h : Nm W A n c m) (hp : At W p [v0, v1, v2]) (hw : NoW [v0, v1, v2]) {b : Bool} {B : Option Addr} {k d : Nat} {s : Int} :
    Nm (((W.setCell ⟨p, 0, none⟩ (.bool b)).setCell ⟨p, 1, none⟩ (.slice B k d)).setCell ⟨p, 2, none⟩ (.int .i64 s)) A n c m := by
  have h1 := hp.put (i := 0) (by simp) (.bool b)
  have h2 := h1.put (i := 1) (by simp) (.slice B k d)
  have w1 : NoW [.bool b, v1, v2] := by
    intro u hu x; simp at hu
    rcases hu with rfl | rfl | rfl
    · intro e; cases e
    · exact hw _ (by simp) x
    · exact hw _ (by simp) x
  have w2 : NoW [.bool b, .slice B k d, v2] := by
    intro u hu x; simp at hu
    rcases hu with rfl | rfl | rfl
    · intro e; cases e
    · intro e; cases e
    · exact hw _ (by simp) x
  exact ((h.put hp (by simp) hw _).put h1 (by simp) w1 _).put h2 (by simp) w2 _
theorem At.put1 {W : World} {p : Nat} {v : Value} (h : At W p [v]) (u : Value) : At (W.setCell ⟨p, 0, none⟩ u) p [u] := h.put (i := 0) (by simp) u
theorem Bel.put {w W : World} (h : Bel w W) {p i : Nat} (hp : w.heap.size ≤ p) (u : Value) : Bel w (W.setCell ⟨p, i, none⟩ u) := Below.setCell h hp u
theorem Nm.putx {W : World} {A : Option Addr} {n c m : Nat} {p : Addr} (h : Nm W A n c m) (hv : ∃ v, W.cell? p = some v ∧ ∀ x : Nat, v ≠ U32 x) (u : Value) : Nm (W.setCell p u) A n c m := by
  obtain ⟨v, h1, h2⟩ := hv
  exact h.setn h1 h2 u
theorem not_u32 {A : Option Addr} {n c : Nat} : ∀ x : Nat, Value.slice A n c ≠ U32 x := fun x h => by cases h
/-- The world at a walk's end, by a name. -/
theorem name_end {P : Program} {f : Func} {R : Ending → World → Prop} {x : Exit} {a : Act} {X : World} (h : ∀ W', W' = X → bodyPost P f R x a W') : bodyPost P f R x a X := h X rfl
/-- What a call leaves that returns a number by its own box. -/
theorem ret_n {W w2 : World} {B : Option Addr} {d p v : Nat} {v0 : Value} (hW : Bel W w2) (hp : W.heap.size ≤ p) (hR : At w2 p [v0]) (hw : NoW [v0]) (hn : Nm w2 B (dl v) d v) :
    NumR W v (.returned (.agg #[.slice B (dl v) d])) (w2.setCell ⟨p, 0, none⟩ (.slice B (dl v) d)) :=
  ⟨B, d, rfl, hn.put (i := 0) hR (by simp) hw _, Below.setCell hW hp _⟩
section
variable {W w : World} {b b' : Bool} {A A' : Option Addr} {n n' c c' m m' : Nat} {s s' : Int}
theorem dzero_h (h : Nm W A n c m) : Calls Tryz.prog 114 #[.agg #[.slice A n c]] W (RetB W (decide (m = 0))) := by
  obtain ⟨u, hu⟩ : ∃ u, u = cmpI m 0 := ⟨_, rfl⟩
  have CC : Hid (∀ o, Calls Tryz.prog 131 #[.agg #[.slice A n c], .agg #[.slice none 0 0]] (W.alloc o) (IntPost (W.alloc o) u)) := fun o => by rw [hu]; exact cmp_u (h.al o) (nm_nil _ none 0)
  have HU : Hid ((u == 0) = decide (m = 0)) := by rw [hu]; exact cmpI_beq m 0
  clear h hu
  go_enter Tryz.func114, Tryz.ntmps114
  go_wp2_with (go_at_call 131; (with_reducible refine (CC.out _).mono ?_); rintro e w1 ⟨rfl, hbk⟩)
  go_ret
  exact ⟨bool_ret (by first | exact HU.out | (have := HU.out; simpa using this)), (bx1 hbk).2.2⟩
theorem ten_le {k : Nat} (hk : k ≤ 60) : dl (10 ^ k) ≤ 60 := dl_le (k := 60) (Nat.lt_of_le_of_lt (Nat.pow_le_pow_right (by decide) hk) (Nat.pow_lt_pow_left (by decide) (by decide)))
theorem power_h {k : Nat} (hk : k ≤ 60) : Calls Tryz.prog 116 #[.int .i64 (k : Int)] W (NumR W (10 ^ k)) := by
  obtain ⟨u, hu⟩ : ∃ u, u = 10 ^ k := ⟨_, rfl⟩
  have CO : Hid (∀ W', Calls Tryz.prog 10 #[.int .u64 10] W' (NumR W' 10)) := fun W' => of_h (v := 10) (by omega)
  have CP : Hid (∀ W' B e, Nm W' B (dl 10) e 10 → Calls Tryz.prog 135 #[.agg #[.slice B (dl 10) e], .int .i64 (k : Int)] W' (NumR W' u)) := fun W' B e h => pow_h h (by omega) (fun i hi => Nat.le_trans (ten_le (k := i) (by omega)) (by decide)) hu.symm
  have HU := hide hu
  clear hu
  have HB := Bel.refl W
  clear hk
  go_enter Tryz.func116, Tryz.ntmps116
  go_wp2_with (first | (go_at_call 10; (with_reducible refine (CO.out _).mono ?_); rintro e w1 ⟨B, e1, rfl, nb, hbk⟩; have HR := At.up (at_new0 _ _ _) hbk; replace HB := (HB.al _).up hbk) | (go_at_call 135; (with_reducible refine (CP.out _ _ _ nb).mono ?_); rintro e w2 ⟨B2, e2, rfl, nb2, hbk⟩; replace HB := HB.up hbk; replace HR := HR.up hbk; have hr_0 := HR.c0; have hr_l := HR.lt; have hr_f0 := HR.f0) | fail)
  refine bodyPost_ret (v := .agg #[.slice B2 (dl u) e2]) (by simp [results, Tryz.results116, go_sem, hr_0]) rfl ?_
  rw [HU.out]
  exact ret_n HB (Nat.le_refl _) HR now1 (by rw [← HU.out]; exact nb2)
set_option maxHeartbeats 1000000 in
theorem dgood_1 (h1 : ∀ W', Bel W W' → Calls Tryz.prog 91 #[.agg #[.slice A n c]] W' (RetB W' false)) : Calls Tryz.prog 72 #[.agg #[.bool b, .slice A n c, .int .i64 s]] W (RetB W false) := by
  have C1 := hide h1
  clear h1
  have HB := Bel.refl W
  go_enter Tryz.func72, Tryz.ntmps72
  go_wp2_with (first | (go_at_call 91; (with_reducible refine (C1.out _ (HB.al _)).mono ?_); rintro e w1 ⟨rfl, hbk⟩; have HA := At.up (at_new0 _ _ _) hbk; replace HB := (HB.al _).up hbk; have ha_0 := HA.c0; have ha_1 := HA.c1; have ha_2 := HA.c2; have ha_l := HA.lt) | fail)
  go_ret
  exact ⟨rfl, HB⟩
set_option maxHeartbeats 1000000 in
theorem dgood_2 (h1 : ∀ W', Bel W W' → Calls Tryz.prog 91 #[.agg #[.slice A n c]] W' (RetB W' true)) (hs : ¬ 0 ≤ s) : Calls Tryz.prog 72 #[.agg #[.bool b, .slice A n c, .int .i64 s]] W (RetB W false) := by
  have C1 := hide h1
  clear h1
  have HB := Bel.refl W
  go_enter Tryz.func72, Tryz.ntmps72
  go_wp2_with (first | (go_at_call 91; (with_reducible refine (C1.out _ (HB.al _)).mono ?_); rintro e w1 ⟨rfl, hbk⟩; have HA := At.up (at_new0 _ _ _) hbk; replace HB := (HB.al _).up hbk; have ha_0 := HA.c0; have ha_1 := HA.c1; have ha_2 := HA.c2; have ha_l := HA.lt) | fail)
  go_ret
  exact ⟨rfl, HB⟩
set_option maxHeartbeats 1000000 in
theorem dgood_3 (h1 : ∀ W', Bel W W' → Calls Tryz.prog 91 #[.agg #[.slice A n c]] W' (RetB W' true)) (hs : 0 ≤ s) (hs2 : ¬ s ≤ 60) : Calls Tryz.prog 72 #[.agg #[.bool b, .slice A n c, .int .i64 s]] W (RetB W false) := by
  have C1 := hide h1
  clear h1
  have HB := Bel.refl W
  go_enter Tryz.func72, Tryz.ntmps72
  go_wp2_with (first | (go_at_call 91; (with_reducible refine (C1.out _ (HB.al _)).mono ?_); rintro e w1 ⟨rfl, hbk⟩; have HA := At.up (at_new0 _ _ _) hbk; replace HB := (HB.al _).up hbk; have ha_0 := HA.c0; have ha_1 := HA.c1; have ha_2 := HA.c2; have ha_l := HA.lt) | fail)
  go_ret
  exact ⟨rfl, HB⟩
set_option maxHeartbeats 1000000 in
theorem dgood_4 (h1 : ∀ W', Bel W W' → Calls Tryz.prog 91 #[.agg #[.slice A n c]] W' (RetB W' true)) (hs : 0 ≤ s) (hs2 : s ≤ 60) : Calls Tryz.prog 72 #[.agg #[.bool false, .slice A n c, .int .i64 s]] W (RetB W true) := by
  have C1 := hide h1
  clear h1
  have HB := Bel.refl W
  go_enter Tryz.func72, Tryz.ntmps72
  go_wp2_with (first | (go_at_call 91; (with_reducible refine (C1.out _ (HB.al _)).mono ?_); rintro e w1 ⟨rfl, hbk⟩; have HA := At.up (at_new0 _ _ _) hbk; replace HB := (HB.al _).up hbk; have ha_0 := HA.c0; have ha_1 := HA.c1; have ha_2 := HA.c2; have ha_l := HA.lt) | fail)
  go_ret
  exact ⟨rfl, HB⟩
set_option maxHeartbeats 1000000 in
theorem dgood_5 (h1 : ∀ W', Bel W W' → Calls Tryz.prog 91 #[.agg #[.slice A n c]] W' (RetB W' true))(h2 : ∀ W', Bel W W' → Calls Tryz.prog 114 #[.agg #[.slice A n c]] W' (RetB W' false)) (hs : 0 ≤ s) (hs2 : s ≤ 60) : Calls Tryz.prog 72 #[.agg #[.bool true, .slice A n c, .int .i64 s]] W (RetB W true) := by
  have C1 := hide h1
  have C2 := hide h2
  clear h2
  clear h1
  have HB := Bel.refl W
  go_enter Tryz.func72, Tryz.ntmps72
  go_wp2_with (first | (go_at_call 91; (with_reducible refine (C1.out _ (HB.al _)).mono ?_); rintro e w1 ⟨rfl, hbk⟩; have HA := At.up (at_new0 _ _ _) hbk; replace HB := (HB.al _).up hbk; have ha_0 := HA.c0; have ha_1 := HA.c1; have ha_2 := HA.c2; have ha_l := HA.lt) | (go_at_call 114; (with_reducible refine (C2.out _ HB).mono ?_); rintro e w2 ⟨rfl, hbk⟩; replace HB := HB.up hbk) | fail)
  go_ret
  exact ⟨rfl, HB⟩
set_option maxHeartbeats 1000000 in
theorem dgood_6 (h1 : ∀ W', Bel W W' → Calls Tryz.prog 91 #[.agg #[.slice A n c]] W' (RetB W' true))(h2 : ∀ W', Bel W W' → Calls Tryz.prog 114 #[.agg #[.slice A n c]] W' (RetB W' true)) (hs : 0 ≤ s) (hs2 : s ≤ 60) : Calls Tryz.prog 72 #[.agg #[.bool true, .slice A n c, .int .i64 s]] W (RetB W false) := by
  have C1 := hide h1
  have C2 := hide h2
  clear h2
  clear h1
  have HB := Bel.refl W
  go_enter Tryz.func72, Tryz.ntmps72
  go_wp2_with (first | (go_at_call 91; (with_reducible refine (C1.out _ (HB.al _)).mono ?_); rintro e w1 ⟨rfl, hbk⟩; have HA := At.up (at_new0 _ _ _) hbk; replace HB := (HB.al _).up hbk; have ha_0 := HA.c0; have ha_1 := HA.c1; have ha_2 := HA.c2; have ha_l := HA.lt) | (go_at_call 114; (with_reducible refine (C2.out _ HB).mono ?_); rintro e w2 ⟨rfl, hbk⟩; replace HB := HB.up hbk) | fail)
  go_ret
  exact ⟨rfl, HB⟩

/-- Whether a numeral is valid: one answer in every later world. -/
theorem dgood_e (h : Nm w A n c m) (s : Int) : ∃ u, (u = true → 0 ≤ s ∧ s ≤ 60 ∧ (b = true → 0 < m)) ∧ ∀ W', Bel w W' → Calls Tryz.prog 72 #[.agg #[.bool b, .slice A n c, .int .i64 s]] W' (RetB W' u) := by
  obtain ⟨g, hg⟩ := ngood_e h
  have e1 : ∀ W', Bel w W' → ∀ W2, Bel W' W2 → Calls Tryz.prog 91 #[.agg #[.slice A n c]] W2 (RetB W2 g) := fun W' hb W2 hb2 => hg W2 (Bel.up hb hb2)
  have e2 : ∀ W', Bel w W' → ∀ W2, Bel W' W2 → Calls Tryz.prog 114 #[.agg #[.slice A n c]] W2 (RetB W2 (decide (m = 0))) := fun W' hb W2 hb2 => dzero_h (h.up (Bel.up hb hb2))
  cases g
  · exact ⟨false, (fun h => by cases h), fun W' hb => dgood_1 (e1 W' hb)⟩
  · by_cases h0 : 0 ≤ s
    · by_cases h6 : s ≤ 60
      · cases b
        · exact ⟨true, fun _ => ⟨h0, h6, fun h => by cases h⟩, fun W' hb => dgood_4 (e1 W' hb) h0 h6⟩
        · by_cases hm : m = 0
          · rw [decide_eq_true hm] at e2
            exact ⟨false, (fun h => by cases h), fun W' hb => dgood_6 (e1 W' hb) (e2 W' hb) h0 h6⟩
          · rw [decide_eq_false hm] at e2
            exact ⟨true, fun _ => ⟨h0, h6, fun _ => by omega⟩, fun W' hb => dgood_5 (e1 W' hb) (e2 W' hb) h0 h6⟩
      · exact ⟨false, (fun h => by cases h), fun W' hb => dgood_3 (e1 W' hb) h0 h6⟩
    · exact ⟨false, (fun h => by cases h), fun W' hb => dgood_2 (e1 W' hb) h0⟩
/-- A valid numeral: m is what its digits make, s how many are behind the point. -/
structure DX (W : World) (b : Bool) (A : Option Addr) (n c : Nat) (m s : Nat) : Prop where
  nm : Nm W A n c m
  sc : s ≤ 60
  ng : b = true → 0 < m
  gd : ∀ W', Bel W W' → Calls Tryz.prog 72 #[.agg #[.bool b, .slice A n c, .int .i64 (s : Int)]] W' (RetB W' true)
theorem DX.bel {W W' : World} {s : Nat} (h : DX W b A n c m s) (hb : Bel W W') : DX W' b A n c m s := ⟨h.nm.up hb.hid, h.sc, h.ng, fun W2 h2 => h.gd W2 (hb.up h2.hid)⟩
theorem DX.up {W W' : World} {s : Nat} (h : DX W b A n c m s) (hb : Hid (Below W.heap.size W W')) : DX W' b A n c m s := h.bel (Bel.of hb)
theorem DX.al {s : Nat} (h : DX W b A n c m s) (o : Obj) : DX (W.alloc o) b A n c m s := h.bel ((Bel.refl W).al o)
theorem DX.dr {s : Nat} (h : DX W b A n c m s) : DX W.drew b A n c m s := h.bel (Bel.refl W).dr
theorem dx_can {s : Nat} (h : Nm W A (dl m) c m) (hs : s ≤ 60) (hn : b = true → 0 < m) : DX W b A (dl m) c m s := by
  refine ⟨h, hs, hn, fun W' hb => ?_⟩
  cases b
  · exact dgood_4 (fun W2 hb2 => good_h (h.up (Bel.up hb hb2))) (by omega) (by omega)
  · refine dgood_5 (fun W2 hb2 => good_h (h.up (Bel.up hb hb2))) (fun W2 hb2 => ?_) (by omega) (by omega)
    have h1 := dzero_h (h.up (Bel.up hb hb2))
    rwa [decide_eq_false (by have := hn rfl; omega)] at h1
theorem dx_zero (W : World) : DX W false none 0 0 0 0 := by
  refine ⟨nm_nil _ _ _, by decide, (fun h => by cases h), fun W' hb => ?_⟩
  exact dgood_4 (fun W2 hb2 => good_nil.mono fun _ _ h => h) (by omega) (by omega)
/-- What counted returns. -/
def CnR (W : World) (b : Bool) (A : Option Addr) (n c : Nat) (s : Nat) (e : Ending) (w' : World) : Prop := e = .returned (.agg #[.bool b, .slice A n c, .int .i64 (s : Int)]) ∧ Hid (Below W.heap.size W w')
set_option maxHeartbeats 1000000 in
theorem counted_no (h : ∀ W', Bel W W' → Calls Tryz.prog 72 #[.agg #[.bool b, .slice A n c, .int .i64 s]] W' (RetB W' false)) : Calls Tryz.prog 118 #[.agg #[.bool b, .slice A n c, .int .i64 s]] W (fun e w' => e = .returned (.agg #[.bool false, .slice none 0 0, .int .i64 0]) ∧ Bel W w') := by
  have CG := hide h
  clear h
  have HB := Bel.refl W
  go_enter Tryz.func118, Tryz.ntmps118
  go_wp2_with (first | (go_at_call 72; (with_reducible refine (CG.out _ ((HB.al _).al _)).mono ?_); rintro e w1 ⟨rfl, hbk⟩; have HA := At.up ((at_new0 _ _ _).al _) hbk; have HR := At.up (at_new1 _ _ _ _) hbk; replace HB := ((HB.al _).al _).up hbk; have ha_0 := HA.c0; have ha_1 := HA.c1; have ha_2 := HA.c2; have ha_l := HA.lt; have hr_0 := HR.c0; have hr_1 := HR.c1; have hr_2 := HR.c2; have hr_l := HR.lt; have hr_f0 := HR.f0; have hr_f1 := HR.f1; have hr_f2 := HR.f2) | fail)
  refine bodyPost_ret (v := .agg #[.bool false, .slice none 0 0, .int .i64 0]) (by simp [results, Tryz.results118, go_sem, hr_0, hr_1, hr_2]) rfl ?_
  exact ⟨rfl, below3 HB (by omega) _ _ _⟩
set_option maxHeartbeats 1000000 in
theorem counted_yes (h : ∀ W', Bel W W' → Calls Tryz.prog 72 #[.agg #[.bool b, .slice A n c, .int .i64 s]] W' (RetB W' true)) : Calls Tryz.prog 118 #[.agg #[.bool b, .slice A n c, .int .i64 s]] W (fun e w' => e = .returned (.agg #[.bool b, .slice A n c, .int .i64 s]) ∧ Bel W w') := by
  have CG := hide h
  clear h
  have HB := Bel.refl W
  go_enter Tryz.func118, Tryz.ntmps118
  go_wp2_with (first | (go_at_call 72; (with_reducible refine (CG.out _ ((HB.al _).al _)).mono ?_); rintro e w1 ⟨rfl, hbk⟩; have HA := At.up ((at_new0 _ _ _).al _) hbk; have HR := At.up (at_new1 _ _ _ _) hbk; replace HB := ((HB.al _).al _).up hbk; have ha_0 := HA.c0; have ha_1 := HA.c1; have ha_2 := HA.c2; have ha_l := HA.lt; have hr_0 := HR.c0; have hr_1 := HR.c1; have hr_2 := HR.c2; have hr_l := HR.lt; have hr_f0 := HR.f0; have hr_f1 := HR.f1; have hr_f2 := HR.f2) | fail)
  refine bodyPost_ret (v := .agg #[.bool b, .slice A n c, .int .i64 s]) (by simp [results, Tryz.results118, go_sem, hr_0, hr_1, hr_2]) rfl ?_
  exact ⟨rfl, below3 HB (by omega) _ _ _⟩

theorem dx_counted {s : Nat} (h : DX W b A n c m s) : Calls Tryz.prog 118 #[.agg #[.bool b, .slice A n c, .int .i64 (s : Int)]] W (CnR W b A n c s) := (counted_yes h.gd).mono fun _ _ h => h
/-- Any numeral as an argument: what it counts as. -/
def DY (W : World) (x : Value) (b : Bool) (A : Option Addr) (n c : Nat) (m s : Nat) : Prop := DX W b A n c m s ∧ Hid (∀ W', Bel W W' → Calls Tryz.prog 118 #[x] W' (CnR W' b A n c s))
theorem DX.y {s : Nat} (h : DX W b A n c m s) : DY W (.agg #[.bool b, .slice A n c, .int .i64 (s : Int)]) b A n c m s := ⟨h, fun W' hb => dx_counted (h.bel hb)⟩
theorem DY.bel {x : Value} {s : Nat} {W' : World} (h : DY W x b A n c m s) (hb : Bel W W') : DY W' x b A n c m s := ⟨h.1.bel hb, fun W2 h2 => h.2.out W2 (hb.up h2.hid)⟩
theorem dy_no {s : Int} (h : ∀ W', Bel W W' → Calls Tryz.prog 72 #[.agg #[.bool b, .slice A n c, .int .i64 s]] W' (RetB W' false)) : DY W (.agg #[.bool b, .slice A n c, .int .i64 s]) false none 0 0 0 0 :=
  ⟨dx_zero W, fun W' hb => (counted_no (fun W2 h2 => h W2 (hb.up h2.hid))).mono fun _ _ h => h⟩
end
end Go.Proofs.YteahcbeohopdlaaGreatDoor
end

section
/- Package dec: Rat. Conditions: numbers of at most 99999 words. -/
open Go.RowKit
set_option maxRecDepth 100000
namespace Go.Proofs.YteahcbeohopdlaaGreatDoor
theorem At.sput3 {W : World} {p : Nat} {v0 v1 v2 : Value} (h : At W p [v0, v1, v2]) (x y z : Value) : At (((W.setCell ⟨p, 0, none⟩ x).setCell ⟨p, 1, none⟩ y).setCell ⟨p, 2, none⟩ z) p [x, y, z] := h.put3 x y z
/-- As QR, the sign by a name of its own. -/
def QRw (W : World) (sg : Bool) (r : Rat) (e : Ending) (w' : World) : Prop := ∃ A c A' c', e = .returned (.agg #[.bool sg, .slice A (dl r.num.natAbs) c, .slice A' (dl r.den) c']) ∧ ZA w' sg A (dl r.num.natAbs) c r.num ∧ Nm w' A' (dl r.den) c' r.den ∧ Hid (Below W.heap.size W w')
def OfYw (W : World) (sg : Bool) (r : Rat) (e : Ending) (w' : World) : Prop := ∃ A c A' c', e = .returned (.tuple #[.agg #[.bool sg, .slice A (dl r.num.natAbs) c, .slice A' (dl r.den) c'], .bool true]) ∧ ZA w' sg A (dl r.num.natAbs) c r.num ∧ Nm w' A' (dl r.den) c' r.den ∧ Hid (Below W.heap.size W w')
theorem noQ : ∀ x : Nat, Value.bool false ≠ U32 x := fun x h => by cases h
theorem Nm.putq {W : World} {p : Nat} {A : Option Addr} {n c m : Nat} (h : Nm W A n c m) (hp : At W p [.bool false, .slice none 0 0, .slice none 0 0]) (b : Bool) (B : Option Addr) (k d : Nat) (B' : Option Addr) (k' d' : Nat) :
    Nm (((W.setCell ⟨p, 0, none⟩ (.bool b)).setCell ⟨p, 1, none⟩ (.slice B k d)).setCell ⟨p, 2, none⟩ (.slice B' k' d')) A n c m := h.put3 hp now3
theorem Bel.put3 {w W : World} (h : Bel w W) {p : Nat} (hp : w.heap.size ≤ p) (x y z : Value) : Bel w (((W.setCell ⟨p, 0, none⟩ x).setCell ⟨p, 1, none⟩ y).setCell ⟨p, 2, none⟩ z) := below3 h hp x y z
section
variable {W : World} {b b0 : Bool} {A A0 : Option Addr} {n c m s n0 c0 : Nat} {s0 : Int} {r : Rat}
set_option maxHeartbeats 4000000 in
theorem drat_h (h : DY W (.agg #[.bool b0, .slice A0 n0 c0, .int .i64 s0]) b A n c m s) (hd : dl m ≤ 99999) (hr : mkRat (zi b m) (10 ^ s) = r) : Calls Tryz.prog 51 #[.agg #[.bool b0, .slice A0 n0 c0, .int .i64 s0]] W (QR W r) := by
  obtain ⟨p, hp⟩ : ∃ p, p = 10 ^ s := ⟨_, rfl⟩
  obtain ⟨sg, hsg⟩ : ∃ sg, sg = decide (r.num < 0) := ⟨_, rfl⟩
  have CC : Hid (∀ W', Bel W W' → Calls Tryz.prog 118 #[.agg #[.bool b0, .slice A0 n0 c0, .int .i64 s0]] W' (CnR W' b A n c s)) := h.2
  have CP : Hid (∀ W', Calls Tryz.prog 116 #[.int .i64 (s : Int)] W' (NumR W' p)) := fun W' => by rw [hp]; exact power_h h.1.sc
  have CO : Hid (∀ W' B e, Bel W W' → Nm W' B (dl p) e p → Calls Tryz.prog 8 #[.agg #[.bool b, .slice A n c], .agg #[.slice B (dl p) e]] W' (OfYw W' sg r)) := fun W' B e hb hn => by
    rw [hsg]
    exact of_yes (za_of (b := b) (h.1.nm.up hb)) hn (by rw [hp]; exact Nat.pow_pos (by decide)) (by rw [hp]; exact hr) (by rw [zi_abs]; exact hd) (by rw [hp]; exact Nat.le_trans (ten_le h.1.sc) (by decide))
  have HS := hide hsg
  clear h hd hp hr hsg
  have HB := Bel.refl W
  go_enter Tryz.func51, Tryz.ntmps51
  go_wp2_with (first | (go_at_call 118; (with_reducible refine (CC.out _ ((HB.al _).al _)).mono ?_); rintro e w1 ⟨rfl, hbk⟩; have HA := At.up ((at_new0 _ _ _).al _) hbk; have HR := At.up (at_new1 _ _ _ _) hbk; replace HB := ((HB.al _).al _).up hbk; have ha_0 := HA.c0; have ha_1 := HA.c1; have ha_2 := HA.c2; have ha_l := HA.lt; have ha_f0 := HA.f0; have ha_f1 := HA.f1; have ha_f2 := HA.f2) | fail)
  obtain ⟨W1, hW1⟩ : ∃ W1, W1 = ((w1.setCell ⟨W.heap.size, 0, none⟩ (.bool b)).setCell ⟨W.heap.size, 1, none⟩ (.slice A n c)).setCell ⟨W.heap.size, 2, none⟩ (.int .i64 (s : Int)) := ⟨_, rfl⟩
  rw [← hW1]
  replace HB : Bel W W1 := (by rw [hW1]; exact below3 HB (Nat.le_refl _) _ _ _)
  replace HR : At W1 (W.heap.size + 1) [.bool false, .slice none 0 0, .slice none 0 0] := (by rw [hW1]; exact HR.far3 (show W.heap.size ≠ _ by omega) _ _ _)
  replace HA : At W1 W.heap.size [.bool b, .slice A n c, .int .i64 (s : Int)] := (by rw [hW1]; exact HA.put3 _ _ _)
  clear hW1 ha_0 ha_1 ha_2 ha_l ha_f0 ha_f1 ha_f2
  have lb0 := HA.lt
  have lb1 := HR.lt
  go_region_held3 (fun w' => w'.cell? ⟨W.heap.size, 0, none⟩ = some (.bool b) ∧ w'.cell? ⟨W.heap.size, 1, none⟩ = some (.slice A n c) ∧ w'.cell? ⟨W.heap.size, 2, none⟩ = some (.int .i64 (s : Int)))
    (refine ⟨(?_ : At _ W.heap.size [.bool b, .slice A n c, .int .i64 (s : Int)]).c0, (?_ : At _ W.heap.size [.bool b, .slice A n c, .int .i64 (s : Int)]).c1, (?_ : At _ W.heap.size [.bool b, .slice A n c, .int .i64 (s : Int)]).c2⟩ <;> (repeat (first | with_reducible exact HA | (with_reducible refine At.dr ?_) | (with_reducible refine At.al ?_ _) | (with_reducible refine At.far ?_ (by omega) _))))
    (first | (go_at_call 116; (with_reducible refine (CP.out _).mono ?_); rintro e w2 ⟨Bp, ep, rfl, np, hbk⟩; (with_reducible (replace HB := HB.dr.up hbk; replace HA := HA.dr.up hbk; replace HR := HR.dr.up hbk)); have lz := HR.lt; have lz0 := HA.lt; (try have lz2 := HP0.lt)) | (go_at_call 116; (with_reducible refine (CP.out _).mono ?_); rintro e w2 ⟨Bp, ep, rfl, np, hbk⟩; (with_reducible (have HP0 := At.up (at_new0 _ [.bool false, .slice none 0 0, .slice none 0 0] _).dr hbk; replace HB := (HB.al _).dr.up hbk; replace HA := (HA.al _).dr.up hbk; replace HR := (HR.al _).dr.up hbk)); have lz := HR.lt; have lz0 := HA.lt; (try have lz2 := HP0.lt)) | (go_at_call 8; (with_reducible refine (CO.out _ _ _ HB np).mono ?_); rintro e w3 ⟨Aq, cq, Ar, cr, rfl, nq, nr, hbk⟩; (with_reducible (replace HB := HB.up hbk; replace HA := HA.up hbk; replace HR := HR.up hbk)); (try (with_reducible replace HP0 := HP0.up hbk)); (try have hp0_0 := HP0.c0); (try have hp0_1 := HP0.c1); (try have hp0_2 := HP0.c2); (try have hq0_0 := HQ0.c0); (try have hq0_1 := HQ0.c1); (try have hq0_2 := HQ0.c2); (try have fhp0_0 := HP0.f0); (try have fhp0_1 := HP0.f1); (try have fhp0_2 := HP0.f2); (try have fhq0_0 := HQ0.f0); (try have fhq0_1 := HQ0.f1); (try have fhq0_2 := HQ0.f2); (try have lp0 := HP0.lt); (try have lq0 := HQ0.lt); (try have hr_0 := HR.c0); (try have hr_1 := HR.c1); (try have hr_2 := HR.c2); (try have hr_l := HR.lt); (try have hr_f0 := HR.f0); (try have hr_f1 := HR.f1); (try have hr_f2 := HR.f2); have lz1 := HA.lt) | (go_at_call 8; (with_reducible refine (CO.out _ _ _ (HB.al _) (np.al _)).mono ?_); rintro e w3 ⟨Aq, cq, Ar, cr, rfl, nq, nr, hbk⟩; (with_reducible (have HQ0 := At.up (at_new0 _ [.bool false, .slice none 0 0, .slice none 0 0] _) hbk; replace HB := (HB.al _).up hbk; replace HA := (HA.al _).up hbk; replace HR := (HR.al _).up hbk)); (try (with_reducible replace HP0 := (HP0.al _).up hbk)); (try have hp0_0 := HP0.c0); (try have hp0_1 := HP0.c1); (try have hp0_2 := HP0.c2); (try have hq0_0 := HQ0.c0); (try have hq0_1 := HQ0.c1); (try have hq0_2 := HQ0.c2); (try have fhp0_0 := HP0.f0); (try have fhp0_1 := HP0.f1); (try have fhp0_2 := HP0.f2); (try have fhq0_0 := HQ0.f0); (try have fhq0_1 := HQ0.f1); (try have fhq0_2 := HQ0.f2); (try have lp0 := HP0.lt); (try have lq0 := HQ0.lt); (try have hr_0 := HR.c0); (try have hr_1 := HR.c1); (try have hr_2 := HR.c2); (try have hr_l := HR.lt); (try have hr_f0 := HR.f0); (try have hr_f1 := HR.f1); (try have hr_f2 := HR.f2); have lz1 := HA.lt) | fail)
  all_goals go_wp2_with fail
  all_goals
    have nq1 := nq.1
    refine name_end ?_
    intro W4 hW4
    have HF : At W4 (W.heap.size + 1) [.bool sg, .slice Aq (dl r.num.natAbs) cq, .slice Ar (dl r.den) cr] := by rw [hW4]; (repeat (first | with_reducible exact HR | (with_reducible refine At.dr ?_) | (with_reducible refine At.sput3 (v0 := .bool false) (v1 := .slice none 0 0) (v2 := .slice none 0 0) ?_ _ _ _) | (with_reducible refine At.al ?_ _) | (with_reducible refine At.far3 ?_ (by omega) _ _ _)))
    have NF : Nm W4 Aq (dl r.num.natAbs) cq r.num.natAbs := by rw [hW4]; (repeat (first | with_reducible exact nq1 | (with_reducible refine Nm.dr ?_) | (with_reducible refine Nm.al ?_ _) | (with_reducible refine Nm.putq ?_ ?_ _ _ _ _ _ _ _) | with_reducible exact HR | with_reducible exact HP0 | with_reducible exact HQ0 | (with_reducible refine At.dr ?_) | (with_reducible refine At.sput3 (v0 := .bool false) (v1 := .slice none 0 0) (v2 := .slice none 0 0) ?_ _ _ _) | (with_reducible refine At.al ?_ _) | (with_reducible refine At.far3 ?_ (by omega) _ _ _)))
    have DF : Nm W4 Ar (dl r.den) cr r.den := by rw [hW4]; (repeat (first | with_reducible exact nr | (with_reducible refine Nm.dr ?_) | (with_reducible refine Nm.al ?_ _) | (with_reducible refine Nm.putq ?_ ?_ _ _ _ _ _ _ _) | with_reducible exact HR | with_reducible exact HP0 | with_reducible exact HQ0 | (with_reducible refine At.dr ?_) | (with_reducible refine At.sput3 (v0 := .bool false) (v1 := .slice none 0 0) (v2 := .slice none 0 0) ?_ _ _ _) | (with_reducible refine At.al ?_ _) | (with_reducible refine At.far3 ?_ (by omega) _ _ _)))
    have BF : Bel W W4 := by rw [hW4]; (repeat (first | with_reducible exact HB | (with_reducible refine Bel.dr ?_) | (with_reducible refine Bel.al ?_ _) | (with_reducible refine Bel.put3 ?_ (by omega) _ _ _)))
    clear hW4
    refine bodyPost_ret (v := .agg #[.bool sg, .slice Aq (dl r.num.natAbs) cq, .slice Ar (dl r.den) cr]) (by simp [results, Tryz.results51, go_sem, HF.c0, HF.c1, HF.c2]) rfl ?_
    exact ⟨Aq, cq, Ar, cr, by rw [HS.out], zr_of NF, DF, BF⟩
end
end Go.Proofs.YteahcbeohopdlaaGreatDoor
end
