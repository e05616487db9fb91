/- NatOrder's walk. No conditions. -/
import Derived.Test.YtcidclajfbnfoaaDoorIs
import Derived.Test.YtcidclajfbnfoaaDoorSub
import Derived.Deep.RegionHeld3
open Go.RowKit
set_option maxRecDepth 100000
namespace Go.Proofs.YtcidclajfbnfoaaDoor
theorem keep4 {w W W' : World} {b : Nat} {v0 v1 v2 : Value} (hb : Hid (Below W.heap.size W W'))
    (h : W.cell? ⟨b, 0, none⟩ = some v0 ∧ W.cell? ⟨b + 1, 0, none⟩ = some v1 ∧ W.cell? ⟨b + 1 + 1, 0, none⟩ = some v2 ∧ Below w.heap.size w W ∧ b + 3 ≤ W.heap.size) :
    W'.cell? ⟨b, 0, none⟩ = some v0 ∧ W'.cell? ⟨b + 1, 0, none⟩ = some v1 ∧ W'.cell? ⟨b + 1 + 1, 0, none⟩ = some v2 ∧ Below w.heap.size w W' ∧ b + 3 ≤ W'.heap.size := by
  obtain ⟨h0, h1, h2, h3, h4⟩ := h
  have hs := hb.out.size
  exact ⟨(hb.out.cell (by simp; omega)).trans h0, (hb.out.cell (by simp; omega)).trans h1, (hb.out.cell (by simp; omega)).trans h2, h3.trans (hb.out.mono h3.size), by omega⟩
theorem start4 {w wa : World} {v0 v1 v2 : Value} {t : TypeId} (h : Hid (Below w.heap.size w wa)) :
    (((wa.alloc (.cells #[v0] t)).alloc (.cells #[v1] t)).alloc (.cells #[v2] t)).cell? ⟨wa.heap.size, 0, none⟩ = some v0 ∧
    (((wa.alloc (.cells #[v0] t)).alloc (.cells #[v1] t)).alloc (.cells #[v2] t)).cell? ⟨wa.heap.size + 1, 0, none⟩ = some v1 ∧
    (((wa.alloc (.cells #[v0] t)).alloc (.cells #[v1] t)).alloc (.cells #[v2] t)).cell? ⟨wa.heap.size + 1 + 1, 0, none⟩ = some v2 ∧
    Below w.heap.size w (((wa.alloc (.cells #[v0] t)).alloc (.cells #[v1] t)).alloc (.cells #[v2] t)) ∧ wa.heap.size + 3 ≤ (((wa.alloc (.cells #[v0] t)).alloc (.cells #[v1] t)).alloc (.cells #[v2] t)).heap.size := by
  have b1 : (wa.alloc (.cells #[v0] t)).heap[wa.heap.size]? = some (.cells #[v0] t (0, 0)) := heap_alloc_new wa _
  have b2 : ((wa.alloc (.cells #[v0] t)).alloc (.cells #[v1] t)).heap[wa.heap.size + 1]? = some (.cells #[v1] t (0, 0)) := by simpa using heap_alloc_new (wa.alloc (.cells #[v0] t)) (.cells #[v1] t)
  have b3 : (((wa.alloc (.cells #[v0] t)).alloc (.cells #[v1] t)).alloc (.cells #[v2] t)).heap[wa.heap.size + 1 + 1]? = some (.cells #[v2] t (0, 0)) := by simpa using heap_alloc_new ((wa.alloc (.cells #[v0] t)).alloc (.cells #[v1] t)) (.cells #[v2] t)
  have c1 : (((wa.alloc (.cells #[v0] t)).alloc (.cells #[v1] t)).alloc (.cells #[v2] t)).heap[wa.heap.size]? = some (.cells #[v0] t (0, 0)) :=
    (Below.heap_alloc _ _ _ (by simp; omega)).trans ((Below.heap_alloc _ _ _ (by simp)).trans b1)
  have c2 : (((wa.alloc (.cells #[v0] t)).alloc (.cells #[v1] t)).alloc (.cells #[v2] t)).heap[wa.heap.size + 1]? = some (.cells #[v1] t (0, 0)) := (Below.heap_alloc _ _ _ (by simp)).trans b2
  have hs := h.out.size
  exact ⟨(one_cell c1).1, (one_cell c2).1, (one_cell b3).1, ((h.out.alloc hs _).alloc (by simp; omega) _).alloc (by simp; omega) _, by simp⟩
theorem drew4 {w W : World} {b : Nat} {v0 v1 v2 : Value}
    (h : W.cell? ⟨b, 0, none⟩ = some v0 ∧ W.cell? ⟨b + 1, 0, none⟩ = some v1 ∧ W.cell? ⟨b + 1 + 1, 0, none⟩ = some v2 ∧ Below w.heap.size w W ∧ b + 3 ≤ W.heap.size) :
    W.drew.cell? ⟨b, 0, none⟩ = some v0 ∧ W.drew.cell? ⟨b + 1, 0, none⟩ = some v1 ∧ W.drew.cell? ⟨b + 1 + 1, 0, none⟩ = some v2 ∧ Below w.heap.size w W.drew ∧ b + 3 ≤ W.drew.heap.size :=
  ⟨h.1, h.2.1, h.2.2.1, h.2.2.2.1.drew, h.2.2.2.2⟩
theorem alloc4 {w W : World} {b : Nat} {v0 v1 v2 : Value} (o : Obj)
    (h : W.cell? ⟨b, 0, none⟩ = some v0 ∧ W.cell? ⟨b + 1, 0, none⟩ = some v1 ∧ W.cell? ⟨b + 1 + 1, 0, none⟩ = some v2 ∧ Below w.heap.size w W ∧ b + 3 ≤ W.heap.size) :
    (W.alloc o).cell? ⟨b, 0, none⟩ = some v0 ∧ (W.alloc o).cell? ⟨b + 1, 0, none⟩ = some v1 ∧ (W.alloc o).cell? ⟨b + 1 + 1, 0, none⟩ = some v2 ∧ Below w.heap.size w (W.alloc o) ∧ b + 3 ≤ (W.alloc o).heap.size := by
  have hb : Hid (Below W.heap.size W (W.alloc o)) := (Below.refl _ _).alloc (Nat.le_refl _) _
  exact keep4 hb h
theorem below4 {w W : World} {b : Nat} {v0 v1 v2 : Option Value} {a0 a1 a2 : Addr} (h : W.cell? a0 = v0 ∧ W.cell? a1 = v1 ∧ W.cell? a2 = v2 ∧ Below w.heap.size w W ∧ b ≤ W.heap.size) : Below w.heap.size w W := h.2.2.2.1
theorem cmpI_bd (a b : Nat) : -1 ≤ cmpI a b ∧ cmpI a b ≤ 1 := by
  rcases Nat.lt_trichotomy a b with h | h | h
  · rw [cmpI_lt h]; omega
  · rw [cmpI_eq h]; omega
  · rw [cmpI_gt h]; omega
theorem cmpI_le {a b : Nat} : cmpI a b ≤ 0 ↔ a ≤ b := by
  rcases Nat.lt_trichotomy a b with h | h | h
  · rw [cmpI_lt h]; omega
  · rw [cmpI_eq h]; omega
  · rw [cmpI_gt h]; omega
theorem cmpI_neg (a b : Nat) : cmpI a b = -cmpI b a := by
  rcases Nat.lt_trichotomy a b with h | h | h
  · rw [cmpI_lt h, cmpI_gt h]
  · rw [cmpI_eq h, cmpI_eq h.symm]; rfl
  · rw [cmpI_gt h, cmpI_lt h]; rfl
/-- A number that came in, in every later world. -/
def Later (w : World) (A : Option Addr) (l c m : Nat) : Prop := ∀ W, Below w.heap.size w W → Arg W W.heap.size A l c m
theorem later_of {w : World} {A : Option Addr} {l c : Nat} {z : List Nat} (h : l = z.length ∧ l ≤ c ∧ Rd U32 w w.heap.size A z ∧ Good32 z) (hl : l ≤ 100000) : Later w A l c (val W32 z) := fun _ hb =>
  ⟨z, h.1, h.2.1, hl, (h.2.2.1.below hb).more hb.size, h.2.2.2, rfl⟩
def IntPost (W : World) (v : Int) (e : Ending) (w' : World) : Prop := e = .returned (.int .i64 v) ∧ Hid (Below W.heap.size W w')
theorem cmp_later {w W : World} {A A' : Option Addr} {l l' c c' m m' : Nat} {v : Int} (h : Later w A l c m) (h' : Later w A' l' c' m') (hv : cmpI m m' = v) (hb : Below w.heap.size w W) :
    Calls Tryd.prog 25 #[.agg #[.slice A l c], .agg #[.slice A' l' c']] W (IntPost W v) := by
  subst hv
  exact (Cmp_any (h W hb) (h' W hb)).mono fun _ _ h => h
theorem sub_later {w W : World} {A A' : Option Addr} {l l' c c' m m' : Nat} {b : Bool} (h : Later w A l c m) (h' : Later w A' l' c' m') (hv : decide (m' ≤ m) = b) (hb : Below w.heap.size w W) :
    Calls Tryd.prog 15 #[.agg #[.slice A l c], .agg #[.slice A' l' c']] W fun e w' => ∃ A2 l2 c2, e = .returned (.tuple #[.agg #[.slice A2 l2 c2], .bool b]) ∧ Hid (Below W.heap.size W w') := by
  subst hv
  refine (Sub_any (h W hb) (h' W hb)).mono fun e w' h => ?_
  unfold SubPost at h
  split at h
  · rename_i hh
    obtain ⟨A2, c2, he, _, hb⟩ := h
    exact ⟨A2, _, c2, by rw [he, decide_eq_true hh], hb⟩
  · rename_i hh
    exact ⟨none, 0, 0, by rw [h.1, decide_eq_false hh], h.2⟩
theorem add_later {w W : World} {A A' : Option Addr} {l l' c c' m m' : Nat} (h : Later w A l c m) (h' : Later w A' l' c' m') (hb : Below w.heap.size w W) :
    Calls Tryd.prog 30 #[.agg #[.slice A l c], .agg #[.slice A' l' c']] W fun e w' => ∃ A2 c2, e = .returned (.agg #[.slice A2 (dl (m + m')) c2]) ∧ Hid (Can w' w'.heap.size A2 c2 (m + m')) ∧ Hid (Below W.heap.size W w') :=
  (Add_any (h W hb) (h' W hb)).mono fun _ _ h => h
set_option maxHeartbeats 4000000 in
theorem order_main {A0 A1 A2 : Option Addr} {l0 l1 l2 c0 c1 c2 m0 m1 m2 : Nat} (w : World) (h0 : Later w A0 l0 c0 m0) (h1 : Later w A1 l1 c1 m1) (h2 : Later w A2 l2 c2 m2) (hl0 : l0 ≤ 24) (hl1 : l1 ≤ 24) (hl2 : l2 ≤ 24) (hd : dl (m0 + m1) ≤ 100000) :
    Calls Tryd.prog 9 #[.slice A0 l0 c0, .slice A1 l1 c1, .slice A2 l2 c2] w fun e w' => e = .returned (.bool true) ∧ Below w.heap.size w w' := by
  obtain ⟨p, hp⟩ : ∃ p, cmpI m0 m1 = p := ⟨_, rfl⟩
  obtain ⟨q, hq⟩ : ∃ q, cmpI m1 m2 = q := ⟨_, rfl⟩
  obtain ⟨r, hr⟩ : ∃ r, cmpI m0 m2 = r := ⟨_, rfl⟩
  have bp := cmpI_bd m0 m1; rw [hp] at bp
  have bq := cmpI_bd m1 m2; rw [hq] at bq
  have br := cmpI_bd m0 m2; rw [hr] at br
  have hs : cmpI m1 m0 = -p := by have := cmpI_neg m1 m0; rw [hp] at this; exact this
  have hpr : p ≤ 0 → q ≤ 0 → r ≤ 0 := fun a b => by rw [← hp] at a; rw [← hq] at b; rw [← hr]; have := cmpI_le.1 a; have := cmpI_le.1 b; exact cmpI_le.2 (by omega)
  have C01 := hide (fun (W : World) (hb : Below w.heap.size w W) => cmp_later h0 h1 hp hb)
  have C12 := hide (fun (W : World) (hb : Below w.heap.size w W) => cmp_later h1 h2 hq hb)
  have C02 := hide (fun (W : World) (hb : Below w.heap.size w W) => cmp_later h0 h2 hr hb)
  have C10 := hide (fun (W : World) (hb : Below w.heap.size w W) => cmp_later h1 h0 hs hb)
  have C00 := hide (fun (W : World) (hb : Below w.heap.size w W) => cmp_later h0 h0 (cmpI_eq rfl) hb)
  have CA := hide (fun (W : World) (hb : Below w.heap.size w W) => add_later h0 h1 hb)
  have CF : Hid (∀ (W : World) (A3 : Option Addr) (c3 : Nat), Below w.heap.size w W → Can W W.heap.size A3 c3 (m0 + m1) → Calls Tryd.prog 25 #[.agg #[.slice A0 l0 c0], .agg #[.slice A3 (dl (m0 + m1)) c3]] W fun e w' => (∃ t, t ≤ 0 ∧ -1 ≤ t ∧ e = .returned (.int .i64 t)) ∧ Hid (Below W.heap.size W w')) := fun W A3 c3 hb hc =>
    (Cmp_any (h0 W hb) (hc.arg hd)).mono fun e w' ⟨he, hb⟩ => ⟨⟨_, cmpI_le.2 (Nat.le_add_right _ _), (cmpI_bd _ _).1, he⟩, hb⟩
  have CS : Hid (∀ W : World, Below w.heap.size w W → Calls Tryd.prog 15 #[.agg #[.slice A1 l1 c1], .agg #[.slice A0 l0 c0]] W fun e w' => ∃ A2 l2 c2, e = .returned (.tuple #[.agg #[.slice A2 l2 c2], .bool (decide (p ≤ 0))]) ∧ Hid (Below W.heap.size W w')) := fun W hb =>
    sub_later (b := decide (p ≤ 0)) h1 h0 (by rw [← hp, Bool.eq_iff_iff, decide_eq_true_iff, decide_eq_true_iff]; exact cmpI_le.symm) hb
  have HPR := hide hpr
  clear hp hq hr hs h0 h1 h2 hpr hd
  have hways : (p ≤ 0 ∧ q ≤ 0 ∧ r ≤ 0 ∧ decide (p ≤ 0) = true) ∨ (p ≤ 0 ∧ ¬ q ≤ 0 ∧ True ∧ decide (p ≤ 0) = true) ∨ (¬ p ≤ 0 ∧ True ∧ True ∧ decide (p ≤ 0) = false) := by
    by_cases hp0 : p ≤ 0
    · by_cases hq0 : q ≤ 0
      · exact .inl ⟨hp0, hq0, HPR.out hp0 hq0, decide_eq_true hp0⟩
      · exact .inr (.inl ⟨hp0, hq0, trivial, decide_eq_true hp0⟩)
    · exact .inr (.inr ⟨hp0, trivial, trivial, decide_eq_false hp0⟩)
  rcases hways with ⟨hp0, hq0, hr0, hdp⟩ | ⟨hp0, hq0, hr0, hdp⟩ | ⟨hp0, hq0, hr0, hdp⟩
  all_goals
    rw [hdp] at CS
    go_enter Tryd.func9, Tryd.ntmps9
    go_wp2_with (first | (go_at_call 12; go_must (refine (awake_any _).mono ?_); rintro e wa ⟨rfl, hba⟩; have HBA := hide hba; clear hba))
    go_region_held3 (fun w' => w'.cell? ⟨wa.heap.size, 0, none⟩ = some (.slice A0 l0 c0) ∧ w'.cell? ⟨wa.heap.size + 1, 0, none⟩ = some (.slice A1 l1 c1) ∧ w'.cell? ⟨wa.heap.size + 1 + 1, 0, none⟩ = some (.slice A2 l2 c2) ∧ Below w.heap.size w w' ∧ wa.heap.size + 3 ≤ w'.heap.size)
      (first | exact drew4 (start4 HBA) | exact keep4 hbk (by assumption))
      (first | (go_at_call 25; (with_reducible refine (C01.out _ (below4 (by assumption))).mono ?_); rintro e w' ⟨rfl, hbk⟩) | (go_at_call 25; (with_reducible refine (C12.out _ (below4 (by assumption))).mono ?_); rintro e w' ⟨rfl, hbk⟩))
    have hH := ‹w'.cell? ⟨wa.heap.size, 0, none⟩ = some (.slice A0 l0 c0) ∧ _›
    have HS := hide hH
    have e0 := HS.out.1
    have e1 := HS.out.2.1
    have e2 := HS.out.2.2.1
    clear hH
    go_wp2_with (first | (go_at_call 25; (with_reducible refine (C02.out _ (below4 HS.out)).mono ?_); rintro e w2 ⟨rfl, hbk⟩; have HS := hide (keep4 hbk HS.out); have e0 := HS.out.1; have e1 := HS.out.2.1; have e2 := HS.out.2.2.1) | (go_at_call 25; (with_reducible refine (C10.out _ (below4 HS.out)).mono ?_); rintro e w2 ⟨rfl, hbk⟩; have HS := hide (keep4 hbk HS.out); have e0 := HS.out.1; have e1 := HS.out.2.1; have e2 := HS.out.2.2.1) | (go_at_call 25; (with_reducible refine (C00.out _ (below4 HS.out)).mono ?_); rintro e w2 ⟨rfl, hbk⟩; have HS := hide (keep4 hbk HS.out); have e0 := HS.out.1; have e1 := HS.out.2.1; have e2 := HS.out.2.2.1) | (go_at_call 15; go_must (refine (CS.out _ (below4 HS.out)).mono ?_); rintro e w2 ⟨A5, l5, c5, rfl, hbk⟩; have HS := hide (keep4 hbk HS.out); have HS := hide (alloc4 (.cells #[.slice A5 l5 c5] 25) HS.out)))
    go_region_held3 (fun w' => w'.cell? ⟨wa.heap.size, 0, none⟩ = some (.slice A0 l0 c0) ∧ w'.cell? ⟨wa.heap.size + 1, 0, none⟩ = some (.slice A1 l1 c1) ∧ w'.cell? ⟨wa.heap.size + 1 + 1, 0, none⟩ = some (.slice A2 l2 c2) ∧ Below w.heap.size w w' ∧ wa.heap.size + 3 ≤ w'.heap.size)
      (first | exact drew4 HS.out | exact keep4 hbk (by assumption))
      (first | (go_at_call 30; (with_reducible refine (CA.out _ (below4 (by assumption))).mono ?_); rintro e w7 ⟨A7, c7, rfl, hc7, hbk⟩) | (go_at_call 25; (with_reducible refine (CF.out _ _ _ (below4 (by assumption)) hc7.out).mono ?_); rintro e w8 ⟨⟨t, ht0, ht1, rfl⟩, hbk⟩))
    go_wp2
    go_ret
    exact ⟨rfl, below4 ‹w8.cell? ⟨wa.heap.size, 0, none⟩ = _ ∧ _›⟩
theorem val_lt24 {z : List Nat} {l : Nat} (hg : Good32 z) (hl : l = z.length) (h : l ≤ 24) : val W32 z < W32 ^ 24 :=
  Nat.lt_of_lt_of_le (val_lt z hg) (Nat.pow_le_pow_right (by decide) (by omega))
theorem order_walk {A0 A1 A2 : Option Addr} {l0 l1 l2 c0 c1 c2 : Nat} {z0 z1 z2 : List Nat} (w : World) (w0 : l0 = z0.length ∧ l0 ≤ c0 ∧ Rd U32 w w.heap.size A0 z0 ∧ Good32 z0) (w1 : l1 = z1.length ∧ l1 ≤ c1 ∧ Rd U32 w w.heap.size A1 z1 ∧ Good32 z1)
    (w2 : l2 = z2.length ∧ l2 ≤ c2 ∧ Rd U32 w w.heap.size A2 z2 ∧ Good32 z2) :
    Calls Tryd.prog 9 #[.slice A0 l0 c0, .slice A1 l1 c1, .slice A2 l2 c2] w fun e w' => e = .returned (.bool true) ∧ Below w.heap.size w w' := by
  by_cases hall : l0 ≤ 24 ∧ l1 ≤ 24 ∧ l2 ≤ 24
  · obtain ⟨h0, h1, h2⟩ := hall
    refine order_main w (later_of w0 (by omega)) (later_of w1 (by omega)) (later_of w2 (by omega)) h0 h1 h2 ?_
    have a := val_lt24 w0.2.2.2 w0.1 h0
    have b := val_lt24 w1.2.2.2 w1.1 h1
    have : val W32 z0 + val W32 z1 < W32 ^ 25 := by
      rw [Nat.pow_succ]
      have : W32 ^ 24 * 2 ≤ W32 ^ 24 * W32 := Nat.mul_le_mul_left _ (by decide)
      omega
    have := dl_le this
    omega
  · have hc : (24 < l0) ∨ (¬ 24 < l0 ∧ 24 < l1) ∨ (¬ 24 < l0 ∧ ¬ 24 < l1 ∧ 24 < l2) := by omega
    clear w0 w1 w2 hall
    rcases hc with h0 | ⟨h0, h1⟩ | ⟨h0, h1, h2⟩
    all_goals
      go_enter Tryd.func9, Tryd.ntmps9
      go_wp2_with (first | (go_at_call 12; go_must (refine (awake_any _).mono ?_); rintro e wa ⟨rfl, hba⟩; have HBA := hide hba; clear hba))
      go_ret
      exact ⟨rfl, HBA.out⟩
end Go.Proofs.YtcidclajfbnfoaaDoor
