/- RoundSays is true of any fraction, scale, number of digits, mode, step. No conditions. -/
import Derived.Test.YtmiklffjffdkgaaGreatDoorRwa
import Derived.Test.YtmiklffjffdkgaaGreatDoorGRwbc20
open Go.RowKit
set_option maxRecDepth 100000
namespace Go.Proofs.YtmiklffjffdkgaaGreatDoor
section
variable {W w : World} {b0 b1 : Bool} {A0 A1 A2 : Option Addr} {n0 c0 n1 c1 n2 c2 : Nat} {s0 scale many mode : Int} {z0 z1 z2 : List Nat}
theorem r5mk {z : Int} {d : Nat} (g1 : z.natAbs < W32 ^ 12) (g2 : d < W32 ^ 12) : Bd (mkRat z d) 12 := by
  rcases Nat.eq_zero_or_pos d with h | h
  · subst h
    rw [Rat.mkRat_zero]
    exact ⟨Nat.pow_pos (by decide), Nat.one_lt_pow (by omega) (by decide)⟩
  · exact tt_bd ⟨h, rfl, g1, g2⟩
theorem w5_lt {l : List Nat} {k : Nat} (hg : Good32 l) (hk : k = l.length) (h12 : k ≤ 12) : val W32 l < W32 ^ 12 := Nat.lt_of_lt_of_le (val_lt _ hg) (Nat.pow_le_pow_right (by decide) (by omega))
theorem w5_words {A : Option Addr} {l c : Nat} {z : List Nat} (h : l = z.length ∧ l ≤ c ∧ Rd U32 w w.heap.size A z ∧ Good32 z) (hl : l ≤ 12) (W' : World) (hb : Bel w W') : Calls Tryz.prog 18 #[.slice A l c] W' (RefRz W' (val W32 z)) :=
  Words_any h.1 ((h.2.2.1.below hb).more (Below.size hb)) h.2.2.2 (by omega)
theorem r5own (h0 : n1 = z1.length ∧ n1 ≤ c1 ∧ Rd U32 w w.heap.size A1 z1 ∧ Good32 z1) (h1 : n2 = z2.length ∧ n2 ≤ c2 ∧ Rd U32 w w.heap.size A2 z2 ∧ Good32 z2) (hl : n1 ≤ 12 ∧ n2 ≤ 12) {x : Rat} (hx : mkRat (zi b1 (val W32 z1)) (val W32 z2) = x) (W' : World) (hb : Bel w W') :
    Calls Tryz.prog 6 #[.agg #[.bool b1, .slice A1 n1 c1, .slice A2 n2 c2]] W' (RQm W' (decide (x.num < 0)) x.num x.den) := by
  have q0 : dq (val W32 z1) ≤ 4000 := Nat.le_trans (dq_words (w5_lt h0.2.2.2 h0.1 hl.1)) (by decide)
  have q1 : dq (val W32 z2) ≤ 4000 := Nat.le_trans (dq_words (w5_lt h1.2.2.2 h1.1 hl.2)) (by decide)
  by_cases hd : val W32 z2 = 0
  · exact rown5_0 (fun W2 h2 => w5_words h1 hl.2 W2 (hb.up h2.hid)) hd (by rw [← hx, hd, Rat.mkRat_zero]) rfl
  · exact rown5_1 (fun W2 h2 => w5_words h0 hl.1 W2 (hb.up h2.hid)) (fun W2 h2 => w5_words h1 hl.2 W2 (hb.up h2.hid)) (by omega) rfl q0 q1 hx rfl
theorem rsays_l1 (w : World) (h : ¬ (n1 ≤ 12 ∧ n2 ≤ 12)) : Calls Tryz.prog 3 #[.agg #[.bool b1, .slice A1 n1 c1, .slice A2 n2 c2], .int .i64 scale, .int .i64 many, .int .i64 mode, .agg #[.bool b0, .slice A0 n0 c0, .int .i64 s0]] w fun e w' => e = .returned (.bool true) ∧ Below w.heap.size w w' := by
  have CL := hide (fun W' => rlong5_n (W := W') (A := A1) (A' := A2) (c := c1) (c' := c2) (b := b1) h)
  clear h
  have HB := Bel.refl w
  go_enter Tryz.func3, Tryz.ntmps3
  go_wp2_with (first | (go_at_call 4; (with_reducible refine (awake5_any _).mono ?_); rintro e w1 ⟨rfl, hbk⟩; have HR := At.up ((at_new0 _ _ _).al _) hbk; replace HB := ((HB.al _).al _).up hbk; have hr_0 := HR.c0; have hr_1 := HR.c1; have hr_2 := HR.c2; have hr_l := HR.lt) | (go_at_call 5; (with_reducible refine (CL.out _).mono ?_); rintro e w2 ⟨rfl, hbk⟩; replace HB := HB.up hbk) | fail)
  go_ret
  exact ⟨rfl, HB⟩
theorem rsays_l2 (w : World) (h : n1 ≤ 12 ∧ n2 ≤ 12) (h0 : 10 < n0) : Calls Tryz.prog 3 #[.agg #[.bool b1, .slice A1 n1 c1, .slice A2 n2 c2], .int .i64 scale, .int .i64 many, .int .i64 mode, .agg #[.bool b0, .slice A0 n0 c0, .int .i64 s0]] w fun e w' => e = .returned (.bool true) ∧ Below w.heap.size w w' := by
  have CL := hide (fun W' => rlong5_h (W := W') (A := A1) (A' := A2) (c := c1) (c' := c2) (b := b1) h.1 h.2)
  have d : decide ((10 : Int) < (n0 : Int)) = true := decide_eq_true (by omega)
  clear h h0
  have HB := Bel.refl w
  go_enter Tryz.func3, Tryz.ntmps3
  go_wp2_with (first | (go_at_call 4; (with_reducible refine (awake5_any _).mono ?_); rintro e w1 ⟨rfl, hbk⟩; have HR := At.up ((at_new0 _ _ _).al _) hbk; have HS := At.up (at_new1 _ _ _ _) hbk; replace HB := ((HB.al _).al _).up hbk; have hr_0 := HR.c0; have hr_1 := HR.c1; have hr_2 := HR.c2; have hr_l := HR.lt) | (go_at_call 5; (with_reducible refine (CL.out _).mono ?_); rintro e w2 ⟨rfl, hbk⟩; replace HB := HB.up hbk; replace HS := HS.up hbk; clear hr_0 hr_1 hr_2 hr_l; have hs_0 := HS.c0; have hs_1 := HS.c1; have hs_2 := HS.c2; have hs_l := HS.lt) | fail)
  go_ret
  exact ⟨rfl, HB⟩
set_option maxHeartbeats 8000000 in
theorem rsays_main (w : World) (h1 : n1 = z1.length ∧ n1 ≤ c1 ∧ Rd U32 w w.heap.size A1 z1 ∧ Good32 z1) (h2 : n2 = z2.length ∧ n2 ≤ c2 ∧ Rd U32 w w.heap.size A2 z2 ∧ Good32 z2) (h0 : n0 = z0.length ∧ n0 ≤ c0 ∧ Rd U32 w w.heap.size A0 z0 ∧ Good32 z0) (hl : n1 ≤ 12 ∧ n2 ≤ 12) (hl0 : n0 ≤ 10) :
    Calls Tryz.prog 3 #[.agg #[.bool b1, .slice A1 n1 c1, .slice A2 n2 c2], .int .i64 scale, .int .i64 many, .int .i64 mode, .agg #[.bool b0, .slice A0 n0 c0, .int .i64 s0]] w fun e w' => e = .returned (.bool true) ∧ Below w.heap.size w w' := by
  obtain ⟨x, hx⟩ : ∃ x, mkRat (zi b1 (val W32 z1)) (val W32 z2) = x := ⟨_, rfl⟩
  have v1 := w5_lt h1.2.2.2 h1.1 hl.1
  have v2 := w5_lt h2.2.2.2 h2.1 hl.2
  have v0 := w5_lt h0.2.2.2 h0.1 (by omega)
  have bx : Bd x 12 := by rw [← hx]; exact r5mk (by rw [zi_abs]; exact v1) v2
  have nm1 : Nm w A1 n1 c1 (val W32 z1) := nm_later (later_of h1 (by omega)) (Below.refl _ _)
  have nm2 : Nm w A2 n2 c2 (val W32 z2) := nm_later (later_of h2 (by omega)) (Below.refl _ _)
  have nm0 : Nm w A0 n0 c0 (val W32 z0) := nm_later (later_of h0 (by omega)) (Below.refl _ _)
  have nz : ZA w b1 A1 n1 c1 (zi b1 (val W32 z1)) := za_of nm1
  have br : (zi b1 (val W32 z1)).natAbs < W32 ^ 12 ∧ val W32 z2 < W32 ^ 12 := ⟨by rw [zi_abs]; exact v1, v2⟩
  obtain ⟨gd, hu, hG⟩ := dgood_e (b := b0) nm0 s0
  obtain ⟨ka, et, pt, vt, jt, hT, kT, CT, CA⟩ := to_two (scale := scale) (mode := mode) nz nm2 br hx bx
  obtain ⟨es, pg, vg, jg, hE, kE, CS, CB⟩ := sig_two (many := many) (mode := mode) nz nm2 br hx bx
  obtain ⟨kb, ep, pp, vp, jp, hP, hgd, kP, CP, CC⟩ := step_two (mode := mode) nz nm2 br hx bx nm0 v0 hu hG
  have CD1 : ∀ W' B e C f, ka = true → Nm W' B (dl vt) e vt → Rn W' C f vt → Calls Tryz.prog 19 #[.agg #[.bool pt, .slice B (dl vt) e, .int .i64 (jt : Int)], .agg #[.bool pt, .slice C (dq vt) f, .int .i64 (jt : Int)]] W' (BoolR W' true) := fun W' B e C f h g1 g2 => by
    obtain ⟨t, ht, rfl, rfl, hj⟩ := kT h
    exact dis_two5 hj (fun h9 => by have := of_decide_eq_true h9; omega) (to_small bx hj ht) g1 g2
  have CD2 : ∀ W' B e C f, es = 0 → Nm W' B (dl vg) e vg → Rn W' C f vg → Calls Tryz.prog 19 #[.agg #[.bool pg, .slice B (dl vg) e, .int .i64 (jg : Int)], .agg #[.bool pg, .slice C (dq vg) f, .int .i64 (jg : Int)]] W' (BoolR W' true) := fun W' B e C f h g1 g2 => by
    obtain ⟨h3, h4, h5⟩ := kE h
    exact dis_two5 h3 h4 (sig_small h5) g1 g2
  have CD3 : ∀ W' B e C f, kb = true → Nm W' B (dl vp) e vp → Rn W' C f vp → Calls Tryz.prog 19 #[.agg #[.bool pp, .slice B (dl vp) e, .int .i64 (jp : Int)], .agg #[.bool pp, .slice C (dq vp) f, .int .i64 (jp : Int)]] W' (BoolR W' true) := fun W' B e C f h g1 g2 => by
    obtain ⟨t, ht, rfl, rfl, hj, hm⟩ := kP h
    exact dis_two5 hj (fun h9 => Nat.mul_pos (by have := of_decide_eq_true h9; omega) hm) (step_small bx hj v0 hm ht) g1 g2
  obtain ⟨g, ei, t, hM, CI, CJ, CZ⟩ : ∃ (g : Bool) (ei t : Int), ((g = true ∧ ei = 0 ∧ 1 ≤ mode ∧ mode ≤ 7) ∨ (g = false ∧ ei = 1 ∧ ¬ (1 ≤ mode ∧ mode ≤ 7))) ∧
      (∀ W', Bel w W' → Calls Tryz.prog 7 #[.agg #[.bool b1, .slice A1 n1 c1, .slice A2 n2 c2], .int .i64 mode] W' (DIn W' ei t)) ∧
      (∀ W' B e C f, ei = 0 → Rz W' (decide (x.num < 0)) B e x.num → Rn W' C f x.den → Calls Tryz.prog 13 #[.agg #[.bool (decide (x.num < 0)), .slice B (dq x.num.natAbs) e, .slice C (dq x.den) f], .int .i64 mode] W' (RZv W' (decide (t < 0)) t)) ∧
      (∀ W' B e C f, ei = 0 → ZA W' (decide (t < 0)) B (dl t.natAbs) e t → Rz W' (decide (t < 0)) C f t → Calls Tryz.prog 12 #[.agg #[.bool (decide (t < 0)), .slice B (dl t.natAbs) e], .agg #[.bool (decide (t < 0)), .slice C (dq t.natAbs) f]] W' (BoolR W' true)) := by
    by_cases hm : 1 ≤ mode ∧ mode ≤ 7
    · obtain ⟨t, ht, C1, C2⟩ := int_two (mode := mode) nz nm2 br hx bx hm
      refine ⟨true, 0, t, .inl ⟨rfl, rfl, hm.1, hm.2⟩, fun W' hb => (C1 W' hb).mono fun e w' ⟨A, c, he, hz, hb⟩ => ⟨_, A, _, c, he, fun _ => ⟨rfl, rfl, hz⟩, hb⟩, fun W' B e C f _ g1 g2 => C2 W' _ B e C f g1 g2, fun W' B e C f _ g1 g2 => zis5_h g1 g2.1 ht⟩
    · refine ⟨false, 1, 0, .inr ⟨rfl, rfl, hm⟩, fun W' hb => (int_mode hm).mono fun e w' ⟨he, hb⟩ => ⟨false, none, 0, 0, he, (fun h => by cases h), hb⟩, fun W' B e C f h _ _ => absurd h (by decide), fun W' B e C f h _ _ => absurd h (by decide)⟩
  have hg : decide (1 ≤ mode ∧ mode ≤ 7) = g := by
    rcases hM with ⟨e, _, a, b⟩ | ⟨e, _, a⟩
    · rw [e]; exact decide_eq_true ⟨a, b⟩
    · rw [e]; exact decide_eq_false a
  exact rsays_w (ka := ka) (kb := kb) (gd := gd) (g := g) (sx := decide (x.num < 0)) (pt := pt) (pg := pg) (pp := pp) (vt := vt) (jt := jt) (vg := vg) (jg := jg) (vp := vp) (jp := jp) (m2 := val W32 z0) (ei := ei) (et := et) (es := es) (ep := ep) (t := t) (x := x) w
    (fun W' => rlong5_h hl.1 hl.2) (fun W' hb => r5own h1 h2 hl hx W' hb) CI CT CS CP
    (fun W' => by rw [← hg]; exact mode_h.mono fun _ _ h => ⟨h.1, Bel.hid h.2⟩)
    CJ CZ (fun W' B e C f g1 g2 => CA W' _ B e C f g1 g2) (fun W' B e C f g1 g2 => CB W' _ B e C f g1 g2)
    (fun W' hb => (hG W' hb).mono fun _ _ h => ⟨h.1, Bel.hid h.2⟩)
    (fun W' hb => w5_words h0 (by omega) W' hb)
    (fun W' B e C f D f' hh g1 g2 g3 => CC hh W' _ B e C f D f' g1 g2 g3)
    CD1 CD2 CD3 (decide_eq_false (by omega)) hT hE hP hgd hM
theorem rsays_all (w : World) (h1 : n1 = z1.length ∧ n1 ≤ c1 ∧ Rd U32 w w.heap.size A1 z1 ∧ Good32 z1) (h2 : n2 = z2.length ∧ n2 ≤ c2 ∧ Rd U32 w w.heap.size A2 z2 ∧ Good32 z2) (_ : -9223372036854775808 ≤ scale ∧ scale ≤ 9223372036854775807) (_ : -9223372036854775808 ≤ many ∧ many ≤ 9223372036854775807) (_ : -9223372036854775808 ≤ mode ∧ mode ≤ 9223372036854775807)
    (h0 : n0 = z0.length ∧ n0 ≤ c0 ∧ Rd U32 w w.heap.size A0 z0 ∧ Good32 z0) (_ : -9223372036854775808 ≤ s0 ∧ s0 ≤ 9223372036854775807) :
    Calls Tryz.prog 3 #[.agg #[.bool b1, .slice A1 n1 c1, .slice A2 n2 c2], .int .i64 scale, .int .i64 many, .int .i64 mode, .agg #[.bool b0, .slice A0 n0 c0, .int .i64 s0]] w fun e w' => e = .returned (.bool true) ∧ Below w.heap.size w w' := by
  by_cases hl : n1 ≤ 12 ∧ n2 ≤ 12
  · by_cases hl0 : n0 ≤ 10
    · exact rsays_main w h1 h2 h0 hl hl0
    · exact rsays_l2 w hl (by omega)
  · exact rsays_l1 w hl
end
end Go.Proofs.YtmiklffjffdkgaaGreatDoor
