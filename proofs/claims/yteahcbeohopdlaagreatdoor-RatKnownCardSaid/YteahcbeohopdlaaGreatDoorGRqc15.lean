/- Several texts in one, each with its own sentence and conditions. -/
import Derived.Test.YteahcbeohopdlaaGreatDoorZd
import Derived.Test.YteahcbeohopdlaaGreatDoorKp
import Derived.Deep.RegionHeld3
section
/- Package num: Cmp. Conditions: at most 100000 words. -/
open Go.RowKit
set_option maxRecDepth 100000
namespace Go.Proofs.YteahcbeohopdlaaGreatDoor
def cmpZ (a b : Int) : Int := if a < b then -1 else if b < a then 1 else 0
theorem al2 (W : World) (o1 o2 : Obj) : Below W.heap.size W ((W.alloc o1).alloc o2) := ((Below.refl _ _).alloc (Nat.le_refl _) _).alloc (by simp) _
section
variable {W : World} {b b' : Bool} {A A' : Option Addr} {n n' c c' : Nat} {z z' : Int}
set_option maxHeartbeats 4000000 in
theorem zcmp_h {v : Int} (h : ZA W b A n c z) (h' : ZA W b' A' n' c' z') (hv : cmpZ z z' = v) : Calls Tryz.prog 93 #[.agg #[.bool b, .slice A n c], .agg #[.bool b', .slice A' n' c']] W (IntPost W v) := by
  obtain ⟨s, hs⟩ : ∃ s, z.sign = s := ⟨_, rfl⟩
  obtain ⟨s', hs'⟩ : ∃ s, z'.sign = s := ⟨_, rfl⟩
  have hsb : -1 ≤ s ∧ s ≤ 1 ∧ (s < 0 ↔ z < 0) ∧ (0 < s ↔ 0 < z) := by
    subst hs
    rcases Int.lt_trichotomy z 0 with h | h | h
    · rw [Int.sign_eq_neg_one_of_neg h]; omega
    · subst h; decide
    · rw [Int.sign_eq_one_of_pos h]; omega
  have hsb' : -1 ≤ s' ∧ s' ≤ 1 ∧ (s' < 0 ↔ z' < 0) ∧ (0 < s' ↔ 0 < z') := by
    subst hs'
    rcases Int.lt_trichotomy z' 0 with h | h | h
    · rw [Int.sign_eq_neg_one_of_neg h]; omega
    · subst h; decide
    · rw [Int.sign_eq_one_of_pos h]; omega
  have CA : Hid (∀ W', Below W.heap.size W W' → Calls Tryz.prog 95 #[.agg #[.bool b, .slice A n c]] W' (IntPost W' s)) := fun W' hb => sign_h (h.up hb) hs
  have CB : Hid (∀ W', Below W.heap.size W W' → Calls Tryz.prog 95 #[.agg #[.bool b', .slice A' n' c']] W' (IntPost W' s')) := fun W' hb => sign_h (h'.up hb) hs'
  have CC : Hid (∀ W', Below W.heap.size W W' → Calls Tryz.prog 131 #[.agg #[.slice A n c], .agg #[.slice A' n' c']] W' (IntPost W' (cmpI z.natAbs z'.natAbs))) := fun W' hb => cmp_h (h.up hb).1 (h'.up hb).1 rfl
  have CD : Hid (∀ W', Below W.heap.size W W' → Calls Tryz.prog 131 #[.agg #[.slice A' n' c'], .agg #[.slice A n c]] W' (IntPost W' (cmpI z'.natAbs z.natAbs))) := fun W' hb => cmp_h (h'.up hb).1 (h.up hb).1 rfl
  have ways : (s < s' ∧ v = -1) ∨ (¬ s < s' ∧ s' < s ∧ v = 1) ∨ (¬ s < s' ∧ ¬ s' < s ∧ s < 0 ∧ v = cmpI z'.natAbs z.natAbs) ∨ (¬ s < s' ∧ ¬ s' < s ∧ ¬ s < 0 ∧ v = cmpI z.natAbs z'.natAbs) := by
    unfold cmpZ at hv
    unfold cmpI
    by_cases h1 : s < s'
    · left; rw [if_pos (by omega)] at hv; exact ⟨h1, hv.symm⟩
    · by_cases h2 : s' < s
      · right; left; rw [if_neg (by omega), if_pos (by omega)] at hv; exact ⟨h1, h2, hv.symm⟩
      · by_cases h3 : s < 0
        · right; right; left
          refine ⟨h1, h2, h3, ?_⟩
          rw [← hv]
          split <;> split <;> (try split) <;> omega
        · right; right; right
          refine ⟨h1, h2, h3, ?_⟩
          rw [← hv]
          split <;> split <;> (try split) <;> omega
  clear h h' hv hs hs' hsb hsb'
  rcases ways with ⟨h1, hv⟩ | ⟨h1, h2, hv⟩ | ⟨h1, h2, h3, hv⟩ | ⟨h1, h2, h3, hv⟩
  all_goals
    have HV := hide hv
    clear hv
    go_enter Tryz.func93, Tryz.ntmps93
    go_wp2_with fail
    obtain ⟨W0, hW0⟩ : ∃ W0, W0 = ((W.alloc (.cells #[.bool b, .slice A n c] 27)).alloc (.cells #[.bool b', .slice A' n' c'] 27)) := ⟨_, rfl⟩
    rw [← hW0]
    have HA : Hid (Zcell W0.drew W.heap.size b A n c) := by rw [hW0]; exact Zcell.dr ((zc_new _ _ _ _ _ _).al _)
    have HA' : Hid (Zcell W0.drew (W.heap.size + 1) b' A' n' c') := by rw [hW0]; exact Zcell.dr (zc_new1 _ _ _ _ _ _ _)
    have HW : Hid (Below W.heap.size W W0.drew) := by rw [hW0]; exact Below.drew (al2 _ _ _)
    clear hW0
    go_region_held3 (fun w' => w'.cell? ⟨W.heap.size, 0, none⟩ = some (.bool b) ∧ w'.cell? ⟨W.heap.size, 1, none⟩ = some (.slice A n c) ∧ w'.cell? ⟨W.heap.size + 1, 0, none⟩ = some (.bool b') ∧ w'.cell? ⟨W.heap.size + 1, 1, none⟩ = some (.slice A' n' c')) (first | exact ⟨HA.out.c0, HA.out.c1, HA'.out.c0, HA'.out.c1⟩) (first | (go_at_call 95; (with_reducible refine (CA.out _ HW.out).mono ?_); rintro e w1 ⟨rfl, hbk⟩; replace HA := hide (HA.out.up hbk); replace HA' := hide (HA'.out.up hbk); replace HW := chain HW hbk.out) | (go_at_call 95; (with_reducible refine (CB.out _ HW.out).mono ?_); rintro e w2 ⟨rfl, hbk⟩; replace HA := hide (HA.out.up hbk); replace HA' := hide (HA'.out.up hbk); replace HW := chain HW hbk.out) | fail)
  · go_wp2_with fail
    go_ret
    exact ⟨by rw [HV.out]; rfl, HW.out⟩
  · go_wp2_with fail
    replace HA := hide HA.out.dr
    replace HA' := hide HA'.out.dr
    replace HW := hide (Below.drew HW.out)
    go_region_held3 (fun w' => w'.cell? ⟨W.heap.size, 0, none⟩ = some (.bool b) ∧ w'.cell? ⟨W.heap.size, 1, none⟩ = some (.slice A n c) ∧ w'.cell? ⟨W.heap.size + 1, 0, none⟩ = some (.bool b') ∧ w'.cell? ⟨W.heap.size + 1, 1, none⟩ = some (.slice A' n' c')) (first | exact ⟨HA.out.c0, HA.out.c1, HA'.out.c0, HA'.out.c1⟩) (first | (go_at_call 95; (with_reducible refine (CA.out _ HW.out).mono ?_); rintro e w1 ⟨rfl, hbk⟩; replace HA := hide (HA.out.up hbk); replace HA' := hide (HA'.out.up hbk); replace HW := chain HW hbk.out) | (go_at_call 95; (with_reducible refine (CB.out _ HW.out).mono ?_); rintro e w2 ⟨rfl, hbk⟩; replace HA := hide (HA.out.up hbk); replace HA' := hide (HA'.out.up hbk); replace HW := chain HW hbk.out) | fail)
    go_wp2_with fail
    go_ret
    exact ⟨by rw [HV.out]; rfl, HW.out⟩
  · go_wp2_with fail
    replace HA := hide HA.out.dr
    replace HA' := hide HA'.out.dr
    replace HW := hide (Below.drew HW.out)
    go_region_held3 (fun w' => w'.cell? ⟨W.heap.size, 0, none⟩ = some (.bool b) ∧ w'.cell? ⟨W.heap.size, 1, none⟩ = some (.slice A n c) ∧ w'.cell? ⟨W.heap.size + 1, 0, none⟩ = some (.bool b') ∧ w'.cell? ⟨W.heap.size + 1, 1, none⟩ = some (.slice A' n' c')) (first | exact ⟨HA.out.c0, HA.out.c1, HA'.out.c0, HA'.out.c1⟩) (first | (go_at_call 95; (with_reducible refine (CA.out _ HW.out).mono ?_); rintro e w1 ⟨rfl, hbk⟩; replace HA := hide (HA.out.up hbk); replace HA' := hide (HA'.out.up hbk); replace HW := chain HW hbk.out) | (go_at_call 95; (with_reducible refine (CB.out _ HW.out).mono ?_); rintro e w2 ⟨rfl, hbk⟩; replace HA := hide (HA.out.up hbk); replace HA' := hide (HA'.out.up hbk); replace HW := chain HW hbk.out) | fail)
    have a0 := HA.out.c0
    have a1 := HA.out.c1
    have x0 := HA'.out.c0
    have x1 := HA'.out.c1
    go_wp2_with (first | (go_at_call 95; (with_reducible refine (CA.out _ HW.out).mono ?_); rintro e w3 ⟨rfl, hbk⟩; replace HA := hide (HA.out.up hbk); replace HA' := hide (HA'.out.up hbk); replace HW := chain HW hbk.out; clear a0 a1 x0 x1; have a0 := HA.out.c0; have a1 := HA.out.c1; have x0 := HA'.out.c0; have x1 := HA'.out.c1) | (go_at_call 131; (with_reducible refine (CD.out _ HW.out).mono ?_); rintro e w4 ⟨rfl, hbk⟩) | fail)
    go_ret
    exact ⟨by rw [HV.out]; rfl, chain HW hbk.out⟩
  · go_wp2_with fail
    replace HA := hide HA.out.dr
    replace HA' := hide HA'.out.dr
    replace HW := hide (Below.drew HW.out)
    go_region_held3 (fun w' => w'.cell? ⟨W.heap.size, 0, none⟩ = some (.bool b) ∧ w'.cell? ⟨W.heap.size, 1, none⟩ = some (.slice A n c) ∧ w'.cell? ⟨W.heap.size + 1, 0, none⟩ = some (.bool b') ∧ w'.cell? ⟨W.heap.size + 1, 1, none⟩ = some (.slice A' n' c')) (first | exact ⟨HA.out.c0, HA.out.c1, HA'.out.c0, HA'.out.c1⟩) (first | (go_at_call 95; (with_reducible refine (CA.out _ HW.out).mono ?_); rintro e w1 ⟨rfl, hbk⟩; replace HA := hide (HA.out.up hbk); replace HA' := hide (HA'.out.up hbk); replace HW := chain HW hbk.out) | (go_at_call 95; (with_reducible refine (CB.out _ HW.out).mono ?_); rintro e w2 ⟨rfl, hbk⟩; replace HA := hide (HA.out.up hbk); replace HA' := hide (HA'.out.up hbk); replace HW := chain HW hbk.out) | fail)
    have a0 := HA.out.c0
    have a1 := HA.out.c1
    have x0 := HA'.out.c0
    have x1 := HA'.out.c1
    go_wp2_with (first | (go_at_call 95; (with_reducible refine (CA.out _ HW.out).mono ?_); rintro e w3 ⟨rfl, hbk⟩; replace HA := hide (HA.out.up hbk); replace HA' := hide (HA'.out.up hbk); replace HW := chain HW hbk.out; clear a0 a1 x0 x1; have a0 := HA.out.c0; have a1 := HA.out.c1; have x0 := HA'.out.c0; have x1 := HA'.out.c1) | (go_at_call 131; (with_reducible refine (CC.out _ HW.out).mono ?_); rintro e w4 ⟨rfl, hbk⟩) | fail)
    go_ret
    exact ⟨by rw [HV.out]; rfl, chain HW hbk.out⟩
end
end Go.Proofs.YteahcbeohopdlaaGreatDoor
end

section
/- Fractions: the reckoning. No conditions. -/
open Go.RowKit
set_option maxRecDepth 100000
namespace Go.Proofs.YteahcbeohopdlaaGreatDoor
/-- How two fractions stand to each other. -/
def cmpR (a b : Rat) : Int := if a < b then -1 else if b < a then 1 else 0
theorem mk_cross {z : Int} {d : Nat} (hd : 0 < d) : (mkRat z d).num * (d : Int) = z * ((mkRat z d).den : Int) := by
  have h := (Rat.mkRat_eq_iff (n₁ := (mkRat z d).num) (d₁ := (mkRat z d).den) (n₂ := z) (d₂ := d) (mkRat z d).den_nz (by omega)).1 (Rat.mkRat_self _)
  exact h
theorem mul_lt_iff {a b c : Int} (hc : 0 < c) : a * c < b * c ↔ a < b := ⟨fun h => Int.lt_of_mul_lt_mul_right h (by omega), fun h => Int.mul_lt_mul_of_pos_right h hc⟩
theorem mk_lt {z z' : Int} {d d' : Nat} (hd : 0 < d) (hd' : 0 < d') : mkRat z d < mkRat z' d' ↔ z * (d' : Int) < z' * (d : Int) := by
  have e := mk_cross (z := z) hd
  have e' := mk_cross (z := z') hd'
  rw [Rat.lt_iff]
  obtain ⟨a, ha⟩ : ∃ a, a = (mkRat z d).num := ⟨_, rfl⟩
  obtain ⟨b, hb⟩ : ∃ b, b = (mkRat z' d').num := ⟨_, rfl⟩
  obtain ⟨x, hx⟩ : ∃ x : Int, x = ((mkRat z d).den : Int) := ⟨_, rfl⟩
  obtain ⟨y, hy⟩ : ∃ y : Int, y = ((mkRat z' d').den : Int) := ⟨_, rfl⟩
  have hx0 : 0 < x := by rw [hx]; exact Int.natCast_pos.2 (mkRat z d).den_pos
  have hy0 : 0 < y := by rw [hy]; exact Int.natCast_pos.2 (mkRat z' d').den_pos
  rw [← ha, ← hb, ← hx, ← hy]
  rw [← ha, ← hx] at e
  rw [← hb, ← hy] at e'
  have hD : (0 : Int) < (d : Int) * (d' : Int) := Int.mul_pos (by omega) (by omega)
  have hX : (0 : Int) < x * y := Int.mul_pos hx0 hy0
  rw [← mul_lt_iff hD, ← mul_lt_iff (a := z * (d' : Int)) hX]
  have e1 : a * y * ((d : Int) * (d' : Int)) = (a * (d : Int)) * (d' : Int) * y := by ac_rfl
  have e2 : b * x * ((d : Int) * (d' : Int)) = (b * (d' : Int)) * (d : Int) * x := by ac_rfl
  have e3 : z * (d' : Int) * (x * y) = (z * x) * (d' : Int) * y := by ac_rfl
  have e4 : z' * (d : Int) * (x * y) = (z' * y) * (d : Int) * x := by ac_rfl
  rw [e1, e2, e3, e4, e, e']
theorem cmp_mk {z z' : Int} {d d' : Nat} (hd : 0 < d) (hd' : 0 < d') : cmpR (mkRat z d) (mkRat z' d') = (if z * (d' : Int) < z' * (d : Int) then -1 else if z' * (d : Int) < z * (d' : Int) then 1 else 0) := by
  unfold cmpR
  by_cases h1 : z * (d' : Int) < z' * (d : Int)
  · rw [if_pos h1, if_pos ((mk_lt hd hd').2 h1)]
  · rw [if_neg h1, if_neg (fun h => h1 ((mk_lt hd hd').1 h))]
    by_cases h2 : z' * (d : Int) < z * (d' : Int)
    · rw [if_pos h2, if_pos ((mk_lt hd' hd).2 h2)]
    · rw [if_neg h2, if_neg (fun h => h2 ((mk_lt hd' hd).1 h))]
theorem sign_mk {z : Int} {d : Nat} (hd : 0 < d) : (mkRat z d).num.sign = z.sign := by
  have e := mk_cross (z := z) hd
  have h := congrArg Int.sign e
  rw [Int.sign_mul, Int.sign_mul, Int.sign_eq_one_of_pos (a := (d : Int)) (by omega), Int.sign_eq_one_of_pos (a := ((mkRat z d).den : Int)) (Int.natCast_pos.2 (mkRat z d).den_pos), Int.mul_one, Int.mul_one] at h
  exact h
/-- In lowest terms: over and under the line. -/
theorem low_terms {z : Int} {d g : Nat} (hd : 0 < d) (hg : g = Nat.gcd z.natAbs d) : 0 < g ∧ (mkRat z d).num.natAbs = z.natAbs / g ∧ (mkRat z d).den = d / g ∧ z.natAbs % g = 0 ∧ d % g = 0 ∧ decide ((mkRat z d).num < 0) = decide (z < 0) := by
  have hg0 : 0 < g := by rw [hg]; exact Nat.gcd_pos_of_pos_right _ hd
  have h1 : g ∣ z.natAbs := by rw [hg]; exact Nat.gcd_dvd_left _ _
  have h2 : g ∣ d := by rw [hg]; exact Nat.gcd_dvd_right _ _
  have hc : Nat.gcd d z.natAbs = g := by rw [hg, Nat.gcd_comm]
  have hz : ((g : Nat) : Int) ∣ z := Int.ofNat_dvd_left.2 h1
  refine ⟨hg0, ?_, ?_, Nat.mod_eq_zero_of_dvd h1, Nat.mod_eq_zero_of_dvd h2, ?_⟩
  · rw [Rat.num_mkRat, if_neg (by omega), hc, Int.natAbs_ediv_of_dvd hz, Int.natAbs_natCast]
  · rw [Rat.den_mkRat, if_neg (by omega), hc]
  · have h := sign_mk (z := z) hd
    by_cases hn : z < 0
    · rw [decide_eq_true hn]
      rw [Int.sign_eq_neg_one_of_neg hn] at h
      exact decide_eq_true (Int.sign_eq_neg_one_iff_neg.1 h)
    · rw [decide_eq_false hn]
      refine decide_eq_false fun h2 => ?_
      rw [Int.sign_eq_neg_one_iff_neg.2 h2] at h
      exact hn (Int.sign_eq_neg_one_iff_neg.1 h.symm)
theorem add_mk {z z' : Int} {d d' : Nat} (hd : 0 < d) (hd' : 0 < d') : mkRat z d + mkRat z' d' = mkRat (z * d' + z' * d) (d * d') := Rat.mkRat_add_mkRat z z' (by omega) (by omega)
theorem mul_mk {z z' : Int} {d d' : Nat} : mkRat z d * mkRat z' d' = mkRat (z * z') (d * d') := Rat.mkRat_mul_mkRat z z' d d'
theorem neg_mk {z : Int} {d : Nat} : -mkRat z d = mkRat (-z) d := Rat.neg_mkRat z d
/-- What is turned about. -/
theorem inv_mk {z : Int} {d : Nat} (hz : z ≠ 0) (hd : 0 < d) : (mkRat z d)⁻¹ = mkRat (if z < 0 then -(d : Int) else (d : Int)) z.natAbs := by
  rw [← Rat.divInt_ofNat, Rat.inv_divInt]
  by_cases hn : z < 0
  · rw [if_pos hn, ← Rat.divInt_ofNat, ← Rat.neg_divInt_neg]
    congr 1; omega
  · rw [if_neg hn, ← Rat.divInt_ofNat]
    congr 1; omega
theorem floor_mk {z : Int} {d : Nat} (hd : 0 < d) : (mkRat z d).floor = z / (d : Int) := by
  have e := mk_cross (z := z) hd
  have hx0 : 0 < ((mkRat z d).den : Int) := Int.natCast_pos.2 (mkRat z d).den_pos
  rw [Rat.floor_def, ← Int.mul_ediv_mul_of_pos_left z (d : Int) hx0, ← e, Int.mul_comm (d : Int), Int.mul_ediv_mul_of_pos_left _ _ (by omega)]
end Go.Proofs.YteahcbeohopdlaaGreatDoor
end

section
/- Facts that go on through calls: a box known whole, a world above another; package rat: isZero, isOne, times. Conditions: at most 100000 words. -/
open Go.RowKit
set_option maxRecDepth 100000
namespace Go.Proofs.YteahcbeohopdlaaGreatDoor
/-- Block p holds the values, and may be written. -/
structure At (W : World) (p : Nat) (vs : List Value) : Prop where
  lt : p < W.heap.size
  all : ∀ i v, vs[i]? = some v → W.cell? ⟨p, i, none⟩ = some v ∧ W.frozen? ⟨p, i, none⟩ = false
def Bel (w W : World) : Prop := Below w.heap.size w W
theorem Bel.refl (w : World) : Bel w w := Below.refl _ _
theorem Bel.up {w W W' : World} (h : Bel w W) (hb : Hid (Below W.heap.size W W')) : Bel w W' := Below.trans h (hb.out.mono (Below.size h))
theorem Bel.al {w W : World} (h : Bel w W) (o : Obj) : Bel w (W.alloc o) := Below.alloc h (Below.size h) o
theorem Bel.dr {w W : World} (h : Bel w W) : Bel w W.drew := Below.drew h
theorem Bel.hid {w W : World} (h : Bel w W) : Hid (Below w.heap.size w W) := h
theorem Bel.of {w W : World} (h : Hid (Below w.heap.size w W)) : Bel w W := h
section
variable {W W' : World} {p : Nat} {u v x : Value} {vs : List Value}
theorem At.up (h : At W p vs) (hb : Hid (Below W.heap.size W W')) : At W' p vs :=
  ⟨Nat.lt_of_lt_of_le h.lt hb.out.size, fun i v hv => ⟨(hb.out.cell h.lt).trans (h.all i v hv).1, (hb.out.frozen h.lt).trans (h.all i v hv).2⟩⟩
theorem At.al (h : At W p vs) (o : Obj) : At (W.alloc o) p vs := h.up ((Below.refl _ _).alloc (Nat.le_refl _) o)
theorem At.dr (h : At W p vs) : At W.drew p vs := ⟨h.lt, h.all⟩
theorem At.c0 (h : At W p (v :: vs)) : W.cell? ⟨p, 0, none⟩ = some v := (h.all 0 v rfl).1
theorem At.c1 (h : At W p (u :: v :: vs)) : W.cell? ⟨p, 1, none⟩ = some v := (h.all 1 v rfl).1
theorem At.c2 (h : At W p (x :: u :: v :: vs)) : W.cell? ⟨p, 2, none⟩ = some v := (h.all 2 v rfl).1
theorem At.f0 (h : At W p (v :: vs)) : W.frozen? ⟨p, 0, none⟩ = false := (h.all 0 v rfl).2
theorem At.f1 (h : At W p (u :: v :: vs)) : W.frozen? ⟨p, 1, none⟩ = false := (h.all 1 v rfl).2
theorem At.f2 (h : At W p (x :: u :: v :: vs)) : W.frozen? ⟨p, 2, none⟩ = false := (h.all 2 v rfl).2
theorem at_new0 (W : World) (vs : List Value) (t : TypeId) : At (W.alloc (.cells vs.toArray t)) W.heap.size vs := by
  have h : (W.alloc (.cells vs.toArray t)).heap[W.heap.size]? = some (.cells vs.toArray t (0, 0)) := heap_alloc_new W _
  refine ⟨by simp, fun i v hv => ⟨?_, by unfold World.frozen?; rw [h]; simp⟩⟩
  rw [cell_of_row _ _ i _ t (0, 0) h]
  simpa using hv
theorem at_size {W X : World} {p : Nat} {vs : List Value} (h : At X W.heap.size vs) (e : W.heap.size = p) : At X p vs := e ▸ h
theorem at_new1 (W : World) (o : Obj) (vs : List Value) (t : TypeId) : At ((W.alloc o).alloc (.cells vs.toArray t)) (W.heap.size + 1) vs := at_size (at_new0 (W.alloc o) vs t) (by simp)
theorem at_new2 (W : World) (o o1 : Obj) (vs : List Value) (t : TypeId) : At (((W.alloc o).alloc o1).alloc (.cells vs.toArray t)) (W.heap.size + 1 + 1) vs := at_size (at_new0 ((W.alloc o).alloc o1) vs t) (by simp)
theorem at_new3 (W : World) (o o1 o2 : Obj) (vs : List Value) (t : TypeId) : At ((((W.alloc o).alloc o1).alloc o2).alloc (.cells vs.toArray t)) (W.heap.size + 1 + 1 + 1) vs := at_size (at_new0 (((W.alloc o).alloc o1).alloc o2) vs t) (by simp)
theorem at_new4 (W : World) (o o1 o2 o3 : Obj) (vs : List Value) (t : TypeId) : At (((((W.alloc o).alloc o1).alloc o2).alloc o3).alloc (.cells vs.toArray t)) (W.heap.size + 1 + 1 + 1 + 1) vs := at_size (at_new0 ((((W.alloc o).alloc o1).alloc o2).alloc o3) vs t) (by simp)
/-- A write into another block. -/
theorem At.far {q i : Nat} (h : At W p vs) (hq : q ≠ p) (u : Value) : At (W.setCell ⟨q, i, none⟩ u) p vs :=
  ⟨by have := h.lt; simpa [World.setCell] using this, fun j v hv => ⟨(World.cell?_setCell_far _ _ _ _ hq).trans (h.all j v hv).1, by rw [World.frozen?_setCell]; exact (h.all j v hv).2⟩⟩
/-- A write into this one. -/
theorem At.put {i : Nat} (h : At W p vs) (hi : i < vs.length) (u : Value) : At (W.setCell ⟨p, i, none⟩ u) p (vs.set i u) := by
  refine ⟨by have := h.lt; simpa [World.setCell] using this, fun j v hv => ?_⟩
  by_cases e : i = j
  · subst e
    rw [List.getElem?_set_self hi] at hv
    injection hv with hv
    obtain ⟨h1, h2⟩ := h.all i _ (List.getElem?_eq_getElem hi)
    exact ⟨by rw [← hv]; exact World.cell?_setCell_same _ _ _ h1, by rw [World.frozen?_setCell]; exact h2⟩
  · rw [List.getElem?_set_ne e] at hv
    exact ⟨(World.cell?_setCell_other _ _ _ _ (by intro h3; injection h3 with _ h4; exact e h4)).trans (h.all j v hv).1, by rw [World.frozen?_setCell]; exact (h.all j v hv).2⟩
/-- No word stands in a box of flags and slices. -/
def NoW (vs : List Value) : Prop := ∀ v ∈ vs, ∀ x : Nat, v ≠ U32 x
theorem Nm.put {A : Option Addr} {n c m i : Nat} (h : Nm W A n c m) (hp : At W p vs) (hi : i < vs.length) (hw : NoW vs) (u : Value) : Nm (W.setCell ⟨p, i, none⟩ u) A n c m :=
  h.setn (hp.all i _ (List.getElem?_eq_getElem hi)).1 (hw _ (List.getElem_mem hi)) u
end
def RetB (W : World) (b : Bool) (e : Ending) (w' : World) : Prop := e = .returned (.bool b) ∧ Bel W w'
end Go.Proofs.YteahcbeohopdlaaGreatDoor
end

section
/- Package rat: isZero, isOne, times, terms. Conditions: at most 100000 words. -/
open Go.RowKit
set_option maxRecDepth 100000
namespace Go.Proofs.YteahcbeohopdlaaGreatDoor
theorem cmp_u {W : World} {A A' : Option Addr} {n n' c c' m m' : Nat} (h : Nm W A n c m) (h' : Nm W A' n' c' m') : Calls Tryz.prog 131 #[.agg #[.slice A n c], .agg #[.slice A' n' c']] W (IntPost W (cmpI m m')) := cmp_h h h' rfl
section
variable {W : World} {b b' : Bool} {A A' : Option Addr} {n n' c c' m m' : Nat} {z z' : Int}
theorem rzero_h (h : Nm W A n c m) : Calls Tryz.prog 78 #[.agg #[.slice A n c]] W (RetB W (decide (m = 0))) := by
  obtain ⟨u, hu⟩ : ∃ u, u = cmpI m 0 := ⟨_, rfl⟩
  have CC : Hid (∀ o, Calls Tryz.prog 131 #[.agg #[.slice A n c], .agg #[.slice none 0 0]] (W.alloc o) (IntPost (W.alloc o) u)) := fun o => by rw [hu]; exact cmp_u (h.al o) (nm_nil _ none 0)
  have HU : Hid ((u == 0) = decide (m = 0)) := by rw [hu]; exact cmpI_beq m 0
  clear h hu
  go_enter Tryz.func78, Tryz.ntmps78
  go_wp2_with (go_at_call 131; (with_reducible refine (CC.out _).mono ?_); rintro e w1 ⟨rfl, hbk⟩)
  go_ret
  exact ⟨bool_ret (by first | exact HU.out | (have := HU.out; simpa using this)), (bx1 hbk).2.2⟩
set_option maxHeartbeats 1000000 in
theorem rone_h (h : Nm W A n c m) : Calls Tryz.prog 87 #[.agg #[.slice A n c]] W (RetB W (decide (m = 1))) := by
  obtain ⟨u, hu⟩ : ∃ u, u = cmpI m 1 := ⟨_, rfl⟩
  have CO : Hid (∀ W', Calls Tryz.prog 10 #[.int .u64 1] W' (NumR W' 1)) := fun W' => of_h (v := 1) (by omega)
  have CC : Hid (∀ W' B d, Bel W W' → Nm W' B (dl 1) d 1 → Calls Tryz.prog 131 #[.agg #[.slice A n c], .agg #[.slice B (dl 1) d]] W' (IntPost W' u)) := fun W' B d hb h1 => by rw [hu]; exact cmp_u (h.up hb) h1
  have HU : Hid ((u == 0) = decide (m = 1)) := by rw [hu]; exact cmpI_beq m 1
  clear h hu
  go_enter Tryz.func87, Tryz.ntmps87
  go_wp2_with fail
  have HA := (at_new0 W [.slice A n c] 25).dr
  have HW := ((Bel.refl W).al (.cells #[.slice A n c] 25)).dr
  go_region_held3 (fun w' => w'.cell? ⟨W.heap.size, 0, none⟩ = some (.slice A n c)) (first | exact HA.c0)
    (first | (go_at_call 10; (with_reducible refine (CO.out _).mono ?_); rintro e w1 ⟨B, d, rfl, hn, hbk⟩; replace HA := HA.up hbk; replace HW := HW.up hbk) | (go_at_call 131; (with_reducible refine (CC.out _ _ _ HW hn).mono ?_); rintro e w2 ⟨rfl, hbk⟩; replace HW := HW.up hbk; replace HA := HA.up hbk) | fail)
  go_wp2
  go_ret
  exact ⟨bool_ret (by first | exact HU.out | (have := HU.out; simpa using this)), HW⟩

/-- What a call leaves that returns an integer: as ZR, with a sign of its own name. -/
theorem ret_z {w2 : World} {B : Option Addr} {d p : Nat} {v : Int} {v0 v1 : Value} (hW : Bel W w2) (hp : W.heap.size ≤ p) (hR : At w2 p [v0, v1]) (hw : NoW [v0, v1]) (hn : ZA w2 (decide (v < 0)) B (dl v.natAbs) d v) :
    ZR W v (.returned (.agg #[.bool (decide (v < 0)), .slice B (dl v.natAbs) d])) ((w2.setCell ⟨p, 0, none⟩ (.bool (decide (v < 0)))).setCell ⟨p, 1, none⟩ (.slice B (dl v.natAbs) d)) := by
  refine ⟨B, d, rfl, ⟨?_, hn.2⟩, (Below.setCell hW hp _).setCell hp _⟩
  exact (hn.1.put (i := 0) hR (by simp) hw _).put (i := 1) (hR.put (i := 0) (by simp) _) (by simp) (by
    intro u hu x
    simp at hu
    rcases hu with rfl | rfl
    · intro e; cases e
    · exact hw _ (by simp) x) _
theorem now2 {b : Bool} {A : Option Addr} {n c : Nat} : NoW [.bool b, .slice A n c] := by
  intro u hu x
  simp at hu
  rcases hu with rfl | rfl <;> (intro e; cases e)
theorem now1 {A : Option Addr} {n c : Nat} : NoW [.slice A n c] := by
  intro u hu x
  simp at hu
  subst hu
  intro e; cases e
theorem now3 {b : Bool} {A A' : Option Addr} {n c n' c' : Nat} : NoW [.bool b, .slice A n c, .slice A' n' c'] := by
  intro u hu x
  simp at hu
  rcases hu with rfl | rfl | rfl <;> (intro e; cases e)
set_option maxHeartbeats 1000000 in
theorem times_h {v : Int} (h : ZA W b A n c z) (h' : Nm W A' n' c' m) (hv : z * (m : Int) = v) (hd : dl v.natAbs ≤ 100000) : Calls Tryz.prog 94 #[.agg #[.bool b, .slice A n c], .agg #[.slice A' n' c']] W (ZR W v) := by
  have CM : Hid (∀ W', Bel W W' → Calls Tryz.prog 108 #[.agg #[.bool b, .slice A n c], .agg #[.bool false, .slice A' n' c']] W' (ZR W' v)) := fun W' hb => zmul_h (h.up hb) (za_of (b := false) (h'.up hb)) hv hd
  clear h h' hv hd
  go_enter Tryz.func94, Tryz.ntmps94
  have HB := Bel.refl W
  go_wp2_with (first | (go_at_call 108; (with_reducible refine (CM.out _ (((HB.al _).al _).al _)).mono ?_); rintro e w1 ⟨B, d, rfl, hn, hbk⟩; have HR := At.up (at_new2 _ _ _ _ _) hbk; replace HB := (((HB.al _).al _).al _).up hbk; have r0 := HR.c0; have r1 := HR.c1; have f0 := HR.f0; have f1 := HR.f1) | fail)
  refine bodyPost_ret (v := .agg #[.bool (decide (v < 0)), .slice B (dl v.natAbs) d]) (by simp [results, Tryz.results94, go_sem, r0, r1]) rfl ?_
  exact ret_z HB (by omega) HR now2 hn

/-- In world W the sign and the two slices tell the fraction r; the terms have at most K words. -/
def QA (W : World) (b : Bool) (A : Option Addr) (n c : Nat) (A' : Option Addr) (n' c' : Nat) (r : Rat) (K : Nat) : Prop :=
  ∃ (z : Int) (d : Nat), ZA W b A n c z ∧ Nm W A' n' c' d ∧ Hid (mkRat z d = r ∧ z.natAbs < W32 ^ K ∧ d < W32 ^ K)
theorem QA.up {W W' : World} {b : Bool} {A A' : Option Addr} {n c n' c' K : Nat} {r : Rat} (h : QA W b A n c A' n' c' r K) (hb : Hid (Below W.heap.size W W')) : QA W' b A n c A' n' c' r K := by
  obtain ⟨z, d, h1, h2, h3⟩ := h
  exact ⟨z, d, h1.up hb, h2.up hb, h3⟩
theorem QA.al {W : World} {b : Bool} {A A' : Option Addr} {n c n' c' K : Nat} {r : Rat} (h : QA W b A n c A' n' c' r K) (o : Obj) : QA (W.alloc o) b A n c A' n' c' r K := h.up ((Below.refl _ _).alloc (Nat.le_refl _) o)
theorem QA.dr {W : World} {b : Bool} {A A' : Option Addr} {n c n' c' K : Nat} {r : Rat} (h : QA W b A n c A' n' c' r K) : QA W.drew b A n c A' n' c' r K := h
/-- What terms leaves: over and under the line. -/
def TermsR (W : World) (r : Rat) (K : Nat) (e : Ending) (w' : World) : Prop :=
  ∃ b A n c A' n' c' z d, e = .returned (.tuple #[.agg #[.bool b, .slice A n c], .agg #[.slice A' n' c']]) ∧ ZA w' b A n c z ∧ Nm w' A' n' c' d ∧ Hid (0 < d ∧ mkRat z d = r ∧ z.natAbs < W32 ^ K ∧ d < W32 ^ K) ∧ Hid (Below W.heap.size W w')
theorem dl_one : dl 1 = 1 := by unfold dl; rw [digs_pos (by decide) (by decide)]; rw [show 1 / W32 = 0 from rfl, digs_zero]; rfl
set_option maxHeartbeats 2000000 in
theorem terms_h {r : Rat} {K : Nat} (h : QA W b A n c A' n' c' r K) (hK : 0 < K) : Calls Tryz.prog 81 #[.agg #[.bool b, .slice A n c, .slice A' n' c']] W (TermsR W r K) := by
  obtain ⟨z, d, hz, hd, hr⟩ := h
  have CZ : Hid (∀ W', Bel W W' → Calls Tryz.prog 78 #[.agg #[.slice A' n' c']] W' (RetB W' (decide (d = 0)))) := fun W' hb => rzero_h (hd.up hb)
  have HB := Bel.refl W
  by_cases h0 : d = 0
  · have HP : Hid (0 < 1 ∧ mkRat 0 1 = r ∧ (0 : Int).natAbs < W32 ^ K ∧ 1 < W32 ^ K) := by
      refine ⟨by decide, ?_, ?_, Nat.one_lt_pow (by omega) (by decide)⟩
      · rw [← hr.out.1, h0]; simp
      · exact Nat.pow_pos (by decide)
    rw [decide_eq_true h0] at CZ
    have CO : Hid (∀ W', Calls Tryz.prog 10 #[.int .u64 1] W' (NumR W' 1)) := fun W' => of_h (v := 1) (by omega)
    clear h0 hr hz hd
    go_enter Tryz.func81, Tryz.ntmps81
    go_wp2_with (first | (go_at_call 78; (with_reducible refine (CZ.out _ (((HB.al _).al _).al _)).mono ?_); rintro e w1 ⟨rfl, hbk⟩; have HQ := At.up (((at_new0 _ _ _).al _).al _) hbk; have HP0 := At.up ((at_new1 _ _ _ _).al _) hbk; have HP1 := At.up (at_new2 _ _ _ _ _) hbk; replace HB := (((HB.al _).al _).al _).up hbk) | (go_at_call 10; (with_reducible refine (CO.out _).mono ?_); rintro e w2 ⟨B, e2, rfl, hn, hbk⟩; replace HB := HB.up hbk; replace HQ := HQ.up hbk; replace HP0 := HP0.up hbk; replace HP1 := HP1.up hbk; have r0 := HP0.c0; have r1 := HP0.c1; have f0 := HP0.f0; have f1 := HP0.f1; have r2 := HP1.c0; have f2 := HP1.f0) | fail)
    refine bodyPost_ret (v := .tuple #[.agg #[.bool false, .slice none 0 0], .agg #[.slice B (dl 1) e2]]) (by simp [results, Tryz.results81, go_sem, r0, r1, r2]) rfl ?_
    have P0 := HP0.put (i := 0) (by simp) (.bool false)
    have P1 := P0.put (i := 1) (by simp) (.slice none 0 0)
    have Q1 := (HP1.far (i := 0) (show W.heap.size + 1 ≠ W.heap.size + 1 + 1 by omega) (.bool false)).far (i := 1) (show W.heap.size + 1 ≠ W.heap.size + 1 + 1 by omega) (.slice none 0 0)
    refine ⟨false, none, 0, 0, B, dl 1, e2, 0, 1, rfl, ⟨nm_nil _ _ _, rfl⟩, ?_, HP, ?_⟩
    · exact ((hn.put HP0 (by simp) now2 _).put P0 (by simp) now2 _).put Q1 (by simp) now1 _
    · exact (((Below.setCell HB (by simp) _).setCell (by simp) _).setCell (by simp; omega) _)
  · have HP : Hid (0 < d ∧ mkRat z d = r ∧ z.natAbs < W32 ^ K ∧ d < W32 ^ K) := ⟨by omega, hr.out⟩
    rw [decide_eq_false h0] at CZ
    clear h0 hr
    go_enter Tryz.func81, Tryz.ntmps81
    go_wp2_with (first | (go_at_call 78; (with_reducible refine (CZ.out _ (((HB.al _).al _).al _)).mono ?_); rintro e w1 ⟨rfl, hbk⟩; have HQ := At.up (((at_new0 _ _ _).al _).al _) hbk; have HP0 := At.up ((at_new1 _ _ _ _).al _) hbk; have HP1 := At.up (at_new2 _ _ _ _ _) hbk; replace HB := (((HB.al _).al _).al _).up hbk; replace hz := (((hz.al _).al _).al _).up hbk; replace hd := (((hd.al _).al _).al _).up hbk; have r0 := HP0.c0; have r1 := HP0.c1; have f0 := HP0.f0; have f1 := HP0.f1; have r2 := HP1.c0; have f2 := HP1.f0; have q0 := HQ.c0; have q1 := HQ.c1; have q2 := HQ.c2) | fail)
    go_region_with (fail)
    all_goals
      go_wp2_with fail
      refine bodyPost_ret (v := .tuple #[.agg #[.bool b, .slice A n c], .agg #[.slice A' n' c']]) (by simp [results, Tryz.results81, go_sem, r0, r1, r2]) rfl ?_
      have P0 := HP0.put (i := 0) (by simp) (.bool b)
      have P1 := P0.put (i := 1) (by simp) (.slice A n c)
      have Q1 := (HP1.far (i := 0) (show W.heap.size + 1 ≠ W.heap.size + 1 + 1 by omega) (.bool b)).far (i := 1) (show W.heap.size + 1 ≠ W.heap.size + 1 + 1 by omega) (.slice A n c)
      refine ⟨b, A, n, c, A', n', c', z, d, rfl, ⟨?_, hz.2⟩, ?_, HP, ?_⟩
      · exact ((hz.1.put HP0 (by simp) now2 _).put P0 (by simp) now2 _).put Q1 (by simp) now1 _
      · exact ((hd.put HP0 (by simp) now2 _).put P0 (by simp) now2 _).put Q1 (by simp) now1 _
      · exact (((Below.setCell HB (by simp) _).setCell (by simp) _).setCell (by simp; omega) _).drew
end
end Go.Proofs.YteahcbeohopdlaaGreatDoor
end

section
/- Package rat: lowest, Of, Int. Conditions: less than 100000 words. -/
open Go.RowKit
set_option maxRecDepth 100000
namespace Go.Proofs.YteahcbeohopdlaaGreatDoor
def DivV (W : World) (q r : Nat) (e : Ending) (w' : World) : Prop :=
  ∃ A c A' c', e = .returned (.tuple #[.agg #[.slice A (dl q) c], .agg #[.slice A' (dl r) c'], .bool true]) ∧ Nm w' A (dl q) c q ∧ Nm w' A' (dl r) c' r ∧ Hid (Below W.heap.size W w')
/-- What a call leaves that returns a fraction: valid. -/
def QR (W : World) (r : Rat) (e : Ending) (w' : World) : Prop :=
  ∃ A c A' c', e = .returned (.agg #[.bool (decide (r.num < 0)), .slice A (dl r.num.natAbs) c, .slice A' (dl r.den) c']) ∧ ZA w' (decide (r.num < 0)) A (dl r.num.natAbs) c r.num ∧ Nm w' A' (dl r.den) c' r.den ∧ Hid (Below W.heap.size W w')
theorem below3 {W w2 : World} {p : Nat} (h : Bel W w2) (hp : W.heap.size ≤ p) (x y z : Value) : Bel W (((w2.setCell ⟨p, 0, none⟩ x).setCell ⟨p, 1, none⟩ y).setCell ⟨p, 2, none⟩ z) :=
  ((Below.setCell h hp _).setCell hp _).setCell hp _
theorem Nm.put3 {W : World} {p : Nat} {v0 v1 v2 : Value} {A : Option Addr} {n c m : Nat} (h : Nm W A n c m) (hp : At W p [v0, v1, v2]) (hw : NoW [v0, v1, v2]) {b : Bool} {B B' : Option Addr} {k d k' d' : Nat} :
    Nm (((W.setCell ⟨p, 0, none⟩ (.bool b)).setCell ⟨p, 1, none⟩ (.slice B k d)).setCell ⟨p, 2, none⟩ (.slice B' k' d')) A n c m := by
  have h1 := hp.put (i := 0) (by simp) (.bool b)
  have h2 := h1.put (i := 1) (by simp) (.slice B k d)
  have w1 : NoW [.bool b, v1, v2] := by
    intro u hu x; simp at hu
    rcases hu with rfl | rfl | rfl
    · intro e; cases e
    · exact hw _ (by simp) x
    · exact hw _ (by simp) x
  have w2 : NoW [.bool b, .slice B k d, v2] := by
    intro u hu x; simp at hu
    rcases hu with rfl | rfl | rfl
    · intro e; cases e
    · intro e; cases e
    · exact hw _ (by simp) x
  exact ((h.put hp (by simp) hw _).put h1 (by simp) w1 _).put h2 (by simp) w2 _
section
variable {W : World} {b b' : Bool} {A A' : Option Addr} {n n' c c' m m' : Nat} {z z' : Int}
theorem div_v {q r : Nat} (h : Nm W A n c m) (h' : Nm W A' n' c' m') (h0 : 0 < m') (hd : dl m ≤ 99999) (hq : m / m' = q) (hr : m % m' = r) : Calls Tryz.prog 115 #[.agg #[.slice A n c], .agg #[.slice A' n' c']] W (DivV W q r) := by
  subst hq; subst hr
  exact div_h h h' h0 hd
set_option maxHeartbeats 4000000 in
theorem lowest_h {r : Rat} {d : Nat} (hz : ZA W b A n c z) (hd : Nm W A' n' c' d) (h0 : 0 < d) (hr : mkRat z d = r) (bz : dl z.natAbs ≤ 99999) (bd : dl d ≤ 99999) :
    Calls Tryz.prog 79 #[.agg #[.bool b, .slice A n c], .agg #[.slice A' n' c']] W (QR W r) := by
  obtain ⟨g, hg⟩ : ∃ g, g = Nat.gcd z.natAbs d := ⟨_, rfl⟩
  obtain ⟨hg0, e1, e2, e3, e4, e5⟩ := low_terms (z := z) h0 hg
  rw [hr] at e1 e2 e5
  obtain ⟨v, hv⟩ : ∃ v, v = r.num.natAbs := ⟨_, rfl⟩
  obtain ⟨u, hu⟩ : ∃ u, u = r.den := ⟨_, rfl⟩
  obtain ⟨s, hs⟩ : ∃ s, s = z.sign := ⟨_, rfl⟩
  have CG : Hid (∀ W', Bel W W' → Calls Tryz.prog 92 #[.agg #[.slice A n c], .agg #[.slice A' n' c']] W' (NumR W' g)) := fun W' hb => gcd_h (hz.up hb).1 (hd.up hb) hg.symm bz bd
  have CD : Hid (∀ W' B e, Bel W W' → Nm W' B (dl g) e g → Calls Tryz.prog 115 #[.agg #[.slice A n c], .agg #[.slice B (dl g) e]] W' (DivV W' v 0)) := fun W' B e hb hn => div_v (hz.up hb).1 hn hg0 bz (by rw [hv, e1]) e3
  have CE : Hid (∀ W' B e, Bel W W' → Nm W' B (dl g) e g → Calls Tryz.prog 115 #[.agg #[.slice A' n' c'], .agg #[.slice B (dl g) e]] W' (DivV W' u 0)) := fun W' B e hb hn => div_v (hd.up hb) hn hg0 bd (by rw [hu, e2]) e4
  have CS : Hid (∀ W', Bel W W' → Calls Tryz.prog 95 #[.agg #[.bool b, .slice A n c]] W' (IntPost W' s)) := fun W' hb => sign_h (hz.up hb) hs.symm
  have HS : Hid (decide (s < 0) = decide (r.num < 0)) := by
    unfold Hid
    rw [e5, hs]
    by_cases h : z < 0
    · rw [Int.sign_eq_neg_one_of_neg h, decide_eq_true h]; rfl
    · rw [decide_eq_false h]
      refine decide_eq_false fun h2 => h ?_
      exact Int.sign_neg_iff.1 h2
  have HV := hide hv
  have HU := hide hu
  clear hz hd h0 hr bz bd hg hg0 e1 e2 e3 e4 e5 hv hu hs
  have HB := Bel.refl W
  go_enter Tryz.func79, Tryz.ntmps79
  go_wp2_with (first | (go_at_call 92; (with_reducible refine (CG.out _ (((HB.al _).al _).al _)).mono ?_); rintro e w1 ⟨Ag, cg, rfl, ng, hbk⟩; have HP := At.up (((at_new0 _ _ _).al _).al _) hbk; have HN := At.up ((at_new1 _ _ _ _).al _) hbk; have HR := At.up (at_new2 _ _ _ _ _) hbk; replace HB := (((HB.al _).al _).al _).up hbk; have hp_0 := HP.c0; have hp_1 := HP.c1; have hp_l := HP.lt; have hn_0 := HN.c0; have hn_l := HN.lt) | (go_at_call 115; (with_reducible refine (CD.out _ _ _ (HB.al _) (ng.al _)).mono ?_); rintro e w2 ⟨Ao, co, Ax, cx, rfl, no, nx, hbk⟩; have HG := At.up (at_new0 _ _ _) hbk; replace HB := (HB.al _).up hbk; replace HP := (HP.al _).up hbk; replace HN := (HN.al _).up hbk; replace HR := (HR.al _).up hbk; replace ng := (ng.al _).up hbk; clear hp_0 hp_1 hp_l hn_0 hn_l; have hp_0 := HP.c0; have hp_1 := HP.c1; have hp_l := HP.lt; have hn_0 := HN.c0; have hn_l := HN.lt; have hg_0 := HG.c0; have hg_l := HG.lt; have hL2 := HR.lt) | (go_at_call 115; (with_reducible refine (CE.out _ _ _ ((HB.al _).al _) ((ng.al _).al _)).mono ?_); rintro e w3 ⟨Au, cu, Ay, cy, rfl, nu, ny, hbk⟩; have HO := At.up ((at_new0 _ _ _).al _) hbk; have HX := At.up (at_new1 _ _ _ _) hbk; replace HB := ((HB.al _).al _).up hbk; replace HP := ((HP.al _).al _).up hbk; replace HN := ((HN.al _).al _).up hbk; replace HR := ((HR.al _).al _).up hbk; replace no := ((no.al _).al _).up hbk; clear hp_0 hp_1 hp_l hn_0 hn_l hg_0 hg_l; have hL3 := HR.lt) | fail)
  have HQ := ((at_new0 w3 [.slice Au (dl u) cu] 25).al (.cells #[.slice Ay (dl 0) cy] 25)).dr
  replace HB := ((HB.al (.cells #[.slice Au (dl u) cu] 25)).al (.cells #[.slice Ay (dl 0) cy] 25)).dr
  replace HP := ((HP.al (.cells #[.slice Au (dl u) cu] 25)).al (.cells #[.slice Ay (dl 0) cy] 25)).dr
  replace HO := ((HO.al (.cells #[.slice Au (dl u) cu] 25)).al (.cells #[.slice Ay (dl 0) cy] 25)).dr
  replace HR := ((HR.al (.cells #[.slice Au (dl u) cu] 25)).al (.cells #[.slice Ay (dl 0) cy] 25)).dr
  have no2 := ((no.al (.cells #[.slice Au (dl u) cu] 25)).al (.cells #[.slice Ay (dl 0) cy] 25)).dr
  have nu2 := ((nu.al (.cells #[.slice Au (dl u) cu] 25)).al (.cells #[.slice Ay (dl 0) cy] 25)).dr
  go_region_held3 (fun w' => w'.cell? ⟨W.heap.size, 0, none⟩ = some (.bool b) ∧ w'.cell? ⟨W.heap.size, 1, none⟩ = some (.slice A n c) ∧ w'.cell? ⟨w2.heap.size, 0, none⟩ = some (.slice Ao (dl v) co) ∧ w'.cell? ⟨w3.heap.size, 0, none⟩ = some (.slice Au (dl u) cu))
    (first | exact ⟨HP.c0, HP.c1, HO.c0, HQ.c0⟩ | exact ⟨(((HP.far (by omega) _).far (by omega) _).far (by omega) _).c0, (((HP.far (by omega) _).far (by omega) _).far (by omega) _).c1, (((HO.far (by omega) _).far (by omega) _).far (by omega) _).c0, (((HQ.far (by omega) _).far (by omega) _).far (by omega) _).c0⟩)
    (first | (go_at_call 95; (with_reducible refine (CS.out _ HB).mono ?_); rintro e w4 ⟨rfl, hbk⟩; replace HB := HB.up hbk; replace HP := HP.up hbk; replace HO := HO.up hbk; replace HQ := HQ.up hbk; replace HR := HR.up hbk; replace no2 := no2.up hbk; replace nu2 := nu2.up hbk; have hr_0 := HR.c0; have hr_1 := HR.c1; have hr_2 := HR.c2; have hr_l := HR.lt; have hr_f0 := HR.f0; have hr_f1 := HR.f1; have hr_f2 := HR.f2) | fail)
  go_wp2_with fail
  refine bodyPost_ret (v := .agg #[.bool (decide (s < 0)), .slice Ao (dl v) co, .slice Au (dl u) cu]) (by simp [results, Tryz.results79, go_sem, hr_0, hr_1, hr_2]) rfl ?_
  have hv := HV.out
  have hu := HU.out
  subst hv
  subst hu
  rw [HS.out]
  exact ⟨Ao, co, Au, cu, rfl, zr_of (no2.put3 HR now3), nu2.put3 HR now3, below3 HB (by omega) _ _ _⟩
end
end Go.Proofs.YteahcbeohopdlaaGreatDoor
end

section
/- Package rat: Of, Int, Sign, Floor. Conditions: less than 100000 words. -/

open Go.RowKit
set_option maxRecDepth 100000
namespace Go.Proofs.YteahcbeohopdlaaGreatDoor
def OfYes (W : World) (r : Rat) (e : Ending) (w' : World) : Prop := ∃ A c A' c', e = .returned (.tuple #[.agg #[.bool (decide (r.num < 0)), .slice A (dl r.num.natAbs) c, .slice A' (dl r.den) c'], .bool true]) ∧ ZA w' (decide (r.num < 0)) A (dl r.num.natAbs) c r.num ∧ Nm w' A' (dl r.den) c' r.den ∧ Hid (Below W.heap.size W w')
def OfNo (W : World) (e : Ending) (w' : World) : Prop := e = .returned (.tuple #[.agg #[.bool false, .slice none 0 0, .slice none 0 0], .bool false]) ∧ Hid (Below W.heap.size W w')
theorem ZR.al {W w' : World} {v : Int} {e : Ending} (h : ZR W v e w') (o : Obj) : ZR W v e (w'.alloc o) := by
  obtain ⟨A, c, he, h1, h2⟩ := h
  exact ⟨A, c, he, h1.al o, (Bel.al (Bel.of h2) o).hid⟩
section
variable {W : World} {b b' : Bool} {A A' : Option Addr} {n n' c c' m m' : Nat} {z z' : Int} {r : Rat} {K : Nat}
set_option maxHeartbeats 2000000 in
theorem of_no (hd : Nm W A' n' c' 0) : Calls Tryz.prog 8 #[.agg #[.bool b, .slice A n c], .agg #[.slice A' n' c']] W (OfNo W) := by
  have CZ : Hid (∀ W', Bel W W' → Calls Tryz.prog 78 #[.agg #[.slice A' n' c']] W' (RetB W' true)) := fun W' hb => rzero_h (m := 0) (hd.up hb)
  clear hd
  have HB := Bel.refl W
  go_enter Tryz.func8, Tryz.ntmps8
  go_wp2_with (first | (go_at_call 78; (with_reducible refine (CZ.out _ (((HB.al _).al _).al _)).mono ?_); rintro e w1 ⟨rfl, hbk⟩; have HP := At.up (((at_new0 _ _ _).al _).al _) hbk; have HN := At.up ((at_new1 _ _ _ _).al _) hbk; have HR := At.up (at_new2 _ _ _ _ _) hbk; replace HB := (((HB.al _).al _).al _).up hbk; have hr_0 := HR.c0; have hr_1 := HR.c1; have hr_2 := HR.c2; have hr_l := HR.lt; have hr_f0 := HR.f0; have hr_f1 := HR.f1; have hr_f2 := HR.f2) | fail)
  refine bodyPost_ret (v := .tuple #[.agg #[.bool false, .slice none 0 0, .slice none 0 0], .bool false]) (by simp [results, Tryz.results8, go_sem, hr_0, hr_1, hr_2]) rfl ?_
  exact ⟨rfl, below3 HB (by omega) _ _ _⟩
set_option maxHeartbeats 2000000 in
theorem of_yes {d : Nat} (hz : ZA W b A n c z) (hd : Nm W A' n' c' d) (h0 : 0 < d) (hr : mkRat z d = r) (bz : dl z.natAbs ≤ 99999) (bd : dl d ≤ 99999) :
    Calls Tryz.prog 8 #[.agg #[.bool b, .slice A n c], .agg #[.slice A' n' c']] W (OfYes W r) := by
  have CZ : Hid (∀ W', Bel W W' → Calls Tryz.prog 78 #[.agg #[.slice A' n' c']] W' (RetB W' false)) := fun W' hb => by
    have h1 := rzero_h (hd.up hb)
    rwa [decide_eq_false (by omega)] at h1
  have CL : Hid (∀ W', Bel W W' → Calls Tryz.prog 79 #[.agg #[.bool b, .slice A n c], .agg #[.slice A' n' c']] W' (QR W' r)) := fun W' hb => lowest_h (hz.up hb) (hd.up hb) h0 hr bz bd
  clear hz hd h0 hr bz bd
  have HB := Bel.refl W
  go_enter Tryz.func8, Tryz.ntmps8
  go_wp2_with (first | (go_at_call 78; (with_reducible refine (CZ.out _ (((HB.al _).al _).al _)).mono ?_); rintro e w1 ⟨rfl, hbk⟩; have HP := At.up (((at_new0 _ _ _).al _).al _) hbk; have HN := At.up ((at_new1 _ _ _ _).al _) hbk; have HR := At.up (at_new2 _ _ _ _ _) hbk; replace HB := (((HB.al _).al _).al _).up hbk; have hp_0 := HP.c0; have hp_1 := HP.c1; have hp_l := HP.lt; have hn_0 := HN.c0; have hn_l := HN.lt) | (go_at_call 79; (with_reducible refine (CL.out _ HB).mono ?_); rintro e w2 ⟨B, e1, B', e2, rfl, nz, nd, hbk⟩; replace HB := HB.up hbk; replace HR := HR.up hbk; clear hp_0 hp_1 hp_l hn_0 hn_l; have hr_0 := HR.c0; have hr_1 := HR.c1; have hr_2 := HR.c2; have hr_l := HR.lt; have hr_f0 := HR.f0; have hr_f1 := HR.f1; have hr_f2 := HR.f2) | fail)
  refine bodyPost_ret (v := .tuple #[.agg #[.bool (decide (r.num < 0)), .slice B (dl r.num.natAbs) e1, .slice B' (dl r.den) e2], .bool true]) (by simp [results, Tryz.results8, go_sem, hr_0, hr_1, hr_2]) rfl ?_
  exact ⟨B, e1, B', e2, rfl, zr_of (nz.1.put3 HR now3), nd.put3 HR now3, below3 HB (by first | omega | simp | (simp; omega)) _ _ _⟩
set_option maxHeartbeats 2000000 in
theorem rsign_h {v : Int} (h : QA W b A n c A' n' c' r K) (hK : 0 < K) (hv : r.num.sign = v) : Calls Tryz.prog 20 #[.agg #[.bool b, .slice A n c, .slice A' n' c']] W (IntPost W v) := by
  have CT : Hid (∀ W', Bel W W' → Calls Tryz.prog 81 #[.agg #[.bool b, .slice A n c, .slice A' n' c']] W' (TermsR W' r K)) := fun W' hb => terms_h (h.up hb) hK
  have CS : Hid (∀ W' s B k e z d, ZA W' s B k e z → Hid (0 < d ∧ mkRat z d = r ∧ z.natAbs < W32 ^ K ∧ d < W32 ^ K) → Calls Tryz.prog 95 #[.agg #[.bool s, .slice B k e]] W' (IntPost W' v)) := fun W' s B k e z d hz hd => sign_h hz (by rw [← hv, ← hd.out.2.1, sign_mk hd.out.1])
  clear h hv
  have HB := Bel.refl W
  go_enter Tryz.func20, Tryz.ntmps20
  go_wp2_with (first | (go_at_call 81; (with_reducible refine (CT.out _ (HB.al _)).mono ?_); rintro e w1 ⟨s, B, k, e1, B', k', e2, zv, d, rfl, zp, np, hp, hbk⟩; replace HB := (HB.al _).up hbk) | (go_at_call 95; (with_reducible refine (CS.out _ _ _ _ _ _ _ ((zp.al _).al _) hp).mono ?_); rintro e w2 ⟨rfl, hbk⟩; replace HB := ((HB.al _).al _).up hbk) | fail)
  go_ret
  exact ⟨rfl, HB⟩
end
end Go.Proofs.YteahcbeohopdlaaGreatDoor
end
