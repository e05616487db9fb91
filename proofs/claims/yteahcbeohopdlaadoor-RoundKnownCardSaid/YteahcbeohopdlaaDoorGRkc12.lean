/- Several texts in one, each with its own sentence and conditions. -/
import Derived.Test.YteahcbeohopdlaaDoorKp
section
/- Fractions: the reckoning. No conditions. -/
open Go.RowKit
set_option maxRecDepth 100000
namespace Go.Proofs.YteahcbeohopdlaaDoor
/-- How two fractions stand to each other. -/
def cmpR (a b : Rat) : Int := if a < b then -1 else if b < a then 1 else 0
theorem mk_cross {z : Int} {d : Nat} (hd : 0 < d) : (mkRat z d).num * (d : Int) = z * ((mkRat z d).den : Int) := by
  have h := (Rat.mkRat_eq_iff (n₁ := (mkRat z d).num) (d₁ := (mkRat z d).den) (n₂ := z) (d₂ := d) (mkRat z d).den_nz (by omega)).1 (Rat.mkRat_self _)
  exact h
theorem mul_lt_iff {a b c : Int} (hc : 0 < c) : a * c < b * c ↔ a < b := ⟨fun h => Int.lt_of_mul_lt_mul_right h (by omega), fun h => Int.mul_lt_mul_of_pos_right h hc⟩
theorem mk_lt {z z' : Int} {d d' : Nat} (hd : 0 < d) (hd' : 0 < d') : mkRat z d < mkRat z' d' ↔ z * (d' : Int) < z' * (d : Int) := by
  have e := mk_cross (z := z) hd
  have e' := mk_cross (z := z') hd'
  rw [Rat.lt_iff]
  obtain ⟨a, ha⟩ : ∃ a, a = (mkRat z d).num := ⟨_, rfl⟩
  obtain ⟨b, hb⟩ : ∃ b, b = (mkRat z' d').num := ⟨_, rfl⟩
  obtain ⟨x, hx⟩ : ∃ x : Int, x = ((mkRat z d).den : Int) := ⟨_, rfl⟩
  obtain ⟨y, hy⟩ : ∃ y : Int, y = ((mkRat z' d').den : Int) := ⟨_, rfl⟩
  have hx0 : 0 < x := by rw [hx]; exact Int.natCast_pos.2 (mkRat z d).den_pos
  have hy0 : 0 < y := by rw [hy]; exact Int.natCast_pos.2 (mkRat z' d').den_pos
  rw [← ha, ← hb, ← hx, ← hy]
  rw [← ha, ← hx] at e
  rw [← hb, ← hy] at e'
  have hD : (0 : Int) < (d : Int) * (d' : Int) := Int.mul_pos (by omega) (by omega)
  have hX : (0 : Int) < x * y := Int.mul_pos hx0 hy0
  rw [← mul_lt_iff hD, ← mul_lt_iff (a := z * (d' : Int)) hX]
  have e1 : a * y * ((d : Int) * (d' : Int)) = (a * (d : Int)) * (d' : Int) * y := by ac_rfl
  have e2 : b * x * ((d : Int) * (d' : Int)) = (b * (d' : Int)) * (d : Int) * x := by ac_rfl
  have e3 : z * (d' : Int) * (x * y) = (z * x) * (d' : Int) * y := by ac_rfl
  have e4 : z' * (d : Int) * (x * y) = (z' * y) * (d : Int) * x := by ac_rfl
  rw [e1, e2, e3, e4, e, e']
theorem cmp_mk {z z' : Int} {d d' : Nat} (hd : 0 < d) (hd' : 0 < d') : cmpR (mkRat z d) (mkRat z' d') = (if z * (d' : Int) < z' * (d : Int) then -1 else if z' * (d : Int) < z * (d' : Int) then 1 else 0) := by
  unfold cmpR
  by_cases h1 : z * (d' : Int) < z' * (d : Int)
  · rw [if_pos h1, if_pos ((mk_lt hd hd').2 h1)]
  · rw [if_neg h1, if_neg (fun h => h1 ((mk_lt hd hd').1 h))]
    by_cases h2 : z' * (d : Int) < z * (d' : Int)
    · rw [if_pos h2, if_pos ((mk_lt hd' hd).2 h2)]
    · rw [if_neg h2, if_neg (fun h => h2 ((mk_lt hd' hd).1 h))]
theorem sign_mk {z : Int} {d : Nat} (hd : 0 < d) : (mkRat z d).num.sign = z.sign := by
  have e := mk_cross (z := z) hd
  have h := congrArg Int.sign e
  rw [Int.sign_mul, Int.sign_mul, Int.sign_eq_one_of_pos (a := (d : Int)) (by omega), Int.sign_eq_one_of_pos (a := ((mkRat z d).den : Int)) (Int.natCast_pos.2 (mkRat z d).den_pos), Int.mul_one, Int.mul_one] at h
  exact h
/-- In lowest terms: over and under the line. -/
theorem low_terms {z : Int} {d g : Nat} (hd : 0 < d) (hg : g = Nat.gcd z.natAbs d) : 0 < g ∧ (mkRat z d).num.natAbs = z.natAbs / g ∧ (mkRat z d).den = d / g ∧ z.natAbs % g = 0 ∧ d % g = 0 ∧ decide ((mkRat z d).num < 0) = decide (z < 0) := by
  have hg0 : 0 < g := by rw [hg]; exact Nat.gcd_pos_of_pos_right _ hd
  have h1 : g ∣ z.natAbs := by rw [hg]; exact Nat.gcd_dvd_left _ _
  have h2 : g ∣ d := by rw [hg]; exact Nat.gcd_dvd_right _ _
  have hc : Nat.gcd d z.natAbs = g := by rw [hg, Nat.gcd_comm]
  have hz : ((g : Nat) : Int) ∣ z := Int.ofNat_dvd_left.2 h1
  refine ⟨hg0, ?_, ?_, Nat.mod_eq_zero_of_dvd h1, Nat.mod_eq_zero_of_dvd h2, ?_⟩
  · rw [Rat.num_mkRat, if_neg (by omega), hc, Int.natAbs_ediv_of_dvd hz, Int.natAbs_natCast]
  · rw [Rat.den_mkRat, if_neg (by omega), hc]
  · have h := sign_mk (z := z) hd
    by_cases hn : z < 0
    · rw [decide_eq_true hn]
      rw [Int.sign_eq_neg_one_of_neg hn] at h
      exact decide_eq_true (Int.sign_eq_neg_one_iff_neg.1 h)
    · rw [decide_eq_false hn]
      refine decide_eq_false fun h2 => ?_
      rw [Int.sign_eq_neg_one_iff_neg.2 h2] at h
      exact hn (Int.sign_eq_neg_one_iff_neg.1 h.symm)
theorem add_mk {z z' : Int} {d d' : Nat} (hd : 0 < d) (hd' : 0 < d') : mkRat z d + mkRat z' d' = mkRat (z * d' + z' * d) (d * d') := Rat.mkRat_add_mkRat z z' (by omega) (by omega)
theorem mul_mk {z z' : Int} {d d' : Nat} : mkRat z d * mkRat z' d' = mkRat (z * z') (d * d') := Rat.mkRat_mul_mkRat z z' d d'
theorem neg_mk {z : Int} {d : Nat} : -mkRat z d = mkRat (-z) d := Rat.neg_mkRat z d
/-- What is turned about. -/
theorem inv_mk {z : Int} {d : Nat} (hz : z ≠ 0) (hd : 0 < d) : (mkRat z d)⁻¹ = mkRat (if z < 0 then -(d : Int) else (d : Int)) z.natAbs := by
  rw [← Rat.divInt_ofNat, Rat.inv_divInt]
  by_cases hn : z < 0
  · rw [if_pos hn, ← Rat.divInt_ofNat, ← Rat.neg_divInt_neg]
    congr 1; omega
  · rw [if_neg hn, ← Rat.divInt_ofNat]
    congr 1; omega
theorem floor_mk {z : Int} {d : Nat} (hd : 0 < d) : (mkRat z d).floor = z / (d : Int) := by
  have e := mk_cross (z := z) hd
  have hx0 : 0 < ((mkRat z d).den : Int) := Int.natCast_pos.2 (mkRat z d).den_pos
  rw [Rat.floor_def, ← Int.mul_ediv_mul_of_pos_left z (d : Int) hx0, ← e, Int.mul_comm (d : Int), Int.mul_ediv_mul_of_pos_left _ _ (by omega)]
end Go.Proofs.YteahcbeohopdlaaDoor
end

section
/- Rounding in numbers: which integer beside p / q a mode takes; how near it is. No conditions. -/
open Go.RowKit
set_option maxRecDepth 100000
namespace Go.Proofs.YteahcbeohopdlaaDoor
/-- Where the distances don't tell: does the mode m take the integer above f? -/
def lnUp (m f : Int) : Bool :=
  if m = 1 ∨ m = 5 then decide (f < 0) else if m = 2 ∨ m = 6 then !decide (f < 0) else if m = 7 then decide (f % 2 ≠ 0) else decide (m = 4)
/-- f + r / q is no integer: does the mode m take the integer above f? -/
def rdUp (m f : Int) (r q : Nat) : Bool :=
  if m ≤ 4 then lnUp m f else if r + r < q then false else if q < r + r then true else lnUp m f
/-- p / q rounded by the mode m; over 0 it is 0. -/
def rdZ (m p : Int) (q : Nat) : Int :=
  if q = 0 then 0 else if p % (q : Int) = 0 then p / (q : Int) else if rdUp m (p / (q : Int)) (p % (q : Int)).natAbs q = true then p / (q : Int) + 1 else p / (q : Int)
/-- A fraction rounded by the mode m. -/
def rdR (m : Int) (x : Rat) : Int := rdZ m x.num x.den
theorem rdUp_mul {m f : Int} {r q g : Nat} (hg : 0 < g) : rdUp m f (r * g) (q * g) = rdUp m f r q := by
  unfold rdUp
  have e1 : (r * g + r * g < q * g) = (r + r < q) := by rw [← Nat.add_mul]; exact propext (Nat.mul_lt_mul_right hg)
  have e2 : (q * g < r * g + r * g) = (q < r + r) := by rw [← Nat.add_mul]; exact propext (Nat.mul_lt_mul_right hg)
  simp only [e1, e2]
theorem rdZ_mul {m p : Int} {q g : Nat} (hg : 0 < g) : rdZ m (p * (g : Int)) (q * g) = rdZ m p q := by
  have hg' : (0 : Int) < (g : Int) := by omega
  unfold rdZ
  by_cases hq : q = 0
  · rw [if_pos hq, if_pos (by rw [hq, Nat.zero_mul])]
  have hq2 : q * g ≠ 0 := Nat.mul_ne_zero hq (by omega)
  rw [if_neg hq, if_neg hq2]
  have e1 : p * (g : Int) / ((q * g : Nat) : Int) = p / (q : Int) := by
    rw [Int.natCast_mul, Int.mul_comm p, Int.mul_comm (q : Int)]; exact Int.mul_ediv_mul_of_pos p (q : Int) hg'
  have e2 : p * (g : Int) % ((q * g : Nat) : Int) = p % (q : Int) * (g : Int) := by
    rw [Int.natCast_mul, Int.mul_comm p, Int.mul_comm (q : Int), Int.mul_emod_mul_of_pos p (q : Int) hg', Int.mul_comm]
  have e3 : (p % (q : Int) * (g : Int) = 0) = (p % (q : Int) = 0) := propext ⟨fun h => by
    rcases Int.mul_eq_zero.1 h with h | h
    · exact h
    · omega, fun h => by rw [h, Int.zero_mul]⟩
  have e4 : (p % (q : Int) * (g : Int)).natAbs = (p % (q : Int)).natAbs * g := by rw [Int.natAbs_mul, Int.natAbs_natCast]
  rw [e1, e2, e4, rdUp_mul hg]
  simp only [e3]
theorem rdZ_mk (m z : Int) (d : Nat) : rdZ m z d = rdR m (mkRat z d) := by
  by_cases hd : d = 0
  · subst hd
    rw [Rat.mkRat_zero]
    unfold rdR rdZ
    rw [if_pos rfl, if_neg (by decide)]
    rfl
  · obtain ⟨h1, h2, h3, h4, h5, h6⟩ := low_terms (z := z) (d := d) (by omega) rfl
    obtain ⟨g, hg⟩ : ∃ g, g = Nat.gcd z.natAbs d := ⟨_, rfl⟩
    rw [← hg] at h1 h2 h3 h4 h5
    have hden : d = (mkRat z d).den * g := by
      rw [h3]; exact (Nat.div_mul_cancel (Nat.dvd_of_mod_eq_zero h5)).symm
    have hx := mk_cross (z := z) (d := d) (by omega)
    have k1 : ∀ (num : Int) (den g d : Nat), num * (d : Int) = z * (den : Int) → d = den * g → 0 < den → z = num * (g : Int) := by
      rintro num den g d h rfl hp
      refine Int.eq_of_mul_eq_mul_right (by omega : (den : Int) ≠ 0) ?_
      rw [← h, Int.natCast_mul, Int.mul_assoc, Int.mul_comm (g : Int)]
    have k2 : ∀ (num : Int) (den g : Nat), z = num * (g : Int) → d = den * g → 0 < g → rdZ m z d = rdZ m num den := by
      rintro num den g rfl rfl hg
      exact rdZ_mul hg
    exact k2 _ _ g (k1 _ _ g d hx hden (mkRat z d).den_pos) hden h1
theorem rd_near {m p : Int} {q : Nat} (hq : 0 < q) : rdZ m p q * (q : Int) - p < (q : Int) ∧ -(q : Int) < rdZ m p q * (q : Int) - p ∧ (5 ≤ m → 2 * (rdZ m p q * (q : Int) - p) ≤ (q : Int) ∧ -(q : Int) ≤ 2 * (rdZ m p q * (q : Int) - p)) := by
  have h1 := Int.emod_add_mul_ediv p (q : Int)
  have h2 := Int.emod_nonneg p (by omega : (q : Int) ≠ 0)
  have h3 := Int.emod_lt_of_pos p (by omega : (0 : Int) < (q : Int))
  obtain ⟨f, hf⟩ : ∃ f, f = p / (q : Int) := ⟨_, rfl⟩
  obtain ⟨r, hr⟩ : ∃ r, r = p % (q : Int) := ⟨_, rfl⟩
  obtain ⟨X, hX⟩ : ∃ X, X = (q : Int) * f := ⟨_, rfl⟩
  unfold rdZ
  rw [if_neg (by omega), ← hf, ← hr]
  rw [← hr, ← hf, ← hX] at h1
  rw [← hr] at h2 h3
  by_cases h0 : r = 0
  · rw [if_pos h0, Int.mul_comm, ← hX]
    refine ⟨by omega, by omega, fun _ => ⟨by omega, by omega⟩⟩
  · rw [if_neg h0]
    by_cases hu : rdUp m f r.natAbs q = true
    · rw [if_pos hu, Int.add_mul, Int.one_mul, Int.mul_comm, ← hX]
      refine ⟨by omega, by omega, fun h5 => ?_⟩
      unfold rdUp at hu
      rw [if_neg (by omega)] at hu
      by_cases h6 : r.natAbs + r.natAbs < q
      · rw [if_pos h6] at hu; cases hu
      · exact ⟨by omega, by omega⟩
    · rw [if_neg hu, Int.mul_comm, ← hX]
      refine ⟨by omega, by omega, fun h5 => ?_⟩
      unfold rdUp at hu
      rw [if_neg (by omega)] at hu
      by_cases h6 : r.natAbs + r.natAbs < q
      · exact ⟨by omega, by omega⟩
      · rw [if_neg h6] at hu
        by_cases h7 : q < r.natAbs + r.natAbs
        · rw [if_pos h7] at hu; exact absurd rfl hu
        · exact ⟨by omega, by omega⟩
theorem rdR_int (m n : Int) : rdR m (n : Rat) = n := by
  unfold rdR rdZ
  rw [show ((n : Rat)).den = 1 from rfl, show ((n : Rat)).num = n from rfl, if_neg (by decide), if_pos (by omega)]
  omega
end Go.Proofs.YteahcbeohopdlaaDoor
end
