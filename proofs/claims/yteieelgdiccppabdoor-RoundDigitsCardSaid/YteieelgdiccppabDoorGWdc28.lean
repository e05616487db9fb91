/- Several texts in one, each with its own sentence and conditions. -/
import Derived.Test.YteieelgdiccppabDoorGWdc27
import Derived.Test.YteieelgdiccppabDoorQe
import Derived.Test.YteieelgdiccppabDoorQd2
import Derived.Test.YteieelgdiccppabDoorGWdc22
section
/- RoundOrder in numbers: rounding keeps the order, and turns with the sign. No conditions. -/
open Go.RowKit
set_option maxRecDepth 100000
namespace Go.Proofs.YteieelgdiccppabDoor
theorem rdUp_mono {m f : Int} {r r' q : Nat} (h : r ≤ r') (hu : rdUp m f r q = true) : rdUp m f r' q = true := by
  unfold rdUp at *
  by_cases h4 : m ≤ 4
  · rw [if_pos h4] at *; exact hu
  · rw [if_neg h4] at *
    by_cases h1 : r + r < q
    · rw [if_pos h1] at hu; cases hu
    · rw [if_neg h1] at hu
      rw [if_neg (by omega)]
      by_cases h2 : q < r' + r'
      · rw [if_pos h2]
      · rw [if_neg h2]
        rw [if_neg (by omega)] at hu
        exact hu
theorem rdZ_mono {m p p' : Int} {q : Nat} (h : p ≤ p') : rdZ m p q ≤ rdZ m p' q := by
  by_cases hq : q = 0
  · unfold rdZ; rw [if_pos hq, if_pos hq]; exact Int.le_refl _
  have hq0 : (0 : Int) < (q : Int) := by omega
  have h1 := Int.emod_add_mul_ediv p (q : Int)
  have h2 := Int.emod_nonneg p (by omega : (q : Int) ≠ 0)
  have h3 := Int.emod_lt_of_pos p hq0
  have h1' := Int.emod_add_mul_ediv p' (q : Int)
  have h2' := Int.emod_nonneg p' (by omega : (q : Int) ≠ 0)
  have h3' := Int.emod_lt_of_pos p' hq0
  have hfg : p / (q : Int) ≤ p' / (q : Int) := Int.ediv_le_ediv hq0 h
  obtain ⟨f, hf⟩ : ∃ f, f = p / (q : Int) := ⟨_, rfl⟩
  obtain ⟨g, hg⟩ : ∃ g, g = p' / (q : Int) := ⟨_, rfl⟩
  obtain ⟨r, hr⟩ : ∃ r, r = p % (q : Int) := ⟨_, rfl⟩
  obtain ⟨r', hr'⟩ : ∃ r, r = p' % (q : Int) := ⟨_, rfl⟩
  unfold rdZ
  rw [if_neg hq, if_neg hq, ← hf, ← hg, ← hr, ← hr']
  rw [← hf, ← hr] at h1
  rw [← hg, ← hr'] at h1'
  rw [← hr] at h2 h3
  rw [← hr'] at h2' h3'
  rw [← hf, ← hg] at hfg
  rcases Int.lt_or_eq_of_le hfg with hlt | heq
  · split <;> split <;> (try split) <;> (try split) <;> omega
  · subst heq
    have hrr : r ≤ r' := by omega
    by_cases h0 : r = 0
    · rw [if_pos h0]
      split
      · omega
      · split <;> omega
    · rw [if_neg h0, if_neg (show ¬ r' = 0 by omega)]
      by_cases hu : rdUp m f r.natAbs q = true
      · rw [if_pos hu, if_pos (rdUp_mono (by omega) hu)]; exact Int.le_refl _
      · rw [if_neg hu]; split <;> omega
theorem rdR_mono {m : Int} {X Y : Rat} (h : X ≤ Y) : rdR m X ≤ rdR m Y := by
  have hx := X.den_pos
  have hy := Y.den_pos
  have e1 : X = mkRat (X.num * (Y.den : Int)) (X.den * Y.den) := by
    rw [Rat.mkRat_mul_right (by omega)]; exact (Rat.mkRat_self X).symm
  have e2 : Y = mkRat (Y.num * (X.den : Int)) (X.den * Y.den) := by
    rw [Nat.mul_comm X.den, Rat.mkRat_mul_right (by omega)]; exact (Rat.mkRat_self Y).symm
  have h1 : X.num * (Y.den : Int) ≤ Y.num * (X.den : Int) := (Rat.le_iff X Y).1 h
  have k1 : rdR m X = rdZ m (X.num * (Y.den : Int)) (X.den * Y.den) := by rw [rdZ_mk, ← e1]
  have k2 : rdR m Y = rdZ m (Y.num * (X.den : Int)) (X.den * Y.den) := by rw [rdZ_mk, ← e2]
  rw [k1, k2]
  exact rdZ_mono h1
/-- The mode that is turned about with the sign. -/
def turn (m : Int) : Int := if m = 3 then 4 else if m = 4 then 3 else m
theorem lnUp_turn {m f : Int} (hm : 1 ≤ m ∧ m ≤ 7) : lnUp (turn m) (-f - 1) = !lnUp m f := by
  have hmm : m = 1 ∨ m = 2 ∨ m = 3 ∨ m = 4 ∨ m = 5 ∨ m = 6 ∨ m = 7 := by omega
  have a1 : decide (-f - 1 < 0) = !decide (f < 0) := by
    by_cases h : f < 0
    · rw [decide_eq_true h, decide_eq_false (by omega)]; rfl
    · rw [decide_eq_false h, decide_eq_true (by omega)]; rfl
  have a2 : decide ((-f - 1) % 2 ≠ 0) = !decide (f % 2 ≠ 0) := by
    by_cases h : f % 2 ≠ 0
    · rw [decide_eq_true h, decide_eq_false (by omega)]; rfl
    · rw [decide_eq_false h, decide_eq_true (by omega)]; rfl
  rcases hmm with rfl | rfl | rfl | rfl | rfl | rfl | rfl
  · show decide (-f - 1 < 0) = !decide (f < 0); exact a1
  · show (!decide (-f - 1 < 0)) = !!decide (f < 0); rw [a1]
  · rfl
  · rfl
  · show decide (-f - 1 < 0) = !decide (f < 0); exact a1
  · show (!decide (-f - 1 < 0)) = !!decide (f < 0); rw [a1]
  · show decide ((-f - 1) % 2 ≠ 0) = !decide (f % 2 ≠ 0); exact a2
theorem turn_le {m : Int} (hm : 1 ≤ m ∧ m ≤ 7) : (turn m ≤ 4 ↔ m ≤ 4) ∧ 1 ≤ turn m ∧ turn m ≤ 7 := by
  unfold turn
  split
  · omega
  · split <;> omega
theorem rdZ_neg {m p : Int} {q : Nat} (hm : 1 ≤ m ∧ m ≤ 7) : rdZ (turn m) (-p) q = -rdZ m p q := by
  by_cases hq : q = 0
  · unfold rdZ; rw [if_pos hq, if_pos hq]; rfl
  have hq0 : (0 : Int) < (q : Int) := by omega
  have h1 := Int.emod_add_mul_ediv p (q : Int)
  have h2 := Int.emod_nonneg p (by omega : (q : Int) ≠ 0)
  have h3 := Int.emod_lt_of_pos p hq0
  obtain ⟨f, hf⟩ : ∃ f, f = p / (q : Int) := ⟨_, rfl⟩
  obtain ⟨r, hr⟩ : ∃ r, r = p % (q : Int) := ⟨_, rfl⟩
  rw [← hf, ← hr] at h1
  rw [← hr] at h2 h3
  by_cases h0 : r = 0
  · have u := unique_pos (a := -p) (q := -f) (r := 0) (k := q) (by omega) (by rw [Int.mul_neg]; omega) (by omega) (by omega)
    unfold rdZ
    rw [if_neg hq, if_neg hq, u.1, u.2, ← hf, ← hr, if_pos rfl, if_pos h0]
  · have u := unique_pos (a := -p) (q := -f - 1) (r := (q : Int) - r) (k := q) (by omega) (by rw [Int.mul_sub, Int.mul_neg]; omega) (by omega) (by omega)
    unfold rdZ
    rw [if_neg hq, if_neg hq, u.1, u.2, ← hf, ← hr, if_neg (by omega), if_neg h0]
    have hup : rdUp (turn m) (-f - 1) ((q : Int) - r).natAbs q = !rdUp m f r.natAbs q := by
      unfold rdUp
      by_cases h4 : m ≤ 4
      · rw [if_pos ((turn_le hm).1.2 h4), if_pos h4]; exact lnUp_turn hm
      · rw [if_neg (fun h => h4 ((turn_le hm).1.1 h)), if_neg h4]
        by_cases c1 : r.natAbs + r.natAbs < q
        · rw [if_neg (by omega), if_pos (by omega), if_pos c1]; rfl
        · by_cases c2 : q < r.natAbs + r.natAbs
          · rw [if_pos (by omega), if_neg c1, if_pos c2]; rfl
          · rw [if_neg (by omega), if_neg (by omega), if_neg c1, if_neg c2]; exact lnUp_turn hm
    rw [hup]
    cases rdUp m f r.natAbs q
    · rw [if_pos (by rfl), if_neg (by decide)]; omega
    · rw [if_neg (by decide), if_pos rfl]; omega
theorem rdR_neg {m : Int} {X : Rat} (hm : 1 ≤ m ∧ m ≤ 7) : rdR (turn m) (-X) = -rdR m X := by
  unfold rdR
  rw [Rat.neg_num, Rat.neg_den]
  exact rdZ_neg hm
end Go.Proofs.YteieelgdiccppabDoor
end

section
/- Rounding to so many digits, in numbers: how many digits are left. No conditions. -/
open Go.RowKit
set_option maxRecDepth 100000
namespace Go.Proofs.YteieelgdiccppabDoor
theorem rdZ_at (m : Int) (a : Int) {q : Nat} (hq : 0 < q) : rdZ m (a * (q : Int)) q = a := by
  unfold rdZ
  rw [if_neg (by omega), if_pos (Int.mul_emod_left _ _), Int.mul_ediv_cancel _ (by omega)]
theorem rd_low {m z : Int} {q a : Nat} (hq : 0 < q) (h : a * q ≤ z.natAbs) : a ≤ (rdZ m z q).natAbs := by
  by_cases hz : 0 ≤ z
  · have h1 : (a : Int) * (q : Int) ≤ z := by rw [← Int.natCast_mul]; omega
    have h2 := rdZ_mono (m := m) (q := q) h1
    rw [rdZ_at m _ hq] at h2
    omega
  · have h1 : z ≤ (-(a : Int)) * (q : Int) := by rw [Int.neg_mul, ← Int.natCast_mul]; omega
    have h2 := rdZ_mono (m := m) (q := q) h1
    rw [rdZ_at m _ hq] at h2
    omega
theorem rd_high {m z : Int} {q a : Nat} (hq : 0 < q) (h : z.natAbs ≤ a * q) : (rdZ m z q).natAbs ≤ a := by
  have h1 : z ≤ (a : Int) * (q : Int) := by rw [← Int.natCast_mul]; omega
  have h2 : (-(a : Int)) * (q : Int) ≤ z := by rw [Int.neg_mul, ← Int.natCast_mul]; omega
  have h3 := rdZ_mono (m := m) (q := q) h1
  have h4 := rdZ_mono (m := m) (q := q) h2
  rw [rdZ_at m _ hq] at h3 h4
  omega
/-- With s digits behind the point. -/
theorem digits_p {m z : Int} {d : Nat} {e : Int} {dg s : Nat} (hd : 0 < d) (hdg : 1 ≤ dg) (hs : ((dg : Int) - 1) - e = (s : Int)) (hl : le10 e z.natAbs d) (hg : lt10 (e + 1) z.natAbs d) :
    10 ^ (dg - 1) ≤ (rdR m (mkRat z d * mkRat ((10 ^ s : Nat) : Int) 1)).natAbs ∧ (rdR m (mkRat z d * mkRat ((10 ^ s : Nat) : Int) 1)).natAbs ≤ 10 ^ dg := by
  have hX : rdR m (mkRat z d * mkRat ((10 ^ s : Nat) : Int) 1) = rdZ m (z * ((10 ^ s : Nat) : Int)) d := by
    rw [rdZ_mk]
    congr 1
    rw [mul_mk, Nat.mul_one]
  have hn : (z * ((10 ^ s : Nat) : Int)).natAbs = z.natAbs * 10 ^ s := by rw [Int.natAbs_mul, Int.natAbs_natCast]
  rw [hX]
  unfold le10 at hl
  unfold lt10 at hg
  refine ⟨rd_low hd ?_, rd_high hd ?_⟩
  · rw [hn]
    by_cases h0 : 0 ≤ e
    · rw [show (-e).toNat = 0 by omega, Nat.pow_zero, Nat.mul_one] at hl
      rw [show dg - 1 = s + e.toNat by omega, Nat.pow_add, Nat.mul_assoc, Nat.mul_comm z.natAbs]
      exact Nat.mul_le_mul_left _ hl
    · rw [show e.toNat = 0 by omega, Nat.pow_zero, Nat.one_mul] at hl
      rw [show s = (-e).toNat + (dg - 1) by omega, Nat.pow_add, ← Nat.mul_assoc, Nat.mul_comm (10 ^ (dg - 1))]
      exact Nat.mul_le_mul_right _ hl
  · rw [hn]
    refine Nat.le_of_lt ?_
    by_cases h0 : 0 ≤ e + 1
    · rw [show (-(e + 1)).toNat = 0 by omega, Nat.pow_zero, Nat.mul_one] at hg
      rw [show dg = s + (e + 1).toNat by omega, Nat.pow_add, Nat.mul_assoc, Nat.mul_comm z.natAbs]
      exact Nat.mul_lt_mul_of_pos_left hg (Nat.pow_pos (by decide))
    · rw [show (e + 1).toNat = 0 by omega, Nat.pow_zero, Nat.one_mul] at hg
      rw [show s = (-(e + 1)).toNat + dg by omega, Nat.pow_add, ← Nat.mul_assoc, Nat.mul_comm (10 ^ dg)]
      exact Nat.mul_lt_mul_of_pos_right hg (Nat.pow_pos (by decide))
/-- With k noughts behind the digits. -/
theorem digits_n {m z : Int} {d : Nat} {e : Int} {dg k : Nat} (hd0 : 0 < d) (hdg : 1 ≤ dg) (hk : ((dg : Int) - 1) - e = -(k : Int)) (hl : le10 e z.natAbs d) (hg : lt10 (e + 1) z.natAbs d) :
    10 ^ (dg - 1) ≤ (rdR m (mkRat z d * mkRat ((10 ^ 0 : Nat) : Int) (10 ^ k))).natAbs ∧ (rdR m (mkRat z d * mkRat ((10 ^ 0 : Nat) : Int) (10 ^ k))).natAbs ≤ 10 ^ dg := by
  have hd : 0 < d * 10 ^ k := Nat.mul_pos hd0 (Nat.pow_pos (by decide))
  have hX : rdR m (mkRat z d * mkRat ((10 ^ 0 : Nat) : Int) (10 ^ k)) = rdZ m z (d * 10 ^ k) := by
    rw [rdZ_mk]
    congr 1
    rw [mul_mk, Nat.pow_zero]
    simp
  rw [hX]
  unfold le10 at hl
  unfold lt10 at hg
  rw [show (-e).toNat = 0 by omega, Nat.pow_zero, Nat.mul_one] at hl
  rw [show (-(e + 1)).toNat = 0 by omega, Nat.pow_zero, Nat.mul_one] at hg
  refine ⟨rd_low hd ?_, rd_high hd ?_⟩
  · rw [show e.toNat = (dg - 1) + k by omega, Nat.pow_add, Nat.mul_assoc, Nat.mul_comm (10 ^ k)] at hl
    exact hl
  · rw [show (e + 1).toNat = dg + k by omega, Nat.pow_add, Nat.mul_assoc, Nat.mul_comm (10 ^ k)] at hg
    exact Nat.le_of_lt hg
end Go.Proofs.YteieelgdiccppabDoor
end

section
/- Package rat: Neg, Add. -/
open Go.RowKit
set_option maxRecDepth 100000
namespace Go.Proofs.YteieelgdiccppabDoor
section
variable {W : World} {b b' s s' : Bool} {A A' B B' : Option Addr} {n n' c c' m m' k k' e e' : Nat} {z z' : Int} {r r' : Rat} {K L d d' : Nat}
end
end Go.Proofs.YteieelgdiccppabDoor
end

section
/- Package rat: Inv. -/
open Go.RowKit
set_option maxRecDepth 100000
namespace Go.Proofs.YteieelgdiccppabDoor
section
variable {W w : World} {b : Bool} {A A' : Option Addr} {n c n' c' K m m' : Nat} {r : Rat} {z : Int}
theorem tt_inv {s : Bool} {z : Int} {d : Nat} {B : Option Addr} {k e : Nat} (hz : ZA W s B k e z) (h : TT z d r K) (h0 : r ≠ 0) : z ≠ 0 ∧ mkRat (zi s d) z.natAbs = r⁻¹ := by
  obtain ⟨h1, h2, _, _⟩ := h
  have hz0 : z ≠ 0 := by
    intro e
    apply h0
    rw [← h2, e]; simp
  refine ⟨hz0, ?_⟩
  have hs := za_sign hz hz0
  rw [← h2, inv_mk hz0 h1, hs]
  by_cases hn : z < 0
  · rw [if_pos hn, decide_eq_true hn, zi_true]
  · rw [if_neg hn, decide_eq_false hn, zi_false]

set_option maxHeartbeats 2000000 in
theorem inv_yes (h : QA W b A n c A' n' c' r K) (hK : 0 < K) (hK2 : K ≤ 20000) (h0 : r ≠ 0) : Calls Tryd.prog 76 #[.agg #[.bool b, .slice A n c, .slice A' n' c']] W (OfYes W r⁻¹) := by
  obtain ⟨si, hsi⟩ : ∃ s, s = decide ((r⁻¹).num < 0) := ⟨_, rfl⟩
  obtain ⟨v, hv⟩ : ∃ v, v = r⁻¹ := ⟨_, rfl⟩
  rw [← hv] at hsi
  have CT : Hid (∀ W', Bel W W' → Calls Tryd.prog 35 #[.agg #[.bool b, .slice A n c, .slice A' n' c']] W' (TermsR W' r K)) := fun W' hb => terms_h (h.up hb) hK
  have CO : Hid (∀ W' s B k e B' k' e' z d, ZA W' s B k e z → Nm W' B' k' e' d → Hid (TT z d r K) → Calls Tryd.prog 41 #[.agg #[.bool s, .slice B' k' e'], .agg #[.slice B k e]] W' (OfYs2 W' si v)) := fun W' s B k e B' k' e' z d h1 h2 h3 => by
    obtain ⟨e1, e2⟩ := tt_inv h1 h3.out h0
    rw [hsi, hv]
    exact of_yes (za_of h2) h1.1 (by omega) e2 (by rw [zi_abs]; exact dl_bd2 h3.out.2.2.2 (by omega)) (dl_bd2 h3.out.2.2.1 (by omega))
  rw [← hv]
  have HSI := hide hsi
  clear h h0 hsi hv
  have HB := Bel.refl W
  go_enter Tryd.func76, Tryd.ntmps76
  go_wp2_with (first | (go_at_call 35; (with_reducible refine (CT.out _ ((HB.al _).al _)).mono ?_); rintro e w1 ⟨ps, pA, pn, pc, pB, pm, pe, pz, pd, rfl, pzz, pnn, ph, hbk⟩; have HR := At.up (at_new1 _ _ _ _) hbk; replace HB := ((HB.al _).al _).up hbk; replace ph : Hid (TT pz pd r K) := ph) | (go_at_call 41; (with_reducible refine (CO.out _ _ _ _ _ _ _ _ _ _ ((pzz.al _).al _) ((pnn.al _).al _) ph).mono ?_); rintro e w2 ⟨B, e1, B', e2, rfl, nz, nd, hbk⟩; replace HB := ((HB.al _).al _).up hbk; replace HR := ((HR.al _).al _).up hbk; have hr_0 := HR.c0; have hr_1 := HR.c1; have hr_2 := HR.c2; have hr_l := HR.lt; have hr_f0 := HR.f0; have hr_f1 := HR.f1; have hr_f2 := HR.f2) | fail)
  refine bodyPost_ret (v := .tuple #[.agg #[.bool si, .slice B (dl v.num.natAbs) e1, .slice B' (dl v.den) e2], .bool true]) (by simp [results, Tryd.results76, go_sem, hr_0, hr_1, hr_2]) rfl ?_
  exact ⟨B, e1, B', e2, by rw [HSI.out], zr_of (nz.1.put3 HR now3), nd.put3 HR now3, below3 HB (by omega) _ _ _⟩
set_option maxHeartbeats 2000000 in
theorem inv_no (h : QA W b A n c A' n' c' r K) (hK : 0 < K) (h0 : r = 0) : Calls Tryd.prog 76 #[.agg #[.bool b, .slice A n c, .slice A' n' c']] W (OfNo W) := by
  have CT : Hid (∀ W', Bel W W' → Calls Tryd.prog 35 #[.agg #[.bool b, .slice A n c, .slice A' n' c']] W' (TermsR W' r K)) := fun W' hb => terms_h (h.up hb) hK
  have CO : Hid (∀ W' s B k e B' k' e' z d, ZA W' s B k e z → Nm W' B' k' e' d → Hid (TT z d r K) → Calls Tryd.prog 41 #[.agg #[.bool s, .slice B' k' e'], .agg #[.slice B k e]] W' (OfNo W')) := fun W' s B k e B' k' e' z d h1 h2 h3 => by
    have e1 : z = 0 := (Rat.mkRat_eq_zero (by have := h3.out.1; omega)).1 (h3.out.2.1.trans h0)
    subst e1
    exact of_no h1.1
  clear h h0
  have HB := Bel.refl W
  go_enter Tryd.func76, Tryd.ntmps76
  go_wp2_with (first | (go_at_call 35; (with_reducible refine (CT.out _ ((HB.al _).al _)).mono ?_); rintro e w1 ⟨ps, pA, pn, pc, pB, pm, pe, pz, pd, rfl, pzz, pnn, ph, hbk⟩; have HR := At.up (at_new1 _ _ _ _) hbk; replace HB := ((HB.al _).al _).up hbk; replace ph : Hid (TT pz pd r K) := ph) | (go_at_call 41; (with_reducible refine (CO.out _ _ _ _ _ _ _ _ _ _ ((pzz.al _).al _) ((pnn.al _).al _) ph).mono ?_); rintro e w2 ⟨rfl, hbk⟩; replace HB := ((HB.al _).al _).up hbk; replace HR := ((HR.al _).al _).up hbk; have hr_0 := HR.c0; have hr_1 := HR.c1; have hr_2 := HR.c2; have hr_l := HR.lt; have hr_f0 := HR.f0; have hr_f1 := HR.f1; have hr_f2 := HR.f2) | fail)
  refine bodyPost_ret (v := .tuple #[.agg #[.bool false, .slice none 0 0, .slice none 0 0], .bool false]) (by simp [results, Tryd.results76, go_sem, hr_0, hr_1, hr_2]) rfl ?_
  exact ⟨rfl, below3 HB (by omega) _ _ _⟩
end
end Go.Proofs.YteieelgdiccppabDoor
end
