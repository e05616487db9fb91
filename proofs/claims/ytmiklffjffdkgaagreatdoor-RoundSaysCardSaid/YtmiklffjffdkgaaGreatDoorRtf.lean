/- The document's own numerals: DOf of a fraction in lowest terms. Conditions: terms of at most 2000 of its words. -/
import Derived.Test.YtmiklffjffdkgaaGreatDoorGRwbc22
import Derived.Test.YtmiklffjffdkgaaGreatDoorGRwbc25
import Derived.Deep.CutRange
open Go.RowKit
set_option maxRecDepth 100000
namespace Go.Proofs.YtmiklffjffdkgaaGreatDoor
theorem dq_lt {n : Nat} : n < D4 ^ dq n := lt_pow_digs (b := D4) (by decide) n
/-- A fraction in lowest terms times a power of ten. -/
theorem scale_facts {r : Rat} {k : Nat} : (mkRat (r.num * ((10 ^ k : Nat) : Int)) (r.den * 1)).den = r.den / Nat.gcd (r.num.natAbs * 10 ^ k) r.den ∧
    ((mkRat (r.num * ((10 ^ k : Nat) : Int)) (r.den * 1)).den = 1 ↔ r.den ∣ 10 ^ k) ∧
    (r.den ∣ 10 ^ k → (mkRat (r.num * ((10 ^ k : Nat) : Int)) (r.den * 1)).num.natAbs = r.num.natAbs * (10 ^ k / r.den)) ∧
    decide ((mkRat (r.num * ((10 ^ k : Nat) : Int)) (r.den * 1)).num < 0) = decide (r.num < 0) := by
  have hp : 0 < 10 ^ k := Nat.pow_pos (by decide)
  obtain ⟨g, hg⟩ : ∃ g, g = Nat.gcd (r.num * ((10 ^ k : Nat) : Int)).natAbs (r.den * 1) := ⟨_, rfl⟩
  obtain ⟨h0, h1, h2, h3, h4, h5⟩ := low_terms (by have := r.den_pos; omega : 0 < r.den * 1) hg
  have e1 : (r.num * ((10 ^ k : Nat) : Int)).natAbs = r.num.natAbs * 10 ^ k := by rw [Int.natAbs_mul, Int.natAbs_natCast]
  rw [e1, Nat.mul_one] at hg
  rw [h1, h2, h5, e1, Nat.mul_one, ← hg]
  have hgd : g ∣ r.den := by rw [hg]; exact Nat.gcd_dvd_right _ _
  have hco : Nat.Coprime r.den r.num.natAbs := r.reduced.symm
  have hd := r.den_pos
  have key : r.den ∣ 10 ^ k ↔ g = r.den := by
    constructor
    · intro h
      rw [hg]
      exact Nat.gcd_eq_right (Nat.dvd_trans h (Nat.dvd_mul_left _ _))
    · intro h
      have h6 : r.den ∣ r.num.natAbs * 10 ^ k := by rw [← h, hg]; exact Nat.gcd_dvd_left _ _
      exact hco.dvd_of_dvd_mul_left h6
  refine ⟨rfl, ?_, fun h => ?_, ?_⟩
  · rw [key]
    constructor
    · intro h
      obtain ⟨x, hx⟩ := hgd
      rw [hx, Nat.mul_div_cancel_left _ h0] at h
      rw [hx, h, Nat.mul_one]
    · intro h
      rw [← h]; exact Nat.div_self h0
  · rw [key.1 h]
    exact Nat.mul_div_assoc _ h
  · refine decide_eq_decide.2 ?_
    have h6 : (0 : Int) < ((10 ^ k : Nat) : Int) := by omega
    constructor
    · intro h
      exact Int.lt_of_not_ge fun h7 => absurd h (Int.not_lt.2 (Int.mul_nonneg h7 (Int.le_of_lt h6)))
    · intro h
      exact Int.mul_neg_of_neg_of_pos h h6
theorem one_txt : decL 1 = [49] := by decide +kernel
/-- A block of three cells: nothing stands behind them. -/
def Ez (W : World) (p : Nat) : Prop := p < W.heap.size ∧ W.cell? ⟨p, 3, none⟩ = none
theorem Ez.up {W W' : World} {p : Nat} (h : Ez W p) (hb : Hid (Below W.heap.size W W')) : Ez W' p := ⟨Nat.lt_of_lt_of_le h.1 hb.out.size, (hb.out.cell (p := ⟨p, 3, none⟩) h.1).trans h.2⟩
theorem Ez.al {W : World} {p : Nat} (h : Ez W p) (o : Obj) : Ez (W.alloc o) p := h.up ((Below.refl _ _).alloc (Nat.le_refl _) o)
theorem Ez.dr {W : World} {p : Nat} (h : Ez W p) : Ez W.drew p := h
theorem Ez.far3 {W : World} {p q : Nat} (h : Ez W p) (hq : q ≠ p) (x y z : Value) : Ez (((W.setCell ⟨q, 0, none⟩ x).setCell ⟨q, 1, none⟩ y).setCell ⟨q, 2, none⟩ z) p := by
  refine ⟨by simpa [World.setCell] using h.1, ?_⟩
  rw [World.cell?_setCell_other _ _ _ _ (fun e => hq (by injection e)), World.cell?_setCell_other _ _ _ _ (fun e => hq (by injection e)), World.cell?_setCell_other _ _ _ _ (fun e => hq (by injection e))]
  exact h.2
/-- What DOf leaves. -/
def DofP (W : World) (r : Rat) (lim : Nat) (e : Ending) (w' : World) : Prop :=
  (∃ j, j ≤ lim ∧ r.den ∣ 10 ^ j ∧ (∀ i, i < j → ¬ r.den ∣ 10 ^ i) ∧ ∃ A c, e = .returned (.tuple #[.agg #[.bool (decide (r.num < 0)), .slice A (dq (r.num.natAbs * (10 ^ j / r.den))) c, .int .i64 (j : Int)], .bool true]) ∧ Rn w' A c (r.num.natAbs * (10 ^ j / r.den)) ∧ Hid (Below W.heap.size W w')) ∨
  ((∀ i, i ≤ lim → ¬ r.den ∣ 10 ^ i) ∧ e = .returned (.tuple #[.agg #[.bool false, .slice none 0 0, .int .i64 0], .bool false]) ∧ Hid (Below W.heap.size W w'))
section
variable {W : World} {b : Bool} {A A' : Option Addr} {c c' lim : Nat} {r : Rat} {most : Int}
end
end Go.Proofs.YtmiklffjffdkgaaGreatDoor
