/- guessDigit: the greatest digit that the three highest words allow. -/
import Derived.Test.YthdpojkeceoiiaaGreatDoorGOmc5
open Go.RowKit
set_option maxRecDepth 100000
namespace Go.Proofs.YthdpojkeceoiiaaGreatDoor
def GuessPost (w : World) (u2 u1 u0 hi lo : Nat) (e : Ending) (w' : World) : Prop :=
  ∃ D : Nat, e = .returned (.int .u32 (D : Int)) ∧ (∃ q, w' = w.drewN q) ∧ D < W32 ∧ D * (hi * W32 + lo) ≤ (u2 * W32 + u1) * W32 + u0 ∧ (D + 1 = W32 ∨ (u2 * W32 + u1) * W32 + u0 < (D + 1) * (hi * W32 + lo))
theorem guess_mul {D hi R T lo W : Nat} (h : D * hi + R = T) : D * (hi * W + lo) + R * W = T * W + D * lo := by
  rw [← h, Nat.mul_add, Nat.add_mul, Nat.mul_assoc]; omega
theorem guess_aux {X Y Z V u0 : Nat} (h : X + V = Z + Y) (hc : V + u0 < Y) : Z + u0 < X := by omega
theorem guess_step {D hi R T lo u0 : Nat} (h : D * hi + R = T) (h1 : 1 ≤ D) (hc : W32 ≤ D ∨ R * 4294967296 + u0 < D * lo) : W32 ≤ D - 1 + 1 ∨ T * W32 + u0 < (D - 1 + 1) * (hi * W32 + lo) := by
  rw [show D - 1 + 1 = D by omega]
  rcases hc with hc | hc
  · exact Or.inl hc
  · have h3 := guess_mul (lo := lo) (W := W32) h
    exact Or.inr (guess_aux h3 hc)
theorem guess_end {D hi R T lo u0 : Nat} (h : D * hi + R = T) (hc : D * lo ≤ R * 4294967296 + u0) : D * (hi * W32 + lo) ≤ T * W32 + u0 := by
  have := guess_mul (lo := lo) (W := W32) h
  rw [W32_eq] at *; omega
theorem guess_less {D hi R T u2 u1 : Nat} (h : D * hi + R = T) (hR : 4294967295 < R) (hT : T = u2 * 4294967296 + u1) (hu1 : u1 < W32) (hu2 : u2 ≤ hi) : D < W32 := by
  rcases Nat.lt_or_ge D W32 with h1 | h1
  · exact h1
  · have h2 := Nat.mul_le_mul h1 hu2
    rw [W32_eq] at *; omega
theorem guess_break {D hi R T lo u0 : Nat} (h : D * hi + R = T) (hR : 4294967295 < R) (hD : D < W32) (hlo : lo < W32) : D * (hi * W32 + lo) ≤ T * W32 + u0 := by
  have h1 := Nat.mul_le_mul (Nat.le_of_lt hD) (Nat.le_of_lt hlo)
  have := guess_mul (lo := lo) (W := W32) h
  rw [W32_eq] at *; omega
theorem guess_dec {D hi R T : Nat} (h : D * hi + R = T) (h1 : 1 ≤ D) : (D - 1) * hi + (R + hi) = T := by
  obtain ⟨E, rfl⟩ : ∃ E, D = E + 1 := ⟨D - 1, by omega⟩
  rw [Nat.add_mul, Nat.one_mul] at h
  rw [Nat.add_sub_cancel]; omega
theorem guess_fin {w w' : World} {D T u2 u1 u0 hi lo n : Nat} {e : Ending} (hT : u2 * W32 + u1 = T) (he : e = .returned (.int .u32 (D : Int))) (hw : w' = w.drewN n) (hD : D < W32) (h1 : D * (hi * W32 + lo) ≤ T * W32 + u0) (h2 : W32 ≤ D + 1 ∨ T * W32 + u0 < (D + 1) * (hi * W32 + lo)) : GuessPost w u2 u1 u0 hi lo e w' := by
  subst hT
  exact ⟨D, he, ⟨n, hw⟩, hD, h1, h2.imp (fun h => by omega) id⟩
theorem guess_start {T hi lo u0 : Nat} (hh : 0 < hi) (hu0 : u0 < W32) : T * W32 + u0 < (T / hi + 1) * (hi * W32 + lo) := by
  have h1 : T < (T / hi + 1) * hi := by
    have h2 := Nat.mod_add_div T hi
    have h3 := Nat.mod_lt T hh
    rw [Nat.add_mul, Nat.one_mul, Nat.mul_comm]; omega
  have h2 : (T + 1) * W32 ≤ (T / hi + 1) * hi * W32 := Nat.mul_le_mul_right _ h1
  rw [Nat.add_mul, Nat.one_mul] at h2
  rw [Nat.mul_add, ← Nat.mul_assoc]; omega
theorem guess_top {T hi u2 u1 : Nat} (hT : T = u2 * 4294967296 + u1) (hu1 : u1 < W32) (hu2 : u2 ≤ hi) (hh : 2147483648 ≤ hi) : T / hi ≤ 4294967297 := by
  refine Nat.le_of_lt_succ ?_
  rw [Nat.div_lt_iff_lt_mul (by omega)]
  rw [W32_eq] at hu1; omega
end Go.Proofs.YthdpojkeceoiiaaGreatDoor
