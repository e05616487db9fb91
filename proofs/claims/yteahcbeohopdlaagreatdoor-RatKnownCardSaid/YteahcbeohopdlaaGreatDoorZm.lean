/- Plain mathematics of division with signs. No conditions on memory. -/
import Derived.Test.YteahcbeohopdlaaGreatDoorGRqc15
open Go.RowKit
namespace Go.Proofs.YteahcbeohopdlaaGreatDoor
/-- Div whose quotient and rest are known. -/
def DivF (W : World) (q r : Nat) (e : Ending) (w' : World) : Prop :=
  ∃ A c A' c', e = .returned (.tuple #[.agg #[.slice A (dl q) c], .agg #[.slice A' (dl r) c'], .bool true]) ∧ Nm w' A (dl q) c q ∧ Nm w' A' (dl r) c' r ∧ Hid (Below W.heap.size W w')
theorem div_f {W : World} {A A' : Option Addr} {n n' c c' m m' q r : Nat} (h : Nm W A n c m) (h' : Nm W A' n' c' m') (h0 : 0 < m') (hd : dl m ≤ 99999) (hq : m / m' = q) (hr : m % m' = r) : Calls Tryz.prog 115 #[.agg #[.slice A n c], .agg #[.slice A' n' c']] W (DivF W q r) := by
  subst hq; subst hr
  exact div_h h h' h0 hd
theorem unique_pos {a q r : Int} {k : Nat} (hk : 0 < k) (h : r + (k : Int) * q = a) (h0 : 0 ≤ r) (h1 : r < k) : a / (k : Int) = q ∧ a % (k : Int) = r :=
  (Int.ediv_emod_unique (by omega)).2 ⟨h, h0, h1⟩
theorem zi_not (b : Bool) (m : Nat) : zi (!b) m = -zi b m := by cases b <;> simp [zi]
theorem div_sign {b b' : Bool} {m k q : Nat} {r : Int} (hk : 0 < k) (h : r + (k : Int) * zi b q = zi b m) (h0 : 0 ≤ r) (h1 : r < k) : zi b m / zi b' k = zi (b != b') q ∧ zi b m % zi b' k = r := by
  obtain ⟨e1, e2⟩ := unique_pos hk h h0 h1
  cases b'
  · rw [zi_false, show (b != false) = b by cases b <;> rfl]
    exact ⟨e1, e2⟩
  · rw [zi_true, Int.ediv_neg, Int.emod_neg, e1, e2, show (b != true) = !b by cases b <;> rfl, zi_not]
    exact ⟨rfl, rfl⟩
theorem div_plain {b b' : Bool} {m k : Nat} (hk : 0 < k) (h : b = false ∨ m % k = 0) : zi b m / zi b' k = zi (b != b') (m / k) ∧ zi b m % zi b' k = ((m % k : Nat) : Int) := by
  have e : m % k + k * (m / k) = m := Nat.mod_add_div m k
  have hlt := Nat.mod_lt m hk
  refine div_sign hk ?_ (by omega) (by omega)
  rcases h with h | h
  · subst h
    rw [zi_false, zi_false]
    have e2 := congrArg (fun x : Nat => (x : Int)) e
    simpa using e2
  · rw [h, Nat.zero_add] at e
    rw [h]
    cases b
    · rw [zi_false, zi_false]
      have e2 := congrArg (fun x : Nat => (x : Int)) e
      simpa using e2
    · rw [zi_true, zi_true]
      have e2 := congrArg (fun x : Nat => -(x : Int)) e
      simp only [Int.natCast_mul] at e2
      rw [Int.mul_neg]
      simpa using e2
theorem div_low {b' : Bool} {m k : Nat} (hk : 0 < k) (h : m % k ≠ 0) : zi true m / zi b' k = zi (true != b') (m / k + 1) ∧ zi true m % zi b' k = ((k - m % k : Nat) : Int) := by
  have e : m % k + k * (m / k) = m := Nat.mod_add_div m k
  have hlt := Nat.mod_lt m hk
  refine div_sign hk ?_ (by omega) (by omega)
  rw [zi_true, zi_true, Int.mul_neg]
  have e2 := congrArg (fun x : Nat => (x : Int)) e
  simp only [Int.natCast_add, Int.natCast_mul] at e2
  simp only [Int.natCast_add, Int.mul_add, Int.natCast_one, Int.mul_one]
  omega
theorem zi_lt_of (b : Bool) {m k : Nat} (h : m ≤ k) : (zi b m).natAbs ≤ k := by rw [zi_abs]; exact h
end Go.Proofs.YteahcbeohopdlaaGreatDoor
