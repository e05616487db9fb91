/- NatLaws' walk, for any input. No conditions. -/
import Derived.Test.YtlmfkeicmldcnaaDoorLww
open Go.RowKit
set_option maxRecDepth 100000
namespace Go.Proofs.YtlmfkeicmldcnaaDoor
theorem dl_small {m : Nat} (h : m < W32 ^ 100) : dl m ≤ 100000 := Nat.le_trans (dl_le h) (by omega)
theorem lt_more {m i j : Nat} (h : m < W32 ^ i) (hij : i ≤ j) : m < W32 ^ j := Nat.lt_of_lt_of_le h (Nat.pow_le_pow_right (by decide) hij)
theorem add_lt {a b i : Nat} (ha : a < W32 ^ i) (hb : b < W32 ^ i) : a + b < W32 ^ (i + 1) := by
  rw [Nat.pow_succ]
  have : W32 ^ i * 2 ≤ W32 ^ i * W32 := Nat.mul_le_mul_left _ (by decide)
  omega
theorem mul_lt {a b i j : Nat} (ha : a < W32 ^ i) (hb : b < W32 ^ j) : a * b < W32 ^ (i + j) := by
  rw [Nat.pow_add]
  rcases Nat.eq_zero_or_pos b with h | h
  · rw [h, Nat.mul_zero]; exact Nat.mul_pos (Nat.pow_pos (by decide)) (Nat.pow_pos (by decide))
  · exact Nat.lt_of_lt_of_le (Nat.mul_lt_mul_of_pos_right ha h) (Nat.mul_le_mul_left _ (Nat.le_of_lt hb))
theorem laws_walk {A0 A1 A2 : Option Addr} {l0 l1 l2 c0 c1 c2 : Nat} {z0 z1 z2 : List Nat} (w : World) (w0 : l0 = z0.length ∧ l0 ≤ c0 ∧ Rd U32 w w.heap.size A0 z0 ∧ Good32 z0) (w1 : l1 = z1.length ∧ l1 ≤ c1 ∧ Rd U32 w w.heap.size A1 z1 ∧ Good32 z1)
    (w2 : l2 = z2.length ∧ l2 ≤ c2 ∧ Rd U32 w w.heap.size A2 z2 ∧ Good32 z2) :
    Calls Tryd.prog 6 #[.slice A0 l0 c0, .slice A1 l1 c1, .slice A2 l2 c2] w fun e w' => e = .returned (.bool true) ∧ Below w.heap.size w w' := by
  by_cases hall : l0 ≤ 24 ∧ l1 ≤ 24 ∧ l2 ≤ 24
  · obtain ⟨h0, h1, h2⟩ := hall
    have a := val_lt24 w0.2.2.2 w0.1 h0
    have b := val_lt24 w1.2.2.2 w1.1 h1
    have c := val_lt24 w2.2.2.2 w2.1 h2
    have ab := add_lt a b
    have bc := add_lt b c
    exact laws_main w (later_of w0 (by omega)) (later_of w1 (by omega)) (later_of w2 (by omega)) h0 h1 h2 rfl rfl rfl rfl rfl rfl rfl rfl
      (dl_small (lt_more ab (by omega))) (dl_small (lt_more (mul_lt a b) (by omega))) (dl_small (lt_more (add_lt ab (lt_more c (by omega))) (by omega))) (dl_small (lt_more bc (by omega)))
      (dl_small (lt_more (mul_lt (mul_lt a b) c) (by omega))) (dl_small (lt_more (mul_lt b c) (by omega))) (dl_small (lt_more (mul_lt a bc) (by omega))) (dl_small (lt_more (mul_lt a c) (by omega)))
  · have hc : (24 < l0) ∨ (¬ 24 < l0 ∧ 24 < l1) ∨ (¬ 24 < l0 ∧ ¬ 24 < l1 ∧ 24 < l2) := by omega
    clear w0 w1 w2 hall
    rcases hc with h0 | ⟨h0, h1⟩ | ⟨h0, h1, h2⟩
    all_goals
      go_enter Tryd.func6, Tryd.ntmps6
      go_wp2_with (first | (go_at_call 13; go_must (refine (awake_any _).mono ?_); rintro e wa ⟨rfl, hba⟩; have HBA := hide hba; clear hba))
      go_ret
      exact ⟨rfl, HBA.out⟩
end Go.Proofs.YtlmfkeicmldcnaaDoor
