/- The document's own numbers: Pow. Conditions: every power up to the last has at most 100000 fours of digits. -/
import Derived.Test.YtcidclajfbnfoaaDoorRfd
open Go.RowKit
set_option maxRecDepth 100000
namespace Go.Proofs.YtcidclajfbnfoaaDoor
set_option maxHeartbeats 1000000 in
theorem rPow_any {A : Option Addr} {c m k : Nat} {w : World} (h : RN w w.heap.size A c m) (hk : k ≤ 1000000) (hb : ∀ i, i ≤ k → dq (m ^ i) ≤ 100000) (hm : dq m ≤ 100000) :
    Calls Tryd.prog 37 #[.slice A (dq m) c, .int .i64 (k : Int)] w (RefPost w (m ^ k)) := by
  have H := hide h
  have HB := hide hb
  have CO : Hid (∀ W, Calls Tryd.prog 20 #[.int .u64 1] W (RefPost W 1)) := fun W => Small_any (n := 1) (w := W) (by decide)
  clear h hb
  go_enter Tryd.func37, Tryd.ntmps37
  go_wp2_with (first | (go_at_call 20; go_must (refine (CO.out _).mono ?_); rintro e w1 ⟨A1, c1, rfl, hr1, hb1⟩))
  go_loopw [5, 6] (fun rv iv wr => ∃ (i : Nat) (B : Option Addr) (d : Nat), i ≤ k ∧ iv = .int .i64 (i : Int) ∧ rv = .slice B (dq (m ^ i)) d ∧ Hid (RN wr wr.heap.size B d (m ^ i)) ∧ Hid (Below w.heap.size w wr))
    (fun _ iv _ => k - (intOf iv).toNat)
  case atStart => exact ⟨0, A1, c1, Nat.zero_le _, rfl, by rw [Nat.pow_zero], by rw [Nat.pow_zero]; exact hr1, hb1⟩
  case round =>
    obtain ⟨i, B, d, hi, rfl, rfl, hr, hbel⟩ := hrel
    by_cases hlt : i < k
    · have CM : Hid (Calls Tryd.prog 33 #[.slice B (dq (m ^ i)) d, .slice A (dq m) c] wr (RefPost wr (m ^ (i + 1)))) := by
        unfold Hid
        rw [Nat.pow_succ]
        exact rMul_any hr.out ((H.out.below hbel.out).more hbel.out.size) (HB.out i hi) hm
      go_wp2_with (first | (go_at_call 33; go_must (refine CM.out.mono ?_); rintro e w2 ⟨B2, d2, rfl, hr2, hb2⟩))
      go_roundw
      case rel => exact ⟨i + 1, B2, d2, by omega, by go_num, rfl, hr2, hbel.out.trans (hb2.out.mono hbel.out.size)⟩
      case measure => simp [intOf]; omega
    · obtain rfl : i = k := by omega
      go_wp2
      go_ret
      exact ⟨B, d, rfl, hr, hbel⟩
set_option maxHeartbeats 1000000 in
/-- Of a power below 1: 1. -/
theorem rPow_low {A : Option Addr} {n c : Nat} {k : Int} {w : World} (hk : k ≤ 0) (hk2 : -9223372036854775808 ≤ k) : Calls Tryd.prog 37 #[.slice A n c, .int .i64 k] w (RefPost w 1) := by
  have CO : Hid (∀ W, Calls Tryd.prog 20 #[.int .u64 1] W (RefPost W 1)) := fun W => Small_any (n := 1) (w := W) (by decide)
  go_enter Tryd.func37, Tryd.ntmps37
  go_wp2_with (first | (go_at_call 20; go_must (refine (CO.out _).mono ?_); rintro e w1 ⟨A1, c1, rfl, hr1, hb1⟩))
  refine wp_loop_rounds 1 ?_; rw [rounds_succ]
  go_wp2
  go_ret
  exact ⟨A1, c1, rfl, hr1, hb1⟩
end Go.Proofs.YtcidclajfbnfoaaDoor
