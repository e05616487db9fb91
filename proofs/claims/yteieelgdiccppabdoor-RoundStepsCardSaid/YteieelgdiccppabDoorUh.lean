/- RoundSteps' walk. No conditions. -/
import Derived.Test.YteieelgdiccppabDoorGUhc25
import Derived.Test.YteieelgdiccppabDoorGUhc27
import Derived.Test.YteieelgdiccppabDoorGUhc22
import Derived.Deep.CutRange
open Go.RowKit
set_option maxRecDepth 100000
namespace Go.Proofs.YteieelgdiccppabDoor
section
variable {W w : World} {b : Bool} {A A' : Option Addr} {n c n' c' s : Nat} {m : Int} {r : Rat}
theorem rd_abs' {m : Int} {X : Rat} : (rdR m X).natAbs ≤ X.num.natAbs + 1 := by
  have h1 := nabs_div_le X.num X.den
  unfold rdR rdZ
  split
  · simp
  · split
    · omega
    · split <;> omega
theorem long5_h (h1 : n ≤ 12) (h2 : n' ≤ 12) : Calls Tryd.prog 6 #[.agg #[.bool b, .slice A n c, .slice A' n' c']] W (BoolR W false) := by
  have g1 : decide ((12 : Int) < (n : Int)) = false := decide_eq_false (by omega)
  have g2 : decide ((12 : Int) < (n' : Int)) = false := decide_eq_false (by omega)
  have g3 : ¬ (12 : Int) < (n : Int) := by omega
  have g4 : ¬ (12 : Int) < (n' : Int) := by omega
  have HB := Bel.refl W
  go_enter Tryd.func6, Tryd.ntmps6
  go_wp2
  go_ret
  exact ⟨rfl, HB.al _⟩
theorem long5_n (h : ¬ (n ≤ 12 ∧ n' ≤ 12)) : Calls Tryd.prog 6 #[.agg #[.bool b, .slice A n c, .slice A' n' c']] W (BoolR W true) := by
  have HB := Bel.refl W
  by_cases h1 : n ≤ 12
  · have g1 : decide ((12 : Int) < (n : Int)) = false := decide_eq_false (by omega)
    have g2 : decide ((12 : Int) < (n' : Int)) = true := decide_eq_true (by omega)
    have g3 : ¬ (12 : Int) < (n : Int) := by omega
    have g4 : (12 : Int) < (n' : Int) := by omega
    clear h
    go_enter Tryd.func6, Tryd.ntmps6
    go_wp2
    go_ret
    exact ⟨rfl, HB.al _⟩
  · have g1 : decide ((12 : Int) < (n : Int)) = true := decide_eq_true (by omega)
    have g3 : (12 : Int) < (n : Int) := by omega
    clear h
    go_enter Tryd.func6, Tryd.ntmps6
    go_wp2
    go_ret
    exact ⟨rfl, HB.al _⟩
set_option maxHeartbeats 4000000 in
theorem steps_x0 (w : World) {sc x : Int} (h : ¬ (n ≤ 12 ∧ n' ≤ 12)) : Calls Tryd.prog 3 #[.agg #[.bool b, .slice A n c, .slice A' n' c'], .int .i64 sc, .int .i64 m, .int .u64 x] w fun e w' => e = .returned (.bool true) ∧ Below w.heap.size w w' := by
  have CL : Hid (∀ W, Calls Tryd.prog 6 #[.agg #[.bool b, .slice A n c, .slice A' n' c']] W (BoolR W true)) := fun W => long5_n h
  clear h
  have HB := Bel.refl w
  go_enter Tryd.func3, Tryd.ntmps3
  go_wp2_with (first | (go_at_call 5; (with_reducible refine (awake5_any _).mono ?_); rintro e w1 ⟨rfl, hbk⟩; (with_reducible (have HA : At w1 w.heap.size [.bool b, .slice A n c, .slice A' n' c'] := At.up (at_new0 _ _ _) hbk; replace HB := (HB.al _).up hbk)); have ha_0 := HA.c0; have ha_1 := HA.c1; have ha_2 := HA.c2; have ha_l := HA.lt) | (go_at_call 6; (with_reducible refine (CL.out _).mono ?_); rintro e w2 ⟨rfl, hbk⟩; (with_reducible (replace HB := HB.up hbk; replace HA := HA.up hbk)); clear ha_0 ha_1 ha_2 ha_l; have ha_0 := HA.c0; have ha_1 := HA.c1; have ha_2 := HA.c2; have ha_l := HA.lt) | fail)
  go_ret
  exact ⟨rfl, HB⟩
set_option maxHeartbeats 4000000 in
theorem steps_x1 (w : World) {sc x : Int} (h : n ≤ 12 ∧ n' ≤ 12) (h1 : sc < 0) : Calls Tryd.prog 3 #[.agg #[.bool b, .slice A n c, .slice A' n' c'], .int .i64 sc, .int .i64 m, .int .u64 x] w fun e w' => e = .returned (.bool true) ∧ Below w.heap.size w w' := by
  have CL : Hid (∀ W, Calls Tryd.prog 6 #[.agg #[.bool b, .slice A n c, .slice A' n' c']] W (BoolR W false)) := fun W => long5_h h.1 h.2
  clear h
  have g1 : decide (sc < 0) = true := decide_eq_true (by omega)
  have g1' : (sc < 0) := by omega
  have HB := Bel.refl w
  go_enter Tryd.func3, Tryd.ntmps3
  go_wp2_with (first | (go_at_call 5; (with_reducible refine (awake5_any _).mono ?_); rintro e w1 ⟨rfl, hbk⟩; (with_reducible (have HA : At w1 w.heap.size [.bool b, .slice A n c, .slice A' n' c'] := At.up (at_new0 _ _ _) hbk; replace HB := (HB.al _).up hbk)); have ha_0 := HA.c0; have ha_1 := HA.c1; have ha_2 := HA.c2; have ha_l := HA.lt) | (go_at_call 6; (with_reducible refine (CL.out _).mono ?_); rintro e w2 ⟨rfl, hbk⟩; (with_reducible (replace HB := HB.up hbk; replace HA := HA.up hbk)); clear ha_0 ha_1 ha_2 ha_l; have ha_0 := HA.c0; have ha_1 := HA.c1; have ha_2 := HA.c2; have ha_l := HA.lt) | fail)
  go_ret
  exact ⟨rfl, HB⟩
set_option maxHeartbeats 4000000 in
theorem steps_x2 (w : World) {sc x : Int} (h : n ≤ 12 ∧ n' ≤ 12) (h1 : 0 ≤ sc) (h2 : 15 < sc) : Calls Tryd.prog 3 #[.agg #[.bool b, .slice A n c, .slice A' n' c'], .int .i64 sc, .int .i64 m, .int .u64 x] w fun e w' => e = .returned (.bool true) ∧ Below w.heap.size w w' := by
  have CL : Hid (∀ W, Calls Tryd.prog 6 #[.agg #[.bool b, .slice A n c, .slice A' n' c']] W (BoolR W false)) := fun W => long5_h h.1 h.2
  clear h
  have g1 : decide (sc < 0) = false := decide_eq_false (by omega)
  have g1' : ¬ (sc < 0) := by omega
  have g2 : decide ((15 : Int) < sc) = true := decide_eq_true (by omega)
  have g2' : ((15 : Int) < sc) := by omega
  have HB := Bel.refl w
  go_enter Tryd.func3, Tryd.ntmps3
  go_wp2_with (first | (go_at_call 5; (with_reducible refine (awake5_any _).mono ?_); rintro e w1 ⟨rfl, hbk⟩; (with_reducible (have HA : At w1 w.heap.size [.bool b, .slice A n c, .slice A' n' c'] := At.up (at_new0 _ _ _) hbk; replace HB := (HB.al _).up hbk)); have ha_0 := HA.c0; have ha_1 := HA.c1; have ha_2 := HA.c2; have ha_l := HA.lt) | (go_at_call 6; (with_reducible refine (CL.out _).mono ?_); rintro e w2 ⟨rfl, hbk⟩; (with_reducible (replace HB := HB.up hbk; replace HA := HA.up hbk)); clear ha_0 ha_1 ha_2 ha_l; have ha_0 := HA.c0; have ha_1 := HA.c1; have ha_2 := HA.c2; have ha_l := HA.lt) | fail)
  go_ret
  exact ⟨rfl, HB⟩
set_option maxHeartbeats 4000000 in
theorem steps_x3 (w : World) {sc x : Int} (h : n ≤ 12 ∧ n' ≤ 12) (h1 : 0 ≤ sc) (h2 : sc ≤ 15) (h3 : m < 1) : Calls Tryd.prog 3 #[.agg #[.bool b, .slice A n c, .slice A' n' c'], .int .i64 sc, .int .i64 m, .int .u64 x] w fun e w' => e = .returned (.bool true) ∧ Below w.heap.size w w' := by
  have CL : Hid (∀ W, Calls Tryd.prog 6 #[.agg #[.bool b, .slice A n c, .slice A' n' c']] W (BoolR W false)) := fun W => long5_h h.1 h.2
  clear h
  have g1 : decide (sc < 0) = false := decide_eq_false (by omega)
  have g1' : ¬ (sc < 0) := by omega
  have g2 : decide ((15 : Int) < sc) = false := decide_eq_false (by omega)
  have g2' : ¬ ((15 : Int) < sc) := by omega
  have g3 : decide (m < 1) = true := decide_eq_true (by omega)
  have g3' : (m < 1) := by omega
  have HB := Bel.refl w
  go_enter Tryd.func3, Tryd.ntmps3
  go_wp2_with (first | (go_at_call 5; (with_reducible refine (awake5_any _).mono ?_); rintro e w1 ⟨rfl, hbk⟩; (with_reducible (have HA : At w1 w.heap.size [.bool b, .slice A n c, .slice A' n' c'] := At.up (at_new0 _ _ _) hbk; replace HB := (HB.al _).up hbk)); have ha_0 := HA.c0; have ha_1 := HA.c1; have ha_2 := HA.c2; have ha_l := HA.lt) | (go_at_call 6; (with_reducible refine (CL.out _).mono ?_); rintro e w2 ⟨rfl, hbk⟩; (with_reducible (replace HB := HB.up hbk; replace HA := HA.up hbk)); clear ha_0 ha_1 ha_2 ha_l; have ha_0 := HA.c0; have ha_1 := HA.c1; have ha_2 := HA.c2; have ha_l := HA.lt) | fail)
  go_ret
  exact ⟨rfl, HB⟩
set_option maxHeartbeats 4000000 in
theorem steps_x4 (w : World) {sc x : Int} (h : n ≤ 12 ∧ n' ≤ 12) (h1 : 0 ≤ sc) (h2 : sc ≤ 15) (h3 : 1 ≤ m) (h4 : 7 < m) : Calls Tryd.prog 3 #[.agg #[.bool b, .slice A n c, .slice A' n' c'], .int .i64 sc, .int .i64 m, .int .u64 x] w fun e w' => e = .returned (.bool true) ∧ Below w.heap.size w w' := by
  have CL : Hid (∀ W, Calls Tryd.prog 6 #[.agg #[.bool b, .slice A n c, .slice A' n' c']] W (BoolR W false)) := fun W => long5_h h.1 h.2
  clear h
  have g1 : decide (sc < 0) = false := decide_eq_false (by omega)
  have g1' : ¬ (sc < 0) := by omega
  have g2 : decide ((15 : Int) < sc) = false := decide_eq_false (by omega)
  have g2' : ¬ ((15 : Int) < sc) := by omega
  have g3 : decide (m < 1) = false := decide_eq_false (by omega)
  have g3' : ¬ (m < 1) := by omega
  have g4 : decide ((7 : Int) < m) = true := decide_eq_true (by omega)
  have g4' : ((7 : Int) < m) := by omega
  have HB := Bel.refl w
  go_enter Tryd.func3, Tryd.ntmps3
  go_wp2_with (first | (go_at_call 5; (with_reducible refine (awake5_any _).mono ?_); rintro e w1 ⟨rfl, hbk⟩; (with_reducible (have HA : At w1 w.heap.size [.bool b, .slice A n c, .slice A' n' c'] := At.up (at_new0 _ _ _) hbk; replace HB := (HB.al _).up hbk)); have ha_0 := HA.c0; have ha_1 := HA.c1; have ha_2 := HA.c2; have ha_l := HA.lt) | (go_at_call 6; (with_reducible refine (CL.out _).mono ?_); rintro e w2 ⟨rfl, hbk⟩; (with_reducible (replace HB := HB.up hbk; replace HA := HA.up hbk)); clear ha_0 ha_1 ha_2 ha_l; have ha_0 := HA.c0; have ha_1 := HA.c1; have ha_2 := HA.c2; have ha_l := HA.lt) | fail)
  go_ret
  exact ⟨rfl, HB⟩
set_option maxHeartbeats 4000000 in
theorem steps_x5 (w : World) {sc x : Int} (h : n ≤ 12 ∧ n' ≤ 12) (h1 : 0 ≤ sc) (h2 : sc ≤ 15) (h3 : 1 ≤ m) (h4 : m ≤ 7) (h5 : x = 0) : Calls Tryd.prog 3 #[.agg #[.bool b, .slice A n c, .slice A' n' c'], .int .i64 sc, .int .i64 m, .int .u64 x] w fun e w' => e = .returned (.bool true) ∧ Below w.heap.size w w' := by
  have CL : Hid (∀ W, Calls Tryd.prog 6 #[.agg #[.bool b, .slice A n c, .slice A' n' c']] W (BoolR W false)) := fun W => long5_h h.1 h.2
  clear h
  have g1 : decide (sc < 0) = false := decide_eq_false (by omega)
  have g1' : ¬ (sc < 0) := by omega
  have g2 : decide ((15 : Int) < sc) = false := decide_eq_false (by omega)
  have g2' : ¬ ((15 : Int) < sc) := by omega
  have g3 : decide (m < 1) = false := decide_eq_false (by omega)
  have g3' : ¬ (m < 1) := by omega
  have g4 : decide ((7 : Int) < m) = false := decide_eq_false (by omega)
  have g4' : ¬ ((7 : Int) < m) := by omega
  have g5 : (x == 0) = true := by rw [h5]; rfl
  have HB := Bel.refl w
  go_enter Tryd.func3, Tryd.ntmps3
  go_wp2_with (first | (go_at_call 5; (with_reducible refine (awake5_any _).mono ?_); rintro e w1 ⟨rfl, hbk⟩; (with_reducible (have HA : At w1 w.heap.size [.bool b, .slice A n c, .slice A' n' c'] := At.up (at_new0 _ _ _) hbk; replace HB := (HB.al _).up hbk)); have ha_0 := HA.c0; have ha_1 := HA.c1; have ha_2 := HA.c2; have ha_l := HA.lt) | (go_at_call 6; (with_reducible refine (CL.out _).mono ?_); rintro e w2 ⟨rfl, hbk⟩; (with_reducible (replace HB := HB.up hbk; replace HA := HA.up hbk)); clear ha_0 ha_1 ha_2 ha_l; have ha_0 := HA.c0; have ha_1 := HA.c1; have ha_2 := HA.c2; have ha_l := HA.lt) | fail)
  go_ret
  exact ⟨rfl, HB⟩
set_option maxHeartbeats 32000000 in
theorem steps_main (w : World) {k : Nat} (h : QA w b A n c A' n' c' r 12) (hn : n ≤ 12) (hn' : n' ≤ 12) (hs : s ≤ 15) (hm : 1 ≤ m ∧ m ≤ 7) (hk : 0 < k) (hk2 : k ≤ 18446744073709551615) : Calls Tryd.prog 3 #[.agg #[.bool b, .slice A n c, .slice A' n' c'], .int .i64 (s : Int), .int .i64 m, .int .u64 (k : Int)] w fun e w' => e = .returned (.bool true) ∧ Below w.heap.size w w' := by
  obtain ⟨P, hP⟩ : ∃ P, P = 10 ^ s := ⟨_, rfl⟩
  have bP : P < W32 ^ 24 := by rw [hP]; exact Nat.lt_of_lt_of_le (tenk_lt s) (Nat.pow_le_pow_right (by decide) (by omega))
  have bk : k < W32 ^ 12 := Nat.lt_of_lt_of_le (show k < 18446744073709551616 by omega) (by decide)
  have br : Bd r 24 := Bd.more (K := 12) (qa_bd h (by decide)) (by decide)
  obtain ⟨one, hone⟩ : ∃ x : Nat, x = 1 := ⟨_, rfl⟩
  obtain ⟨t, ht⟩ : ∃ t, rdR m (r * mkRat (P : Int) 1) = t := ⟨_, rfl⟩
  obtain ⟨u, hu⟩ : ∃ u, rdR m (r * mkRat (P : Int) k) = u := ⟨_, rfl⟩
  obtain ⟨v, hv⟩ : ∃ v, v = t.natAbs := ⟨_, rfl⟩
  obtain ⟨v', hv'⟩ : ∃ v, v = u.natAbs * k := ⟨_, rfl⟩
  obtain ⟨st, hst⟩ : ∃ x, x = decide (t < 0) := ⟨_, rfl⟩
  obtain ⟨su, hsu⟩ : ∃ x, x = decide (u < 0) := ⟨_, rfl⟩
  have bt : ∀ q : Nat, 0 < q → q < W32 ^ 12 → (rdR m (r * mkRat (P : Int) q)).natAbs < W32 ^ 49 := fun q hq bq => by
    have bX : Bd (r * mkRat (P : Int) q) 48 := br.mul (tt_bd ⟨hq, rfl, by rw [Int.natAbs_natCast]; exact bP, Nat.lt_of_lt_of_le bq (Nat.pow_le_pow_right (by decide) (by decide))⟩)
    have h1 : (rdR m (r * mkRat (P : Int) q)).natAbs ≤ (r * mkRat (P : Int) q).num.natAbs + 1 := rd_abs'
    have h2 : W32 ^ 48 + 1 ≤ W32 ^ 49 := Nat.pow_lt_pow_right (by decide) (by decide)
    have h3 := bX.1
    omega
  have bt1 : t.natAbs < W32 ^ 49 := by rw [← ht]; exact bt 1 (by decide) (Nat.one_lt_pow (by decide) (by decide))
  have bu1 : u.natAbs < W32 ^ 49 := by rw [← hu]; exact bt k hk bk
  have bv' : v' < W32 ^ (49 + 12) := by rw [hv']; exact bd_mul bu1 bk
  have dv : dl v ≤ 99999 := by rw [hv]; exact Nat.le_trans (dl_le bt1) (by decide)
  have dv' : dl v' ≤ 99999 := Nat.le_trans (dl_le bv') (by decide)
  obtain ⟨q, hq⟩ : ∃ q, v' / k = q := ⟨_, rfl⟩
  obtain ⟨z, hz⟩ : ∃ z : Nat, v' % k = z := ⟨_, rfl⟩
  have hz0 : z = 0 := by rw [← hz, hv', Nat.mul_mod_left]
  have CL : Hid (∀ W, Calls Tryd.prog 6 #[.agg #[.bool b, .slice A n c, .slice A' n' c']] W (BoolR W false)) := fun W => long5_h hn hn'
  have CT : Hid (∀ W, Bel w W → Calls Tryd.prog 7 #[.agg #[.bool b, .slice A n c, .slice A' n' c'], .int .i64 (s : Int), .int .i64 m] W (ToR W st v (s : Int))) := fun W hw => by
    rw [hst, hv]
    exact to_ok (h.up hw.hid) (by omega) hm (by decide) (by decide) (by rw [← hP]; exact ht)
  have CO : Hid (∀ W, Calls Tryd.prog 9 #[.int .u64 1] W (NumR W one)) := fun W => by rw [hone]; exact of_h (v := 1) (by decide)
  have CK : Hid (∀ W, Calls Tryd.prog 9 #[.int .u64 (k : Int)] W (NumR W k)) := fun W => of_h hk2
  have CZ : Hid (∀ W, Calls Tryd.prog 9 #[.int .u64 0] W (NumR W z)) := fun W => by rw [hz0]; exact of_h (v := 0) (by decide)
  have CS : Hid (∀ W B e, Bel w W → Nm W B (dl one) e one → Calls Tryd.prog 8 #[.agg #[.bool b, .slice A n c, .slice A' n' c'], .agg #[.bool false, .slice B (dl one) e, .int .i64 (s : Int)], .int .i64 m] W (ToR W st v (s : Int))) := fun W B e hw hn => by
    have h1 := step_h (t := t) (h.up hw.hid) (dx_can (b := false) (s := s) hn (by omega) (fun e => by cases e)) (by omega) (by rw [hone]; exact Nat.one_lt_pow (by decide) (by decide)) hm (by decide) (by decide) (by rw [← hP, hone]; exact ht)
    rw [hone, Nat.mul_one, ← hst, ← hv, ← hone] at h1
    exact h1
  have CSk : Hid (∀ W B e, Bel w W → Nm W B (dl k) e k → Calls Tryd.prog 8 #[.agg #[.bool b, .slice A n c, .slice A' n' c'], .agg #[.bool false, .slice B (dl k) e, .int .i64 (s : Int)], .int .i64 m] W (ToR W su v' (s : Int))) := fun W B e hw hn => by
    have h1 := step_h (t := u) (h.up hw.hid) (dx_can (b := false) (s := s) hn (by omega) (fun e => by cases e)) hk bk hm (by decide) (by decide) (by rw [← hP]; exact hu)
    rw [← hsu, ← hv'] at h1
    exact h1
  have CX : Hid (∀ W B e, Nm W B (dl v) e v → Calls Tryd.prog 10 #[.agg #[.bool st, .slice B (dl v) e, .int .i64 (s : Int)]] W (TxR W (decD st v s))) := fun W B e hn => dtext_h (dx_can (b := st) (s := s) hn (by omega) (fun e => by rw [hst] at e; have := of_decide_eq_true e; omega)).y dv
  have CX2 : Hid (∀ W B e (S : ByteArray), Nm W B (dl v) e v → Hid (S.data.toList = decD st v s) → Calls Tryd.prog 10 #[.agg #[.bool st, .slice B (dl v) e, .int .i64 (s : Int)]] W (UStr W S)) := fun W B e S hn hS => (dtext_h (dx_can (b := st) (s := s) hn (by omega) (fun e => by rw [hst] at e; have := of_decide_eq_true e; omega)).y dv).mono fun _ _ h1 => ustr_of h1 hS.out
  have CD : Hid (∀ W B e B' e', Nm W B (dl v') e v' → Nm W B' (dl k) e' k → Calls Tryd.prog 11 #[.agg #[.slice B (dl v') e], .agg #[.slice B' (dl k) e']] W (DivV W q z)) := fun W B e B' e' h1 h2 => div_v h1 h2 hk dv' hq hz
  have CC : Hid (∀ W B e B' e', Nm W B (dl z) e z → Nm W B' (dl z) e' z → Calls Tryd.prog 12 #[.agg #[.slice B (dl z) e], .agg #[.slice B' (dl z) e']] W (IntPost W 0)) := fun W B e B' e' h1 h2 => cmp_h h1 h2 (cmpI_eq rfl)
  have k1 : decide ((s : Int) < 0) = false := decide_eq_false (by omega)
  have k1' : ¬ ((s : Int) < 0) := by omega
  have k2 : decide ((15 : Int) < (s : Int)) = false := decide_eq_false (by omega)
  have k2' : ¬ ((15 : Int) < (s : Int)) := by omega
  have k3 : decide (m < 1) = false := decide_eq_false (by omega)
  have k3' : ¬ (m < 1) := by omega
  have k4 : decide ((7 : Int) < m) = false := decide_eq_false (by omega)
  have k4' : ¬ ((7 : Int) < m) := by omega
  have k5 : ((k : Int) == 0) = false := by simp; omega
  clear h hn hn' hs hm hk hk2 hP bP bk br hone ht hu hv hv' hst hsu bt bt1 bu1 bv' dv dv' hq hz hz0
  have HB := Bel.refl w
  go_enter Tryd.func3, Tryd.ntmps3
  go_wp2_with (first | (go_at_call 5; (with_reducible refine (awake5_any _).mono ?_); rintro e w1 ⟨rfl, hbk⟩; (with_reducible (have HA : At w1 w.heap.size [.bool b, .slice A n c, .slice A' n' c'] := At.up (at_new0 _ _ _) hbk; replace HB := (HB.al _).up hbk)); have ha_0 := HA.c0; have ha_1 := HA.c1; have ha_2 := HA.c2; have ha_l := HA.lt) | (go_at_call 6; (with_reducible refine (CL.out _).mono ?_); rintro e w2 ⟨rfl, hbk⟩; (with_reducible (replace HB := HB.up hbk; replace HA := HA.up hbk)); clear ha_0 ha_1 ha_2 ha_l; have ha_0 := HA.c0; have ha_1 := HA.c1; have ha_2 := HA.c2; have ha_l := HA.lt) | (go_at_call 7; (with_reducible refine (CT.out _ HB).mono ?_); rintro e w3 ⟨X1, x1, rfl, n1, hbk⟩; (with_reducible (replace HB := HB.up hbk; replace HA := HA.up hbk)); clear ha_0 ha_1 ha_2 ha_l) | fail)
  obtain ⟨W1, hW1⟩ : ∃ X, X = w3.alloc (.cells #[.bool st, .slice X1 (dl v) x1, .int .i64 (s : Int)] 33) := ⟨_, rfl⟩
  rw [← hW1]
  obtain ⟨px, hpx⟩ : ∃ p, p = w3.heap.size := ⟨_, rfl⟩
  rw [← hpx]
  have HX : At W1 px [.bool st, .slice X1 (dl v) x1, .int .i64 (s : Int)] := by rw [hW1, hpx]; exact at_new0 _ _ _
  replace HA : At W1 w.heap.size [.bool b, .slice A n c, .slice A' n' c'] := by rw [hW1]; exact HA.al _
  replace HB : Bel w W1 := by rw [hW1]; exact HB.al _
  replace n1 : Nm W1 X1 (dl v) x1 v := by rw [hW1]; exact n1.al _
  clear hW1 hpx
  have l0 := HA.lt
  have l1 := HX.lt
  go_cut [11, 12] from 49 to 57 (fun o f w' => f = .int .i64 0 ∧ ∃ p B e, o = .pointer (some ⟨p, 0, none⟩) ∧ At w' p [.bool st, .slice B (dl v) e, .int .i64 (s : Int)] ∧ Nm w' B (dl v) e v ∧ Bel W1 w')
  case first =>
    have HW := Bel.refl W1
    go_region_held3 (fun w' => w'.cell? ⟨w.heap.size, 0, none⟩ = some (.bool b) ∧ w'.cell? ⟨w.heap.size, 1, none⟩ = some (.slice A n c) ∧ w'.cell? ⟨w.heap.size, 2, none⟩ = some (.slice A' n' c'))
      (refine ⟨(?_ : At _ w.heap.size [.bool b, .slice A n c, .slice A' n' c']).c0, (?_ : At _ w.heap.size [.bool b, .slice A n c, .slice A' n' c']).c1, (?_ : At _ w.heap.size [.bool b, .slice A n c, .slice A' n' c']).c2⟩ <;> (repeat (first | with_reducible exact HA | (with_reducible refine At.dr ?_) | (with_reducible refine At.al ?_ _) | (with_reducible refine At.far ?_ (by omega) _))))
      (first | (go_at_call 9; (with_reducible refine (CO.out _).mono ?_); rintro e v1 ⟨O1, o1, rfl, no, hbk⟩; (with_reducible (replace HB := HB.dr.up hbk; replace HW := HW.dr.up hbk; replace HA := HA.dr.up hbk)); have lz0 := HA.lt; (try have lz2 := HP0.lt); (try have lz3 := HQ0.lt); have zs1 := Below.size HW) | (go_at_call 9; (with_reducible refine (CO.out _).mono ?_); rintro e v1 ⟨O1, o1, rfl, no, hbk⟩; (with_reducible (have HP0 := At.up (at_new0 _ [.bool false, .slice none 0 0, .int .i64 0] _).dr hbk; replace HB := (HB.al _).dr.up hbk; replace HW := (HW.al _).dr.up hbk; replace HA := (HA.al _).dr.up hbk)); have lz0 := HA.lt; (try have lz2 := HP0.lt); (try have lz3 := HQ0.lt); have zs1 := Below.size HW) | (go_at_call 8; (with_reducible refine (CS.out _ _ _ HB no).mono ?_); rintro e v2 ⟨X2, x2, rfl, n2, hbk⟩; (with_reducible (replace HB := HB.up hbk; replace HW := HW.up hbk; replace HA := HA.up hbk)); (try (with_reducible replace HP0 := HP0.up hbk)); (try have hp0_0 := HP0.c0); (try have hp0_1 := HP0.c1); (try have hp0_2 := HP0.c2); (try have fhp0_0 := HP0.f0); (try have fhp0_1 := HP0.f1); (try have fhp0_2 := HP0.f2); (try have lhp0 := HP0.lt); (try have hq0_0 := HQ0.c0); (try have hq0_1 := HQ0.c1); (try have hq0_2 := HQ0.c2); (try have fhq0_0 := HQ0.f0); (try have fhq0_1 := HQ0.f1); (try have fhq0_2 := HQ0.f2); (try have lhq0 := HQ0.lt); have lz0 := HA.lt; (try have lz2 := HP0.lt); (try have lz3 := HQ0.lt); have zs2 := Below.size HW) | (go_at_call 8; (with_reducible refine (CS.out _ _ _ (HB.al _) (no.al _)).mono ?_); rintro e v2 ⟨X2, x2, rfl, n2, hbk⟩; (with_reducible (have HQ0 := At.up (at_new0 _ [.bool false, .slice none 0 0, .int .i64 0] _) hbk; replace HB := (HB.al _).up hbk; replace HW := (HW.al _).up hbk; replace HA := (HA.al _).up hbk)); (try (with_reducible replace HP0 := (HP0.al _).up hbk)); (try have hp0_0 := HP0.c0); (try have hp0_1 := HP0.c1); (try have hp0_2 := HP0.c2); (try have fhp0_0 := HP0.f0); (try have fhp0_1 := HP0.f1); (try have fhp0_2 := HP0.f2); (try have lhp0 := HP0.lt); (try have hq0_0 := HQ0.c0); (try have hq0_1 := HQ0.c1); (try have hq0_2 := HQ0.c2); (try have fhq0_0 := HQ0.f0); (try have fhq0_1 := HQ0.f1); (try have fhq0_2 := HQ0.f2); (try have lhq0 := HQ0.lt); have lz0 := HA.lt; (try have lz2 := HP0.lt); (try have lz3 := HQ0.lt); have zs2 := Below.size HW) | fail)
    all_goals
      go_wp2_with fail
      go_meet
      case rel =>
        refine ⟨rfl, _, X2, x2, rfl, ?_, ?_, ?_⟩ <;> (repeat (first | with_reducible exact n2 | with_reducible exact HP0 | with_reducible exact HQ0 | with_reducible exact HW | with_reducible exact at_new0 _ _ _ | with_reducible exact at_new1 _ _ _ _ | with_reducible exact at_newS _ _ _ _ | (with_reducible refine Bel.dr ?_) | (with_reducible refine Bel.al ?_ _) | (with_reducible refine Bel.uput3 ?_ (by omega) _ _ _) | (with_reducible refine Bel.put ?_ (by omega) _) | (with_reducible refine Nm.dr ?_) | (with_reducible refine Nm.al ?_ _) | (with_reducible refine Nm.putd ?_ ?_ _ _ _ _ _) | (with_reducible refine Nm.putx ?_ ⟨.slice none 0 0, At.c0 (vs := []) ?_, not_u32⟩ _) | (with_reducible refine At.dr ?_) | (with_reducible refine At.al ?_ _) | (with_reducible refine At.uput3 (v0 := .bool false) (v1 := .slice none 0 0) (v2 := .int .i64 0) ?_ _ _ _) | (with_reducible refine At.put1 (v := .slice none 0 0) ?_ _) | (with_reducible refine At.far3 ?_ (by omega) _ _ _) | (with_reducible refine At.far ?_ (by omega) _)))
  case rest =>
    obtain ⟨hf, py, X2, x2, rfl, HY, n2, hW⟩ := hcut
    subst hf
    replace HB := HB.up hW.hid
    replace HA := HA.up hW.hid
    replace HX := HX.up hW.hid
    replace n1 := n1.up hW.hid
    clear hW l0 l1
    have l0 := HA.lt
    have l1 := HX.lt
    have l2 := HY.lt
    go_wp2_with fail
    go_cut [13, 14] from 58 to 67 (fun o f w' => f = .int .i64 0 ∧ ∃ p B e, o = .pointer (some ⟨p, 0, none⟩) ∧ At w' p [.bool su, .slice B (dl v') e, .int .i64 (s : Int)] ∧ Nm w' B (dl v') e v' ∧ Bel wc w')
    case first =>
      have HW := Bel.refl wc
      go_region_held3 (fun w' => w'.cell? ⟨w.heap.size, 0, none⟩ = some (.bool b) ∧ w'.cell? ⟨w.heap.size, 1, none⟩ = some (.slice A n c) ∧ w'.cell? ⟨w.heap.size, 2, none⟩ = some (.slice A' n' c'))
        (refine ⟨(?_ : At _ w.heap.size [.bool b, .slice A n c, .slice A' n' c']).c0, (?_ : At _ w.heap.size [.bool b, .slice A n c, .slice A' n' c']).c1, (?_ : At _ w.heap.size [.bool b, .slice A n c, .slice A' n' c']).c2⟩ <;> (repeat (first | with_reducible exact HA | (with_reducible refine At.dr ?_) | (with_reducible refine At.al ?_ _) | (with_reducible refine At.far ?_ (by omega) _))))
        (first | (go_at_call 9; (with_reducible refine (CK.out _).mono ?_); rintro e v1 ⟨O1, o1, rfl, no, hbk⟩; (with_reducible (replace HB := HB.dr.up hbk; replace HW := HW.dr.up hbk; replace HA := HA.dr.up hbk)); have lz0 := HA.lt; (try have lz2 := HP0.lt); (try have lz3 := HQ0.lt); have zs1 := Below.size HW) | (go_at_call 9; (with_reducible refine (CK.out _).mono ?_); rintro e v1 ⟨O1, o1, rfl, no, hbk⟩; (with_reducible (have HP0 := At.up (at_new0 _ [.bool false, .slice none 0 0, .int .i64 0] _).dr hbk; replace HB := (HB.al _).dr.up hbk; replace HW := (HW.al _).dr.up hbk; replace HA := (HA.al _).dr.up hbk)); have lz0 := HA.lt; (try have lz2 := HP0.lt); (try have lz3 := HQ0.lt); have zs1 := Below.size HW) | (go_at_call 8; (with_reducible refine (CSk.out _ _ _ HB no).mono ?_); rintro e v2 ⟨X3, x3, rfl, n3, hbk⟩; (with_reducible (replace HB := HB.up hbk; replace HW := HW.up hbk; replace HA := HA.up hbk)); (try (with_reducible replace HP0 := HP0.up hbk)); (try have hp0_0 := HP0.c0); (try have hp0_1 := HP0.c1); (try have hp0_2 := HP0.c2); (try have fhp0_0 := HP0.f0); (try have fhp0_1 := HP0.f1); (try have fhp0_2 := HP0.f2); (try have lhp0 := HP0.lt); (try have hq0_0 := HQ0.c0); (try have hq0_1 := HQ0.c1); (try have hq0_2 := HQ0.c2); (try have fhq0_0 := HQ0.f0); (try have fhq0_1 := HQ0.f1); (try have fhq0_2 := HQ0.f2); (try have lhq0 := HQ0.lt); have lz0 := HA.lt; (try have lz2 := HP0.lt); (try have lz3 := HQ0.lt); have zs2 := Below.size HW) | (go_at_call 8; (with_reducible refine (CSk.out _ _ _ (HB.al _) (no.al _)).mono ?_); rintro e v2 ⟨X3, x3, rfl, n3, hbk⟩; (with_reducible (have HQ0 := At.up (at_new0 _ [.bool false, .slice none 0 0, .int .i64 0] _) hbk; replace HB := (HB.al _).up hbk; replace HW := (HW.al _).up hbk; replace HA := (HA.al _).up hbk)); (try (with_reducible replace HP0 := (HP0.al _).up hbk)); (try have hp0_0 := HP0.c0); (try have hp0_1 := HP0.c1); (try have hp0_2 := HP0.c2); (try have fhp0_0 := HP0.f0); (try have fhp0_1 := HP0.f1); (try have fhp0_2 := HP0.f2); (try have lhp0 := HP0.lt); (try have hq0_0 := HQ0.c0); (try have hq0_1 := HQ0.c1); (try have hq0_2 := HQ0.c2); (try have fhq0_0 := HQ0.f0); (try have fhq0_1 := HQ0.f1); (try have fhq0_2 := HQ0.f2); (try have lhq0 := HQ0.lt); have lz0 := HA.lt; (try have lz2 := HP0.lt); (try have lz3 := HQ0.lt); have zs2 := Below.size HW) | fail)
      all_goals
        go_wp2_with fail
        go_meet
        case rel =>
          refine ⟨rfl, _, X3, x3, rfl, ?_, ?_, ?_⟩ <;> (repeat (first | with_reducible exact n3 | with_reducible exact HP0 | with_reducible exact HQ0 | with_reducible exact HW | with_reducible exact at_new0 _ _ _ | with_reducible exact at_new1 _ _ _ _ | with_reducible exact at_newS _ _ _ _ | (with_reducible refine Bel.dr ?_) | (with_reducible refine Bel.al ?_ _) | (with_reducible refine Bel.uput3 ?_ (by omega) _ _ _) | (with_reducible refine Bel.put ?_ (by omega) _) | (with_reducible refine Nm.dr ?_) | (with_reducible refine Nm.al ?_ _) | (with_reducible refine Nm.putd ?_ ?_ _ _ _ _ _) | (with_reducible refine Nm.putx ?_ ⟨.slice none 0 0, At.c0 (vs := []) ?_, not_u32⟩ _) | (with_reducible refine At.dr ?_) | (with_reducible refine At.al ?_ _) | (with_reducible refine At.uput3 (v0 := .bool false) (v1 := .slice none 0 0) (v2 := .int .i64 0) ?_ _ _ _) | (with_reducible refine At.put1 (v := .slice none 0 0) ?_ _) | (with_reducible refine At.far3 ?_ (by omega) _ _ _) | (with_reducible refine At.far ?_ (by omega) _)))
    case rest =>
      obtain ⟨hf, pz, X3, x3, rfl, HZ, n3, hW⟩ := hcut
      subst hf
      replace HB := HB.up hW.hid
      replace HX := HX.up hW.hid
      replace HY := HY.up hW.hid
      replace n1 := n1.up hW.hid
      replace n2 := n2.up hW.hid
      clear hW l0 l1 l2 HA
      have l1 := HX.lt
      have l2 := HY.lt
      have l3 := HZ.lt
      go_wp2_with fail
      refine wp_region_held_drew (S := fun w' => w'.cell? ⟨px, 0, none⟩ = some (.bool st) ∧ w'.cell? ⟨px, 1, none⟩ = some (.slice X1 (dl v) x1) ∧ w'.cell? ⟨px, 2, none⟩ = some (.int .i64 (s : Int)) ∧ w'.cell? ⟨py, 0, none⟩ = some (.bool st) ∧ w'.cell? ⟨py, 1, none⟩ = some (.slice X2 (dl v) x2) ∧ w'.cell? ⟨py, 2, none⟩ = some (.int .i64 (s : Int)) ∧ w'.cell? ⟨pz, 0, none⟩ = some (.bool su) ∧ w'.cell? ⟨pz, 1, none⟩ = some (.slice X3 (dl v') x3) ∧ w'.cell? ⟨pz, 2, none⟩ = some (.int .i64 (s : Int))) (by kernel_rfl) ?_ (fun hHeld => ?_)
      · (refine ⟨(?_ : At _ px [.bool st, .slice X1 (dl v) x1, .int .i64 (s : Int)]).c0, (?_ : At _ px [.bool st, .slice X1 (dl v) x1, .int .i64 (s : Int)]).c1, (?_ : At _ px [.bool st, .slice X1 (dl v) x1, .int .i64 (s : Int)]).c2, (?_ : At _ py [.bool st, .slice X2 (dl v) x2, .int .i64 (s : Int)]).c0, (?_ : At _ py [.bool st, .slice X2 (dl v) x2, .int .i64 (s : Int)]).c1, (?_ : At _ py [.bool st, .slice X2 (dl v) x2, .int .i64 (s : Int)]).c2, (?_ : At _ pz [.bool su, .slice X3 (dl v') x3, .int .i64 (s : Int)]).c0, (?_ : At _ pz [.bool su, .slice X3 (dl v') x3, .int .i64 (s : Int)]).c1, (?_ : At _ pz [.bool su, .slice X3 (dl v') x3, .int .i64 (s : Int)]).c2⟩ <;> (repeat (first | with_reducible exact HX | with_reducible exact HY | with_reducible exact HZ | (with_reducible refine At.dr ?_) | (with_reducible refine At.al ?_ _) | (with_reducible refine At.far ?_ (by omega) _))))
      (refine wpAnyH_take (i := 0) (v := ?_) rfl (by decide +kernel) (by decide +kernel) (by decide +kernel) (fun _ _ _ h => h) (Or.inl ⟨by rfl, ?_⟩) (by assumption) ?_; rotate_left; (focus ((intro w hSw; (try dsimp only at hSw); go_simp); (try (with_reducible rfl)); done)); (try simp only [List.getElem_toArray, List.getElem_cons_zero, List.getElem_cons_succ, Act.put, List.setIfInBounds_toArray, List.set_cons_zero, List.set_cons_succ]))
      (refine wpAnyH_take (i := 1) (v := ?_) rfl (by decide +kernel) (by decide +kernel) (by decide +kernel) (fun _ _ _ h => h) (Or.inl ⟨by rfl, ?_⟩) (by assumption) ?_; rotate_left; (focus ((intro w hSw; (try dsimp only at hSw); go_simp); (try (with_reducible rfl)); done)); (try simp only [List.getElem_toArray, List.getElem_cons_zero, List.getElem_cons_succ, Act.put, List.setIfInBounds_toArray, List.set_cons_zero, List.set_cons_succ]))
      (refine wpAnyH_take (i := 2) (v := ?_) rfl (by decide +kernel) (by decide +kernel) (by decide +kernel) (fun _ _ _ h => h) (Or.inl ⟨by rfl, ?_⟩) (by assumption) ?_; rotate_left; (focus ((intro w hSw; (try dsimp only at hSw); go_simp); (try (with_reducible rfl)); done)); (try simp only [List.getElem_toArray, List.getElem_cons_zero, List.getElem_cons_succ, Act.put, List.setIfInBounds_toArray, List.set_cons_zero, List.set_cons_succ]))
      (refine wpAnyH_take (i := 3) (v := ?_) rfl (by decide +kernel) (by decide +kernel) (by decide +kernel) (fun _ _ _ h => h) (Or.inl ⟨by rfl, ?_⟩) (by assumption) ?_; rotate_left; (focus ((intro w hSw; (try dsimp only at hSw); go_simp); (try (with_reducible rfl)); done)); (try simp only [List.getElem_toArray, List.getElem_cons_zero, List.getElem_cons_succ, Act.put, List.setIfInBounds_toArray, List.set_cons_zero, List.set_cons_succ]))
      (refine wpAnyH_take (i := 4) (v := ?_) rfl (by decide +kernel) (by decide +kernel) (by decide +kernel) (fun _ _ _ h => h) (Or.inl ⟨by rfl, ?_⟩) (by assumption) ?_; rotate_left; (focus ((intro w hSw; (try dsimp only at hSw); go_simp); (try (with_reducible rfl)); done)); (try simp only [List.getElem_toArray, List.getElem_cons_zero, List.getElem_cons_succ, Act.put, List.setIfInBounds_toArray, List.set_cons_zero, List.set_cons_succ]))
      (refine wpAnyH_take (i := 5) (v := ?_) rfl (by decide +kernel) (by decide +kernel) (by decide +kernel) (fun _ _ _ h => h) (Or.inl ⟨by rfl, ?_⟩) (by assumption) ?_; rotate_left; (focus ((intro w hSw; (try dsimp only at hSw); go_simp); (try (with_reducible rfl)); done)); (try simp only [List.getElem_toArray, List.getElem_cons_zero, List.getElem_cons_succ, Act.put, List.setIfInBounds_toArray, List.set_cons_zero, List.set_cons_succ]))
      (refine wpAnyH_take (i := 6) (v := ?_) rfl (by decide +kernel) (by decide +kernel) (by decide +kernel) (fun _ _ _ h => h) (Or.inl ⟨by rfl, ?_⟩) (by assumption) ?_; rotate_left; (focus ((intro w hSw; (try dsimp only at hSw); go_simp); (try (with_reducible rfl)); done)); (try simp only [List.getElem_toArray, List.getElem_cons_zero, List.getElem_cons_succ, Act.put, List.setIfInBounds_toArray, List.set_cons_zero, List.set_cons_succ]))
      (refine wpAnyH_take (i := 7) (v := ?_) rfl (by decide +kernel) (by decide +kernel) (by decide +kernel) (fun _ _ _ h => h) (Or.inl ⟨by rfl, ?_⟩) (by assumption) ?_; rotate_left; (focus ((intro w hSw; (try dsimp only at hSw); go_simp); (try (with_reducible rfl)); done)); (try simp only [List.getElem_toArray, List.getElem_cons_zero, List.getElem_cons_succ, Act.put, List.setIfInBounds_toArray, List.set_cons_zero, List.set_cons_succ]))
      (refine wpAnyH_take (i := 8) (v := ?_) rfl (by decide +kernel) (by decide +kernel) (by decide +kernel) (fun _ _ _ h => h) (Or.inl ⟨by rfl, ?_⟩) (by assumption) ?_; rotate_left; (focus ((intro w hSw; (try dsimp only at hSw); go_simp); (try (with_reducible rfl)); done)); (try simp only [List.getElem_toArray, List.getElem_cons_zero, List.getElem_cons_succ, Act.put, List.setIfInBounds_toArray, List.set_cons_zero, List.set_cons_succ]))
      (refine wpAnyH_take (i := 9) (v := ?_) rfl (by decide +kernel) (by decide +kernel) (by decide +kernel) (fun _ _ _ h => h) (Or.inl ⟨by rfl, ?_⟩) (by assumption) ?_; rotate_left; (focus ((intro w hSw; (try dsimp only at hSw); go_simp); (try (with_reducible rfl)); done)); (try simp only [List.getElem_toArray, List.getElem_cons_zero, List.getElem_cons_succ, Act.put, List.setIfInBounds_toArray, List.set_cons_zero, List.set_cons_succ]))
      (refine wpAnyH_take (i := 10) (v := ?_) rfl (by decide +kernel) (by decide +kernel) (by decide +kernel) (fun _ _ _ h => h) (Or.inl ⟨by rfl, ?_⟩) (by assumption) ?_; rotate_left; (focus ((intro w hSw; (try dsimp only at hSw); go_simp); (try (with_reducible rfl)); done)); (try simp only [List.getElem_toArray, List.getElem_cons_zero, List.getElem_cons_succ, Act.put, List.setIfInBounds_toArray, List.set_cons_zero, List.set_cons_succ]))
      (refine wpAnyH_take (i := 11) (v := ?_) rfl (by decide +kernel) (by decide +kernel) (by decide +kernel) (fun _ _ _ h => h) (Or.inl ⟨by rfl, ?_⟩) (by assumption) ?_; rotate_left; (focus ((intro w hSw; (try dsimp only at hSw); go_simp); (try (with_reducible rfl)); done)); (try simp only [List.getElem_toArray, List.getElem_cons_zero, List.getElem_cons_succ, Act.put, List.setIfInBounds_toArray, List.set_cons_zero, List.set_cons_succ]))
      (refine wpAnyH_take (i := 13) (v := ?_) rfl (by decide +kernel) (by decide +kernel) (by decide +kernel) (fun _ _ _ h => h) (Or.inl ⟨by rfl, ?_⟩) (by assumption) ?_; rotate_left; (focus ((intro w hSw; (try dsimp only at hSw); go_simp); (try (with_reducible rfl)); done)); (try simp only [List.getElem_toArray, List.getElem_cons_zero, List.getElem_cons_succ, Act.put, List.setIfInBounds_toArray, List.set_cons_zero, List.set_cons_succ]))
      (refine wpAnyH_ready (rs := [12]) (by decide +kernel) (by simp) ?_; refine AllReadyH.cons rfl (fun K hK => ?_) AllReadyH.nil; go_simp; (first | (go_at_call 10; (with_reducible refine (CX.out _ _ _ n1.dr).mono ?_); rintro e y1 ⟨tx, rfl, htx, hbk⟩; (with_reducible (replace HB := HB.dr.up hbk; replace HX := HX.dr.up hbk; replace HY := HY.dr.up hbk; replace HZ := HZ.dr.up hbk; replace n1 := n1.dr.up hbk; replace n2 := n2.dr.up hbk; replace n3 := n3.dr.up hbk))) | (go_at_call 10; (with_reducible refine (CX2.out _ _ _ tx n2 htx).mono ?_); rintro e y2 ⟨rfl, hbk⟩; (with_reducible (replace HB := HB.up hbk; replace HX := HX.up hbk; replace HY := HY.up hbk; replace HZ := HZ.up hbk; replace n1 := n1.up hbk; replace n2 := n2.up hbk; replace n3 := n3.up hbk))) | fail); (try (go_wp2_with fail)); refine hK.out _ _ ?_ (fun hHeld => ?_); (focus ((try dsimp only); (refine ⟨(?_ : At _ px [.bool st, .slice X1 (dl v) x1, .int .i64 (s : Int)]).c0, (?_ : At _ px [.bool st, .slice X1 (dl v) x1, .int .i64 (s : Int)]).c1, (?_ : At _ px [.bool st, .slice X1 (dl v) x1, .int .i64 (s : Int)]).c2, (?_ : At _ py [.bool st, .slice X2 (dl v) x2, .int .i64 (s : Int)]).c0, (?_ : At _ py [.bool st, .slice X2 (dl v) x2, .int .i64 (s : Int)]).c1, (?_ : At _ py [.bool st, .slice X2 (dl v) x2, .int .i64 (s : Int)]).c2, (?_ : At _ pz [.bool su, .slice X3 (dl v') x3, .int .i64 (s : Int)]).c0, (?_ : At _ pz [.bool su, .slice X3 (dl v') x3, .int .i64 (s : Int)]).c1, (?_ : At _ pz [.bool su, .slice X3 (dl v') x3, .int .i64 (s : Int)]).c2⟩ <;> (repeat (first | with_reducible exact HX | with_reducible exact HY | with_reducible exact HZ | (with_reducible refine At.dr ?_) | (with_reducible refine At.al ?_ _) | (with_reducible refine At.far ?_ (by omega) _)))))); clear hK K; (try simp only [List.getElem_toArray, List.getElem_cons_zero, List.getElem_cons_succ, Act.put, List.setIfInBounds_toArray, List.set_cons_zero, List.set_cons_succ]))
      (refine wpAnyH_ready (rs := [14]) (by decide +kernel) (by simp) ?_; refine AllReadyH.cons rfl (fun K hK => ?_) AllReadyH.nil; go_simp; (first | (go_at_call 10; (with_reducible refine (CX.out _ _ _ n1.dr).mono ?_); rintro e y1 ⟨tx, rfl, htx, hbk⟩; (with_reducible (replace HB := HB.dr.up hbk; replace HX := HX.dr.up hbk; replace HY := HY.dr.up hbk; replace HZ := HZ.dr.up hbk; replace n1 := n1.dr.up hbk; replace n2 := n2.dr.up hbk; replace n3 := n3.dr.up hbk))) | (go_at_call 10; (with_reducible refine (CX2.out _ _ _ tx n2 htx).mono ?_); rintro e y2 ⟨rfl, hbk⟩; (with_reducible (replace HB := HB.up hbk; replace HX := HX.up hbk; replace HY := HY.up hbk; replace HZ := HZ.up hbk; replace n1 := n1.up hbk; replace n2 := n2.up hbk; replace n3 := n3.up hbk))) | fail); (try (go_wp2_with fail)); refine hK.out _ _ ?_ (fun hHeld => ?_); (focus ((try dsimp only); (refine ⟨(?_ : At _ px [.bool st, .slice X1 (dl v) x1, .int .i64 (s : Int)]).c0, (?_ : At _ px [.bool st, .slice X1 (dl v) x1, .int .i64 (s : Int)]).c1, (?_ : At _ px [.bool st, .slice X1 (dl v) x1, .int .i64 (s : Int)]).c2, (?_ : At _ py [.bool st, .slice X2 (dl v) x2, .int .i64 (s : Int)]).c0, (?_ : At _ py [.bool st, .slice X2 (dl v) x2, .int .i64 (s : Int)]).c1, (?_ : At _ py [.bool st, .slice X2 (dl v) x2, .int .i64 (s : Int)]).c2, (?_ : At _ pz [.bool su, .slice X3 (dl v') x3, .int .i64 (s : Int)]).c0, (?_ : At _ pz [.bool su, .slice X3 (dl v') x3, .int .i64 (s : Int)]).c1, (?_ : At _ pz [.bool su, .slice X3 (dl v') x3, .int .i64 (s : Int)]).c2⟩ <;> (repeat (first | with_reducible exact HX | with_reducible exact HY | with_reducible exact HZ | (with_reducible refine At.dr ?_) | (with_reducible refine At.al ?_ _) | (with_reducible refine At.far ?_ (by omega) _)))))); clear hK K; (try simp only [List.getElem_toArray, List.getElem_cons_zero, List.getElem_cons_succ, Act.put, List.setIfInBounds_toArray, List.set_cons_zero, List.set_cons_succ]))
      (refine wpAnyH_take (i := 15) (v := ?_) rfl (by decide +kernel) (by decide +kernel) (by decide +kernel) (fun _ _ _ h => h) (Or.inl ⟨by rfl, ?_⟩) (by assumption) ?_; rotate_left; (focus ((intro w hSw; (try dsimp only at hSw); go_simp); (try (with_reducible rfl)); done)); (try simp only [List.getElem_toArray, List.getElem_cons_zero, List.getElem_cons_succ, Act.put, List.setIfInBounds_toArray, List.set_cons_zero, List.set_cons_succ]))
      (refine wpAnyH_take (i := 16) (v := ?_) rfl (by decide +kernel) (by decide +kernel) (by decide +kernel) (fun _ _ _ h => h) (Or.inl ⟨by rfl, ?_⟩) (by assumption) ?_; rotate_left; (focus ((intro w hSw; (try dsimp only at hSw); go_simp); (try (with_reducible rfl)); done)); (try simp only [List.getElem_toArray, List.getElem_cons_zero, List.getElem_cons_succ, Act.put, List.setIfInBounds_toArray, List.set_cons_zero, List.set_cons_succ]))
      (refine wpAnyH_take (i := 17) (v := ?_) rfl (by decide +kernel) (by decide +kernel) (by decide +kernel) (fun _ _ _ h => h) (Or.inl ⟨by rfl, ?_⟩) (by assumption) ?_; rotate_left; (focus ((intro w hSw; (try dsimp only at hSw); go_simp); (try (with_reducible rfl)); done)); (try simp only [List.getElem_toArray, List.getElem_cons_zero, List.getElem_cons_succ, Act.put, List.setIfInBounds_toArray, List.set_cons_zero, List.set_cons_succ]))
      (refine wpAnyH_take (i := 18) (v := ?_) rfl (by decide +kernel) (by decide +kernel) (by decide +kernel) (fun _ _ _ h => h) (Or.inl ⟨by rfl, ?_⟩) (by assumption) ?_; rotate_left; (focus ((intro w hSw; (try dsimp only at hSw); go_simp); (try (with_reducible rfl)); done)); (try simp only [List.getElem_toArray, List.getElem_cons_zero, List.getElem_cons_succ, Act.put, List.setIfInBounds_toArray, List.set_cons_zero, List.set_cons_succ]))
      (refine wpAnyH_take (i := 19) (v := ?_) rfl (by decide +kernel) (by decide +kernel) (by decide +kernel) (fun _ _ _ h => h) (Or.inl ⟨by rfl, ?_⟩) (by assumption) ?_; rotate_left; (focus ((intro w hSw; (try dsimp only at hSw); go_simp); (try (with_reducible rfl)); done)); (try simp only [List.getElem_toArray, List.getElem_cons_zero, List.getElem_cons_succ, Act.put, List.setIfInBounds_toArray, List.set_cons_zero, List.set_cons_succ]))
      (refine wpAnyH_take (i := 20) (v := ?_) rfl (by decide +kernel) (by decide +kernel) (by decide +kernel) (fun _ _ _ h => h) (Or.inl ⟨by rfl, ?_⟩) (by assumption) ?_; rotate_left; (focus ((intro w hSw; (try dsimp only at hSw); go_simp); (try (with_reducible rfl)); done)); (try simp only [List.getElem_toArray, List.getElem_cons_zero, List.getElem_cons_succ, Act.put, List.setIfInBounds_toArray, List.set_cons_zero, List.set_cons_succ]))
      (refine wpAnyH_take (i := 21) (v := ?_) rfl (by decide +kernel) (by decide +kernel) (by decide +kernel) (fun _ _ _ h => h) (Or.inl ⟨by rfl, ?_⟩) (by assumption) ?_; rotate_left; (focus ((intro w hSw; (try dsimp only at hSw); go_simp); (try (with_reducible rfl)); done)); (try simp only [List.getElem_toArray, List.getElem_cons_zero, List.getElem_cons_succ, Act.put, List.setIfInBounds_toArray, List.set_cons_zero, List.set_cons_succ]))
      (refine wpAnyH_take (i := 22) (v := ?_) rfl (by decide +kernel) (by decide +kernel) (by decide +kernel) (fun _ _ _ h => h) (Or.inl ⟨by rfl, ?_⟩) (by assumption) ?_; rotate_left; (focus ((intro w hSw; (try dsimp only at hSw); go_simp); (try (with_reducible rfl)); done)); (try simp only [List.getElem_toArray, List.getElem_cons_zero, List.getElem_cons_succ, Act.put, List.setIfInBounds_toArray, List.set_cons_zero, List.set_cons_succ]))
      refine wpAnyH_done (by decide +kernel) ?_ _
      have hz_0 := HZ.c0
      have hz_1 := HZ.c1
      have hz_2 := HZ.c2
      have hz_l := HZ.lt
      go_wp2_with fail
      obtain ⟨W3, hW3⟩ : ∃ X, X = y2 := ⟨_, rfl⟩
      rw [← hW3] at HB HX HY HZ n1 n2 n3 ⊢
      clear hz_0 hz_1 hz_2 hz_l hW3
      have l4 := HZ.lt
      go_cut [16, 17] from 91 to 99 (fun o f w' => f = .bool true ∧ ∃ p B e, o = .pointer (some ⟨p, 0, none⟩) ∧ At w' p [.slice B (dl z) e] ∧ Nm w' B (dl z) e z ∧ Bel W3 w')
      case first =>
        have HW := Bel.refl W3
        go_region_held3 (fun w' => w'.cell? ⟨pz, 0, none⟩ = some (.bool su) ∧ w'.cell? ⟨pz, 1, none⟩ = some (.slice X3 (dl v') x3) ∧ w'.cell? ⟨pz, 2, none⟩ = some (.int .i64 (s : Int)))
          (refine ⟨(?_ : At _ pz [.bool su, .slice X3 (dl v') x3, .int .i64 (s : Int)]).c0, (?_ : At _ pz [.bool su, .slice X3 (dl v') x3, .int .i64 (s : Int)]).c1, (?_ : At _ pz [.bool su, .slice X3 (dl v') x3, .int .i64 (s : Int)]).c2⟩ <;> (repeat (first | with_reducible exact HZ | (with_reducible refine At.dr ?_) | (with_reducible refine At.al ?_ _) | (with_reducible refine At.far ?_ (by omega) _))))
          (first | (go_at_call 9; (with_reducible refine (CK.out _).mono ?_); rintro e v1 ⟨O1, o1, rfl, no, hbk⟩; (with_reducible (replace HB := HB.dr.up hbk; replace HW := HW.dr.up hbk; replace HZ := HZ.dr.up hbk; replace n3 := n3.dr.up hbk)); have lz0 := HZ.lt; (try have lz2 := HP0.lt); (try have lz3 := HP1.lt); (try have lz4 := HQ0.lt); (try have lz5 := HQ1.lt); have zs1 := Below.size HW) | (go_at_call 9; (with_reducible refine (CK.out _).mono ?_); rintro e v1 ⟨O1, o1, rfl, no, hbk⟩; (with_reducible (have HP0 := At.up (at_new0 _ [.slice none 0 0] _).dr hbk; replace HB := (HB.al _).dr.up hbk; replace HW := (HW.al _).dr.up hbk; replace HZ := (HZ.al _).dr.up hbk; replace n3 := (n3.al _).dr.up hbk)); have lz0 := HZ.lt; (try have lz2 := HP0.lt); (try have lz3 := HP1.lt); (try have lz4 := HQ0.lt); (try have lz5 := HQ1.lt); have zs1 := Below.size HW) | (go_at_call 9; (with_reducible refine (CK.out _).mono ?_); rintro e v1 ⟨O1, o1, rfl, no, hbk⟩; (with_reducible (have HP0 := At.up ((at_new0 _ [.slice none 0 0] _).al _).dr hbk; have HP1 := At.up (at_new1 _ _ [.slice none 0 0] _).dr hbk; replace HB := ((HB.al _).al _).dr.up hbk; replace HW := ((HW.al _).al _).dr.up hbk; replace HZ := ((HZ.al _).al _).dr.up hbk; replace n3 := ((n3.al _).al _).dr.up hbk)); have lz0 := HZ.lt; (try have lz2 := HP0.lt); (try have lz3 := HP1.lt); (try have lz4 := HQ0.lt); (try have lz5 := HQ1.lt); have zs1 := Below.size HW) | (go_at_call 11; (with_reducible refine (CD.out _ _ _ _ _ n3 no).mono ?_); rintro e v2 ⟨Bq, eq, Bz, ez, rfl, nq, nz, hbk⟩; (with_reducible (replace HB := HB.up hbk; replace HW := HW.up hbk; replace HZ := HZ.up hbk)); (try (with_reducible replace HP0 := HP0.up hbk)); (try (with_reducible replace HP1 := HP1.up hbk)); (try have hp0_0 := HP0.c0); (try have fhp0_0 := HP0.f0); (try have lhp0 := HP0.lt); (try have hp1_0 := HP1.c0); (try have fhp1_0 := HP1.f0); (try have lhp1 := HP1.lt); (try have hq0_0 := HQ0.c0); (try have fhq0_0 := HQ0.f0); (try have lhq0 := HQ0.lt); (try have hq1_0 := HQ1.c0); (try have fhq1_0 := HQ1.f0); (try have lhq1 := HQ1.lt); have lz0 := HZ.lt; (try have lz2 := HP0.lt); (try have lz3 := HP1.lt); (try have lz4 := HQ0.lt); (try have lz5 := HQ1.lt); have zs2 := Below.size HW) | (go_at_call 11; (with_reducible refine (CD.out _ _ _ _ _ (n3.al _) (no.al _)).mono ?_); rintro e v2 ⟨Bq, eq, Bz, ez, rfl, nq, nz, hbk⟩; (with_reducible (have HQ0 := At.up (at_new0 _ [.slice none 0 0] _) hbk; replace HB := (HB.al _).up hbk; replace HW := (HW.al _).up hbk; replace HZ := (HZ.al _).up hbk)); (try (with_reducible replace HP0 := (HP0.al _).up hbk)); (try (with_reducible replace HP1 := (HP1.al _).up hbk)); (try have hp0_0 := HP0.c0); (try have fhp0_0 := HP0.f0); (try have lhp0 := HP0.lt); (try have hp1_0 := HP1.c0); (try have fhp1_0 := HP1.f0); (try have lhp1 := HP1.lt); (try have hq0_0 := HQ0.c0); (try have fhq0_0 := HQ0.f0); (try have lhq0 := HQ0.lt); (try have hq1_0 := HQ1.c0); (try have fhq1_0 := HQ1.f0); (try have lhq1 := HQ1.lt); have lz0 := HZ.lt; (try have lz2 := HP0.lt); (try have lz3 := HP1.lt); (try have lz4 := HQ0.lt); (try have lz5 := HQ1.lt); have zs2 := Below.size HW) | (go_at_call 11; (with_reducible refine (CD.out _ _ _ _ _ ((n3.al _).al _) ((no.al _).al _)).mono ?_); rintro e v2 ⟨Bq, eq, Bz, ez, rfl, nq, nz, hbk⟩; (with_reducible (have HQ0 := At.up ((at_new0 _ [.slice none 0 0] _).al _) hbk; have HQ1 := At.up (at_new1 _ _ [.slice none 0 0] _) hbk; replace HB := ((HB.al _).al _).up hbk; replace HW := ((HW.al _).al _).up hbk; replace HZ := ((HZ.al _).al _).up hbk)); (try (with_reducible replace HP0 := ((HP0.al _).al _).up hbk)); (try (with_reducible replace HP1 := ((HP1.al _).al _).up hbk)); (try have hp0_0 := HP0.c0); (try have fhp0_0 := HP0.f0); (try have lhp0 := HP0.lt); (try have hp1_0 := HP1.c0); (try have fhp1_0 := HP1.f0); (try have lhp1 := HP1.lt); (try have hq0_0 := HQ0.c0); (try have fhq0_0 := HQ0.f0); (try have lhq0 := HQ0.lt); (try have hq1_0 := HQ1.c0); (try have fhq1_0 := HQ1.f0); (try have lhq1 := HQ1.lt); have lz0 := HZ.lt; (try have lz2 := HP0.lt); (try have lz3 := HP1.lt); (try have lz4 := HQ0.lt); (try have lz5 := HQ1.lt); have zs2 := Below.size HW) | fail)
        all_goals
          go_wp2_with fail
          go_meet
          case rel =>
            refine ⟨rfl, _, Bz, ez, rfl, ?_, ?_, ?_⟩ <;> (repeat (first | with_reducible exact nz | with_reducible exact HP0 | with_reducible exact HP1 | with_reducible exact HQ0 | with_reducible exact HQ1 | with_reducible exact HW | with_reducible exact at_new0 _ _ _ | with_reducible exact at_new1 _ _ _ _ | with_reducible exact at_newS _ _ _ _ | (with_reducible refine Bel.dr ?_) | (with_reducible refine Bel.al ?_ _) | (with_reducible refine Bel.uput3 ?_ (by omega) _ _ _) | (with_reducible refine Bel.put ?_ (by omega) _) | (with_reducible refine Nm.dr ?_) | (with_reducible refine Nm.al ?_ _) | (with_reducible refine Nm.putd ?_ ?_ _ _ _ _ _) | (with_reducible refine Nm.putx ?_ ⟨.slice none 0 0, At.c0 (vs := []) ?_, not_u32⟩ _) | (with_reducible refine At.dr ?_) | (with_reducible refine At.al ?_ _) | (with_reducible refine At.uput3 (v0 := .bool false) (v1 := .slice none 0 0) (v2 := .int .i64 0) ?_ _ _ _) | (with_reducible refine At.put1 (v := .slice none 0 0) ?_ _) | (with_reducible refine At.far3 ?_ (by omega) _ _ _) | (with_reducible refine At.far ?_ (by omega) _)))
      case rest =>
        obtain ⟨hf, pr, Bz, ez, rfl, HR, nz, hW⟩ := hcut
        subst hf
        replace HB := HB.up hW.hid
        clear hW HX HY HZ n1 n2 n3
        have l5 := HR.lt
        go_wp2_with fail
        refine wp_region_held_drew (S := fun w' => w'.cell? ⟨pr, 0, none⟩ = some (.slice Bz (dl z) ez)) (by kernel_rfl) ?_ (fun hHeld => ?_)
        · (refine (?_ : At _ pr [.slice Bz (dl z) ez]).c0 <;> (repeat (first | with_reducible exact HR | (with_reducible refine At.dr ?_) | (with_reducible refine At.al ?_ _) | (with_reducible refine At.far ?_ (by omega) _))))
        (refine wpAnyH_take (i := 0) (v := ?_) rfl (by decide +kernel) (by decide +kernel) (by decide +kernel) (fun _ _ _ h => h) (Or.inl ⟨by rfl, ?_⟩) (by assumption) ?_; rotate_left; (focus ((intro w hSw; (try dsimp only at hSw); go_simp); (try (with_reducible rfl)); done)); (try simp only [List.getElem_toArray, List.getElem_cons_zero, List.getElem_cons_succ, Act.put, List.setIfInBounds_toArray, List.set_cons_zero, List.set_cons_succ]))
        (refine wpAnyH_take (i := 1) (v := ?_) rfl (by decide +kernel) (by decide +kernel) (by decide +kernel) (fun _ _ _ h => h) (Or.inl ⟨by rfl, ?_⟩) (by assumption) ?_; rotate_left; (focus ((intro w hSw; (try dsimp only at hSw); go_simp); (try (with_reducible rfl)); done)); (try simp only [List.getElem_toArray, List.getElem_cons_zero, List.getElem_cons_succ, Act.put, List.setIfInBounds_toArray, List.set_cons_zero, List.set_cons_succ]))
        (refine wpAnyH_take (i := 2) (v := ?_) rfl (by decide +kernel) (by decide +kernel) (by decide +kernel) (fun _ _ _ h => h) (Or.inl ⟨by rfl, ?_⟩) (by assumption) ?_; rotate_left; (focus ((intro w hSw; (try dsimp only at hSw); go_simp); (try (with_reducible rfl)); done)); (try simp only [List.getElem_toArray, List.getElem_cons_zero, List.getElem_cons_succ, Act.put, List.setIfInBounds_toArray, List.set_cons_zero, List.set_cons_succ]))
        (refine wpAnyH_ready (rs := [3]) (by decide +kernel) (by simp) ?_; refine AllReadyH.cons rfl (fun K hK => ?_) AllReadyH.nil; go_simp; (first | (go_at_call 9; (with_reducible refine (CZ.out _).mono ?_); rintro e q1 ⟨B0, e0, rfl, n0, hbk⟩; (with_reducible (replace HB := HB.dr.up hbk; replace HR := HR.dr.up hbk; replace nz := nz.dr.up hbk))) | (go_at_call 12; (with_reducible refine (CC.out _ _ _ _ _ nz n0).mono ?_); rintro e q2 ⟨rfl, hbk⟩; (with_reducible (replace HB := HB.up hbk; replace HR := HR.up hbk))) | fail); (try (go_wp2_with fail)); refine hK.out _ _ ?_ (fun hHeld => ?_); (focus ((try dsimp only); (refine (?_ : At _ pr [.slice Bz (dl z) ez]).c0 <;> (repeat (first | with_reducible exact HR | (with_reducible refine At.dr ?_) | (with_reducible refine At.al ?_ _) | (with_reducible refine At.far ?_ (by omega) _)))))); clear hK K; (try simp only [List.getElem_toArray, List.getElem_cons_zero, List.getElem_cons_succ, Act.put, List.setIfInBounds_toArray, List.set_cons_zero, List.set_cons_succ]))
        (refine wpAnyH_ready (rs := [4]) (by decide +kernel) (by simp) ?_; refine AllReadyH.cons rfl (fun K hK => ?_) AllReadyH.nil; go_simp; (first | (go_at_call 9; (with_reducible refine (CZ.out _).mono ?_); rintro e q1 ⟨B0, e0, rfl, n0, hbk⟩; (with_reducible (replace HB := HB.dr.up hbk; replace HR := HR.dr.up hbk; replace nz := nz.dr.up hbk))) | (go_at_call 12; (with_reducible refine (CC.out _ _ _ _ _ nz n0).mono ?_); rintro e q2 ⟨rfl, hbk⟩; (with_reducible (replace HB := HB.up hbk; replace HR := HR.up hbk))) | fail); (try (go_wp2_with fail)); refine hK.out _ _ ?_ (fun hHeld => ?_); (focus ((try dsimp only); (refine (?_ : At _ pr [.slice Bz (dl z) ez]).c0 <;> (repeat (first | with_reducible exact HR | (with_reducible refine At.dr ?_) | (with_reducible refine At.al ?_ _) | (with_reducible refine At.far ?_ (by omega) _)))))); clear hK K; (try simp only [List.getElem_toArray, List.getElem_cons_zero, List.getElem_cons_succ, Act.put, List.setIfInBounds_toArray, List.set_cons_zero, List.set_cons_succ]))
        (refine wpAnyH_take (i := 5) (v := ?_) rfl (by decide +kernel) (by decide +kernel) (by decide +kernel) (fun _ _ _ h => h) (Or.inl ⟨by rfl, ?_⟩) (by assumption) ?_; rotate_left; (focus ((intro w hSw; (try dsimp only at hSw); go_simp); (try (with_reducible rfl)); done)); (try simp only [List.getElem_toArray, List.getElem_cons_zero, List.getElem_cons_succ, Act.put, List.setIfInBounds_toArray, List.set_cons_zero, List.set_cons_succ]))
        (refine wpAnyH_take (i := 6) (v := ?_) rfl (by decide +kernel) (by decide +kernel) (by decide +kernel) (fun _ _ _ h => h) (Or.inl ⟨by rfl, ?_⟩) (by assumption) ?_; rotate_left; (focus ((intro w hSw; (try dsimp only at hSw); go_simp); (try (with_reducible rfl)); done)); (try simp only [List.getElem_toArray, List.getElem_cons_zero, List.getElem_cons_succ, Act.put, List.setIfInBounds_toArray, List.set_cons_zero, List.set_cons_succ]))
        (refine wpAnyH_take (i := 7) (v := ?_) rfl (by decide +kernel) (by decide +kernel) (by decide +kernel) (fun _ _ _ h => h) (Or.inl ⟨by rfl, ?_⟩) (by assumption) ?_; rotate_left; (focus ((intro w hSw; (try dsimp only at hSw); go_simp); (try (with_reducible rfl)); done)); (try simp only [List.getElem_toArray, List.getElem_cons_zero, List.getElem_cons_succ, Act.put, List.setIfInBounds_toArray, List.set_cons_zero, List.set_cons_succ]))
        refine wpAnyH_done (by decide +kernel) ?_ _
        go_wp2
        go_ret
        exact ⟨rfl, HB⟩
theorem steps_all {y y' : List Nat} {sc x : Int} (w : World) (h : n = y.length ∧ n ≤ c ∧ Rd U32 w w.heap.size A y ∧ Good32 y) (h' : n' = y'.length ∧ n' ≤ c' ∧ Rd U32 w w.heap.size A' y' ∧ Good32 y') (_bs : -9223372036854775808 ≤ sc ∧ sc ≤ 9223372036854775807) (_bm : -9223372036854775808 ≤ m ∧ m ≤ 9223372036854775807) (bx : 0 ≤ x ∧ x ≤ 18446744073709551615) : Calls Tryd.prog 3 #[.agg #[.bool b, .slice A n c, .slice A' n' c'], .int .i64 sc, .int .i64 m, .int .u64 x] w fun e w' => e = .returned (.bool true) ∧ Below w.heap.size w w' := by
  by_cases hn : n ≤ 12 ∧ n' ≤ 12
  · by_cases h1 : sc < 0
    · exact steps_x1 w hn h1
    by_cases h2 : 15 < sc
    · exact steps_x2 w hn (by omega) h2
    by_cases h3 : m < 1
    · exact steps_x3 w hn (by omega) (by omega) h3
    by_cases h4 : 7 < m
    · exact steps_x4 w hn (by omega) (by omega) (by omega) h4
    by_cases h5 : x = 0
    · exact steps_x5 w hn (by omega) (by omega) (by omega) (by omega) h5
    obtain ⟨j, rfl⟩ : ∃ j : Nat, sc = (j : Int) := ⟨sc.toNat, by omega⟩
    obtain ⟨k, rfl⟩ : ∃ k : Nat, x = (k : Int) := ⟨x.toNat, by omega⟩
    exact steps_main (r := mkRat (zi b (val W32 y)) (val W32 y')) w (qa_in h h' hn) hn.1 hn.2 (by omega) (by omega) (by omega) (by omega)
  · exact steps_x0 w hn
end
end Go.Proofs.YteieelgdiccppabDoor
