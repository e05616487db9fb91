/- RoundDigits' walk. No conditions. -/
import Derived.Test.YteieelgdiccppabDoorGWdc30
open Go.RowKit
set_option maxRecDepth 100000
namespace Go.Proofs.YteieelgdiccppabDoor
theorem cut_last' {t : ByteArray} {k : Nat} (hk : t.size = k + 1) (h : k < t.size) : t.data.toList = (t.extract 0 k).data.toList ++ [t[k]] := by
  rw [extract_list, List.drop_zero, ← take_snoc h, ← hk, List.take_of_length_le (show t.data.toList.length ≤ t.size from Nat.le_refl _)]
section
variable {W w : World} {b : Bool} {A A' : Option Addr} {n c n' c' d : Nat} {dg m z : Int} {r : Rat}
set_option maxHeartbeats 4000000 in
theorem digits_x0 (w : World) (h : 6 < n) : Calls Tryd.prog 4 #[.agg #[.bool b, .slice A n c, .slice A' n' c'], .int .i64 dg, .int .i64 m] w fun e w' => e = .returned (.bool true) ∧ Below w.heap.size w w' := by
  have g1 : decide ((6 : Int) < (n : Int)) = true := decide_eq_true (by omega)
  have g1' : (6 : Int) < (n : Int) := by omega
  clear h
  have HB := Bel.refl w
  go_enter Tryd.func4, Tryd.ntmps4
  go_wp2_with (first | (go_at_call 5; (with_reducible refine (awake5_any _).mono ?_); rintro e w1 ⟨rfl, hbk⟩; (with_reducible (have HA : At w1 w.heap.size [.bool b, .slice A n c, .slice A' n' c'] := At.up (at_new0 _ _ _) hbk; replace HB := (HB.al _).up hbk)); have ha_0 := HA.c0; have ha_1 := HA.c1; have ha_2 := HA.c2; have ha_l := HA.lt) | fail)
  go_ret
  exact ⟨rfl, HB⟩
set_option maxHeartbeats 4000000 in
theorem digits_x1 (w : World) (h : n ≤ 6) (h' : 6 < n') : Calls Tryd.prog 4 #[.agg #[.bool b, .slice A n c, .slice A' n' c'], .int .i64 dg, .int .i64 m] w fun e w' => e = .returned (.bool true) ∧ Below w.heap.size w w' := by
  have g1 : decide ((6 : Int) < (n : Int)) = false := decide_eq_false (by omega)
  have g1' : ¬ ((6 : Int) < (n : Int)) := by omega
  have g2 : decide ((6 : Int) < (n' : Int)) = true := decide_eq_true (by omega)
  have g2' : (6 : Int) < (n' : Int) := by omega
  clear h h'
  have HB := Bel.refl w
  go_enter Tryd.func4, Tryd.ntmps4
  go_wp2_with (first | (go_at_call 5; (with_reducible refine (awake5_any _).mono ?_); rintro e w1 ⟨rfl, hbk⟩; (with_reducible (have HA : At w1 w.heap.size [.bool b, .slice A n c, .slice A' n' c'] := At.up (at_new0 _ _ _) hbk; replace HB := (HB.al _).up hbk)); have ha_0 := HA.c0; have ha_1 := HA.c1; have ha_2 := HA.c2; have ha_l := HA.lt) | fail)
  go_ret
  exact ⟨rfl, HB⟩
set_option maxHeartbeats 4000000 in
theorem digits_x2 (w : World) (h : n ≤ 6) (h' : n' ≤ 6) (hG : ∀ W', Bel w W' → Calls Tryd.prog 13 #[.agg #[.bool b, .slice A n c, .slice A' n' c']] W' (RetB W' false)) : Calls Tryd.prog 4 #[.agg #[.bool b, .slice A n c, .slice A' n' c'], .int .i64 dg, .int .i64 m] w fun e w' => e = .returned (.bool true) ∧ Below w.heap.size w w' := by
  have g1 : decide ((6 : Int) < (n : Int)) = false := decide_eq_false (by omega)
  have g1' : ¬ ((6 : Int) < (n : Int)) := by omega
  have g2 : decide ((6 : Int) < (n' : Int)) = false := decide_eq_false (by omega)
  have g2' : ¬ ((6 : Int) < (n' : Int)) := by omega
  have CG : Hid (∀ W', Bel w W' → Calls Tryd.prog 13 #[.agg #[.bool b, .slice A n c, .slice A' n' c']] W' (RetB W' false)) := hG
  clear h h' hG
  have HB := Bel.refl w
  go_enter Tryd.func4, Tryd.ntmps4
  go_wp2_with (first | (go_at_call 5; (with_reducible refine (awake5_any _).mono ?_); rintro e w1 ⟨rfl, hbk⟩; (with_reducible (have HA : At w1 w.heap.size [.bool b, .slice A n c, .slice A' n' c'] := At.up (at_new0 _ _ _) hbk; replace HB := (HB.al _).up hbk)); have ha_0 := HA.c0; have ha_1 := HA.c1; have ha_2 := HA.c2; have ha_l := HA.lt) | (go_at_call 13; (with_reducible refine (CG.out _ HB).mono ?_); rintro e w2 ⟨rfl, hbe⟩; have hbk := hbe.hid; (with_reducible (replace HB := HB.up hbk; replace HA := HA.up hbk)); clear ha_0 ha_1 ha_2 ha_l; have ha_0 := HA.c0; have ha_1 := HA.c1; have ha_2 := HA.c2; have ha_l := HA.lt) | fail)
  go_ret
  exact ⟨rfl, HB⟩
set_option maxHeartbeats 4000000 in
theorem digits_x3 (w : World) (h : n ≤ 6) (h' : n' ≤ 6) (hG : ∀ W', Bel w W' → Calls Tryd.prog 13 #[.agg #[.bool b, .slice A n c, .slice A' n' c']] W' (RetB W' true)) (hS : ∀ W', Bel w W' → Calls Tryd.prog 14 #[.agg #[.bool b, .slice A n c, .slice A' n' c']] W' (IntPost W' 0)) : Calls Tryd.prog 4 #[.agg #[.bool b, .slice A n c, .slice A' n' c'], .int .i64 dg, .int .i64 m] w fun e w' => e = .returned (.bool true) ∧ Below w.heap.size w w' := by
  have g1 : decide ((6 : Int) < (n : Int)) = false := decide_eq_false (by omega)
  have g1' : ¬ ((6 : Int) < (n : Int)) := by omega
  have g2 : decide ((6 : Int) < (n' : Int)) = false := decide_eq_false (by omega)
  have g2' : ¬ ((6 : Int) < (n' : Int)) := by omega
  have CG : Hid (∀ W', Bel w W' → Calls Tryd.prog 13 #[.agg #[.bool b, .slice A n c, .slice A' n' c']] W' (RetB W' true)) := hG
  have CS : Hid (∀ W', Bel w W' → Calls Tryd.prog 14 #[.agg #[.bool b, .slice A n c, .slice A' n' c']] W' (IntPost W' 0)) := hS
  clear h h' hG hS
  have HB := Bel.refl w
  go_enter Tryd.func4, Tryd.ntmps4
  go_wp2_with (first | (go_at_call 5; (with_reducible refine (awake5_any _).mono ?_); rintro e w1 ⟨rfl, hbk⟩; (with_reducible (have HA : At w1 w.heap.size [.bool b, .slice A n c, .slice A' n' c'] := At.up (at_new0 _ _ _) hbk; replace HB := (HB.al _).up hbk)); have ha_0 := HA.c0; have ha_1 := HA.c1; have ha_2 := HA.c2; have ha_l := HA.lt) | (go_at_call 13; (with_reducible refine (CG.out _ HB).mono ?_); rintro e w2 ⟨rfl, hbe⟩; have hbk := hbe.hid; (with_reducible (replace HB := HB.up hbk; replace HA := HA.up hbk)); clear ha_0 ha_1 ha_2 ha_l; have ha_0 := HA.c0; have ha_1 := HA.c1; have ha_2 := HA.c2; have ha_l := HA.lt) | (go_at_call 14; (with_reducible refine (CS.out _ HB).mono ?_); rintro e w3 ⟨rfl, hbk⟩; (with_reducible (replace HB := HB.up hbk; replace HA := HA.up hbk)); clear ha_0 ha_1 ha_2 ha_l; have ha_0 := HA.c0; have ha_1 := HA.c1; have ha_2 := HA.c2; have ha_l := HA.lt) | fail)
  go_ret
  exact ⟨rfl, HB⟩
set_option maxHeartbeats 4000000 in
theorem digits_x4 (w : World) (h : n ≤ 6) (h' : n' ≤ 6) (hG : ∀ W', Bel w W' → Calls Tryd.prog 13 #[.agg #[.bool b, .slice A n c, .slice A' n' c']] W' (RetB W' true)) {u : Int} (hu : u ≠ 0) (hS : ∀ W', Bel w W' → Calls Tryd.prog 14 #[.agg #[.bool b, .slice A n c, .slice A' n' c']] W' (IntPost W' u)) (h1 : dg < 1) : Calls Tryd.prog 4 #[.agg #[.bool b, .slice A n c, .slice A' n' c'], .int .i64 dg, .int .i64 m] w fun e w' => e = .returned (.bool true) ∧ Below w.heap.size w w' := by
  have g1 : decide ((6 : Int) < (n : Int)) = false := decide_eq_false (by omega)
  have g1' : ¬ ((6 : Int) < (n : Int)) := by omega
  have g2 : decide ((6 : Int) < (n' : Int)) = false := decide_eq_false (by omega)
  have g2' : ¬ ((6 : Int) < (n' : Int)) := by omega
  have CG : Hid (∀ W', Bel w W' → Calls Tryd.prog 13 #[.agg #[.bool b, .slice A n c, .slice A' n' c']] W' (RetB W' true)) := hG
  have CS : Hid (∀ W', Bel w W' → Calls Tryd.prog 14 #[.agg #[.bool b, .slice A n c, .slice A' n' c']] W' (IntPost W' u)) := hS
  have g4 : (u == 0) = false := by simpa using hu
  have g5 : decide (dg < 1) = true := decide_eq_true (by omega)
  have g5' : dg < 1 := by omega
  clear h h' hG hS
  have HB := Bel.refl w
  go_enter Tryd.func4, Tryd.ntmps4
  go_wp2_with (first | (go_at_call 5; (with_reducible refine (awake5_any _).mono ?_); rintro e w1 ⟨rfl, hbk⟩; (with_reducible (have HA : At w1 w.heap.size [.bool b, .slice A n c, .slice A' n' c'] := At.up (at_new0 _ _ _) hbk; replace HB := (HB.al _).up hbk)); have ha_0 := HA.c0; have ha_1 := HA.c1; have ha_2 := HA.c2; have ha_l := HA.lt) | (go_at_call 13; (with_reducible refine (CG.out _ HB).mono ?_); rintro e w2 ⟨rfl, hbe⟩; have hbk := hbe.hid; (with_reducible (replace HB := HB.up hbk; replace HA := HA.up hbk)); clear ha_0 ha_1 ha_2 ha_l; have ha_0 := HA.c0; have ha_1 := HA.c1; have ha_2 := HA.c2; have ha_l := HA.lt) | (go_at_call 14; (with_reducible refine (CS.out _ HB).mono ?_); rintro e w3 ⟨rfl, hbk⟩; (with_reducible (replace HB := HB.up hbk; replace HA := HA.up hbk)); clear ha_0 ha_1 ha_2 ha_l; have ha_0 := HA.c0; have ha_1 := HA.c1; have ha_2 := HA.c2; have ha_l := HA.lt) | fail)
  go_ret
  exact ⟨rfl, HB⟩
set_option maxHeartbeats 4000000 in
theorem digits_x5 (w : World) (h : n ≤ 6) (h' : n' ≤ 6) (hG : ∀ W', Bel w W' → Calls Tryd.prog 13 #[.agg #[.bool b, .slice A n c, .slice A' n' c']] W' (RetB W' true)) {u : Int} (hu : u ≠ 0) (hS : ∀ W', Bel w W' → Calls Tryd.prog 14 #[.agg #[.bool b, .slice A n c, .slice A' n' c']] W' (IntPost W' u)) (h1 : 1 ≤ dg) (h2 : 40 < dg) : Calls Tryd.prog 4 #[.agg #[.bool b, .slice A n c, .slice A' n' c'], .int .i64 dg, .int .i64 m] w fun e w' => e = .returned (.bool true) ∧ Below w.heap.size w w' := by
  have g1 : decide ((6 : Int) < (n : Int)) = false := decide_eq_false (by omega)
  have g1' : ¬ ((6 : Int) < (n : Int)) := by omega
  have g2 : decide ((6 : Int) < (n' : Int)) = false := decide_eq_false (by omega)
  have g2' : ¬ ((6 : Int) < (n' : Int)) := by omega
  have CG : Hid (∀ W', Bel w W' → Calls Tryd.prog 13 #[.agg #[.bool b, .slice A n c, .slice A' n' c']] W' (RetB W' true)) := hG
  have CS : Hid (∀ W', Bel w W' → Calls Tryd.prog 14 #[.agg #[.bool b, .slice A n c, .slice A' n' c']] W' (IntPost W' u)) := hS
  have g4 : (u == 0) = false := by simpa using hu
  have g5 : decide (dg < 1) = false := decide_eq_false (by omega)
  have g5' : ¬ (dg < 1) := by omega
  have g6 : decide ((40 : Int) < dg) = true := decide_eq_true (by omega)
  have g6' : (40 : Int) < dg := by omega
  clear h h' hG hS
  have HB := Bel.refl w
  go_enter Tryd.func4, Tryd.ntmps4
  go_wp2_with (first | (go_at_call 5; (with_reducible refine (awake5_any _).mono ?_); rintro e w1 ⟨rfl, hbk⟩; (with_reducible (have HA : At w1 w.heap.size [.bool b, .slice A n c, .slice A' n' c'] := At.up (at_new0 _ _ _) hbk; replace HB := (HB.al _).up hbk)); have ha_0 := HA.c0; have ha_1 := HA.c1; have ha_2 := HA.c2; have ha_l := HA.lt) | (go_at_call 13; (with_reducible refine (CG.out _ HB).mono ?_); rintro e w2 ⟨rfl, hbe⟩; have hbk := hbe.hid; (with_reducible (replace HB := HB.up hbk; replace HA := HA.up hbk)); clear ha_0 ha_1 ha_2 ha_l; have ha_0 := HA.c0; have ha_1 := HA.c1; have ha_2 := HA.c2; have ha_l := HA.lt) | (go_at_call 14; (with_reducible refine (CS.out _ HB).mono ?_); rintro e w3 ⟨rfl, hbk⟩; (with_reducible (replace HB := HB.up hbk; replace HA := HA.up hbk)); clear ha_0 ha_1 ha_2 ha_l; have ha_0 := HA.c0; have ha_1 := HA.c1; have ha_2 := HA.c2; have ha_l := HA.lt) | fail)
  go_ret
  exact ⟨rfl, HB⟩
set_option maxHeartbeats 4000000 in
theorem digits_x6 (w : World) (h : n ≤ 6) (h' : n' ≤ 6) (hG : ∀ W', Bel w W' → Calls Tryd.prog 13 #[.agg #[.bool b, .slice A n c, .slice A' n' c']] W' (RetB W' true)) {u : Int} (hu : u ≠ 0) (hS : ∀ W', Bel w W' → Calls Tryd.prog 14 #[.agg #[.bool b, .slice A n c, .slice A' n' c']] W' (IntPost W' u)) (h1 : 1 ≤ dg) (h2 : dg ≤ 40) (h3 : m < 1) : Calls Tryd.prog 4 #[.agg #[.bool b, .slice A n c, .slice A' n' c'], .int .i64 dg, .int .i64 m] w fun e w' => e = .returned (.bool true) ∧ Below w.heap.size w w' := by
  have g1 : decide ((6 : Int) < (n : Int)) = false := decide_eq_false (by omega)
  have g1' : ¬ ((6 : Int) < (n : Int)) := by omega
  have g2 : decide ((6 : Int) < (n' : Int)) = false := decide_eq_false (by omega)
  have g2' : ¬ ((6 : Int) < (n' : Int)) := by omega
  have CG : Hid (∀ W', Bel w W' → Calls Tryd.prog 13 #[.agg #[.bool b, .slice A n c, .slice A' n' c']] W' (RetB W' true)) := hG
  have CS : Hid (∀ W', Bel w W' → Calls Tryd.prog 14 #[.agg #[.bool b, .slice A n c, .slice A' n' c']] W' (IntPost W' u)) := hS
  have g4 : (u == 0) = false := by simpa using hu
  have g5 : decide (dg < 1) = false := decide_eq_false (by omega)
  have g5' : ¬ (dg < 1) := by omega
  have g6 : decide ((40 : Int) < dg) = false := decide_eq_false (by omega)
  have g6' : ¬ ((40 : Int) < dg) := by omega
  have g7 : decide (m < 1) = true := decide_eq_true (by omega)
  have g7' : m < 1 := by omega
  clear h h' hG hS
  have HB := Bel.refl w
  go_enter Tryd.func4, Tryd.ntmps4
  go_wp2_with (first | (go_at_call 5; (with_reducible refine (awake5_any _).mono ?_); rintro e w1 ⟨rfl, hbk⟩; (with_reducible (have HA : At w1 w.heap.size [.bool b, .slice A n c, .slice A' n' c'] := At.up (at_new0 _ _ _) hbk; replace HB := (HB.al _).up hbk)); have ha_0 := HA.c0; have ha_1 := HA.c1; have ha_2 := HA.c2; have ha_l := HA.lt) | (go_at_call 13; (with_reducible refine (CG.out _ HB).mono ?_); rintro e w2 ⟨rfl, hbe⟩; have hbk := hbe.hid; (with_reducible (replace HB := HB.up hbk; replace HA := HA.up hbk)); clear ha_0 ha_1 ha_2 ha_l; have ha_0 := HA.c0; have ha_1 := HA.c1; have ha_2 := HA.c2; have ha_l := HA.lt) | (go_at_call 14; (with_reducible refine (CS.out _ HB).mono ?_); rintro e w3 ⟨rfl, hbk⟩; (with_reducible (replace HB := HB.up hbk; replace HA := HA.up hbk)); clear ha_0 ha_1 ha_2 ha_l; have ha_0 := HA.c0; have ha_1 := HA.c1; have ha_2 := HA.c2; have ha_l := HA.lt) | fail)
  go_ret
  exact ⟨rfl, HB⟩
set_option maxHeartbeats 4000000 in
theorem digits_x7 (w : World) (h : n ≤ 6) (h' : n' ≤ 6) (hG : ∀ W', Bel w W' → Calls Tryd.prog 13 #[.agg #[.bool b, .slice A n c, .slice A' n' c']] W' (RetB W' true)) {u : Int} (hu : u ≠ 0) (hS : ∀ W', Bel w W' → Calls Tryd.prog 14 #[.agg #[.bool b, .slice A n c, .slice A' n' c']] W' (IntPost W' u)) (h1 : 1 ≤ dg) (h2 : dg ≤ 40) (h3 : 1 ≤ m) (h4 : 7 < m) : Calls Tryd.prog 4 #[.agg #[.bool b, .slice A n c, .slice A' n' c'], .int .i64 dg, .int .i64 m] w fun e w' => e = .returned (.bool true) ∧ Below w.heap.size w w' := by
  have g1 : decide ((6 : Int) < (n : Int)) = false := decide_eq_false (by omega)
  have g1' : ¬ ((6 : Int) < (n : Int)) := by omega
  have g2 : decide ((6 : Int) < (n' : Int)) = false := decide_eq_false (by omega)
  have g2' : ¬ ((6 : Int) < (n' : Int)) := by omega
  have CG : Hid (∀ W', Bel w W' → Calls Tryd.prog 13 #[.agg #[.bool b, .slice A n c, .slice A' n' c']] W' (RetB W' true)) := hG
  have CS : Hid (∀ W', Bel w W' → Calls Tryd.prog 14 #[.agg #[.bool b, .slice A n c, .slice A' n' c']] W' (IntPost W' u)) := hS
  have g4 : (u == 0) = false := by simpa using hu
  have g5 : decide (dg < 1) = false := decide_eq_false (by omega)
  have g5' : ¬ (dg < 1) := by omega
  have g6 : decide ((40 : Int) < dg) = false := decide_eq_false (by omega)
  have g6' : ¬ ((40 : Int) < dg) := by omega
  have g7 : decide (m < 1) = false := decide_eq_false (by omega)
  have g7' : ¬ (m < 1) := by omega
  have g8 : decide ((7 : Int) < m) = true := decide_eq_true (by omega)
  have g8' : (7 : Int) < m := by omega
  clear h h' hG hS
  have HB := Bel.refl w
  go_enter Tryd.func4, Tryd.ntmps4
  go_wp2_with (first | (go_at_call 5; (with_reducible refine (awake5_any _).mono ?_); rintro e w1 ⟨rfl, hbk⟩; (with_reducible (have HA : At w1 w.heap.size [.bool b, .slice A n c, .slice A' n' c'] := At.up (at_new0 _ _ _) hbk; replace HB := (HB.al _).up hbk)); have ha_0 := HA.c0; have ha_1 := HA.c1; have ha_2 := HA.c2; have ha_l := HA.lt) | (go_at_call 13; (with_reducible refine (CG.out _ HB).mono ?_); rintro e w2 ⟨rfl, hbe⟩; have hbk := hbe.hid; (with_reducible (replace HB := HB.up hbk; replace HA := HA.up hbk)); clear ha_0 ha_1 ha_2 ha_l; have ha_0 := HA.c0; have ha_1 := HA.c1; have ha_2 := HA.c2; have ha_l := HA.lt) | (go_at_call 14; (with_reducible refine (CS.out _ HB).mono ?_); rintro e w3 ⟨rfl, hbk⟩; (with_reducible (replace HB := HB.up hbk; replace HA := HA.up hbk)); clear ha_0 ha_1 ha_2 ha_l; have ha_0 := HA.c0; have ha_1 := HA.c1; have ha_2 := HA.c2; have ha_l := HA.lt) | fail)
  go_ret
  exact ⟨rfl, HB⟩
set_option maxHeartbeats 4000000 in
theorem digits_e (w : World) (h : n ≤ 6) (h' : n' ≤ 6) (hG : ∀ W', Bel w W' → Calls Tryd.prog 13 #[.agg #[.bool b, .slice A n c, .slice A' n' c']] W' (RetB W' true)) {u : Int} (hu : u ≠ 0) (hS : ∀ W', Bel w W' → Calls Tryd.prog 14 #[.agg #[.bool b, .slice A n c, .slice A' n' c']] W' (IntPost W' u)) (h1 : 1 ≤ dg) (h2 : dg ≤ 40) (h3 : 1 ≤ m) (h4 : m ≤ 7) (hT : ∀ W', Bel w W' → Calls Tryd.prog 15 #[.agg #[.bool b, .slice A n c, .slice A' n' c'], .int .i64 dg, .int .i64 m] W' (DEr W' 11)) : Calls Tryd.prog 4 #[.agg #[.bool b, .slice A n c, .slice A' n' c'], .int .i64 dg, .int .i64 m] w fun e w' => e = .returned (.bool true) ∧ Below w.heap.size w w' := by
  have g1 : decide ((6 : Int) < (n : Int)) = false := decide_eq_false (by omega)
  have g1' : ¬ ((6 : Int) < (n : Int)) := by omega
  have g2 : decide ((6 : Int) < (n' : Int)) = false := decide_eq_false (by omega)
  have g2' : ¬ ((6 : Int) < (n' : Int)) := by omega
  have CG : Hid (∀ W', Bel w W' → Calls Tryd.prog 13 #[.agg #[.bool b, .slice A n c, .slice A' n' c']] W' (RetB W' true)) := hG
  have CS : Hid (∀ W', Bel w W' → Calls Tryd.prog 14 #[.agg #[.bool b, .slice A n c, .slice A' n' c']] W' (IntPost W' u)) := hS
  have g4 : (u == 0) = false := by simpa using hu
  have g5 : decide (dg < 1) = false := decide_eq_false (by omega)
  have g5' : ¬ (dg < 1) := by omega
  have g6 : decide ((40 : Int) < dg) = false := decide_eq_false (by omega)
  have g6' : ¬ ((40 : Int) < dg) := by omega
  have g7 : decide (m < 1) = false := decide_eq_false (by omega)
  have g7' : ¬ (m < 1) := by omega
  have g8 : decide ((7 : Int) < m) = false := decide_eq_false (by omega)
  have g8' : ¬ ((7 : Int) < m) := by omega
  have CT : Hid (∀ W', Bel w W' → Calls Tryd.prog 15 #[.agg #[.bool b, .slice A n c, .slice A' n' c'], .int .i64 dg, .int .i64 m] W' (DEr W' 11)) := hT
  clear h h' hG hS h1 h2 h3 h4 hT
  have HB := Bel.refl w
  go_enter Tryd.func4, Tryd.ntmps4
  go_wp2_with (first | (go_at_call 5; (with_reducible refine (awake5_any _).mono ?_); rintro e w1 ⟨rfl, hbk⟩; (with_reducible (have HA : At w1 w.heap.size [.bool b, .slice A n c, .slice A' n' c'] := At.up (at_new0 _ _ _) hbk; replace HB := (HB.al _).up hbk)); have ha_0 := HA.c0; have ha_1 := HA.c1; have ha_2 := HA.c2; have ha_l := HA.lt) | (go_at_call 13; (with_reducible refine (CG.out _ HB).mono ?_); rintro e w2 ⟨rfl, hbe⟩; have hbk := hbe.hid; (with_reducible (replace HB := HB.up hbk; replace HA := HA.up hbk)); clear ha_0 ha_1 ha_2 ha_l; have ha_0 := HA.c0; have ha_1 := HA.c1; have ha_2 := HA.c2; have ha_l := HA.lt) | (go_at_call 14; (with_reducible refine (CS.out _ HB).mono ?_); rintro e w3 ⟨rfl, hbk⟩; (with_reducible (replace HB := HB.up hbk; replace HA := HA.up hbk)); clear ha_0 ha_1 ha_2 ha_l; have ha_0 := HA.c0; have ha_1 := HA.c1; have ha_2 := HA.c2; have ha_l := HA.lt) | (go_at_call 15; (with_reducible refine (CT.out _ HB).mono ?_); rintro e w4 ⟨rfl, hbk⟩; (with_reducible (replace HB := HB.up hbk; replace HA := HA.up hbk)); clear ha_0 ha_1 ha_2 ha_l) | fail)
  go_ret
  exact ⟨rfl, HB.al _⟩
set_option maxHeartbeats 8000000 in
theorem digits_v (w : World) {k v j : Nat} {sg : Bool} {us : Int} {l : List UInt8} (hdg : dg = (k : Int)) (hv : decL v = l ++ List.replicate j 48) (hl : l.length = k) (hj : us ≠ 0 → j = 0) (hj2 : j ≤ 200) (h : n ≤ 6) (h' : n' ≤ 6) (hG : ∀ W', Bel w W' → Calls Tryd.prog 13 #[.agg #[.bool b, .slice A n c, .slice A' n' c']] W' (RetB W' true)) {u : Int} (hu : u ≠ 0) (hS : ∀ W', Bel w W' → Calls Tryd.prog 14 #[.agg #[.bool b, .slice A n c, .slice A' n' c']] W' (IntPost W' u)) (h1 : 1 ≤ dg) (h2 : dg ≤ 40) (h3 : 1 ≤ m) (h4 : m ≤ 7) (hT : ∀ W', Bel w W' → Calls Tryd.prog 15 #[.agg #[.bool b, .slice A n c, .slice A' n' c'], .int .i64 dg, .int .i64 m] W' (ToR W' sg v us)) : Calls Tryd.prog 4 #[.agg #[.bool b, .slice A n c, .slice A' n' c'], .int .i64 dg, .int .i64 m] w fun e w' => e = .returned (.bool true) ∧ Below w.heap.size w w' := by
  have g1 : decide ((6 : Int) < (n : Int)) = false := decide_eq_false (by omega)
  have g1' : ¬ ((6 : Int) < (n : Int)) := by omega
  have g2 : decide ((6 : Int) < (n' : Int)) = false := decide_eq_false (by omega)
  have g2' : ¬ ((6 : Int) < (n' : Int)) := by omega
  have CG : Hid (∀ W', Bel w W' → Calls Tryd.prog 13 #[.agg #[.bool b, .slice A n c, .slice A' n' c']] W' (RetB W' true)) := hG
  have CS : Hid (∀ W', Bel w W' → Calls Tryd.prog 14 #[.agg #[.bool b, .slice A n c, .slice A' n' c']] W' (IntPost W' u)) := hS
  have g4 : (u == 0) = false := by simpa using hu
  have g5 : decide (dg < 1) = false := decide_eq_false (by omega)
  have g5' : ¬ (dg < 1) := by omega
  have g6 : decide ((40 : Int) < dg) = false := decide_eq_false (by omega)
  have g6' : ¬ ((40 : Int) < dg) := by omega
  have g7 : decide (m < 1) = false := decide_eq_false (by omega)
  have g7' : ¬ (m < 1) := by omega
  have g8 : decide ((7 : Int) < m) = false := decide_eq_false (by omega)
  have g8' : ¬ ((7 : Int) < m) := by omega
  have CT : Hid (∀ W', Bel w W' → Calls Tryd.prog 15 #[.agg #[.bool b, .slice A n c, .slice A' n' c'], .int .i64 dg, .int .i64 m] W' (ToR W' sg v us)) := hT
  have CX : Hid (∀ W' B e, Nm W' B (dl v) e v → Calls Tryd.prog 16 #[.agg #[.slice B (dl v) e]] W' (TxR W' (decL v))) := fun W' B e hn => text_h hn
  have HV := hide hv
  have HL := hide hl
  have HJ := hide hj
  have HD := hide hdg
  clear hdg h h' hG hS h3 h4 hT hv hl hj
  have HB := Bel.refl w
  go_enter Tryd.func4, Tryd.ntmps4
  go_wp2_with (first | (go_at_call 5; (with_reducible refine (awake5_any _).mono ?_); rintro e w1 ⟨rfl, hbk⟩; (with_reducible (have HA : At w1 w.heap.size [.bool b, .slice A n c, .slice A' n' c'] := At.up (at_new0 _ _ _) hbk; replace HB := (HB.al _).up hbk)); have ha_0 := HA.c0; have ha_1 := HA.c1; have ha_2 := HA.c2; have ha_l := HA.lt) | (go_at_call 13; (with_reducible refine (CG.out _ HB).mono ?_); rintro e w2 ⟨rfl, hbe⟩; have hbk := hbe.hid; (with_reducible (replace HB := HB.up hbk; replace HA := HA.up hbk)); clear ha_0 ha_1 ha_2 ha_l; have ha_0 := HA.c0; have ha_1 := HA.c1; have ha_2 := HA.c2; have ha_l := HA.lt) | (go_at_call 14; (with_reducible refine (CS.out _ HB).mono ?_); rintro e w3 ⟨rfl, hbk⟩; (with_reducible (replace HB := HB.up hbk; replace HA := HA.up hbk)); clear ha_0 ha_1 ha_2 ha_l; have ha_0 := HA.c0; have ha_1 := HA.c1; have ha_2 := HA.c2; have ha_l := HA.lt) | (go_at_call 15; go_loud ((with_reducible refine (CT.out _ HB).mono ?_); rintro e w4 ⟨X1, x1, rfl, n1, hbk⟩; (with_reducible (replace HB := HB.up hbk; replace HA := HA.up hbk)); clear ha_0 ha_1 ha_2 ha_l)) | fail)
  obtain ⟨W1, hW1⟩ : ∃ X, X = w4.alloc (.cells #[.bool sg, .slice X1 (dl v) x1, .int .i64 us] 33) := ⟨_, rfl⟩
  rw [← hW1]
  obtain ⟨px, hpx⟩ : ∃ p, p = w4.heap.size := ⟨_, rfl⟩
  rw [← hpx]
  have HX : At W1 px [.bool sg, .slice X1 (dl v) x1, .int .i64 us] := by rw [hW1, hpx]; exact at_new0 _ _ _
  replace HB : Bel w W1 := by rw [hW1]; exact HB.al _
  replace n1 : Nm W1 X1 (dl v) x1 v := by rw [hW1]; exact n1.al _
  clear hW1 hpx HA
  have hx_0 := HX.c0
  have hx_1 := HX.c1
  have hx_2 := HX.c2
  have hx_l := HX.lt
  go_wp2_with (first | (go_at_call 16; (with_reducible refine (CX.out _ _ _ n1).mono ?_); rintro e w5 ⟨S, rfl, hS, hbk⟩; (with_reducible (replace HB := HB.up hbk; replace HX := HX.up hbk; replace n1 := n1.up hbk)); clear hx_0 hx_1 hx_2 hx_l; have hx_0 := HX.c0; have hx_1 := HX.c1; have hx_2 := HX.c2; have hx_l := HX.lt) | fail)
  go_loop [9] (fun sv => ∃ (t : ByteArray) (i : Nat), sv = .string t ∧ Hid (t.data.toList = l ++ List.replicate i 48) ∧ i ≤ j) (fun sv => match sv with | .string t => t.size | _ => 0)
  case atStart => exact ⟨S, j, rfl, by unfold Hid; rw [hS.out, HV.out], Nat.le_refl _⟩
  case round =>
    obtain ⟨t, i, rfl, ht, hi⟩ := hrel
    have hdg := HD.out
    have hsz : t.size = k + i := by rw [size_list, ht.out, List.length_append, HL.out, List.length_replicate]
    by_cases h0 : i = 0
    · have hsz' : t.size = k := by omega
      have q1 : decide (dg < (t.size : Int)) = false := decide_eq_false (by omega)
      have q1' : ¬ (dg < (t.size : Int)) := by omega
      have q2 : decide ((t.size : Int) ≤ dg) = true := decide_eq_true (by omega)
      have q2' : (t.size : Int) ≤ dg := by omega
      have q3 : t.toList.isEmpty = false := by
        rw [Lib.toList_data]
        cases h : t.data.toList with
        | nil => have := (show t.size = 0 by rw [size_list, h]; rfl); omega
        | cons a l => rfl
      have q3' : (t.toList == []) = false := by
        cases h : t.toList with
        | nil => rw [h] at q3; cases q3
        | cons a l => rfl
      clear h0 hsz hdg
      by_cases hu0 : us = 0
      · have q4 : (us == 0) = true := by rw [hu0]; rfl
        clear hsz' hj2
        go_wp2_with fail
        go_ret
        exact ⟨rfl, HB⟩
      · have q4 : (us == 0) = false := by simpa using hu0
        have HJ0 : Hid (j = 0) := HJ.out hu0
        clear hj2 hsz'
        go_wp2_with (first | (go_at_call 16; (with_reducible refine (CX.out _ _ _ n1).mono ?_); rintro e w6 ⟨S', rfl, hS', hbk⟩; (with_reducible (replace HB := HB.up hbk)); have h9 : S'.size = k := (by rw [size_list, hS'.out, HV.out, HJ0.out, List.length_append, HL.out]; rfl); have q5 : ((S'.size : Int) ≤ dg) := (by rw [HD.out]; omega); have q5' : decide ((S'.size : Int) ≤ dg) = true := decide_eq_true q5; clear h9) | fail)
        go_ret
        exact ⟨rfl, HB⟩
    · obtain ⟨i', hi'⟩ : ∃ i', i = i' + 1 := ⟨i - 1, by omega⟩
      obtain ⟨p, hp⟩ : ∃ p, p = k + i' := ⟨_, rfl⟩
      have hk : t.size = p + 1 := by omega
      have h7 : p < t.size := by omega
      have hw : IntKind.i64.wrap ((t.size : Int) - 1) = (p : Int) := by rw [IntWalk.i64_in _ (by omega)]; omega
      have q0 : (0 : Int) ≤ (p : Int) := by omega
      have q1 : (p : Int) < (t.size : Int) := by omega
      have q2 : (p : Int) ≤ (t.size : Int) := by omega
      have q3 : decide (dg < (t.size : Int)) = true := decide_eq_true (by omega)
      have q3' : dg < (t.size : Int) := by omega
      have HT := cut_last' hk h7
      rw [ht.out, hi', List.replicate_succ', ← List.append_assoc] at HT
      have HT2 := List.append_inj' HT rfl
      have hx : t[p] = 48 := (List.cons.inj HT2.2).1.symm
      have HC : Hid ((t.extract 0 p).data.toList = l ++ List.replicate i' 48) := HT2.1.symm
      have hxt : ((t[p].toNat : Int) == 48) = true := by rw [hx]; rfl
      have hm : i' ≤ j := by omega
      clear hk hp hdg hx HT HT2 h0 hi hi' hsz hj2
      go_wp2_with fail
      go_round
      case rel => exact ⟨_, i', rfl, HC, hm⟩
      case measure => simp; omega
theorem qa6_in {ws ws' : List Nat} (h : n = ws.length ∧ n ≤ c ∧ Rd U32 w w.heap.size A ws ∧ Good32 ws) (h' : n' = ws'.length ∧ n' ≤ c' ∧ Rd U32 w w.heap.size A' ws' ∧ Good32 ws') (hn : n ≤ 6 ∧ n' ≤ 6) :
    ZA w b A n c (zi b (val W32 ws)) ∧ Nm w A' n' c' (val W32 ws') ∧ (zi b (val W32 ws)).natAbs < W32 ^ 6 ∧ val W32 ws' < W32 ^ 6 := by
  have lt : ∀ {l : List Nat} {k : Nat}, Good32 l → k = l.length → k ≤ 6 → val W32 l < W32 ^ 6 := fun hg hk h12 => Nat.lt_of_lt_of_le (val_lt _ hg) (Nat.pow_le_pow_right (by decide) (by omega))
  exact ⟨za_of (nm_later (later_of h (by omega)) (Below.refl _ _)), nm_later (later_of h' (by omega)) (Below.refl _ _), by rw [zi_abs]; exact lt h.2.2.2 h.1 hn.1, lt h'.2.2.2 h'.1 hn.2⟩
theorem digits_all {y y' : List Nat} (w : World) (h : n = y.length ∧ n ≤ c ∧ Rd U32 w w.heap.size A y ∧ Good32 y) (h' : n' = y'.length ∧ n' ≤ c' ∧ Rd U32 w w.heap.size A' y' ∧ Good32 y') (_bs : -9223372036854775808 ≤ dg ∧ dg ≤ 9223372036854775807) (_bm : -9223372036854775808 ≤ m ∧ m ≤ 9223372036854775807) : Calls Tryd.prog 4 #[.agg #[.bool b, .slice A n c, .slice A' n' c'], .int .i64 dg, .int .i64 m] w fun e w' => e = .returned (.bool true) ∧ Below w.heap.size w w' := by
  by_cases hn : n ≤ 6
  · by_cases hn' : n' ≤ 6
    · obtain ⟨nz, nd, bz, bd⟩ := qa6_in (b := b) h h' ⟨hn, hn'⟩
      obtain ⟨z, hz⟩ : ∃ z, zi b (val W32 y) = z := ⟨_, rfl⟩
      obtain ⟨d, hd⟩ : ∃ d, val W32 y' = d := ⟨_, rfl⟩
      rw [hz] at nz bz
      rw [hd] at nd bd
      have q : ∀ W', Bel w W' → QA W' b A n c A' n' c' (mkRat z d) 6 := fun W' hw => qz nz nd ⟨bz, bd⟩ hw
      obtain ⟨u, hG⟩ := rgood_e (q w (Bel.refl w)) (by decide)
      cases u with
      | false => exact digits_x2 w hn hn' hG
      | true =>
        have hS : ∀ W', Bel w W' → Calls Tryd.prog 14 #[.agg #[.bool b, .slice A n c, .slice A' n' c']] W' (IntPost W' (mkRat z d).num.sign) := fun W' hw => rsign_h (q W' hw) (by decide) rfl
        by_cases hu : (mkRat z d).num.sign = 0
        · rw [hu] at hS
          exact digits_x3 w hn hn' hG hS
        by_cases h1 : dg < 1
        · exact digits_x4 w hn hn' hG hu hS h1
        by_cases h2 : 40 < dg
        · exact digits_x5 w hn hn' hG hu hS (by omega) h2
        by_cases h3 : m < 1
        · exact digits_x6 w hn hn' hG hu hS (by omega) (by omega) h3
        by_cases h4 : 7 < m
        · exact digits_x7 w hn hn' hG hu hS (by omega) (by omega) (by omega) h4
        have hz0 : z ≠ 0 := fun e => hu (by rw [e, Rat.zero_mkRat]; rfl)
        have hd0 : 0 < d := Nat.pos_of_ne_zero fun e => hu (by rw [e, Rat.mkRat_zero]; rfl)
        obtain ⟨k, rfl⟩ : ∃ k : Nat, dg = (k : Int) := ⟨dg.toNat, by omega⟩
        rcases sig_gen (dg := k) (m := m) nz nd hd0 ⟨bz, bd⟩ hz0 (by omega) (by omega) with hT | ⟨sg, v, us, ok, hT⟩
        · exact digits_e w hn hn' hG hu hS (by omega) (by omega) (by omega) (by omega) hT
        · obtain ⟨l, j, e1, e2, e3, e4⟩ := sigok_text (by omega) ok
          exact digits_v w rfl e1 e2 e3 e4 hn hn' hG hu hS (by omega) (by omega) (by omega) (by omega) hT
    · exact digits_x1 w hn (by omega)
  · exact digits_x0 w (by omega)
end
end Go.Proofs.YteieelgdiccppabDoor
