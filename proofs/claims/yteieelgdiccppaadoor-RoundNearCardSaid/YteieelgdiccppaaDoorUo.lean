/- RoundNear's walk. No conditions. -/
import Derived.Test.YteieelgdiccppaaDoorGUnc32
open Go.RowKit
set_option maxRecDepth 100000
namespace Go.Proofs.YteieelgdiccppaaDoor
section
variable {W w : World} {b : Bool} {A A' : Option Addr} {n c n' c' s : Nat} {m : Int} {r : Rat}
theorem long5_h (h1 : n ≤ 12) (h2 : n' ≤ 12) : Calls Tryd.prog 63 #[.agg #[.bool b, .slice A n c, .slice A' n' c']] W (BoolR W false) := by
  have g1 : decide ((12 : Int) < (n : Int)) = false := decide_eq_false (by omega)
  have g2 : decide ((12 : Int) < (n' : Int)) = false := decide_eq_false (by omega)
  have g3 : ¬ (12 : Int) < (n : Int) := by omega
  have g4 : ¬ (12 : Int) < (n' : Int) := by omega
  have HB := Bel.refl W
  go_enter Tryd.func63, Tryd.ntmps63
  go_wp2
  go_ret
  exact ⟨rfl, HB.al _⟩
theorem long5_n (h : ¬ (n ≤ 12 ∧ n' ≤ 12)) : Calls Tryd.prog 63 #[.agg #[.bool b, .slice A n c, .slice A' n' c']] W (BoolR W true) := by
  have HB := Bel.refl W
  by_cases h1 : n ≤ 12
  · have g1 : decide ((12 : Int) < (n : Int)) = false := decide_eq_false (by omega)
    have g2 : decide ((12 : Int) < (n' : Int)) = true := decide_eq_true (by omega)
    have g3 : ¬ (12 : Int) < (n : Int) := by omega
    have g4 : (12 : Int) < (n' : Int) := by omega
    clear h
    go_enter Tryd.func63, Tryd.ntmps63
    go_wp2
    go_ret
    exact ⟨rfl, HB.al _⟩
  · have g1 : decide ((12 : Int) < (n : Int)) = true := decide_eq_true (by omega)
    have g3 : (12 : Int) < (n : Int) := by omega
    clear h
    go_enter Tryd.func63, Tryd.ntmps63
    go_wp2
    go_ret
    exact ⟨rfl, HB.al _⟩
set_option maxHeartbeats 4000000 in
theorem near_x0 (w : World) {sc : Int} (h : ¬ (n ≤ 12 ∧ n' ≤ 12)) : Calls Tryd.prog 8 #[.agg #[.bool b, .slice A n c, .slice A' n' c'], .int .i64 sc, .int .i64 m] w fun e w' => e = .returned (.bool true) ∧ Below w.heap.size w w' := by
  have CL : Hid (∀ W, Calls Tryd.prog 63 #[.agg #[.bool b, .slice A n c, .slice A' n' c']] W (BoolR W true)) := fun W => long5_n h
  clear h
  have HB := Bel.refl w
  go_enter Tryd.func8, Tryd.ntmps8
  go_wp2_with (first | (go_at_call 55; (with_reducible refine (awake5_any _).mono ?_); rintro e w1 ⟨rfl, hbk⟩; (with_reducible (have HA : At w1 w.heap.size [.bool b, .slice A n c, .slice A' n' c'] := At.up (at_new0 _ _ _) hbk; replace HB := (HB.al _).up hbk)); have ha_0 := HA.c0; have ha_1 := HA.c1; have ha_2 := HA.c2; have ha_l := HA.lt) | (go_at_call 63; (with_reducible refine (CL.out _).mono ?_); rintro e w2 ⟨rfl, hbk⟩; (with_reducible (replace HB := HB.up hbk; replace HA := HA.up hbk)); clear ha_0 ha_1 ha_2 ha_l; have ha_0 := HA.c0; have ha_1 := HA.c1; have ha_2 := HA.c2; have ha_l := HA.lt) | fail)
  go_ret
  exact ⟨rfl, HB⟩
set_option maxHeartbeats 4000000 in
theorem near_x1 (w : World) {sc : Int} (h : n ≤ 12 ∧ n' ≤ 12) (h1 : sc < 0) : Calls Tryd.prog 8 #[.agg #[.bool b, .slice A n c, .slice A' n' c'], .int .i64 sc, .int .i64 m] w fun e w' => e = .returned (.bool true) ∧ Below w.heap.size w w' := by
  have CL : Hid (∀ W, Calls Tryd.prog 63 #[.agg #[.bool b, .slice A n c, .slice A' n' c']] W (BoolR W false)) := fun W => long5_h h.1 h.2
  clear h
  have g1 : decide (sc < 0) = true := decide_eq_true (by omega)
  have g1' : (sc < 0) := by omega
  have HB := Bel.refl w
  go_enter Tryd.func8, Tryd.ntmps8
  go_wp2_with (first | (go_at_call 55; (with_reducible refine (awake5_any _).mono ?_); rintro e w1 ⟨rfl, hbk⟩; (with_reducible (have HA : At w1 w.heap.size [.bool b, .slice A n c, .slice A' n' c'] := At.up (at_new0 _ _ _) hbk; replace HB := (HB.al _).up hbk)); have ha_0 := HA.c0; have ha_1 := HA.c1; have ha_2 := HA.c2; have ha_l := HA.lt) | (go_at_call 63; (with_reducible refine (CL.out _).mono ?_); rintro e w2 ⟨rfl, hbk⟩; (with_reducible (replace HB := HB.up hbk; replace HA := HA.up hbk)); clear ha_0 ha_1 ha_2 ha_l; have ha_0 := HA.c0; have ha_1 := HA.c1; have ha_2 := HA.c2; have ha_l := HA.lt) | fail)
  go_ret
  exact ⟨rfl, HB⟩
set_option maxHeartbeats 4000000 in
theorem near_x2 (w : World) {sc : Int} (h : n ≤ 12 ∧ n' ≤ 12) (h1 : 0 ≤ sc) (h2 : 20 < sc) : Calls Tryd.prog 8 #[.agg #[.bool b, .slice A n c, .slice A' n' c'], .int .i64 sc, .int .i64 m] w fun e w' => e = .returned (.bool true) ∧ Below w.heap.size w w' := by
  have CL : Hid (∀ W, Calls Tryd.prog 63 #[.agg #[.bool b, .slice A n c, .slice A' n' c']] W (BoolR W false)) := fun W => long5_h h.1 h.2
  clear h
  have g1 : decide (sc < 0) = false := decide_eq_false (by omega)
  have g1' : ¬ (sc < 0) := by omega
  have g2 : decide ((20 : Int) < sc) = true := decide_eq_true (by omega)
  have g2' : ((20 : Int) < sc) := by omega
  have HB := Bel.refl w
  go_enter Tryd.func8, Tryd.ntmps8
  go_wp2_with (first | (go_at_call 55; (with_reducible refine (awake5_any _).mono ?_); rintro e w1 ⟨rfl, hbk⟩; (with_reducible (have HA : At w1 w.heap.size [.bool b, .slice A n c, .slice A' n' c'] := At.up (at_new0 _ _ _) hbk; replace HB := (HB.al _).up hbk)); have ha_0 := HA.c0; have ha_1 := HA.c1; have ha_2 := HA.c2; have ha_l := HA.lt) | (go_at_call 63; (with_reducible refine (CL.out _).mono ?_); rintro e w2 ⟨rfl, hbk⟩; (with_reducible (replace HB := HB.up hbk; replace HA := HA.up hbk)); clear ha_0 ha_1 ha_2 ha_l; have ha_0 := HA.c0; have ha_1 := HA.c1; have ha_2 := HA.c2; have ha_l := HA.lt) | fail)
  go_ret
  exact ⟨rfl, HB⟩
set_option maxHeartbeats 4000000 in
theorem near_x3 (w : World) {sc : Int} (h : n ≤ 12 ∧ n' ≤ 12) (h1 : 0 ≤ sc) (h2 : sc ≤ 20) (h3 : m < 1) : Calls Tryd.prog 8 #[.agg #[.bool b, .slice A n c, .slice A' n' c'], .int .i64 sc, .int .i64 m] w fun e w' => e = .returned (.bool true) ∧ Below w.heap.size w w' := by
  have CL : Hid (∀ W, Calls Tryd.prog 63 #[.agg #[.bool b, .slice A n c, .slice A' n' c']] W (BoolR W false)) := fun W => long5_h h.1 h.2
  clear h
  have g1 : decide (sc < 0) = false := decide_eq_false (by omega)
  have g1' : ¬ (sc < 0) := by omega
  have g2 : decide ((20 : Int) < sc) = false := decide_eq_false (by omega)
  have g2' : ¬ ((20 : Int) < sc) := by omega
  have g3 : decide (m < 1) = true := decide_eq_true (by omega)
  have g3' : (m < 1) := by omega
  have HB := Bel.refl w
  go_enter Tryd.func8, Tryd.ntmps8
  go_wp2_with (first | (go_at_call 55; (with_reducible refine (awake5_any _).mono ?_); rintro e w1 ⟨rfl, hbk⟩; (with_reducible (have HA : At w1 w.heap.size [.bool b, .slice A n c, .slice A' n' c'] := At.up (at_new0 _ _ _) hbk; replace HB := (HB.al _).up hbk)); have ha_0 := HA.c0; have ha_1 := HA.c1; have ha_2 := HA.c2; have ha_l := HA.lt) | (go_at_call 63; (with_reducible refine (CL.out _).mono ?_); rintro e w2 ⟨rfl, hbk⟩; (with_reducible (replace HB := HB.up hbk; replace HA := HA.up hbk)); clear ha_0 ha_1 ha_2 ha_l; have ha_0 := HA.c0; have ha_1 := HA.c1; have ha_2 := HA.c2; have ha_l := HA.lt) | fail)
  go_ret
  exact ⟨rfl, HB⟩
set_option maxHeartbeats 4000000 in
theorem near_x4 (w : World) {sc : Int} (h : n ≤ 12 ∧ n' ≤ 12) (h1 : 0 ≤ sc) (h2 : sc ≤ 20) (h3 : 1 ≤ m) (h4 : 7 < m) : Calls Tryd.prog 8 #[.agg #[.bool b, .slice A n c, .slice A' n' c'], .int .i64 sc, .int .i64 m] w fun e w' => e = .returned (.bool true) ∧ Below w.heap.size w w' := by
  have CL : Hid (∀ W, Calls Tryd.prog 63 #[.agg #[.bool b, .slice A n c, .slice A' n' c']] W (BoolR W false)) := fun W => long5_h h.1 h.2
  clear h
  have g1 : decide (sc < 0) = false := decide_eq_false (by omega)
  have g1' : ¬ (sc < 0) := by omega
  have g2 : decide ((20 : Int) < sc) = false := decide_eq_false (by omega)
  have g2' : ¬ ((20 : Int) < sc) := by omega
  have g3 : decide (m < 1) = false := decide_eq_false (by omega)
  have g3' : ¬ (m < 1) := by omega
  have g4 : decide ((7 : Int) < m) = true := decide_eq_true (by omega)
  have g4' : ((7 : Int) < m) := by omega
  have HB := Bel.refl w
  go_enter Tryd.func8, Tryd.ntmps8
  go_wp2_with (first | (go_at_call 55; (with_reducible refine (awake5_any _).mono ?_); rintro e w1 ⟨rfl, hbk⟩; (with_reducible (have HA : At w1 w.heap.size [.bool b, .slice A n c, .slice A' n' c'] := At.up (at_new0 _ _ _) hbk; replace HB := (HB.al _).up hbk)); have ha_0 := HA.c0; have ha_1 := HA.c1; have ha_2 := HA.c2; have ha_l := HA.lt) | (go_at_call 63; (with_reducible refine (CL.out _).mono ?_); rintro e w2 ⟨rfl, hbk⟩; (with_reducible (replace HB := HB.up hbk; replace HA := HA.up hbk)); clear ha_0 ha_1 ha_2 ha_l; have ha_0 := HA.c0; have ha_1 := HA.c1; have ha_2 := HA.c2; have ha_l := HA.lt) | fail)
  go_ret
  exact ⟨rfl, HB⟩
end
end Go.Proofs.YteieelgdiccppaaDoor
