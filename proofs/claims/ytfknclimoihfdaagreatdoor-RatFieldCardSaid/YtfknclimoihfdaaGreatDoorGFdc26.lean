/- Several texts in one, each with its own sentence and conditions. -/
import Derived.Test.YtfknclimoihfdaaGreatDoorGFdc25
import Derived.Test.YtfknclimoihfdaaGreatDoorGFdc21
section
/- RatField's exits: one is long, or one is not valid. No conditions. -/
open Go.RowKit
set_option maxRecDepth 100000
namespace Go.Proofs.YtfknclimoihfdaaGreatDoor
section
variable {b0 b1 b2 : Bool} {A A' B B' C C' : Option Addr} {n c n' c' m d m' d' k e k' e' : Nat}
set_option maxHeartbeats 2000000 in
theorem ratfield_x0 (w : World) (CLa : ∀ W, Calls Tryz.prog 20 #[.agg #[.bool b0, .slice A n c, .slice A' n' c']] W (BoolR W true)) :
    Calls Tryz.prog 5 #[.agg #[.bool b0, .slice A n c, .slice A' n' c'], .agg #[.bool b1, .slice B m d, .slice B' m' d'], .agg #[.bool b2, .slice C k e, .slice C' k' e']] w fun e w' => e = .returned (.bool true) ∧ Below w.heap.size w w' := by
  have CLa' := hide CLa
  clear CLa
  have CLa := CLa'
  clear CLa'
  have HB := Bel.refl w
  go_enter Tryz.func5, Tryz.ntmps5
  go_wp2_with (first | (go_at_call 6; (with_reducible refine (awake3_any _).mono ?_); rintro e w1 ⟨rfl, hbk⟩; (with_reducible (have HA : At w1 w.heap.size [.bool b0, .slice A n c, .slice A' n' c'] := At.up ((at_new0 _ _ _).al _ |>.al _) hbk; have HD : At w1 (w.heap.size + 1) [.bool b1, .slice B m d, .slice B' m' d'] := At.up ((at_new1 _ _ _ _).al _) hbk; have HE : At w1 (w.heap.size + 1 + 1) [.bool b2, .slice C k e, .slice C' k' e'] := At.up (at_new2 _ _ _ _ _) hbk; replace HB := (((HB.al _).al _).al _).up hbk)); have ha_0 := HA.c0; have ha_1 := HA.c1; have ha_2 := HA.c2; have ha_l := HA.lt; have hd_0 := HD.c0; have hd_1 := HD.c1; have hd_2 := HD.c2; have hd_l := HD.lt; have he_0 := HE.c0; have he_1 := HE.c1; have he_2 := HE.c2; have he_l := HE.lt) | (go_at_call 20; (with_reducible refine (CLa.out _).mono ?_); rintro e w2a ⟨rfl, hbk⟩; (with_reducible (replace HB := HB.up hbk; replace HA := HA.up hbk; replace HD := HD.up hbk; replace HE := HE.up hbk)); clear ha_0 ha_1 ha_2 ha_l hd_0 hd_1 hd_2 hd_l he_0 he_1 he_2 he_l; have ha_0 := HA.c0; have ha_1 := HA.c1; have ha_2 := HA.c2; have ha_l := HA.lt; have hd_0 := HD.c0; have hd_1 := HD.c1; have hd_2 := HD.c2; have hd_l := HD.lt; have he_0 := HE.c0; have he_1 := HE.c1; have he_2 := HE.c2; have he_l := HE.lt) | fail)
  go_ret
  exact ⟨rfl, HB⟩
set_option maxHeartbeats 2000000 in
theorem ratfield_x1 (w : World) (CLa : ∀ W, Calls Tryz.prog 20 #[.agg #[.bool b0, .slice A n c, .slice A' n' c']] W (BoolR W false))
    (CLb : ∀ W, Calls Tryz.prog 20 #[.agg #[.bool b1, .slice B m d, .slice B' m' d']] W (BoolR W true)) :
    Calls Tryz.prog 5 #[.agg #[.bool b0, .slice A n c, .slice A' n' c'], .agg #[.bool b1, .slice B m d, .slice B' m' d'], .agg #[.bool b2, .slice C k e, .slice C' k' e']] w fun e w' => e = .returned (.bool true) ∧ Below w.heap.size w w' := by
  have CLa' := hide CLa
  have CLb' := hide CLb
  clear CLa CLb
  have CLa := CLa'
  clear CLa'
  have CLb := CLb'
  clear CLb'
  have HB := Bel.refl w
  go_enter Tryz.func5, Tryz.ntmps5
  go_wp2_with (first | (go_at_call 6; (with_reducible refine (awake3_any _).mono ?_); rintro e w1 ⟨rfl, hbk⟩; (with_reducible (have HA : At w1 w.heap.size [.bool b0, .slice A n c, .slice A' n' c'] := At.up ((at_new0 _ _ _).al _ |>.al _) hbk; have HD : At w1 (w.heap.size + 1) [.bool b1, .slice B m d, .slice B' m' d'] := At.up ((at_new1 _ _ _ _).al _) hbk; have HE : At w1 (w.heap.size + 1 + 1) [.bool b2, .slice C k e, .slice C' k' e'] := At.up (at_new2 _ _ _ _ _) hbk; replace HB := (((HB.al _).al _).al _).up hbk)); have ha_0 := HA.c0; have ha_1 := HA.c1; have ha_2 := HA.c2; have ha_l := HA.lt; have hd_0 := HD.c0; have hd_1 := HD.c1; have hd_2 := HD.c2; have hd_l := HD.lt; have he_0 := HE.c0; have he_1 := HE.c1; have he_2 := HE.c2; have he_l := HE.lt) | (go_at_call 20; (with_reducible refine (CLa.out _).mono ?_); rintro e w2a ⟨rfl, hbk⟩; (with_reducible (replace HB := HB.up hbk; replace HA := HA.up hbk; replace HD := HD.up hbk; replace HE := HE.up hbk)); clear ha_0 ha_1 ha_2 ha_l hd_0 hd_1 hd_2 hd_l he_0 he_1 he_2 he_l; have ha_0 := HA.c0; have ha_1 := HA.c1; have ha_2 := HA.c2; have ha_l := HA.lt; have hd_0 := HD.c0; have hd_1 := HD.c1; have hd_2 := HD.c2; have hd_l := HD.lt; have he_0 := HE.c0; have he_1 := HE.c1; have he_2 := HE.c2; have he_l := HE.lt) | (go_at_call 20; (with_reducible refine (CLb.out _).mono ?_); rintro e w2b ⟨rfl, hbk⟩; (with_reducible (replace HB := HB.up hbk; replace HA := HA.up hbk; replace HD := HD.up hbk; replace HE := HE.up hbk)); clear ha_0 ha_1 ha_2 ha_l hd_0 hd_1 hd_2 hd_l he_0 he_1 he_2 he_l; have ha_0 := HA.c0; have ha_1 := HA.c1; have ha_2 := HA.c2; have ha_l := HA.lt; have hd_0 := HD.c0; have hd_1 := HD.c1; have hd_2 := HD.c2; have hd_l := HD.lt; have he_0 := HE.c0; have he_1 := HE.c1; have he_2 := HE.c2; have he_l := HE.lt) | fail)
  go_ret
  exact ⟨rfl, HB⟩
set_option maxHeartbeats 2000000 in
theorem ratfield_x2 (w : World) (CLa : ∀ W, Calls Tryz.prog 20 #[.agg #[.bool b0, .slice A n c, .slice A' n' c']] W (BoolR W false))
    (CLb : ∀ W, Calls Tryz.prog 20 #[.agg #[.bool b1, .slice B m d, .slice B' m' d']] W (BoolR W false))
    (CLc : ∀ W, Calls Tryz.prog 20 #[.agg #[.bool b2, .slice C k e, .slice C' k' e']] W (BoolR W true)) :
    Calls Tryz.prog 5 #[.agg #[.bool b0, .slice A n c, .slice A' n' c'], .agg #[.bool b1, .slice B m d, .slice B' m' d'], .agg #[.bool b2, .slice C k e, .slice C' k' e']] w fun e w' => e = .returned (.bool true) ∧ Below w.heap.size w w' := by
  have CLa' := hide CLa
  have CLb' := hide CLb
  have CLc' := hide CLc
  clear CLa CLb CLc
  have CLa := CLa'
  clear CLa'
  have CLb := CLb'
  clear CLb'
  have CLc := CLc'
  clear CLc'
  have HB := Bel.refl w
  go_enter Tryz.func5, Tryz.ntmps5
  go_wp2_with (first | (go_at_call 6; (with_reducible refine (awake3_any _).mono ?_); rintro e w1 ⟨rfl, hbk⟩; (with_reducible (have HA : At w1 w.heap.size [.bool b0, .slice A n c, .slice A' n' c'] := At.up ((at_new0 _ _ _).al _ |>.al _) hbk; have HD : At w1 (w.heap.size + 1) [.bool b1, .slice B m d, .slice B' m' d'] := At.up ((at_new1 _ _ _ _).al _) hbk; have HE : At w1 (w.heap.size + 1 + 1) [.bool b2, .slice C k e, .slice C' k' e'] := At.up (at_new2 _ _ _ _ _) hbk; replace HB := (((HB.al _).al _).al _).up hbk)); have ha_0 := HA.c0; have ha_1 := HA.c1; have ha_2 := HA.c2; have ha_l := HA.lt; have hd_0 := HD.c0; have hd_1 := HD.c1; have hd_2 := HD.c2; have hd_l := HD.lt; have he_0 := HE.c0; have he_1 := HE.c1; have he_2 := HE.c2; have he_l := HE.lt) | (go_at_call 20; (with_reducible refine (CLa.out _).mono ?_); rintro e w2a ⟨rfl, hbk⟩; (with_reducible (replace HB := HB.up hbk; replace HA := HA.up hbk; replace HD := HD.up hbk; replace HE := HE.up hbk)); clear ha_0 ha_1 ha_2 ha_l hd_0 hd_1 hd_2 hd_l he_0 he_1 he_2 he_l; have ha_0 := HA.c0; have ha_1 := HA.c1; have ha_2 := HA.c2; have ha_l := HA.lt; have hd_0 := HD.c0; have hd_1 := HD.c1; have hd_2 := HD.c2; have hd_l := HD.lt; have he_0 := HE.c0; have he_1 := HE.c1; have he_2 := HE.c2; have he_l := HE.lt) | (go_at_call 20; (with_reducible refine (CLb.out _).mono ?_); rintro e w2b ⟨rfl, hbk⟩; (with_reducible (replace HB := HB.up hbk; replace HA := HA.up hbk; replace HD := HD.up hbk; replace HE := HE.up hbk)); clear ha_0 ha_1 ha_2 ha_l hd_0 hd_1 hd_2 hd_l he_0 he_1 he_2 he_l; have ha_0 := HA.c0; have ha_1 := HA.c1; have ha_2 := HA.c2; have ha_l := HA.lt; have hd_0 := HD.c0; have hd_1 := HD.c1; have hd_2 := HD.c2; have hd_l := HD.lt; have he_0 := HE.c0; have he_1 := HE.c1; have he_2 := HE.c2; have he_l := HE.lt) | (go_at_call 20; (with_reducible refine (CLc.out _).mono ?_); rintro e w2c ⟨rfl, hbk⟩; (with_reducible (replace HB := HB.up hbk; replace HA := HA.up hbk; replace HD := HD.up hbk; replace HE := HE.up hbk)); clear ha_0 ha_1 ha_2 ha_l hd_0 hd_1 hd_2 hd_l he_0 he_1 he_2 he_l; have ha_0 := HA.c0; have ha_1 := HA.c1; have ha_2 := HA.c2; have ha_l := HA.lt; have hd_0 := HD.c0; have hd_1 := HD.c1; have hd_2 := HD.c2; have hd_l := HD.lt; have he_0 := HE.c0; have he_1 := HE.c1; have he_2 := HE.c2; have he_l := HE.lt) | fail)
  go_ret
  exact ⟨rfl, HB⟩
set_option maxHeartbeats 2000000 in
theorem ratfield_x3 (w : World) (CLa : ∀ W, Calls Tryz.prog 20 #[.agg #[.bool b0, .slice A n c, .slice A' n' c']] W (BoolR W false))
    (CLb : ∀ W, Calls Tryz.prog 20 #[.agg #[.bool b1, .slice B m d, .slice B' m' d']] W (BoolR W false))
    (CLc : ∀ W, Calls Tryz.prog 20 #[.agg #[.bool b2, .slice C k e, .slice C' k' e']] W (BoolR W false))
    (CGa : ∀ W, Bel w W → Calls Tryz.prog 17 #[.agg #[.bool b0, .slice A n c, .slice A' n' c']] W (RetB W false)) :
    Calls Tryz.prog 5 #[.agg #[.bool b0, .slice A n c, .slice A' n' c'], .agg #[.bool b1, .slice B m d, .slice B' m' d'], .agg #[.bool b2, .slice C k e, .slice C' k' e']] w fun e w' => e = .returned (.bool true) ∧ Below w.heap.size w w' := by
  have CLa' := hide CLa
  have CLb' := hide CLb
  have CLc' := hide CLc
  have CGa' := hide CGa
  clear CLa CLb CLc CGa
  have CLa := CLa'
  clear CLa'
  have CLb := CLb'
  clear CLb'
  have CLc := CLc'
  clear CLc'
  have CGa := CGa'
  clear CGa'
  have HB := Bel.refl w
  go_enter Tryz.func5, Tryz.ntmps5
  go_wp2_with (first | (go_at_call 6; (with_reducible refine (awake3_any _).mono ?_); rintro e w1 ⟨rfl, hbk⟩; (with_reducible (have HA : At w1 w.heap.size [.bool b0, .slice A n c, .slice A' n' c'] := At.up ((at_new0 _ _ _).al _ |>.al _) hbk; have HD : At w1 (w.heap.size + 1) [.bool b1, .slice B m d, .slice B' m' d'] := At.up ((at_new1 _ _ _ _).al _) hbk; have HE : At w1 (w.heap.size + 1 + 1) [.bool b2, .slice C k e, .slice C' k' e'] := At.up (at_new2 _ _ _ _ _) hbk; replace HB := (((HB.al _).al _).al _).up hbk)); have ha_0 := HA.c0; have ha_1 := HA.c1; have ha_2 := HA.c2; have ha_l := HA.lt; have hd_0 := HD.c0; have hd_1 := HD.c1; have hd_2 := HD.c2; have hd_l := HD.lt; have he_0 := HE.c0; have he_1 := HE.c1; have he_2 := HE.c2; have he_l := HE.lt) | (go_at_call 20; (with_reducible refine (CLa.out _).mono ?_); rintro e w2a ⟨rfl, hbk⟩; (with_reducible (replace HB := HB.up hbk; replace HA := HA.up hbk; replace HD := HD.up hbk; replace HE := HE.up hbk)); clear ha_0 ha_1 ha_2 ha_l hd_0 hd_1 hd_2 hd_l he_0 he_1 he_2 he_l; have ha_0 := HA.c0; have ha_1 := HA.c1; have ha_2 := HA.c2; have ha_l := HA.lt; have hd_0 := HD.c0; have hd_1 := HD.c1; have hd_2 := HD.c2; have hd_l := HD.lt; have he_0 := HE.c0; have he_1 := HE.c1; have he_2 := HE.c2; have he_l := HE.lt) | (go_at_call 20; (with_reducible refine (CLb.out _).mono ?_); rintro e w2b ⟨rfl, hbk⟩; (with_reducible (replace HB := HB.up hbk; replace HA := HA.up hbk; replace HD := HD.up hbk; replace HE := HE.up hbk)); clear ha_0 ha_1 ha_2 ha_l hd_0 hd_1 hd_2 hd_l he_0 he_1 he_2 he_l; have ha_0 := HA.c0; have ha_1 := HA.c1; have ha_2 := HA.c2; have ha_l := HA.lt; have hd_0 := HD.c0; have hd_1 := HD.c1; have hd_2 := HD.c2; have hd_l := HD.lt; have he_0 := HE.c0; have he_1 := HE.c1; have he_2 := HE.c2; have he_l := HE.lt) | (go_at_call 20; (with_reducible refine (CLc.out _).mono ?_); rintro e w2c ⟨rfl, hbk⟩; (with_reducible (replace HB := HB.up hbk; replace HA := HA.up hbk; replace HD := HD.up hbk; replace HE := HE.up hbk)); clear ha_0 ha_1 ha_2 ha_l hd_0 hd_1 hd_2 hd_l he_0 he_1 he_2 he_l; have ha_0 := HA.c0; have ha_1 := HA.c1; have ha_2 := HA.c2; have ha_l := HA.lt; have hd_0 := HD.c0; have hd_1 := HD.c1; have hd_2 := HD.c2; have hd_l := HD.lt; have he_0 := HE.c0; have he_1 := HE.c1; have he_2 := HE.c2; have he_l := HE.lt) | (go_at_call 17; (with_reducible refine (CGa.out _ HB).mono ?_); rintro e w3a ⟨rfl, hbk⟩; replace hbk := Bel.hid hbk; (with_reducible (replace HB := HB.up hbk; replace HA := HA.up hbk; replace HD := HD.up hbk; replace HE := HE.up hbk)); clear ha_0 ha_1 ha_2 ha_l hd_0 hd_1 hd_2 hd_l he_0 he_1 he_2 he_l; have ha_0 := HA.c0; have ha_1 := HA.c1; have ha_2 := HA.c2; have ha_l := HA.lt; have hd_0 := HD.c0; have hd_1 := HD.c1; have hd_2 := HD.c2; have hd_l := HD.lt; have he_0 := HE.c0; have he_1 := HE.c1; have he_2 := HE.c2; have he_l := HE.lt) | fail)
  go_ret
  exact ⟨rfl, HB⟩
set_option maxHeartbeats 2000000 in
theorem ratfield_x4 (w : World) (CLa : ∀ W, Calls Tryz.prog 20 #[.agg #[.bool b0, .slice A n c, .slice A' n' c']] W (BoolR W false))
    (CLb : ∀ W, Calls Tryz.prog 20 #[.agg #[.bool b1, .slice B m d, .slice B' m' d']] W (BoolR W false))
    (CLc : ∀ W, Calls Tryz.prog 20 #[.agg #[.bool b2, .slice C k e, .slice C' k' e']] W (BoolR W false))
    (CGa : ∀ W, Bel w W → Calls Tryz.prog 17 #[.agg #[.bool b0, .slice A n c, .slice A' n' c']] W (RetB W true))
    (CGb : ∀ W, Bel w W → Calls Tryz.prog 17 #[.agg #[.bool b1, .slice B m d, .slice B' m' d']] W (RetB W false)) :
    Calls Tryz.prog 5 #[.agg #[.bool b0, .slice A n c, .slice A' n' c'], .agg #[.bool b1, .slice B m d, .slice B' m' d'], .agg #[.bool b2, .slice C k e, .slice C' k' e']] w fun e w' => e = .returned (.bool true) ∧ Below w.heap.size w w' := by
  have CLa' := hide CLa
  have CLb' := hide CLb
  have CLc' := hide CLc
  have CGa' := hide CGa
  have CGb' := hide CGb
  clear CLa CLb CLc CGa CGb
  have CLa := CLa'
  clear CLa'
  have CLb := CLb'
  clear CLb'
  have CLc := CLc'
  clear CLc'
  have CGa := CGa'
  clear CGa'
  have CGb := CGb'
  clear CGb'
  have HB := Bel.refl w
  go_enter Tryz.func5, Tryz.ntmps5
  go_wp2_with (first | (go_at_call 6; (with_reducible refine (awake3_any _).mono ?_); rintro e w1 ⟨rfl, hbk⟩; (with_reducible (have HA : At w1 w.heap.size [.bool b0, .slice A n c, .slice A' n' c'] := At.up ((at_new0 _ _ _).al _ |>.al _) hbk; have HD : At w1 (w.heap.size + 1) [.bool b1, .slice B m d, .slice B' m' d'] := At.up ((at_new1 _ _ _ _).al _) hbk; have HE : At w1 (w.heap.size + 1 + 1) [.bool b2, .slice C k e, .slice C' k' e'] := At.up (at_new2 _ _ _ _ _) hbk; replace HB := (((HB.al _).al _).al _).up hbk)); have ha_0 := HA.c0; have ha_1 := HA.c1; have ha_2 := HA.c2; have ha_l := HA.lt; have hd_0 := HD.c0; have hd_1 := HD.c1; have hd_2 := HD.c2; have hd_l := HD.lt; have he_0 := HE.c0; have he_1 := HE.c1; have he_2 := HE.c2; have he_l := HE.lt) | (go_at_call 20; (with_reducible refine (CLa.out _).mono ?_); rintro e w2a ⟨rfl, hbk⟩; (with_reducible (replace HB := HB.up hbk; replace HA := HA.up hbk; replace HD := HD.up hbk; replace HE := HE.up hbk)); clear ha_0 ha_1 ha_2 ha_l hd_0 hd_1 hd_2 hd_l he_0 he_1 he_2 he_l; have ha_0 := HA.c0; have ha_1 := HA.c1; have ha_2 := HA.c2; have ha_l := HA.lt; have hd_0 := HD.c0; have hd_1 := HD.c1; have hd_2 := HD.c2; have hd_l := HD.lt; have he_0 := HE.c0; have he_1 := HE.c1; have he_2 := HE.c2; have he_l := HE.lt) | (go_at_call 20; (with_reducible refine (CLb.out _).mono ?_); rintro e w2b ⟨rfl, hbk⟩; (with_reducible (replace HB := HB.up hbk; replace HA := HA.up hbk; replace HD := HD.up hbk; replace HE := HE.up hbk)); clear ha_0 ha_1 ha_2 ha_l hd_0 hd_1 hd_2 hd_l he_0 he_1 he_2 he_l; have ha_0 := HA.c0; have ha_1 := HA.c1; have ha_2 := HA.c2; have ha_l := HA.lt; have hd_0 := HD.c0; have hd_1 := HD.c1; have hd_2 := HD.c2; have hd_l := HD.lt; have he_0 := HE.c0; have he_1 := HE.c1; have he_2 := HE.c2; have he_l := HE.lt) | (go_at_call 20; (with_reducible refine (CLc.out _).mono ?_); rintro e w2c ⟨rfl, hbk⟩; (with_reducible (replace HB := HB.up hbk; replace HA := HA.up hbk; replace HD := HD.up hbk; replace HE := HE.up hbk)); clear ha_0 ha_1 ha_2 ha_l hd_0 hd_1 hd_2 hd_l he_0 he_1 he_2 he_l; have ha_0 := HA.c0; have ha_1 := HA.c1; have ha_2 := HA.c2; have ha_l := HA.lt; have hd_0 := HD.c0; have hd_1 := HD.c1; have hd_2 := HD.c2; have hd_l := HD.lt; have he_0 := HE.c0; have he_1 := HE.c1; have he_2 := HE.c2; have he_l := HE.lt) | (go_at_call 17; (with_reducible refine (CGa.out _ HB).mono ?_); rintro e w3a ⟨rfl, hbk⟩; replace hbk := Bel.hid hbk; (with_reducible (replace HB := HB.up hbk; replace HA := HA.up hbk; replace HD := HD.up hbk; replace HE := HE.up hbk)); clear ha_0 ha_1 ha_2 ha_l hd_0 hd_1 hd_2 hd_l he_0 he_1 he_2 he_l; have ha_0 := HA.c0; have ha_1 := HA.c1; have ha_2 := HA.c2; have ha_l := HA.lt; have hd_0 := HD.c0; have hd_1 := HD.c1; have hd_2 := HD.c2; have hd_l := HD.lt; have he_0 := HE.c0; have he_1 := HE.c1; have he_2 := HE.c2; have he_l := HE.lt) | (go_at_call 17; (with_reducible refine (CGb.out _ HB).mono ?_); rintro e w3b ⟨rfl, hbk⟩; replace hbk := Bel.hid hbk; (with_reducible (replace HB := HB.up hbk; replace HA := HA.up hbk; replace HD := HD.up hbk; replace HE := HE.up hbk)); clear ha_0 ha_1 ha_2 ha_l hd_0 hd_1 hd_2 hd_l he_0 he_1 he_2 he_l; have ha_0 := HA.c0; have ha_1 := HA.c1; have ha_2 := HA.c2; have ha_l := HA.lt; have hd_0 := HD.c0; have hd_1 := HD.c1; have hd_2 := HD.c2; have hd_l := HD.lt; have he_0 := HE.c0; have he_1 := HE.c1; have he_2 := HE.c2; have he_l := HE.lt) | fail)
  go_ret
  exact ⟨rfl, HB⟩
set_option maxHeartbeats 2000000 in
theorem ratfield_x5 (w : World) (CLa : ∀ W, Calls Tryz.prog 20 #[.agg #[.bool b0, .slice A n c, .slice A' n' c']] W (BoolR W false))
    (CLb : ∀ W, Calls Tryz.prog 20 #[.agg #[.bool b1, .slice B m d, .slice B' m' d']] W (BoolR W false))
    (CLc : ∀ W, Calls Tryz.prog 20 #[.agg #[.bool b2, .slice C k e, .slice C' k' e']] W (BoolR W false))
    (CGa : ∀ W, Bel w W → Calls Tryz.prog 17 #[.agg #[.bool b0, .slice A n c, .slice A' n' c']] W (RetB W true))
    (CGb : ∀ W, Bel w W → Calls Tryz.prog 17 #[.agg #[.bool b1, .slice B m d, .slice B' m' d']] W (RetB W true))
    (CGc : ∀ W, Bel w W → Calls Tryz.prog 17 #[.agg #[.bool b2, .slice C k e, .slice C' k' e']] W (RetB W false)) :
    Calls Tryz.prog 5 #[.agg #[.bool b0, .slice A n c, .slice A' n' c'], .agg #[.bool b1, .slice B m d, .slice B' m' d'], .agg #[.bool b2, .slice C k e, .slice C' k' e']] w fun e w' => e = .returned (.bool true) ∧ Below w.heap.size w w' := by
  have CLa' := hide CLa
  have CLb' := hide CLb
  have CLc' := hide CLc
  have CGa' := hide CGa
  have CGb' := hide CGb
  have CGc' := hide CGc
  clear CLa CLb CLc CGa CGb CGc
  have CLa := CLa'
  clear CLa'
  have CLb := CLb'
  clear CLb'
  have CLc := CLc'
  clear CLc'
  have CGa := CGa'
  clear CGa'
  have CGb := CGb'
  clear CGb'
  have CGc := CGc'
  clear CGc'
  have HB := Bel.refl w
  go_enter Tryz.func5, Tryz.ntmps5
  go_wp2_with (first | (go_at_call 6; (with_reducible refine (awake3_any _).mono ?_); rintro e w1 ⟨rfl, hbk⟩; (with_reducible (have HA : At w1 w.heap.size [.bool b0, .slice A n c, .slice A' n' c'] := At.up ((at_new0 _ _ _).al _ |>.al _) hbk; have HD : At w1 (w.heap.size + 1) [.bool b1, .slice B m d, .slice B' m' d'] := At.up ((at_new1 _ _ _ _).al _) hbk; have HE : At w1 (w.heap.size + 1 + 1) [.bool b2, .slice C k e, .slice C' k' e'] := At.up (at_new2 _ _ _ _ _) hbk; replace HB := (((HB.al _).al _).al _).up hbk)); have ha_0 := HA.c0; have ha_1 := HA.c1; have ha_2 := HA.c2; have ha_l := HA.lt; have hd_0 := HD.c0; have hd_1 := HD.c1; have hd_2 := HD.c2; have hd_l := HD.lt; have he_0 := HE.c0; have he_1 := HE.c1; have he_2 := HE.c2; have he_l := HE.lt) | (go_at_call 20; (with_reducible refine (CLa.out _).mono ?_); rintro e w2a ⟨rfl, hbk⟩; (with_reducible (replace HB := HB.up hbk; replace HA := HA.up hbk; replace HD := HD.up hbk; replace HE := HE.up hbk)); clear ha_0 ha_1 ha_2 ha_l hd_0 hd_1 hd_2 hd_l he_0 he_1 he_2 he_l; have ha_0 := HA.c0; have ha_1 := HA.c1; have ha_2 := HA.c2; have ha_l := HA.lt; have hd_0 := HD.c0; have hd_1 := HD.c1; have hd_2 := HD.c2; have hd_l := HD.lt; have he_0 := HE.c0; have he_1 := HE.c1; have he_2 := HE.c2; have he_l := HE.lt) | (go_at_call 20; (with_reducible refine (CLb.out _).mono ?_); rintro e w2b ⟨rfl, hbk⟩; (with_reducible (replace HB := HB.up hbk; replace HA := HA.up hbk; replace HD := HD.up hbk; replace HE := HE.up hbk)); clear ha_0 ha_1 ha_2 ha_l hd_0 hd_1 hd_2 hd_l he_0 he_1 he_2 he_l; have ha_0 := HA.c0; have ha_1 := HA.c1; have ha_2 := HA.c2; have ha_l := HA.lt; have hd_0 := HD.c0; have hd_1 := HD.c1; have hd_2 := HD.c2; have hd_l := HD.lt; have he_0 := HE.c0; have he_1 := HE.c1; have he_2 := HE.c2; have he_l := HE.lt) | (go_at_call 20; (with_reducible refine (CLc.out _).mono ?_); rintro e w2c ⟨rfl, hbk⟩; (with_reducible (replace HB := HB.up hbk; replace HA := HA.up hbk; replace HD := HD.up hbk; replace HE := HE.up hbk)); clear ha_0 ha_1 ha_2 ha_l hd_0 hd_1 hd_2 hd_l he_0 he_1 he_2 he_l; have ha_0 := HA.c0; have ha_1 := HA.c1; have ha_2 := HA.c2; have ha_l := HA.lt; have hd_0 := HD.c0; have hd_1 := HD.c1; have hd_2 := HD.c2; have hd_l := HD.lt; have he_0 := HE.c0; have he_1 := HE.c1; have he_2 := HE.c2; have he_l := HE.lt) | (go_at_call 17; (with_reducible refine (CGa.out _ HB).mono ?_); rintro e w3a ⟨rfl, hbk⟩; replace hbk := Bel.hid hbk; (with_reducible (replace HB := HB.up hbk; replace HA := HA.up hbk; replace HD := HD.up hbk; replace HE := HE.up hbk)); clear ha_0 ha_1 ha_2 ha_l hd_0 hd_1 hd_2 hd_l he_0 he_1 he_2 he_l; have ha_0 := HA.c0; have ha_1 := HA.c1; have ha_2 := HA.c2; have ha_l := HA.lt; have hd_0 := HD.c0; have hd_1 := HD.c1; have hd_2 := HD.c2; have hd_l := HD.lt; have he_0 := HE.c0; have he_1 := HE.c1; have he_2 := HE.c2; have he_l := HE.lt) | (go_at_call 17; (with_reducible refine (CGb.out _ HB).mono ?_); rintro e w3b ⟨rfl, hbk⟩; replace hbk := Bel.hid hbk; (with_reducible (replace HB := HB.up hbk; replace HA := HA.up hbk; replace HD := HD.up hbk; replace HE := HE.up hbk)); clear ha_0 ha_1 ha_2 ha_l hd_0 hd_1 hd_2 hd_l he_0 he_1 he_2 he_l; have ha_0 := HA.c0; have ha_1 := HA.c1; have ha_2 := HA.c2; have ha_l := HA.lt; have hd_0 := HD.c0; have hd_1 := HD.c1; have hd_2 := HD.c2; have hd_l := HD.lt; have he_0 := HE.c0; have he_1 := HE.c1; have he_2 := HE.c2; have he_l := HE.lt) | (go_at_call 17; (with_reducible refine (CGc.out _ HB).mono ?_); rintro e w3c ⟨rfl, hbk⟩; replace hbk := Bel.hid hbk; (with_reducible (replace HB := HB.up hbk; replace HA := HA.up hbk; replace HD := HD.up hbk; replace HE := HE.up hbk)); clear ha_0 ha_1 ha_2 ha_l hd_0 hd_1 hd_2 hd_l he_0 he_1 he_2 he_l; have ha_0 := HA.c0; have ha_1 := HA.c1; have ha_2 := HA.c2; have ha_l := HA.lt; have hd_0 := HD.c0; have hd_1 := HD.c1; have hd_2 := HD.c2; have hd_l := HD.lt; have he_0 := HE.c0; have he_1 := HE.c1; have he_2 := HE.c2; have he_l := HE.lt) | fail)
  go_ret
  exact ⟨rfl, HB⟩
end
end Go.Proofs.YtfknclimoihfdaaGreatDoor
end

section
/- An integer's text is read as it. Conditions: a text of less than 99990 bytes. -/
open Go.RowKit
set_option maxRecDepth 100000
namespace Go.Proofs.YtfknclimoihfdaaGreatDoor
theorem head_dec (m : Nat) : (decL m).head? ≠ some 45 := by
  intro h
  have h1 := (numL_decL m).2
  unfold digB at h1
  rw [Bool.and_eq_true] at h1
  cases hl : decL m with
  | nil => rw [hl] at h; cases h
  | cons x xs =>
    rw [hl] at h h1
    injection h with h
    subst h
    have := h1.2
    rw [List.all_cons, Bool.and_eq_true] at this
    exact absurd this.1 (by decide)
theorem zparse_back {t : ByteArray} {z : Int} (W : World) (ht : t.data.toList = decZ z) (hl : (decL z.natAbs).length ≤ 99990) : Calls Tryz.prog 47 #[.string t] W (ZPR W z) := by
  have h1 := numL_decL z.natAbs
  by_cases hn : z < 0
  · have e : t.data.toList = (if true then [45] else []) ++ decL z.natAbs := by rw [ht]; unfold decZ; rw [if_pos hn]; rfl
    exact zparse_h (by rw [size_list, e]; simp; omega) e (by intro h; cases h) h1.2 (by rw [h1.1, zi_true]; omega)
  · have e : t.data.toList = (if false then [45] else []) ++ decL z.natAbs := by rw [ht]; unfold decZ; rw [if_neg hn]; rfl
    exact zparse_h (by rw [size_list, e]; simp; omega) e (fun _ => head_dec _) h1.2 (by rw [h1.1, zi_false]; omega)
end Go.Proofs.YtfknclimoihfdaaGreatDoor
end
