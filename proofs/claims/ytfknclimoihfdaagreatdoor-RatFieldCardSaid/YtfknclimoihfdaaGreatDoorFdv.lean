/- RatField over all inputs. No conditions. -/
import Derived.Test.YtfknclimoihfdaaGreatDoorFdm
open Go.RowKit
set_option maxRecDepth 100000
namespace Go.Proofs.YtfknclimoihfdaaGreatDoor
theorem rfield_walk {b0 b1 b2 : Bool} {A A' B B' C C' : Option Addr} {n c n' c' m d m' d' k e k' e' : Nat} {z0 z0' z1 z1' z2 z2' : List Nat} (w : World)
    (h0 : n = z0.length ∧ n ≤ c ∧ Rd U32 w w.heap.size A z0 ∧ Good32 z0) (h0' : n' = z0'.length ∧ n' ≤ c' ∧ Rd U32 w w.heap.size A' z0' ∧ Good32 z0')
    (h1 : m = z1.length ∧ m ≤ d ∧ Rd U32 w w.heap.size B z1 ∧ Good32 z1) (h1' : m' = z1'.length ∧ m' ≤ d' ∧ Rd U32 w w.heap.size B' z1' ∧ Good32 z1')
    (h2 : k = z2.length ∧ k ≤ e ∧ Rd U32 w w.heap.size C z2 ∧ Good32 z2) (h2' : k' = z2'.length ∧ k' ≤ e' ∧ Rd U32 w w.heap.size C' z2' ∧ Good32 z2') :
    Calls Tryz.prog 5 #[.agg #[.bool b0, .slice A n c, .slice A' n' c'], .agg #[.bool b1, .slice B m d, .slice B' m' d'], .agg #[.bool b2, .slice C k e, .slice C' k' e']] w fun e w' => e = .returned (.bool true) ∧ Below w.heap.size w w' := by
  by_cases la : n ≤ 12 ∧ n' ≤ 12
  · have CLa := fun W => rlong_h (W := W) (b := b0) (A := A) (A' := A') (c := c) (c' := c') la.1 la.2
    by_cases lb : m ≤ 12 ∧ m' ≤ 12
    · have CLb := fun W => rlong_h (W := W) (b := b1) (A := B) (A' := B') (c := d) (c' := d') lb.1 lb.2
      by_cases lc : k ≤ 12 ∧ k' ≤ 12
      · have CLc := fun W => rlong_h (W := W) (b := b2) (A := C) (A' := C') (c := e) (c' := e') lc.1 lc.2
        have ha := qa_in (b := b0) h0 h0' la
        have hb := qa_in (b := b1) h1 h1' lb
        have hc := qa_in (b := b2) h2 h2' lc
        obtain ⟨ga, CGa⟩ := rgood_e ha (by decide)
        obtain ⟨gb, CGb⟩ := rgood_e hb (by decide)
        obtain ⟨gc, CGc⟩ := rgood_e hc (by decide)
        cases ga
        · exact ratfield_x3 w CLa CLb CLc CGa
        · cases gb
          · exact ratfield_x4 w CLa CLb CLc CGa CGb
          · cases gc
            · exact ratfield_x5 w CLa CLb CLc CGa CGb CGc
            · by_cases s0 : mkRat (zi b0 (val W32 z0)) (val W32 z0') = 0
              · exact rfield_none w ha hb hc CLa CLb CLc CGa CGb CGc s0
              · exact rfield_some w ha hb hc CLa CLb CLc CGa CGb CGc s0
      · exact ratfield_x2 w CLa CLb (fun W => rlong_n (W := W) lc)
    · exact ratfield_x1 w CLa (fun W => rlong_n (W := W) lb)
  · exact ratfield_x0 w (fun W => rlong_n (W := W) la)
end Go.Proofs.YtfknclimoihfdaaGreatDoor
