/- Package num: Add. Conditions: at most 100000 words. -/
import Derived.Test.YthdpojkeceoiiaaGreatDoorGOmc14
open Go.RowKit
set_option maxRecDepth 100000
namespace Go.Proofs.YthdpojkeceoiiaaGreatDoor
section
variable {W : World} {b b' : Bool} {A A' : Option Addr} {n n' c c' : Nat} {z z' : Int}
theorem al3 (W : World) (o1 o2 o3 : Obj) : Below W.heap.size W (((W.alloc o1).alloc o2).alloc o3) := (((Below.refl _ _).alloc (Nat.le_refl _) _).alloc (by simp) _).alloc (by simp; omega) _
theorem bel_al {a b w : World} {v : Value} {t : TypeId} (h : Hid (Below w.heap.size w a)) (hb : Hid (Below (a.alloc (.cells #[v] t)).heap.size (a.alloc (.cells #[v] t)) b)) : Hid (Below w.heap.size w b) := chain h (bx1 hb).2.2.out
theorem Zcell.upA {a b : World} {v : Value} {t : TypeId} {p : Nat} {s : Bool} {A : Option Addr} {n c : Nat} (h : Zcell a p s A n c) (hb : Hid (Below (a.alloc (.cells #[v] t)).heap.size (a.alloc (.cells #[v] t)) b)) : Zcell b p s A n c := h.up (bx1 hb).2.2
theorem nm_upA {a b : World} {v : Value} {t : TypeId} {A : Option Addr} {n c m : Nat} (h : Nm a A n c m) (hb : Hid (Below (a.alloc (.cells #[v] t)).heap.size (a.alloc (.cells #[v] t)) b)) : Nm b A n c m := h.up (bx1 hb).2.2
end
end Go.Proofs.YthdpojkeceoiiaaGreatDoor
