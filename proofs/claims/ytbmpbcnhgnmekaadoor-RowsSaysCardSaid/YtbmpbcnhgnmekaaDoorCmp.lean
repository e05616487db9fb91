/- Comparisons: cmp.Compare, nat.compare. Conditions: lengths that fit int. -/
import Derived.Test.YtbmpbcnhgnmekaaDoorMem
open Go.RowKit
namespace Go.Proofs.YtbmpbcnhgnmekaaDoor
theorem quiet_left {P : Program} {f : FuncId} {args : Array Value} {w : World} {n : Nat} {v : Value}
    (h : Calls P f args (w.drewN n) fun e w' => e = .returned v ∧ w.drewN n = w') : Calls P f args (w.drewN n) fun e w'' => e = .returned v ∧ ∃ m, w'' = w.drewN m :=
  h.mono fun _ _ ⟨he, hm⟩ => ⟨he, n, hm.symm⟩
theorem drew_cell {W w : World} {n : Nat} {p : Addr} {v : Option Value} (h : W = w.drewN n) (hc : w.cell? p = v) : W.cell? p = v := by rw [h]; exact hc
theorem drew_hid {W wr w : World} {n q : Nat} (h : W = wr.drewN n) (hq : Hid (wr = w.drewN q)) : Hid (W = w.drewN (q + n)) := by unfold Hid; rw [h, hq.out, World.drewN_drewN]
theorem drew_more {wr w : World} {n q : Nat} (hq : Hid (wr = w.drewN q)) : Hid (wr.drewN n = w.drewN (q + n)) := by unfold Hid; rw [hq.out, World.drewN_drewN]
theorem drew_end {wr w : World} {n q : Nat} (hq : Hid (wr = w.drewN q)) : ∃ m, wr.drewN n = w.drewN m := ⟨_, (drew_more hq).out⟩
/-- -1, 0 or 1. -/
def cmpI (a b : Nat) : Int := if a < b then -1 else if b < a then 1 else 0
theorem cmpI_lt {a b : Nat} (h : a < b) : cmpI a b = -1 := if_pos h
theorem cmpI_gt {a b : Nat} (h : b < a) : cmpI a b = 1 := by unfold cmpI; rw [if_neg (by omega), if_pos h]
theorem cmpI_eq {a b : Nat} (h : a = b) : cmpI a b = 0 := by unfold cmpI; rw [if_neg (by omega), if_neg (by omega)]
theorem int_ret {k : IntKind} {a b : Int} (h : a = b) : Ending.returned (.int k a) = .returned (.int k b) := by rw [h]
def dl (m : Nat) : Nat := (digs W32 m).length
theorem cmpI_len {m n : Nat} (h : dl m ≠ dl n) : cmpI (dl m) (dl n) = cmpI m n := by
  rcases Nat.lt_or_ge (dl m) (dl n) with h1 | h1
  · rw [cmpI_lt h1, cmpI_lt (digs_len_lt (b := W32) (by decide) h1)]
  · rw [cmpI_gt (by omega), cmpI_gt (digs_len_lt (b := W32) (by decide) (show dl n < dl m by omega))]
theorem cmpI_at {m n i : Nat} (hlen : dl m = dl n) (hi : i < dl m) (heq : (digs W32 m).drop (i + 1) = (digs W32 n).drop (i + 1)) {x y : Nat} (hx : (digs W32 m)[i]? = some x) (hy : (digs W32 n)[i]? = some y) (hne : x ≠ y) : cmpI x y = cmpI m n := by
  have key : ∀ {m n x y : Nat}, dl m = dl n → i < dl m → (digs W32 m).drop (i + 1) = (digs W32 n).drop (i + 1) → (digs W32 m)[i]? = some x → (digs W32 n)[i]? = some y → x < y → m < n := by
    intro m n x y hlen hi heq hx hy hlt
    have := val_cmp (b := W32) (digs W32 m) (digs W32 n) i (digs_lt (by decide) m) hlen hi heq (by rw [hx, hy]; exact hlt)
    rwa [val_digs (by decide), val_digs (by decide)] at this
  rcases Nat.lt_or_ge x y with h | h
  · rw [cmpI_lt h, cmpI_lt (key hlen hi heq hx hy h)]
  · rw [cmpI_gt (by omega), cmpI_gt (key hlen.symm (by omega) heq.symm hy hx (by omega))]
end Go.Proofs.YtbmpbcnhgnmekaaDoor
