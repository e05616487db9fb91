/- A slice that tells a number; Cmp, Good, Of, Low. Conditions: at most 100000 words. -/
import Derived.Test.YtbmpbcnhgnmekaaDoorCmp
open Go.RowKit
namespace Go.Proofs.YtbmpbcnhgnmekaaDoor
/-- A slice's parts, as an argument: it tells m, perhaps with noughts at its end. -/
def Arg (w : World) (B : Nat) (A : Option Addr) (n c m : Nat) : Prop :=
  ∃ ws : List Nat, n = ws.length ∧ n ≤ c ∧ n ≤ 100000 ∧ Rd U32 w B A ws ∧ Good32 ws ∧ val W32 ws = m
/-- A slice's parts that tell m just. -/
def Can (w : World) (B : Nat) (A : Option Addr) (c m : Nat) : Prop := dl m ≤ c ∧ Rd U32 w B A (digs W32 m)
theorem digs_take {b : Nat} (hb : 2 ≤ b) (l : List Nat) (h : ∀ x ∈ l, x < b) : l.take (digs b (val b l)).length = digs b (val b l) := by
  have key : ∀ k, k ≤ l.length → (∀ j : Nat, k ≤ j → l[j]?.getD 0 = 0) → ∃ i, i ≤ l.length ∧ (∀ j : Nat, i ≤ j → l[j]?.getD 0 = 0) ∧ (0 < i → l[i - 1]?.getD 0 ≠ 0) := by
    intro k
    induction k with
    | zero => exact fun hk hz => ⟨0, hk, hz, fun h => absurd h (by omega)⟩
    | succ k ih =>
      intro hk hz
      by_cases h0 : l[k]?.getD 0 = 0
      · exact ih (by omega) fun j hj => by rcases Nat.eq_or_lt_of_le hj with rfl | hj; (· exact h0); (· exact hz j hj)
      · exact ⟨k + 1, hk, hz, fun _ => h0⟩
  obtain ⟨i, hi, hz, hl⟩ := key l.length (Nat.le_refl _) fun j hj => by rw [List.getElem?_eq_none hj]; rfl
  have e := trim_eq hb l i h hi hz hl
  rw [← e, List.length_take, Nat.min_eq_left hi, e]
section
variable {w w' : World} {B B' : Nat} {A : Option Addr} {n c m : Nat}
theorem Arg.digs (h : Arg w B A n c m) : Can w B A c m ∧ dl m ≤ n := by
  obtain ⟨ws, rfl, hc, hl, hr, hg, rfl⟩ := h
  have hle : dl (val W32 ws) ≤ ws.length := digs_len_le (by decide) ws hg
  refine ⟨⟨by omega, ?_⟩, hle⟩
  have := hr.take (dl (val W32 ws))
  rwa [show ws.take (dl (val W32 ws)) = Go.Proofs.YtbmpbcnhgnmekaaDoor.digs W32 (val W32 ws) from digs_take (by decide) ws hg] at this
theorem Can.arg (h : Can w B A c m) (hl : dl m ≤ 100000) : Arg w B A (dl m) c m :=
  ⟨Go.Proofs.YtbmpbcnhgnmekaaDoor.digs W32 m, rfl, h.1, hl, h.2, digs_lt (by decide) m, val_digs (by decide) m⟩
theorem Arg.below (h : Arg w B A n c m) (hb : Below B w w') : Arg w' B A n c m := by
  obtain ⟨ws, h1, h2, h3, hr, h4⟩ := h
  exact ⟨ws, h1, h2, h3, hr.below hb, h4⟩
theorem Arg.more (h : Arg w B A n c m) (hb : B ≤ B') : Arg w B' A n c m := by
  obtain ⟨ws, h1, h2, h3, hr, h4⟩ := h
  exact ⟨ws, h1, h2, h3, hr.more hb, h4⟩
theorem Can.below (h : Can w B A c m) (hb : Below B w w') : Can w' B A c m := ⟨h.1, h.2.below hb⟩
theorem Can.more (h : Can w B A c m) (hb : B ≤ B') : Can w B' A c m := ⟨h.1, h.2.more hb⟩
theorem Can.drewN (h : Can w B A c m) (k : Nat) : Can (w.drewN k) B A c m := h
end
theorem below_drewN {B : Nat} {a w : World} (h : Below B a w) (n : Nat) : Below B a (w.drewN n) := ⟨h.os, h.tape, h.output, h.size, h.block⟩
/-- Two allocations and draws later. -/
theorem below2 (w : World) (o1 o2 : Obj) (k : Nat) : Below w.heap.size w (((w.alloc o1).alloc o2).drewN k) :=
  below_drewN (((Below.refl _ _).alloc (Nat.le_refl _) _).alloc (by simp) _) k
end Go.Proofs.YtbmpbcnhgnmekaaDoor
