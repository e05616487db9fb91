/- Words for memory: a slice that reads as a list of numbers; and trim. Conditions: lengths that fit int. -/
import Derived.Test.YtbmpbcnhgnmekaaDoorProg
import Derived.Test.YtbmpbcnhgnmekaaDoorMa
import Derived.WalkKit
import Derived.Below
import Derived.BigQuiet
import Derived.Deep.QuietTactic
import Derived.Deep.Draws
import Derived.Laws.OwnMore

open Go.RowKit
namespace Go.Proofs.YtbmpbcnhgnmekaaDoor
theorem block_add (a : Addr) (n : Nat) : (a.add n).block = a.block := by unfold Addr.add; split <;> rfl
theorem add_add' (a : Addr) (i j : Nat) : (a.add i).add j = a.add (i + j) := by
  unfold Addr.add
  by_cases hi : i = 0 <;> by_cases hj : j = 0 <;> simp [hi, hj, Nat.add_assoc]
/-- A slice at A reads as xs, each by f, and lies below block B. -/
def Rd (f : Nat → Value) (w : World) (B : Nat) (A : Option Addr) (xs : List Nat) : Prop :=
  0 < xs.length → ∃ ad, A = some ad ∧ ad.block < B ∧ ∀ j x, xs[j]? = some x → w.cell? (ad.add j) = some (f x)
def U32 (x : Nat) : Value := .int .u32 (x : Int)
def I64 (x : Nat) : Value := .int .i64 (x : Int)
def U8 (x : Nat) : Value := .int .u8 (x : Int)
section
variable {f : Nat → Value} {w w' : World} {B B' : Nat} {A : Option Addr} {xs : List Nat}
theorem Rd.nil : Rd f w B A [] := fun h => absurd h (by simp)
theorem Rd.at_ {k : Nat} (h : Rd f w B A xs) (hk : k < xs.length) : ∃ ad, A = some ad ∧ ad.block < B ∧ w.cell? (ad.add k) = some (f xs[k]) := by
  obtain ⟨ad, e, hb, hc⟩ := h (by omega)
  exact ⟨ad, e, hb, hc k _ (List.getElem?_eq_getElem hk)⟩
theorem Rd.keep (h : Rd f w B A xs) (hk : ∀ p : Addr, p.block < B → w'.cell? p = w.cell? p) : Rd f w' B A xs := fun hn => by
  obtain ⟨ad, e, hb, hc⟩ := h hn
  exact ⟨ad, e, hb, fun j u hu => (hk _ (by rw [block_add]; exact hb)).trans (hc j u hu)⟩
theorem Rd.more (h : Rd f w B A xs) (hB : B ≤ B') : Rd f w B' A xs := fun hn => by
  obtain ⟨ad, e, hb, hc⟩ := h hn
  exact ⟨ad, e, by omega, hc⟩
theorem Rd.below (h : Rd f w B A xs) (hb : Below B w w') : Rd f w' B A xs := h.keep fun _ hp => hb.cell hp
theorem Rd.drewN (h : Rd f w B A xs) (k : Nat) : Rd f (w.drewN k) B A xs := h
theorem Rd.alloc (h : Rd f w B A xs) (hB : B ≤ w.heap.size) (o : Obj) : Rd f (w.alloc o) B A xs := h.keep fun p hp => World.cell?_alloc_lt w o p (by omega)
theorem Rd.take (h : Rd f w B A xs) (k : Nat) : Rd f w B A (xs.take k) := fun hn => by
  obtain ⟨ad, e, hb, hc⟩ := h (by rw [List.length_take] at hn; omega)
  refine ⟨ad, e, hb, fun j x hx => hc j x ?_⟩
  rw [List.getElem?_take] at hx
  split at hx
  · exact hx
  · cases hx
theorem Rd.cut {k cap : Nat} (h : Rd f w B A xs) (hc : xs.length ≤ cap) : Rd f w B (if cap = k then A else A.map (·.add k)) (xs.drop k) := fun hn => by
  rw [List.length_drop] at hn
  obtain ⟨ad, rfl, hb, hcell⟩ := h (by omega)
  rw [if_neg (by omega)]
  refine ⟨ad.add k, rfl, by rw [block_add]; exact hb, fun j u hu => ?_⟩
  rw [add_add']
  exact hcell _ u (by rw [← hu, List.getElem?_drop])
end
def W32 : Nat := 4294967296
theorem W32_eq : W32 = 4294967296 := rfl
/-- How many words are left when the noughts at the end are cut off. -/
def trimmed (ws : List Nat) : Nat := (digs W32 (val W32 ws)).length
def Good32 (ws : List Nat) : Prop := ∀ x ∈ ws, x < W32
theorem trimmed_of {ws : List Nat} {k : Nat} (h : Good32 ws) (hk : k ≤ ws.length) (hz : ∀ j : Nat, k ≤ j → ws[j]?.getD 0 = 0) (hl : 0 < k → ws[k - 1]?.getD 0 ≠ 0) : trimmed ws = k := by
  unfold trimmed
  rw [← trim_eq (by decide) ws k h hk hz hl, List.length_take, Nat.min_eq_left hk]
theorem slice_ret {A : Option Addr} {c m n : Nat} (h : m = n) : Ending.returned (.slice A m c) = .returned (.slice A n c) := by rw [h]
def lenOf : Value → Nat | .slice _ k _ => k | _ => 0
theorem hide {p : Prop} (h : p) : Hid p := h
end Go.Proofs.YtbmpbcnhgnmekaaDoor
