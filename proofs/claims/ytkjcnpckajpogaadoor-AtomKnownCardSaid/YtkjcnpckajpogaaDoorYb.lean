/- Words for memory: a slice of strings that reads as a list; a slice of such slices; one that is being built. No conditions. -/
import Derived.Test.YtkjcnpckajpogaaDoorYa
import Derived.Below
import Derived.Laws.OwnMore
import Derived.Maps.AppendAt
import Derived.WalkKit
import Derived.BigQuiet
import Derived.Deep.QuietTactic
import Derived.Deep.Draws
open Go.RowKit
namespace Go.Proofs.YtkjcnpckajpogaaDoor
theorem yblock_add (a : Addr) (n : Nat) : (a.add n).block = a.block := by unfold Addr.add; split <;> rfl
theorem ybelow_drewN {B : Nat} {a w : World} (h : Below B a w) (n : Nat) : Below B a (w.drewN n) := ⟨h.os, h.tape, h.output, h.size, h.block⟩
/-- A slice at A reads as the strings xs, and lies below block B. -/
def RS (w : World) (B : Nat) (A : Option Addr) (xs : List ByteArray) : Prop :=
  0 < xs.length → ∃ ad, A = some ad ∧ ad.block < B ∧ ∀ j x, xs[j]? = some x → w.cell? (ad.add j) = some (.string x)
section
variable {w w' : World} {B B' : Nat} {A : Option Addr} {xs : List ByteArray}
theorem RS.nil : RS w B A [] := fun h => absurd h (by simp)
theorem RS.at_ {k : Nat} (h : RS w B A xs) (hk : k < xs.length) : ∃ ad, A = some ad ∧ ad.block < B ∧ w.cell? (ad.add k) = some (.string xs[k]) := by
  obtain ⟨ad, e, hb, hc⟩ := h (by omega)
  exact ⟨ad, e, hb, hc k _ (List.getElem?_eq_getElem hk)⟩
theorem RS.keep (h : RS w B A xs) (hk : ∀ p : Addr, p.block < B → w'.cell? p = w.cell? p) : RS w' B A xs := fun hn => by
  obtain ⟨ad, e, hb, hc⟩ := h hn
  exact ⟨ad, e, hb, fun j u hu => (hk _ (by rw [yblock_add]; exact hb)).trans (hc j u hu)⟩
theorem RS.more (h : RS w B A xs) (hB : B ≤ B') : RS w B' A xs := fun hn => by
  obtain ⟨ad, e, hb, hc⟩ := h hn
  exact ⟨ad, e, by omega, hc⟩
theorem RS.below (h : RS w B A xs) (hb : Below B w w') : RS w' B A xs := h.keep fun _ hp => hb.cell hp
theorem RS.alloc (h : RS w B A xs) (hB : B ≤ w.heap.size) (o : Obj) : RS (w.alloc o) B A xs := h.keep fun p hp => World.cell?_alloc_lt w o p (by omega)
theorem RS.of_own {base : Nat} {e : TypeId} {c : Nat} (h : w.ownsRow base e 1 (.slice A xs.length c) xs.length (xs.map Value.string)) : RS w w.heap.size A xs := fun hn => by
  rcases h.2 with ⟨h0, h1⟩ | ⟨g, cap, cur, h0, _, hg, _⟩
  · omega
  · injection h0 with h0 h1 h2
    subst h0
    refine ⟨_, rfl, (Array.getElem?_eq_some_iff.1 hg).1, fun j x hx => ?_⟩
    exact h.cells (g := g) rfl j _ (by rw [List.getElem?_map, hx]; rfl)
end
/-- In world W the slice reads as these strings. -/
def Ss (W : World) (A : Option Addr) (xs : List ByteArray) : Prop := Hid (RS W W.heap.size A xs)
section
variable {W W' : World} {A : Option Addr} {xs : List ByteArray}
theorem Ss.up (h : Ss W A xs) (hb : Hid (Below W.heap.size W W')) : Ss W' A xs := (h.out.below hb.out).more hb.out.size
theorem Ss.al (h : Ss W A xs) (o : Obj) : Ss (W.alloc o) A xs := h.up ((Below.refl _ _).alloc (Nat.le_refl _) o)
theorem Ss.dr (h : Ss W A xs) : Ss W.drew A xs := h
theorem Ss.dn (h : Ss W A xs) (k : Nat) : Ss (W.drewN k) A xs := h
end
/-- A slice at A of slices that read as the lists of strings css. -/
def RSS (w : World) (B : Nat) (A : Option Addr) (css : List (List ByteArray)) : Prop :=
  0 < css.length → ∃ (ad : Addr) (vs : Nat → Option Addr × Nat), A = some ad ∧ ad.block < B ∧
    ∀ j cs, css[j]? = some cs → w.cell? (ad.add j) = some (.slice (vs j).1 cs.length (vs j).2) ∧ RS w B (vs j).1 cs ∧ ((vs j).1 = none → (vs j).2 = 0)
section
variable {w w' : World} {B B' : Nat} {A : Option Addr} {css : List (List ByteArray)}
theorem RSS.at_ {k : Nat} (h : RSS w B A css) (hk : k < css.length) : ∃ ad A' c, A = some ad ∧ ad.block < B ∧ w.cell? (ad.add k) = some (.slice A' css[k].length c) ∧ RS w B A' css[k] ∧ (A' = none → c = 0) := by
  obtain ⟨ad, vs, e, hb, hc⟩ := h (by omega)
  have := hc k _ (List.getElem?_eq_getElem hk)
  exact ⟨ad, _, _, e, hb, this.1, this.2.1, this.2.2⟩
theorem RSS.keep (h : RSS w B A css) (hk : ∀ p : Addr, p.block < B → w'.cell? p = w.cell? p) : RSS w' B A css := fun hn => by
  obtain ⟨ad, vs, e, hb, hc⟩ := h hn
  exact ⟨ad, vs, e, hb, fun j u hu => ⟨(hk _ (by rw [yblock_add]; exact hb)).trans (hc j u hu).1, (hc j u hu).2.1.keep hk, (hc j u hu).2.2⟩⟩
theorem RSS.more (h : RSS w B A css) (hB : B ≤ B') : RSS w B' A css := fun hn => by
  obtain ⟨ad, vs, e, hb, hc⟩ := h hn
  exact ⟨ad, vs, e, by omega, fun j u hu => ⟨(hc j u hu).1, (hc j u hu).2.1.more hB, (hc j u hu).2.2⟩⟩
theorem RSS.below (h : RSS w B A css) (hb : Below B w w') : RSS w' B A css := h.keep fun _ hp => hb.cell hp
end
def Sss (W : World) (A : Option Addr) (css : List (List ByteArray)) : Prop := Hid (RSS W W.heap.size A css)
section
variable {W W' : World} {A : Option Addr} {css : List (List ByteArray)}
theorem Sss.up (h : Sss W A css) (hb : Hid (Below W.heap.size W W')) : Sss W' A css := (h.out.below hb.out).more hb.out.size
theorem Sss.al (h : Sss W A css) (o : Obj) : Sss (W.alloc o) A css := h.up ((Below.refl _ _).alloc (Nat.le_refl _) o)
theorem Sss.dr (h : Sss W A css) : Sss W.drew A css := h
theorem Sss.dn (h : Sss W A css) (k : Nat) : Sss (W.drewN k) A css := h
end
/-- A slice of slices of strings that the call itself builds: each part has a block of its own, or none. -/
structure Bld (base : Nat) (to ti : TypeId) (w : World) (v : Value) (css : List (List ByteArray)) (vs : List Value) : Prop where
  own : w.ownsRow base to 1 v css.length vs
  inner : ∀ (j : Nat) (x : Value) (cs : List ByteArray), vs[j]? = some x → css[j]? = some cs → w.ownsRow base ti 1 x cs.length (cs.map Value.string)
  apart : ∀ (i j : Nat) (x y : Value), vs[i]? = some x → vs[j]? = some y → i ≠ j → x.ownBlock = none ∨ x.ownBlock ≠ y.ownBlock
section
variable {base : Nat} {to ti : TypeId} {w w' : World} {v : Value} {css : List (List ByteArray)} {vs : List Value}
theorem Bld.len (h : Bld base to ti w v css vs) : vs.length = css.length := by have := h.own.1; omega
theorem own_type_ne {e e' : TypeId} {v v' : Value} {n n' : Nat} {xs xs' : List Value} (h : w.ownsRow base e 1 v n xs) (h' : w.ownsRow base e' 1 v' n' xs') (hne : e ≠ e') : v.ownBlock = none ∨ v.ownBlock ≠ v'.ownBlock := by
  rcases h.2 with ⟨rfl, _⟩ | ⟨g, cap, cur, rfl, _, hg, _⟩
  · exact .inl rfl
  · rcases h'.2 with ⟨rfl, _⟩ | ⟨g', cap', cur', rfl, _, hg', _⟩
    · right; simp [Value.ownBlock]
    · right
      simp only [Value.ownBlock, ne_eq, Option.some.injEq]
      rintro rfl
      rw [hg] at hg'
      injection hg' with hg'
      injection hg' with _ ht
      exact hne ht
theorem Bld.kept (h : Bld base to ti w v css vs) {row : Option Nat} (hg : w.grownBy w' row) (hv : v.ownBlock = none ∨ v.ownBlock ≠ row) (hx : ∀ x ∈ vs, x.ownBlock = none ∨ x.ownBlock ≠ row) : Bld base to ti w' v css vs :=
  ⟨h.own.kept hg hv, fun j x cs h1 h2 => (h.inner j x cs h1 h2).kept hg (hx x (List.mem_of_getElem? h1)), h.apart⟩
theorem Bld.alloc (h : Bld base to ti w v css vs) (o : Obj) : Bld base to ti (w.alloc o) v css vs :=
  h.kept (World.grownBy_alloc w o none) (by cases v.ownBlock <;> simp) (fun x _ => by cases x.ownBlock <;> simp)
theorem Bld.drew (h : Bld base to ti w v css vs) : Bld base to ti w.drew v css vs := ⟨h.own, h.inner, h.apart⟩
theorem Bld.drewN (h : Bld base to ti w v css vs) (n : Nat) : Bld base to ti (w.drewN n) v css vs := ⟨h.own, h.inner, h.apart⟩
/-- One nil slice more: what the append of it leaves. -/
theorem Bld.more (h : Bld base to ti w v css vs) (hne : to ≠ ti) {v' : Value} (ho : w'.ownsRow base to 1 v' (css.length + 1) (vs ++ [.slice none 0 0])) (hg : w.grownBy w' v.ownBlock) : Bld base to ti w' v' (css ++ [[]]) (vs ++ [.slice none 0 0]) := by
  have hl := h.len
  refine ⟨by simpa using ho, fun j x cs h1 h2 => ?_, fun i j x y h1 h2 hij => ?_⟩
  · rcases Nat.lt_or_ge j vs.length with hj | hj
    · rw [List.getElem?_append_left hj] at h1
      rw [List.getElem?_append_left (by omega)] at h2
      exact (h.inner j x cs h1 h2).kept hg (own_type_ne (h.inner j x cs h1 h2) h.own (Ne.symm hne))
    · rw [List.getElem?_append_right hj] at h1
      rw [List.getElem?_append_right (by omega)] at h2
      rw [show j - css.length = j - vs.length by omega] at h2
      cases hk : j - vs.length with
      | zero =>
        rw [hk] at h1 h2
        simp at h1 h2
        subst h1; subst h2
        exact World.ownsRow_nil _ _ _ _
      | succ k => rw [hk] at h1; simp at h1
  · rcases Nat.lt_or_ge i vs.length with hi | hi
    · rw [List.getElem?_append_left hi] at h1
      rcases Nat.lt_or_ge j vs.length with hj | hj
      · rw [List.getElem?_append_left hj] at h2
        exact h.apart i j x y h1 h2 hij
      · rw [List.getElem?_append_right hj] at h2
        cases hk : j - vs.length with
        | zero =>
          rw [hk] at h2; simp at h2; subst h2
          cases hx : x.ownBlock <;> simp [Value.ownBlock]
        | succ k => rw [hk] at h2; simp at h2
    · rw [List.getElem?_append_right hi] at h1
      cases hk : i - vs.length with
      | zero => rw [hk] at h1; simp at h1; subst h1; exact .inl rfl
      | succ k => rw [hk] at h1; simp at h1
end
end Go.Proofs.YtkjcnpckajpogaaDoor
