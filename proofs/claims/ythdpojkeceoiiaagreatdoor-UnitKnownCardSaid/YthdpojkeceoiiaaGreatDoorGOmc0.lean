/- Several texts in one, each with its own sentence and conditions. -/
import Derived.Lib.SplitLaws
import Derived.Lib.Join
import Derived.Below
import Derived.Laws.OwnMore
import Derived.Maps.AppendAt
import Derived.WalkKit
import Derived.BigQuiet
import Derived.Deep.QuietTactic
import Derived.Deep.Draws
import Derived.Test.YthdpojkeceoiiaaGreatDoorCards
import Derived.Test.YthdpojkeceoiiaaGreatDoorTie
import Derived.ProofKit
import Derived.OpenShut
import Derived.ChangeArms
import Derived.ChangeSame
import Derived.Deep.DeepHandedRow
import Derived.Deep.Strs
import Derived.SizedLaws
import Derived.Lib.ItoaNum
import Derived.Lib.Strings
import Derived.Lib.SlTrimSet
import Derived.Laws.Strings
section
/- Plain mathematics on names made of words: words, cutting a list at an element, putting it together again. No conditions. -/
namespace Go.Proofs.YthdpojkeceoiiaaGreatDoor
def wdig (c : UInt8) : Bool := decide (48 ≤ c) && decide (c ≤ 57)
def wchar (c : UInt8) : Bool := (decide (97 ≤ c) && decide (c ≤ 122)) || wdig c
def goodW (l : List UInt8) : Bool := decide (1 ≤ l.length) && (decide (l.length ≤ 20) && l.all wchar)
def numW (l : List UInt8) : Bool := decide (1 ≤ l.length) && (decide (l.length ≤ 20) && (l.all wdig && decide (l.head? ≠ some 48)))
section
variable {α : Type} {a : α}
/-- Put together with a between them. -/
def glue (a : α) : List (List α) → List α
  | [] => []
  | [p] => p
  | p :: q :: r => p ++ a :: glue a (q :: r)
theorem glue_cons (p : List α) {r : List (List α)} (h : r ≠ []) : glue a (p :: r) = p ++ a :: glue a r := by
  cases r with
  | nil => exact absurd rfl h
  | cons q r => rfl
theorem glue_snoc {r : List (List α)} (h : r ≠ []) (p : List α) : glue a (r ++ [p]) = glue a r ++ a :: p := by
  induction r with
  | nil => exact absurd rfl h
  | cons q r ih =>
    cases r with
    | nil => rfl
    | cons q2 r =>
      rw [List.cons_append, glue_cons q (r := q2 :: r ++ [p]) (by simp), ih (by simp), glue_cons q (List.cons_ne_nil q2 r)]
      simp
end
/-- A list cut at each element that equals a. -/
def cutBy {α : Type} [DecidableEq α] (a : α) : List α → List (List α)
  | [] => [[]]
  | c :: l => if c = a then [] :: cutBy a l else match cutBy a l with
    | [] => [[c]]
    | p :: ps => (c :: p) :: ps
section
variable {α : Type} [DecidableEq α] {a : α}
theorem cutBy_nil : cutBy a [] = [[]] := rfl
theorem cutBy_hit (l : List α) : cutBy a (a :: l) = [] :: cutBy a l := by simp [cutBy]
theorem cutBy_ne (l : List α) : cutBy a l ≠ [] := by
  cases l with
  | nil => simp [cutBy]
  | cons c l =>
    unfold cutBy
    split
    · simp
    · split <;> simp
theorem cutBy_miss {c : α} (h : c ≠ a) {l p : List α} {ps : List (List α)} (hl : cutBy a l = p :: ps) : cutBy a (c :: l) = (c :: p) :: ps := by
  rw [cutBy, if_neg h, hl]
theorem cutBy_form (l : List α) : ∃ p ps, cutBy a l = p :: ps := by
  cases h : cutBy a l with
  | nil => exact absurd h (cutBy_ne l)
  | cons p ps => exact ⟨p, ps, rfl⟩
/-- What is cut so far, one element more. -/
def cutMore (a c : α) (r : List (List α)) : List (List α) := if c = a then r ++ [[]] else r.dropLast ++ [r.getLastD [] ++ [c]]
theorem cutMore_cons {p : List α} {r : List (List α)} (hr : r ≠ []) (c : α) : cutMore a c (p :: r) = p :: cutMore a c r := by
  unfold cutMore
  cases r with
  | nil => exact absurd rfl hr
  | cons q r => split <;> simp [List.getLastD]
theorem cutBy_snoc (l : List α) (c : α) : cutBy a (l ++ [c]) = cutMore a c (cutBy a l) := by
  induction l with
  | nil =>
    by_cases h : c = a
    · subst h; simp [cutBy, cutMore]
    · simp [cutBy, cutMore, h]
  | cons d l ih =>
    by_cases h : d = a
    · subst h
      rw [List.cons_append, cutBy_hit, cutBy_hit, ih, cutMore_cons (cutBy_ne l)]
    · obtain ⟨p, ps, hp⟩ := cutBy_form (a := a) l
      rw [cutBy_miss h hp, List.cons_append]
      cases ps with
      | nil =>
        rw [hp] at ih
        by_cases hc : c = a
        · subst hc
          have e : cutMore c c [p] = p :: [[]] := by simp [cutMore]
          rw [e] at ih
          rw [cutBy_miss h ih]; simp [cutMore]
        · have e : cutMore a c [p] = (p ++ [c]) :: [] := by simp [cutMore, hc]
          rw [e] at ih
          rw [cutBy_miss h ih]; simp [cutMore, hc]
      | cons q qs =>
        rw [hp, cutMore_cons (List.cons_ne_nil q qs)] at ih
        rw [cutBy_miss h ih, cutMore_cons (List.cons_ne_nil q qs)]
theorem cutBy_length (l : List α) : (cutBy a l).length = l.count a + 1 := by
  induction l with
  | nil => rfl
  | cons c l ih =>
    by_cases h : c = a
    · subst h; rw [cutBy_hit]; simp [ih]
    · obtain ⟨p, ps, hp⟩ := cutBy_form (a := a) l
      rw [cutBy_miss h hp, List.count_cons_of_ne (by simpa using h), ← ih, hp]; rfl
/-- How often a stands in l. -/
def cnt (a : α) (l : List α) : Nat := l.count a
theorem cnt_snoc (l : List α) (x : α) : cnt a (l ++ [x]) = cnt a l + if x = a then 1 else 0 := by
  unfold cnt
  rw [List.count_append]
  by_cases hx : x = a
  · subst hx; simp
  · rw [if_neg hx]; simp [List.count_singleton, hx]
theorem cutBy_cnt (l : List α) : (cutBy a l).length = cnt a l + 1 := cutBy_length l
theorem cutBy_le (l : List α) : (cutBy a l).length ≤ l.length + 1 := by
  rw [cutBy_length]; have := List.count_le_length (a := a) (l := l); omega
theorem cutBy_total (l : List α) : ((cutBy a l).map List.length).sum + l.count a = l.length := by
  induction l with
  | nil => rfl
  | cons c l ih =>
    by_cases h : c = a
    · subst h; rw [cutBy_hit]; simp; omega
    · obtain ⟨p, ps, hp⟩ := cutBy_form (a := a) l
      rw [cutBy_miss h hp, List.count_cons_of_ne (by simpa using h)]
      rw [hp] at ih
      simp at ih ⊢; omega
theorem cutBy_all (l : List α) : ((cutBy a l).map List.length).sum + cnt a l = l.length := cutBy_total l
theorem cutBy_free (l : List α) : ∀ p ∈ cutBy a l, a ∉ p := by
  induction l with
  | nil => intro p hp; simp [cutBy] at hp; subst hp; simp
  | cons c l ih =>
    by_cases h : c = a
    · subst h; rw [cutBy_hit]
      intro p hp
      rcases List.mem_cons.1 hp with rfl | hp
      · simp
      · exact ih p hp
    · obtain ⟨p, ps, hp⟩ := cutBy_form (a := a) l
      rw [cutBy_miss h hp]
      rw [hp] at ih
      intro q hq
      rcases List.mem_cons.1 hq with rfl | hq
      · have := ih p (by simp)
        simp only [List.mem_cons, not_or]
        exact ⟨fun e => h e.symm, this⟩
      · exact ih q (by simp [hq])
theorem cutBy_mem (l : List α) : ∀ p ∈ cutBy a l, ∀ x ∈ p, x ∈ l := by
  induction l with
  | nil => intro p hp; simp [cutBy] at hp; subst hp; simp
  | cons c l ih =>
    by_cases h : c = a
    · subst h; rw [cutBy_hit]
      intro p hp x hx
      rcases List.mem_cons.1 hp with rfl | hp
      · simp at hx
      · exact List.mem_cons_of_mem _ (ih p hp x hx)
    · obtain ⟨p, ps, hp⟩ := cutBy_form (a := a) l
      rw [cutBy_miss h hp]
      rw [hp] at ih
      intro q hq x hx
      rcases List.mem_cons.1 hq with rfl | hq
      · rcases List.mem_cons.1 hx with rfl | hx
        · simp
        · exact List.mem_cons_of_mem _ (ih p (by simp) x hx)
      · exact List.mem_cons_of_mem _ (ih q (by simp [hq]) x hx)
theorem glue_cutBy (l : List α) : glue a (cutBy a l) = l := by
  induction l with
  | nil => rfl
  | cons c l ih =>
    by_cases h : c = a
    · subst h; rw [cutBy_hit, glue_cons _ (cutBy_ne l), ih]; rfl
    · obtain ⟨p, ps, hp⟩ := cutBy_form (a := a) l
      rw [cutBy_miss h hp]
      rw [hp] at ih
      cases ps with
      | nil => simp only [glue] at ih ⊢; rw [ih]
      | cons q qs => rw [glue_cons _ (by simp)] at ih ⊢; rw [List.cons_append, ih]
theorem cutBy_plain {p : List α} (h : a ∉ p) : cutBy a p = [p] := by
  induction p with
  | nil => rfl
  | cons c p ih =>
    simp only [List.mem_cons, not_or] at h
    rw [cutBy_miss (fun e => h.1 e.symm) (ih h.2)]
theorem cutBy_lead {p : List α} (h : a ∉ p) (l : List α) : cutBy a (p ++ a :: l) = p :: cutBy a l := by
  induction p with
  | nil => exact cutBy_hit l
  | cons c p ih =>
    simp only [List.mem_cons, not_or] at h
    rw [List.cons_append, cutBy_miss (fun e => h.1 e.symm) (ih h.2)]
theorem cutBy_glue {r : List (List α)} (hr : r ≠ []) (h : ∀ p ∈ r, a ∉ p) : cutBy a (glue a r) = r := by
  induction r with
  | nil => exact absurd rfl hr
  | cons p r ih =>
    cases r with
    | nil => exact cutBy_plain (h p (by simp))
    | cons q r =>
      rw [glue_cons _ (by simp), cutBy_lead (h p (by simp)), ih (by simp) (fun x hx => h x (by simp [hx]))]
end
theorem join_glue (c : UInt8) (xs : List (List UInt8)) : Lib.join xs [c] = glue c xs := by
  induction xs with
  | nil => rfl
  | cons x xs ih =>
    cases xs with
    | nil => rw [Lib.join_one]; rfl
    | cons y ys =>
      rw [glue_cons _ (by simp), ← ih, Lib.join_cons, Lib.join_cons]
      simp [Lib.joinTail]
/-- The pieces between the hyphens. -/
def parts (s : List UInt8) : List (List UInt8) := cutBy 45 s
theorem index_hit (c : UInt8) (l : List UInt8) : Lib.index (c :: l) [c] = 0 := by
  have hix : Lib.index (c :: l) [c] = ((0 : Nat) : Int) := by rw [Lib.index]; simp [List.isPrefixOf]
  exact hix
theorem index_pass {b c : UInt8} (h : b ≠ c) (l : List UInt8) : Lib.index (b :: l) [c] = if Lib.index l [c] == -1 then -1 else Lib.index l [c] + 1 := by
  have hp : ([c] : List UInt8).isPrefixOf (b :: l) = false := by simp [List.isPrefixOf, Ne.symm h]
  rw [Lib.index, hp]; simp
theorem split_cut (c : UInt8) (s : List UInt8) : Lib.split s [c] = cutBy c s := by
  unfold Lib.split
  induction s with
  | nil => rw [Lib.count_one]; rfl
  | cons b l ih =>
    rw [Lib.count_one] at ih ⊢
    by_cases h : b = c
    · subst h
      rw [cutBy_hit, List.count_cons_self, Lib.splitK, if_neg (by rw [index_hit]; decide), index_hit, ← ih]
      simp
    · rw [List.count_cons_of_ne (by simpa using h)]
      obtain ⟨p, ps, hp⟩ := cutBy_form (a := c) l
      rw [cutBy_miss h hp]
      rw [hp] at ih
      cases hk : l.count c with
      | zero =>
        rw [hk] at ih
        simp only [Lib.splitK] at ih ⊢
        injection ih with e1 e2
        rw [e1, e2]
      | succ k =>
        rw [hk] at ih
        have hne : ¬ (Lib.index l [c] == -1) = true := by
          intro e
          have h0 := Lib.count_miss (beq_iff_eq.1 e)
          rw [Lib.count_one, hk] at h0
          omega
        have hge := Lib.index_ge l [c]
        have hne2 : Lib.index l [c] ≠ -1 := fun e => hne (beq_iff_eq.2 e)
        obtain ⟨i, hi⟩ : ∃ i : Nat, Lib.index l [c] = i := ⟨(Lib.index l [c]).toNat, by omega⟩
        rw [Lib.splitK, if_neg hne, hi] at ih
        rw [Lib.splitK, index_pass h, if_neg hne, hi]
        have hne3 : ¬ (((i : Int) + 1) == -1) = true := by intro e; have := beq_iff_eq.1 e; omega
        rw [if_neg hne3, show ((i : Int) + 1).toNat = i + 1 by omega]
        simp only [Int.toNat_natCast, Nat.add_zero, List.length_cons, List.length_nil, List.take_succ_cons] at ih ⊢
        injection ih with e1 e2
        rw [e1, ← e2]
        simp
theorem goodW_free {l : List UInt8} (h : goodW l = true) : (45 : UInt8) ∉ l := by
  intro hm
  unfold goodW at h
  simp only [Bool.and_eq_true] at h
  have := List.all_eq_true.1 h.2.2 45 hm
  exact absurd this (by decide)
theorem goodW_len {l : List UInt8} (h : goodW l = true) : 1 ≤ l.length ∧ l.length ≤ 20 := by
  unfold goodW at h
  simp only [Bool.and_eq_true, decide_eq_true_eq] at h
  exact ⟨h.1, h.2.1⟩
end Go.Proofs.YthdpojkeceoiiaaGreatDoor
end

section
/- Words for memory: a slice of strings that reads as a list; a slice of such slices; one that is being built. No conditions. -/
open Go.RowKit
namespace Go.Proofs.YthdpojkeceoiiaaGreatDoor
theorem yblock_add (a : Addr) (n : Nat) : (a.add n).block = a.block := by unfold Addr.add; split <;> rfl
theorem ybelow_drewN {B : Nat} {a w : World} (h : Below B a w) (n : Nat) : Below B a (w.drewN n) := ⟨h.os, h.tape, h.output, h.size, h.block⟩
/-- A slice at A reads as the strings xs, and lies below block B. -/
def RS (w : World) (B : Nat) (A : Option Addr) (xs : List ByteArray) : Prop :=
  0 < xs.length → ∃ ad, A = some ad ∧ ad.block < B ∧ ∀ j x, xs[j]? = some x → w.cell? (ad.add j) = some (.string x)
section
variable {w w' : World} {B B' : Nat} {A : Option Addr} {xs : List ByteArray}
theorem RS.nil : RS w B A [] := fun h => absurd h (by simp)
theorem RS.at_ {k : Nat} (h : RS w B A xs) (hk : k < xs.length) : ∃ ad, A = some ad ∧ ad.block < B ∧ w.cell? (ad.add k) = some (.string xs[k]) := by
  obtain ⟨ad, e, hb, hc⟩ := h (by omega)
  exact ⟨ad, e, hb, hc k _ (List.getElem?_eq_getElem hk)⟩
theorem RS.keep (h : RS w B A xs) (hk : ∀ p : Addr, p.block < B → w'.cell? p = w.cell? p) : RS w' B A xs := fun hn => by
  obtain ⟨ad, e, hb, hc⟩ := h hn
  exact ⟨ad, e, hb, fun j u hu => (hk _ (by rw [yblock_add]; exact hb)).trans (hc j u hu)⟩
theorem RS.more (h : RS w B A xs) (hB : B ≤ B') : RS w B' A xs := fun hn => by
  obtain ⟨ad, e, hb, hc⟩ := h hn
  exact ⟨ad, e, by omega, hc⟩
theorem RS.below (h : RS w B A xs) (hb : Below B w w') : RS w' B A xs := h.keep fun _ hp => hb.cell hp
theorem RS.alloc (h : RS w B A xs) (hB : B ≤ w.heap.size) (o : Obj) : RS (w.alloc o) B A xs := h.keep fun p hp => World.cell?_alloc_lt w o p (by omega)
theorem RS.of_own {base : Nat} {e : TypeId} {c : Nat} (h : w.ownsRow base e 1 (.slice A xs.length c) xs.length (xs.map Value.string)) : RS w w.heap.size A xs := fun hn => by
  rcases h.2 with ⟨h0, h1⟩ | ⟨g, cap, cur, h0, _, hg, _⟩
  · omega
  · injection h0 with h0 h1 h2
    subst h0
    refine ⟨_, rfl, (Array.getElem?_eq_some_iff.1 hg).1, fun j x hx => ?_⟩
    exact h.cells (g := g) rfl j _ (by rw [List.getElem?_map, hx]; rfl)
end
/-- In world W the slice reads as these strings. -/
def Ss (W : World) (A : Option Addr) (xs : List ByteArray) : Prop := Hid (RS W W.heap.size A xs)
section
variable {W W' : World} {A : Option Addr} {xs : List ByteArray}
theorem Ss.up (h : Ss W A xs) (hb : Hid (Below W.heap.size W W')) : Ss W' A xs := (h.out.below hb.out).more hb.out.size
theorem Ss.al (h : Ss W A xs) (o : Obj) : Ss (W.alloc o) A xs := h.up ((Below.refl _ _).alloc (Nat.le_refl _) o)
theorem Ss.dr (h : Ss W A xs) : Ss W.drew A xs := h
theorem Ss.dn (h : Ss W A xs) (k : Nat) : Ss (W.drewN k) A xs := h
end
/-- A slice at A of slices that read as the lists of strings css. -/
def RSS (w : World) (B : Nat) (A : Option Addr) (css : List (List ByteArray)) : Prop :=
  0 < css.length → ∃ (ad : Addr) (vs : Nat → Option Addr × Nat), A = some ad ∧ ad.block < B ∧
    ∀ j cs, css[j]? = some cs → w.cell? (ad.add j) = some (.slice (vs j).1 cs.length (vs j).2) ∧ RS w B (vs j).1 cs ∧ ((vs j).1 = none → (vs j).2 = 0)
section
variable {w w' : World} {B B' : Nat} {A : Option Addr} {css : List (List ByteArray)}
theorem RSS.at_ {k : Nat} (h : RSS w B A css) (hk : k < css.length) : ∃ ad A' c, A = some ad ∧ ad.block < B ∧ w.cell? (ad.add k) = some (.slice A' css[k].length c) ∧ RS w B A' css[k] ∧ (A' = none → c = 0) := by
  obtain ⟨ad, vs, e, hb, hc⟩ := h (by omega)
  have := hc k _ (List.getElem?_eq_getElem hk)
  exact ⟨ad, _, _, e, hb, this.1, this.2.1, this.2.2⟩
theorem RSS.keep (h : RSS w B A css) (hk : ∀ p : Addr, p.block < B → w'.cell? p = w.cell? p) : RSS w' B A css := fun hn => by
  obtain ⟨ad, vs, e, hb, hc⟩ := h hn
  exact ⟨ad, vs, e, hb, fun j u hu => ⟨(hk _ (by rw [yblock_add]; exact hb)).trans (hc j u hu).1, (hc j u hu).2.1.keep hk, (hc j u hu).2.2⟩⟩
theorem RSS.more (h : RSS w B A css) (hB : B ≤ B') : RSS w B' A css := fun hn => by
  obtain ⟨ad, vs, e, hb, hc⟩ := h hn
  exact ⟨ad, vs, e, by omega, fun j u hu => ⟨(hc j u hu).1, (hc j u hu).2.1.more hB, (hc j u hu).2.2⟩⟩
theorem RSS.below (h : RSS w B A css) (hb : Below B w w') : RSS w' B A css := h.keep fun _ hp => hb.cell hp
end
def Sss (W : World) (A : Option Addr) (css : List (List ByteArray)) : Prop := Hid (RSS W W.heap.size A css)
section
variable {W W' : World} {A : Option Addr} {css : List (List ByteArray)}
theorem Sss.up (h : Sss W A css) (hb : Hid (Below W.heap.size W W')) : Sss W' A css := (h.out.below hb.out).more hb.out.size
theorem Sss.al (h : Sss W A css) (o : Obj) : Sss (W.alloc o) A css := h.up ((Below.refl _ _).alloc (Nat.le_refl _) o)
theorem Sss.dr (h : Sss W A css) : Sss W.drew A css := h
theorem Sss.dn (h : Sss W A css) (k : Nat) : Sss (W.drewN k) A css := h
end
/-- A slice of slices of strings that the call itself builds: each part has a block of its own, or none. -/
structure Bld (base : Nat) (tO ti : TypeId) (w : World) (v : Value) (css : List (List ByteArray)) (vs : List Value) : Prop where
  own : w.ownsRow base tO 1 v css.length vs
  inner : ∀ (j : Nat) (x : Value) (cs : List ByteArray), vs[j]? = some x → css[j]? = some cs → w.ownsRow base ti 1 x cs.length (cs.map Value.string)
  apart : ∀ (i j : Nat) (x y : Value), vs[i]? = some x → vs[j]? = some y → i ≠ j → x.ownBlock = none ∨ x.ownBlock ≠ y.ownBlock
section
variable {base : Nat} {tO ti : TypeId} {w w' : World} {v : Value} {css : List (List ByteArray)} {vs : List Value}
theorem Bld.len (h : Bld base tO ti w v css vs) : vs.length = css.length := by have := h.own.1; omega
theorem own_type_ne {e e' : TypeId} {v v' : Value} {n n' : Nat} {xs xs' : List Value} (h : w.ownsRow base e 1 v n xs) (h' : w.ownsRow base e' 1 v' n' xs') (hne : e ≠ e') : v.ownBlock = none ∨ v.ownBlock ≠ v'.ownBlock := by
  rcases h.2 with ⟨rfl, _⟩ | ⟨g, cap, cur, rfl, _, hg, _⟩
  · exact .inl rfl
  · rcases h'.2 with ⟨rfl, _⟩ | ⟨g', cap', cur', rfl, _, hg', _⟩
    · right; simp [Value.ownBlock]
    · right
      simp only [Value.ownBlock, ne_eq, Option.some.injEq]
      rintro rfl
      rw [hg] at hg'
      injection hg' with hg'
      injection hg' with _ ht
      exact hne ht
theorem Bld.kept (h : Bld base tO ti w v css vs) {row : Option Nat} (hg : w.grownBy w' row) (hv : v.ownBlock = none ∨ v.ownBlock ≠ row) (hx : ∀ x ∈ vs, x.ownBlock = none ∨ x.ownBlock ≠ row) : Bld base tO ti w' v css vs :=
  ⟨h.own.kept hg hv, fun j x cs h1 h2 => (h.inner j x cs h1 h2).kept hg (hx x (List.mem_of_getElem? h1)), h.apart⟩
theorem Bld.alloc (h : Bld base tO ti w v css vs) (o : Obj) : Bld base tO ti (w.alloc o) v css vs :=
  h.kept (World.grownBy_alloc w o none) (by cases v.ownBlock <;> simp) (fun x _ => by cases x.ownBlock <;> simp)
theorem Bld.drew (h : Bld base tO ti w v css vs) : Bld base tO ti w.drew v css vs := ⟨h.own, h.inner, h.apart⟩
theorem Bld.drewN (h : Bld base tO ti w v css vs) (n : Nat) : Bld base tO ti (w.drewN n) v css vs := ⟨h.own, h.inner, h.apart⟩
/-- One nil slice more: what the append of it leaves. -/
theorem Bld.more (h : Bld base tO ti w v css vs) (hne : tO ≠ ti) {v' : Value} (ho : w'.ownsRow base tO 1 v' (css.length + 1) (vs ++ [.slice none 0 0])) (hg : w.grownBy w' v.ownBlock) : Bld base tO ti w' v' (css ++ [[]]) (vs ++ [.slice none 0 0]) := by
  have hl := h.len
  refine ⟨by simpa using ho, fun j x cs h1 h2 => ?_, fun i j x y h1 h2 hij => ?_⟩
  · rcases Nat.lt_or_ge j vs.length with hj | hj
    · rw [List.getElem?_append_left hj] at h1
      rw [List.getElem?_append_left (by omega)] at h2
      exact (h.inner j x cs h1 h2).kept hg (own_type_ne (h.inner j x cs h1 h2) h.own (Ne.symm hne))
    · rw [List.getElem?_append_right hj] at h1
      rw [List.getElem?_append_right (by omega)] at h2
      rw [show j - css.length = j - vs.length by omega] at h2
      cases hk : j - vs.length with
      | zero =>
        rw [hk] at h1 h2
        simp at h1 h2
        subst h1; subst h2
        exact World.ownsRow_nil _ _ _ _
      | succ k => rw [hk] at h1; simp at h1
  · rcases Nat.lt_or_ge i vs.length with hi | hi
    · rw [List.getElem?_append_left hi] at h1
      rcases Nat.lt_or_ge j vs.length with hj | hj
      · rw [List.getElem?_append_left hj] at h2
        exact h.apart i j x y h1 h2 hij
      · rw [List.getElem?_append_right hj] at h2
        cases hk : j - vs.length with
        | zero =>
          rw [hk] at h2; simp at h2; subst h2
          cases hx : x.ownBlock <;> simp [Value.ownBlock]
        | succ k => rw [hk] at h2; simp at h2
    · rw [List.getElem?_append_right hi] at h1
      cases hk : i - vs.length with
      | zero => rw [hk] at h1; simp at h1; subst h1; exact .inl rfl
      | succ k => rw [hk] at h1; simp at h1
end
end Go.Proofs.YthdpojkeceoiiaaGreatDoor
end

section
/- The world in which the listed tables lie; the openings of an atom, of a slice of strings, of names and prefixes that came in. No conditions. -/
open Go.ChangeShapes Go.WideShapes Go.ChangeAt Go.RowKit
set_option maxRecDepth 100000
namespace Go.Proofs.YthdpojkeceoiiaaGreatDoor
theorem own : ownKnob Tryz.prog.godebug = none := by kernel_rfl
theorem laidOut : laidOutB Tryz.prog = true := by kernel_rfl
/-- The cells of a table's datum. -/
def cellsOfLits : List (DataW Unit) → List Value
  | [] => []
  | .lit (.int k n) :: l => .int k n :: cellsOfLits l
  | _ :: l => cellsOfLits l
def cellsOfTab : DataW Unit → List Value
  | .agg l => cellsOfLits l
  | _ => []
def rangesCells : List Value := ([128, 191, 160, 191, 128, 159, 144, 191, 128, 143, 0, 0, 0, 0, 0, 0, 0, 0, 0, 0, 0, 0, 0, 0, 0, 0, 0, 0, 0, 0, 0, 0] : List Int).map (Value.int .u8)
def layTab (cs : Array Value) : Obj → Obj
  | .cells _ t frozen => .cells cs t frozen
  | o => o
/-- A world in which the listed tables lie as the program's text lays them. -/
noncomputable def laidWorld (os : Os) : World :=
  { World.holding Tryz.prog os ⟨#[], #[], []⟩ with heap := (((((World.holding Tryz.prog os ⟨#[], #[], []⟩).heap.modify 1 (layTab (cellsOfTab Go.Pinned.utf8First).toArray)).modify 2 (layTab rangesCells.toArray)).modify 4 (layTab (cellsOfTab Rows.laid_math_bits_deBruijn32tab).toArray)).modify 5 (layTab (cellsOfTab Rows.laid_math_bits_deBruijn64tab).toArray)).modify 3 (layTab (cellsOfTab Rows.laid_internal_strconv_uint64pow10).toArray) }
theorem Tryz.cellsStr : Tryz.prog.cellsOf 9 = 1 := by kernel_rfl
theorem Tryz.cellsInt1 : Tryz.prog.cellsOf 3 = 1 := by kernel_rfl
theorem Tryz.cellsSs : Tryz.prog.cellsOf 23 = 1 := by kernel_rfl
theorem Tryz.cellsAtom : Tryz.prog.cellsOf 59 = 3 := by kernel_rfl
theorem Tryz.cellsKnown : Tryz.prog.cellsOf 31 = 2 := by kernel_rfl
theorem open_atom {H : Type} {enc : TypeId × Value → H} {W : World} {r : Reach} {b0 : Nat} {v : Value} {d : DataW H} {p : List MemPlace}
    (hv : Value.okWide Tryz.prog W r b0 59 v) (h : DataW.Trod enc Tryz.prog W 0 (fun _ => true) true 59 v d p) :
    ∃ x y k, v = .agg #[.string x, .string y, .int .i64 k] ∧ d = .agg [.lit (.string x.data.toList), .lit (.string y.data.toList), .lit (.int .i64 k)] := by
  obtain ⟨cs, rfl, hs⟩ := okWide_struct Tryz.underlying59 hv
  obtain ⟨fuel, hf⟩ := h
  obtain ⟨y0, y1, y2, n, hx, hl, h0, h1, h2⟩ := Go.Deep.trod_struct3 Tryz.underlying59 hf
  rw [Tryz.cellsAtom] at hs
  obtain ⟨l⟩ := cs
  match l, hs with
  | [v0, v1, v2], _ =>
    have h0' : DataW.trod enc Tryz.prog W 0 (fun _ => true) true n 9 [v0] = some y0 := by
      have e := h0
      simp only [Tryz.cellsStr] at e
      simpa [Value.cells] using e
    have h1' : DataW.trod enc Tryz.prog W 0 (fun _ => true) true n 9 [v1] = some y1 := by
      have e := h1
      simp only [Tryz.cellsStr] at e
      simpa [Value.cells] using e
    have h2' : DataW.trod enc Tryz.prog W 0 (fun _ => true) true n 3 [v2] = some y2 := by
      have e := h2
      simp only [Tryz.cellsInt1] at e
      simpa [Value.cells] using e
    obtain ⟨x, e0, g0, _⟩ := DataW.trod_string Tryz.underlying9 h0'
    obtain ⟨y, e1, g1, _⟩ := DataW.trod_string Tryz.underlying9 h1'
    obtain ⟨k, e2, g2, _⟩ := DataW.trod_int Tryz.underlying3 h2'
    injection e0 with e0
    injection e1 with e1
    injection e2 with e2
    subst e0 e1 e2 g0 g1 g2
    refine ⟨x, y, k, rfl, ?_⟩
    have := congrArg Prod.fst hx
    simpa using this
/-- What the walk is told of a slice of strings that came in. -/
def InStrs (w : World) (a : Option Addr) (len cap : Nat) (xs : List ByteArray) : Prop := len = xs.length ∧ len ≤ cap ∧ Ss w a xs
theorem open_ss {H : Type} {enc : TypeId × Value → H} {W : World} {a : Option Addr} {len cap : Nat} {d : DataW H} {p : List MemPlace}
    (h : DataW.Trod enc Tryz.prog W 0 (fun _ => true) true 23 (.slice a len cap) d p) : ∃ xs, InStrs W a len cap xs ∧ (xs = [] ∨ ∃ spare, d = .slice (xs.map fun x => .lit (.string x.data.toList)) spare) := by
  obtain ⟨fuel, hf⟩ := h
  rcases Go.Deep.open_strs Tryz.underlying23 Tryz.underlying9 (by kernel_rfl) hf with ⟨hcs, _⟩ | ⟨x, l, c, m, Sx, hcs, _, hl, hm, hmm, hd, hcell⟩
  · simp [Value.cells] at hcs
    obtain ⟨rfl, rfl, rfl⟩ := hcs
    exact ⟨[], ⟨rfl, Nat.le_refl _, RS.nil⟩, .inl rfl⟩
  · simp [Value.cells] at hcs
    obtain ⟨rfl, rfl, rfl⟩ := hcs
    have hmc : m = cap := by simpa using hmm
    subst hmc
    refine ⟨(List.range len).map Sx, ⟨by simp, hl, fun h0 => ?_⟩, .inr ⟨(List.range (m - len)).map fun j => DataW.lit (Lit.string (Sx (len + j)).data.toList), ?_⟩⟩
    · rw [List.length_map, List.length_range] at h0
      have hc0 := (hcell 0 (by omega)).1
      refine ⟨x, rfl, ?_, fun j y hy => ?_⟩
      · have := World.block_lt_of_cell? W _ hc0
        rwa [yblock_add] at this
      · have hj : j < len := by
          rcases Nat.lt_or_ge j len with h1 | h1
          · exact h1
          · rw [List.getElem?_eq_none (by simpa using h1)] at hy; cases hy
        rw [List.getElem?_map, List.getElem?_range hj] at hy
        simp at hy
        rw [← hy]
        exact (hcell j (by omega)).1
    · rw [List.map_map]
      exact congrArg Prod.fst hd
theorem weights_elem {H : Type} {P : Program} {e : TypeId} {l : List (DataW H)} {x : ByteArray} (h : (DataW.lit (.string x.data.toList) : DataW H) ∈ l) : x.data.toList.length ∈ DataW.weightsAll P e l := by
  induction l with
  | nil => cases h
  | cons d r ih =>
    simp only [DataW.weightsAll, List.mem_append]
    rcases List.mem_cons.1 h with h | h
    · exact .inl (by rw [← h]; simp [DataW.weights])
    · exact .inr (ih h)
/-- The texts of a slice that came in are no longer than any machine can reach. -/
theorem ss_sizes {H : Type} {ts : List TypeId} {ds : List (DataW H)} (h : (DataW.weightsEach Tryz.prog ts ds).all (· ≤ reachBytes) = true) {j : Nat} {d : DataW H} {xs : List ByteArray} (ht : ts[j]? = some 23) (hd : ds[j]? = some d)
    (hx : xs = [] ∨ ∃ spare, d = .slice (xs.map fun x => .lit (.string x.data.toList)) spare) : ∀ x ∈ xs, x.size ≤ 140737488355328 := by
  intro x hm
  rcases hx with rfl | ⟨spare, rfl⟩
  · cases hm
  · have h1 := DataW.weights_mem_each (P := Tryz.prog) ht hd x.data.toList.length (by
      simp only [DataW.weights, Tryz.underlying23]
      exact List.mem_cons_of_mem _ (List.mem_append_left _ (weights_elem (List.mem_map.2 ⟨x, hm, rfl⟩))))
    have h2 := List.all_eq_true.1 h _ h1
    have h3 : x.data.toList.length ≤ reachBytes := by simpa using h2
    have h4 := reachBytes_lt
    rw [Lib.size_eq]; omega
theorem slice_of {H : Type} {enc : TypeId × Value → H} {W : World} {n : Nat} {v : Value} {y : DataW H × List MemPlace} (h : DataW.trod enc Tryz.prog W 0 (fun _ => true) true n 23 [v] = some y) : ∃ a len cap, v = .slice a len cap := by
  rcases Go.Deep.open_strs Tryz.underlying23 Tryz.underlying9 (by kernel_rfl) h with ⟨hcs, _⟩ | ⟨x, l, c, m, Sx, hcs, _⟩
  · injection hcs with hcs; exact ⟨_, _, _, hcs⟩
  · injection hcs with hcs; exact ⟨_, _, _, hcs⟩
theorem open_known {H : Type} {enc : TypeId × Value → H} {W : World} {r : Reach} {b0 : Nat} {v : Value} {d : DataW H} {p : List MemPlace}
    (hv : Value.okWide Tryz.prog W r b0 31 v) (h : DataW.Trod enc Tryz.prog W 0 (fun _ => true) true 31 v d p) :
    ∃ A n c B m e xs ys d0 d1, v = .agg #[.slice A n c, .slice B m e] ∧ InStrs W A n c xs ∧ InStrs W B m e ys ∧ d = .agg [d0, d1] ∧ (xs = [] ∨ ∃ spare, d0 = .slice (xs.map fun x => .lit (.string x.data.toList)) spare) ∧ (ys = [] ∨ ∃ spare, d1 = .slice (ys.map fun x => .lit (.string x.data.toList)) spare) := by
  obtain ⟨cs, rfl, hs⟩ := okWide_struct Tryz.underlying31 hv
  obtain ⟨fuel, hf⟩ := h
  obtain ⟨y0, y1, n, hx, hl, h0, h1⟩ := trod_struct2 Tryz.underlying31 hf
  rw [Tryz.cellsKnown] at hs
  obtain ⟨l⟩ := cs
  match l, hs with
  | [v0, v1], _ =>
    have h0' : DataW.trod enc Tryz.prog W 0 (fun _ => true) true n 23 [v0] = some y0 := by
      have e := h0
      simp only [Tryz.cellsSs] at e
      simpa [Value.cells] using e
    have h1' : DataW.trod enc Tryz.prog W 0 (fun _ => true) true n 23 [v1] = some y1 := by
      have e := h1
      simp only [Tryz.cellsSs] at e
      simpa [Value.cells] using e
    obtain ⟨a, j, c, rfl⟩ := slice_of h0'
    obtain ⟨b, m, e, rfl⟩ := slice_of h1'
    obtain ⟨xs, hxs, hd0⟩ := open_ss (enc := enc) (W := W) (a := a) (len := j) (cap := c) (d := y0.1) (p := y0.2) ⟨n, h0'⟩
    obtain ⟨ys, hys, hd1⟩ := open_ss (enc := enc) (W := W) (a := b) (len := m) (cap := e) (d := y1.1) (p := y1.2) ⟨n, h1'⟩
    refine ⟨a, j, c, b, m, e, xs, ys, y0.1, y1.1, rfl, hxs, hys, ?_, hd0, hd1⟩
    have := congrArg Prod.fst hx
    simpa using this
end Go.Proofs.YthdpojkeceoiiaaGreatDoor
end

section
/- Plain mathematics of atoms: the words for powers, what may not be a name, the longest prefix, the order. No conditions. -/
namespace Go.Proofs.YthdpojkeceoiiaaGreatDoor
def sqB : ByteArray := ⟨#[115, 113, 117, 97, 114, 101]⟩
def cuB : ByteArray := ⟨#[99, 117, 98, 105, 99]⟩
def powB : ByteArray := ⟨#[112, 111, 119]⟩
def perB : ByteArray := ⟨#[112, 101, 114]⟩
def andB : ByteArray := ⟨#[97, 110, 100]⟩
/-- The digits of a number below 100. -/
def numB (n : Nat) : ByteArray := if n < 10 then ⟨#[UInt8.ofNat (48 + n)]⟩ else ⟨#[UInt8.ofNat (48 + n / 10), UInt8.ofNat (48 + n % 10)]⟩
theorem decDigits_num {n : Nat} (h : n < 100) : (⟨(Lib.decDigits n).toArray⟩ : ByteArray) = numB n := by
  unfold numB
  by_cases h1 : n < 10
  · rw [Lib.decDigits, dif_pos h1, if_pos h1]
  · rw [Lib.decDigits, dif_neg h1, Lib.decDigits, dif_pos (by omega), if_neg h1]; rfl
/-- The word for a power from 2 on. -/
def pwB (n : Nat) : ByteArray := if n = 2 then sqB else if n = 3 then cuB else powB ++ numB n
/-- The power that a word is the word for; 0: none. -/
def powOf (s : ByteArray) : Nat := ((List.range 16).find? (fun n => decide (2 ≤ n ∧ s = pwB n))).getD 0
theorem powOf_pw : ∀ n, n < 16 → 2 ≤ n → powOf (pwB n) = n := by decide +kernel
theorem pwB_size : ∀ n, n < 16 → 2 ≤ n → (pwB n).size ≤ 6 := by decide +kernel
theorem powOf_no {s : ByteArray} (h : ∀ n, n < 16 → 2 ≤ n → s ≠ pwB n) : powOf s = 0 := by
  have : (List.range 16).find? (fun n => decide (2 ≤ n ∧ s = pwB n)) = none := by
    rw [List.find?_eq_none]
    intro n hn
    simp only [decide_eq_true_eq, not_and]
    exact h n (List.mem_range.1 hn)
  unfold powOf; rw [this]; rfl
theorem powOf_is (s : ByteArray) : powOf s = 0 ∨ (2 ≤ powOf s ∧ powOf s < 16 ∧ s = pwB (powOf s)) := by
  unfold powOf
  cases hf : (List.range 16).find? (fun n => decide (2 ≤ n ∧ s = pwB n)) with
  | none => exact .inl rfl
  | some n =>
    have h1 := List.find?_some hf
    have h2 := List.mem_range.1 (List.mem_of_find?_eq_some hf)
    simp only [decide_eq_true_eq] at h1
    exact .inr ⟨h1.1, h2, h1.2⟩
theorem powOf_zero {s : ByteArray} (h : powOf s = 0) {n : Nat} (h1 : n < 16) (h2 : 2 ≤ n) : s ≠ pwB n := by
  rintro rfl
  rw [powOf_pw n h1 h2] at h; omega
/-- Digits alone, one at least. -/
def digitsB (l : List UInt8) : Bool := !l.isEmpty && l.all wdig
def digitSet : List UInt8 := [48, 49, 50, 51, 52, 53, 54, 55, 56, 57]
theorem digitSet_has (c : UInt8) : digitSet.contains c = wdig c := by
  revert c
  have h : ∀ n, n < 256 → digitSet.contains (UInt8.ofNat n) = wdig (UInt8.ofNat n) := by decide +kernel
  intro c
  have := h c.toNat (UInt8.toNat_lt c)
  rwa [UInt8.ofNat_toNat] at this
theorem trim_digits (l : List UInt8) : (Lib.trimS l digitSet).isEmpty = l.all wdig := by
  have e : (fun c => digitSet.contains c) = wdig := funext digitSet_has
  unfold Lib.trimS Lib.trimLeftS Lib.trimRightS
  rw [e]
  have hp : ∀ l : List UInt8, (l.dropWhile wdig).isEmpty = l.all wdig := by
    intro l
    induction l with
    | nil => rfl
    | cons c l ih =>
      rw [List.dropWhile_cons, List.all_cons]
      cases hc : wdig c
      · simp
      · simpa using ih
  by_cases ha : l.all wdig = true
  · rw [ha]
    have h1 : l.reverse.dropWhile wdig = [] := by
      have := hp l.reverse
      rw [List.all_reverse, ha] at this
      simpa using this
    rw [h1]; rfl
  · rw [hp, List.all_reverse]
    have h1 : l.reverse.dropWhile wdig ≠ [] := by
      intro h
      have := hp l.reverse
      rw [h, List.all_reverse] at this
      exact ha this.symm
    have h2 : ¬ (l.reverse.dropWhile wdig).all wdig = true := by
      intro h
      have := List.head_dropWhile_not (p := wdig) (l := l.reverse) h1
      have h3 := List.all_eq_true.1 h _ (List.head_mem h1)
      rw [h3] at this; cases this
    rw [Bool.eq_iff_iff]
    exact ⟨fun h => absurd h h2, fun h => absurd h ha⟩
/-- A word that has a meaning of its own in a unit. -/
def resB (s : ByteArray) : Bool := decide (s = perB) || (decide (s = andB) || (decide (s = sqB) || (decide (s = cuB) || (digitsB s.data.toList || (Lib.hasPrefix s.data.toList powB.data.toList && digitsB (s.data.toList.drop 3))))))
/-- What a name or a prefix may be. -/
def mayB (s : ByteArray) : Bool := goodW s.data.toList && !resB s
/-- Does x stand in l? -/
def hasB (l : List ByteArray) (x : ByteArray) : Bool := l.any fun y => decide (y = x)
theorem hasB_iff {l : List ByteArray} {x : ByteArray} : hasB l x = true ↔ x ∈ l := by
  unfold hasB
  rw [List.any_eq_true]
  constructor
  · rintro ⟨y, hy, h⟩; rw [decide_eq_true_eq] at h; exact h ▸ hy
  · intro h; exact ⟨x, h, decide_eq_true rfl⟩
theorem hasB_no {l : List ByteArray} {x : ByteArray} : hasB l x = false ↔ x ∉ l := by
  rw [← hasB_iff, Bool.not_eq_true]
/-- Each may be, none occurs twice. -/
def goodL (xs : List ByteArray) : Bool := xs.all mayB && decide xs.Nodup
theorem goodL_nil : goodL [] = true := rfl
theorem nodup_snoc {xs : List ByteArray} {x : ByteArray} : (xs ++ [x]).Nodup ↔ xs.Nodup ∧ x ∉ xs := by
  rw [List.nodup_append]
  constructor
  · rintro ⟨h1, _, h3⟩
    exact ⟨h1, fun h => h3 x h x (by simp) rfl⟩
  · rintro ⟨h1, h2⟩
    refine ⟨h1, by simp, fun a ha b hb => ?_⟩
    rw [List.mem_singleton] at hb
    subst hb
    rintro rfl
    exact h2 ha
theorem goodL_snoc (xs : List ByteArray) (x : ByteArray) : goodL (xs ++ [x]) = (goodL xs && (mayB x && !hasB xs x)) := by
  unfold goodL
  rw [List.all_append, Bool.eq_iff_iff]
  simp only [Bool.and_eq_true, decide_eq_true_eq, Bool.not_eq_true', hasB_no, nodup_snoc, List.all_cons, List.all_nil, Bool.and_true]
  constructor
  · rintro ⟨⟨a, b⟩, c, d⟩; exact ⟨⟨a, c⟩, b, d⟩
  · rintro ⟨⟨a, c⟩, b, d⟩; exact ⟨⟨a, b⟩, c, d⟩
theorem goodL_take {xs : List ByteArray} {k : Nat} (h : k < xs.length) : goodL (xs.take (k + 1)) = (goodL (xs.take k) && (mayB xs[k] && !hasB (xs.take k) xs[k])) := by
  rw [List.take_succ_eq_append_getElem h, goodL_snoc]
theorem goodL_bad {xs : List ByteArray} {k : Nat} (h : k < xs.length) (hb : goodL (xs.take (k + 1)) = false) : goodL xs = false := by
  rw [← List.take_append_drop (k + 1) xs]
  unfold goodL at hb ⊢
  rw [Bool.eq_false_iff] at hb ⊢
  intro hg
  apply hb
  simp only [Bool.and_eq_true, decide_eq_true_eq, List.all_append] at hg ⊢
  exact ⟨hg.1.1, (List.nodup_append.1 hg.2).1⟩
/-- What is left of u behind k bytes. -/
def restB (u : ByteArray) (k : Nat) : ByteArray := u.extract k u.size
def hitB (names : List ByteArray) (u p : ByteArray) : Bool := Lib.hasPrefix u.data.toList p.data.toList && hasB names (restB u p.size)
/-- The size of the longest prefix that a name follows. -/
def lpB (names : List ByteArray) (u : ByteArray) (ps : List ByteArray) : Nat := ps.foldl (fun m p => if hitB names u p then max m p.size else m) 0
theorem lpB_take {names ps : List ByteArray} {u : ByteArray} {k : Nat} (h : k < ps.length) : lpB names u (ps.take (k + 1)) = if hitB names u ps[k] then max (lpB names u (ps.take k)) ps[k].size else lpB names u (ps.take k) := by
  unfold lpB
  rw [List.take_succ_eq_append_getElem h, List.foldl_append]; rfl
theorem hitB_pre {names : List ByteArray} {u p : ByteArray} (h : hitB names u p = true) : p.size ≤ u.size ∧ u.extract 0 p.size = p := by
  unfold hitB at h
  simp only [Bool.and_eq_true] at h
  have h1 : p.data.toList <+: u.data.toList := List.isPrefixOf_iff_prefix.1 h.1
  refine ⟨by rw [Lib.size_eq, Lib.size_eq]; exact h1.length_le, ?_⟩
  have h2 := List.prefix_iff_eq_take.1 h1
  apply ByteArray.ext
  apply Array.ext'
  rw [ByteArray.data_extract, Array.toList_extract]
  simp only [List.extract, List.drop_zero, Nat.sub_zero]
  rw [Lib.size_eq]
  exact h2.symm
theorem lpB_le {names : List ByteArray} {u : ByteArray} (ps : List ByteArray) : ∀ k, k ≤ ps.length → lpB names u (ps.take k) ≤ u.size := by
  intro k
  induction k with
  | zero => intro _; simp [lpB]
  | succ k ih =>
    intro hk
    rw [lpB_take (by omega)]
    split
    · rename_i hh
      have := (hitB_pre hh).1
      have := ih (by omega)
      omega
    · exact ih (by omega)
/-- Does a name end u from byte i on? -/
def endB (names : List ByteArray) (u : ByteArray) (i : Nat) : Bool := names.any fun x => Lib.hasSuffix u.data.toList x.data.toList && (u.size - x.size == i)
theorem suffix_iff (u x : ByteArray) : Lib.hasSuffix u.data.toList x.data.toList = true ↔ x.size ≤ u.size ∧ restB u (u.size - x.size) = x := by
  unfold Lib.hasSuffix restB
  rw [List.isSuffixOf_iff_suffix, List.suffix_iff_eq_drop]
  constructor
  · intro h
    have hl : x.size ≤ u.size := by
      have := congrArg List.length h
      rw [List.length_drop] at this
      rw [Lib.size_eq, Lib.size_eq]; omega
    refine ⟨hl, ?_⟩
    apply ByteArray.ext
    apply Array.ext'
    rw [ByteArray.data_extract, Array.toList_extract]
    rw [Lib.size_eq, Lib.size_eq]
    simp only [List.extract]
    rw [← h, List.take_of_length_le]
    rw [Lib.size_eq, Lib.size_eq] at hl
    omega
  · rintro ⟨hl, h⟩
    have h2 := congrArg (fun b : ByteArray => b.data.toList) h
    simp only [ByteArray.data_extract, Array.toList_extract, List.extract] at h2
    rw [List.take_of_length_le (by rw [List.length_drop, Lib.size_eq]; omega)] at h2
    rw [Lib.size_eq, Lib.size_eq] at h2
    exact h2.symm
theorem restB_size (u : ByteArray) (k : Nat) (h : k ≤ u.size) : (restB u k).size = u.size - k := by
  unfold restB; rw [ByteArray.size_extract]; omega
theorem endB_mem {names : List ByteArray} {u : ByteArray} {i : Nat} (hi : i ≤ u.size) : endB names u i = hasB names (restB u i) := by
  unfold endB
  rw [Bool.eq_iff_iff, List.any_eq_true, hasB_iff]
  constructor
  · rintro ⟨x, hx, h⟩
    simp only [Bool.and_eq_true, beq_iff_eq] at h
    obtain ⟨h1, h2⟩ := (suffix_iff u x).1 h.1
    rw [h.2] at h2
    rw [h2]; exact hx
  · intro h
    refine ⟨_, h, ?_⟩
    have hs := restB_size u i hi
    simp only [Bool.and_eq_true, beq_iff_eq]
    refine ⟨(suffix_iff _ _).2 ⟨by omega, ?_⟩, by omega⟩
    rw [hs, show u.size - (u.size - i) = i by omega]
theorem endB_take {names : List ByteArray} {u : ByteArray} {i k : Nat} (h : k < names.length) : endB (names.take (k + 1)) u i = (endB (names.take k) u i || (Lib.hasSuffix u.data.toList names[k].data.toList && (u.size - names[k].size == i))) := by
  unfold endB
  rw [List.take_succ_eq_append_getElem h, List.any_append]; simp
theorem restB_zero (u : ByteArray) : restB u 0 = u := by
  unfold restB; exact ByteArray.extract_zero_size
end Go.Proofs.YthdpojkeceoiiaaGreatDoor
end
