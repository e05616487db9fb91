/- Rows of a table: what is read out of lines; memory: a slice of rows that a call builds, one that is read. No conditions. -/
import Derived.Test.YtbmpbcnhgnmekaaDoorEd
open Go.RowKit
set_option maxRecDepth 100000
namespace Go.Proofs.YtbmpbcnhgnmekaaDoor
/-- A row: its line, its words. -/
abbrev TRow := Nat × List ByteArray
/-- Rows out of lines: i lines stand ahead, k rows are there. The rows, the line of an error, the error. -/
def rowsOf : Nat → Nat → List ByteArray → List TRow × Nat × Nat
  | _, _, [] => ([], 0, 0)
  | i, k, l :: ls => if plainB l = false ∨ 24 < (wordsB l).length then ([], i + 1, 2) else if wordsB l = [] then rowsOf (i + 1) k ls else if k = 2000 then ([], i + 1, 11) else
      if (rowsOf (i + 1) (k + 1) ls).2.2 = 0 then ((i + 1, wordsB l) :: (rowsOf (i + 1) (k + 1) ls).1, 0, 0) else ([], (rowsOf (i + 1) (k + 1) ls).2)
/-- With rows ahead of them. -/
def comb (acc : List TRow) (r : List TRow × Nat × Nat) : List TRow × Nat × Nat := if r.2.2 = 0 then (acc ++ r.1, 0, 0) else ([], r.2)
section
variable {acc : List TRow} {i k : Nat} {l : ByteArray} {ls : List ByteArray} {r : List TRow × Nat × Nat}
theorem comb_bad (h : plainB l = false ∨ 24 < (wordsB l).length) : comb acc (rowsOf i k (l :: ls)) = ([], i + 1, 2) := by
  rw [rowsOf, if_pos h]; rfl
theorem comb_none (h : plainB l = true) (h2 : wordsB l = []) : comb acc (rowsOf i k (l :: ls)) = comb acc (rowsOf (i + 1) k ls) := by
  rw [rowsOf, if_neg (by rw [h, h2]; simp), if_pos h2]
theorem comb_full (h : plainB l = true) (h1 : (wordsB l).length ≤ 24) (h2 : wordsB l ≠ []) : comb acc (rowsOf i 2000 (l :: ls)) = ([], i + 1, 11) := by
  rw [rowsOf, if_neg (by rw [h]; simp; omega), if_neg h2, if_pos rfl]; rfl
theorem comb_more (h : plainB l = true) (h1 : (wordsB l).length ≤ 24) (h2 : wordsB l ≠ []) (h3 : k ≠ 2000) : comb acc (rowsOf i k (l :: ls)) = comb (acc ++ [(i + 1, wordsB l)]) (rowsOf (i + 1) (k + 1) ls) := by
  rw [rowsOf, if_neg (by rw [h]; simp; omega), if_neg h2, if_neg h3]
  unfold comb
  by_cases h4 : (rowsOf (i + 1) (k + 1) ls).2.2 = 0
  · rw [if_pos h4, if_pos rfl, if_pos h4]; simp
  · rw [if_neg h4, if_neg h4, if_neg h4]
theorem comb_nil : comb acc (rowsOf i k []) = (acc, 0, 0) := by rw [rowsOf]; unfold comb; simp
theorem comb_zero (h : r.2.2 = 0 → r.2.1 = 0) (h' : r.2.2 ≠ 0 → r.1 = []) : comb [] r = r := by
  unfold comb
  obtain ⟨a, b, c⟩ := r
  by_cases h1 : c = 0
  · subst h1; simp at h ⊢; exact h.symm
  · simp at h h' ⊢; rw [if_neg h1, h' h1]
theorem rowsOf_form : ∀ (ls : List ByteArray) (i k : Nat), ((rowsOf i k ls).2.2 = 0 → (rowsOf i k ls).2.1 = 0) ∧ ((rowsOf i k ls).2.2 ≠ 0 → (rowsOf i k ls).1 = [])
  | [], i, k => by rw [rowsOf]; simp
  | l :: ls, i, k => by
    have ih1 := rowsOf_form ls (i + 1) k
    have ih2 := rowsOf_form ls (i + 1) (k + 1)
    rw [rowsOf]
    split
    · simp
    · split
      · exact ih1
      · split
        · simp
        · split
          · simp
          · rename_i h; refine ⟨fun h2 => absurd h2 h, fun _ => rfl⟩
theorem comb_start : comb [] (rowsOf i k ls) = rowsOf i k ls := comb_zero (rowsOf_form ls i k).1 (rowsOf_form ls i k).2
end
/-- The cells of a slice of rows. -/
def flatR : List TRow → List Value → List Value
  | r :: rs, v :: vs => .int .i64 (r.1 : Int) :: v :: flatR rs vs
  | _, _ => []
section
variable {rs : List TRow} {vs : List Value} {r : TRow} {v : Value}
theorem flatR_len : ∀ {rs : List TRow} {vs : List Value}, vs.length = rs.length → (flatR rs vs).length = rs.length * 2
  | [], [], _ => rfl
  | r :: rs, v :: vs, h => by
    have := flatR_len (rs := rs) (vs := vs) (by simpa using h)
    simp only [flatR, List.length_cons, this]; omega
theorem flatR_snoc : ∀ {rs : List TRow} {vs : List Value}, vs.length = rs.length → flatR (rs ++ [r]) (vs ++ [v]) = flatR rs vs ++ [.int .i64 (r.1 : Int), v]
  | [], [], _ => rfl
  | r' :: rs, v' :: vs, h => by
    have := flatR_snoc (rs := rs) (vs := vs) (by simpa using h)
    simp only [List.cons_append, flatR, this]
theorem flatR_get : ∀ {rs : List TRow} {vs : List Value}, vs.length = rs.length → ∀ {j : Nat} {r : TRow} {v : Value}, rs[j]? = some r → vs[j]? = some v → (flatR rs vs)[j * 2]? = some (.int .i64 (r.1 : Int)) ∧ (flatR rs vs)[j * 2 + 1]? = some v
  | [], [], _, j, r, v, h, _ => by simp at h
  | r' :: rs, v' :: vs, hl, 0, r, v, h, h' => by
    simp at h h'
    subst h; subst h'
    simp [flatR]
  | r' :: rs, v' :: vs, hl, j + 1, r, v, h, h' => by
    have := flatR_get (rs := rs) (vs := vs) (by simpa using hl) (j := j) (by simpa using h) (by simpa using h')
    rw [show (j + 1) * 2 = j * 2 + 1 + 1 by omega]
    simpa [flatR] using this
end
theorem own_ne {w : World} {base base' : Nat} {e e' : TypeId} {sz sz' : Nat} {v v' : Value} {n n' : Nat} {xs xs' : List Value} (h : w.ownsRow base e sz v n xs) (h' : w.ownsRow base' e' sz' v' n' xs') (hne : e ≠ e') : v.ownBlock = none ∨ v.ownBlock ≠ v'.ownBlock := by
  rcases h.2 with ⟨rfl, _⟩ | ⟨g, cap, cur, rfl, _, hg, _⟩
  · exact .inl rfl
  · rcases h'.2 with ⟨rfl, _⟩ | ⟨g', cap', cur', rfl, _, hg', _⟩
    · right; simp [Value.ownBlock]
    · right
      simp only [Value.ownBlock, ne_eq, Option.some.injEq]
      rintro rfl
      rw [hg] at hg'
      injection hg' with hg'
      injection hg' with _ ht
      exact hne ht
/-- A slice of rows that a call builds. -/
structure RB (base : Nat) (w : World) (v : Value) (rs : List TRow) (vs : List Value) : Prop where
  len : vs.length = rs.length
  own : w.ownsRow base 33 2 v rs.length (flatR rs vs)
  inner : ∀ (j : Nat) (x : Value) (r : TRow), vs[j]? = some x → rs[j]? = some r → (∃ A c, x = .slice A r.2.length c ∧ (A = none → c = 0)) ∧ w.ownsRow base 9 1 x r.2.length (r.2.map Value.string)
section
variable {base : Nat} {w w' : World} {v v' x : Value} {rs : List TRow} {vs : List Value} {r : TRow}
theorem RB.nil : RB base w (.slice none 0 0) [] [] := ⟨rfl, World.ownsRow_nil _ _ _ _, fun j x r h => by simp at h⟩
theorem RB.kept (h : RB base w v rs vs) {row : Option Nat} (hg : w.grownBy w' row) (hv : v.ownBlock = none ∨ v.ownBlock ≠ row) (hx : ∀ x ∈ vs, x.ownBlock = none ∨ x.ownBlock ≠ row) : RB base w' v rs vs :=
  ⟨h.len, h.own.kept hg hv, fun j x r h1 h2 => ⟨(h.inner j x r h1 h2).1, (h.inner j x r h1 h2).2.kept hg (hx x (List.mem_of_getElem? h1))⟩⟩
theorem grown_below {B : Nat} (hb : Below w.heap.size w w') : w.grownBy w' none := ⟨hb.os, hb.tape, hb.output, hb.size, fun k hk _ => hb.block k hk⟩
theorem RB.below (h : RB base w v rs vs) (hb : Below w.heap.size w w') : RB base w' v rs vs :=
  h.kept (grown_below (B := 0) hb) (by cases v.ownBlock <;> simp) (fun x _ => by cases x.ownBlock <;> simp)
theorem RB.alloc (h : RB base w v rs vs) (o : Obj) : RB base (w.alloc o) v rs vs := h.below ((Below.refl _ _).alloc (Nat.le_refl _) o)
/-- One row more: what the append of it leaves. -/
theorem RB.more (h : RB base w v rs vs) (hx : (∃ A c, x = .slice A r.2.length c ∧ (A = none → c = 0)) ∧ w.ownsRow base 9 1 x r.2.length (r.2.map Value.string))
    (ho : w'.ownsRow base 33 2 v' (rs.length + 1) (flatR rs vs ++ [.int .i64 (r.1 : Int), x])) (hg : w.grownBy w' v.ownBlock) : RB base w' v' (rs ++ [r]) (vs ++ [x]) := by
  refine ⟨by rw [List.length_append, List.length_append, h.len]; rfl, by rw [flatR_snoc h.len]; simpa using ho, fun j y r' h1 h2 => ?_⟩
  have hl := h.len
  rcases Nat.lt_or_ge j vs.length with hj | hj
  · rw [List.getElem?_append_left hj] at h1
    rw [List.getElem?_append_left (by omega)] at h2
    have h3 := h.inner j y r' h1 h2
    exact ⟨h3.1, h3.2.kept hg (own_ne h3.2 h.own (by decide))⟩
  · rw [List.getElem?_append_right hj] at h1
    rw [List.getElem?_append_right (by omega)] at h2
    rw [show j - rs.length = j - vs.length by omega] at h2
    cases hk : j - vs.length with
    | zero =>
      rw [hk] at h1 h2
      simp at h1 h2
      subst h1; subst h2
      exact ⟨hx.1, hx.2.kept hg (own_ne hx.2 h.own (by decide))⟩
    | succ k => rw [hk] at h1; simp at h1
end
/-- A slice at A that reads as rows, below block B. -/
def RW (w : World) (B : Nat) (A : Option Addr) (rs : List TRow) : Prop :=
  0 < rs.length → ∃ (g : Nat) (vs : List Value), A = some ⟨g, 0, none⟩ ∧ g < B ∧ vs.length = rs.length ∧ ∀ j r v, rs[j]? = some r → vs[j]? = some v →
    w.cell? ⟨g, j * 2, none⟩ = some (.int .i64 (r.1 : Int)) ∧ w.cell? ⟨g, j * 2 + 1, none⟩ = some v ∧ ∃ A' c, v = .slice A' r.2.length c ∧ (A' = none → c = 0) ∧ r.2.length ≤ c ∧ RS w B A' r.2
/-- In world W the slice reads as these rows. -/
def Rs (W : World) (A : Option Addr) (rs : List TRow) : Prop := Hid (RW W W.heap.size A rs)
section
variable {W W' w w' : World} {B B' : Nat} {A : Option Addr} {rs : List TRow} {vs : List Value} {base c n : Nat}
theorem RW.keep (h : RW w B A rs) (hk : ∀ p : Addr, p.block < B → w'.cell? p = w.cell? p) : RW w' B A rs := fun hn => by
  obtain ⟨g, vs, e, hb, hl, hc⟩ := h hn
  refine ⟨g, vs, e, hb, hl, fun j r v h1 h2 => ?_⟩
  obtain ⟨h3, h4, A', c, h5, h6, h7, h8⟩ := hc j r v h1 h2
  exact ⟨(hk _ hb).trans h3, (hk _ hb).trans h4, A', c, h5, h6, h7, h8.keep hk⟩
theorem RW.moreB (h : RW w B A rs) (hB : B ≤ B') : RW w B' A rs := fun hn => by
  obtain ⟨g, vs, e, hb, hl, hc⟩ := h hn
  refine ⟨g, vs, e, by omega, hl, fun j r v h1 h2 => ?_⟩
  obtain ⟨h3, h4, A', c, h5, h6, h7, h8⟩ := hc j r v h1 h2
  exact ⟨h3, h4, A', c, h5, h6, h7, h8.more hB⟩
theorem Rs.up (h : Rs W A rs) (hb : Hid (Below W.heap.size W W')) : Rs W' A rs := (RW.keep h.out fun _ hp => hb.out.cell hp).moreB hb.out.size
theorem Rs.al (h : Rs W A rs) (o : Obj) : Rs (W.alloc o) A rs := h.up ((Below.refl _ _).alloc (Nat.le_refl _) o)
theorem Rs.dr (h : Rs W A rs) : Rs W.drew A rs := h
theorem own_cap {e : TypeId} {sz : Nat} {xs : List Value} (h : w.ownsRow base e sz (.slice A n c) n xs) : n ≤ c := by
  rcases h.2 with ⟨h0, _⟩ | ⟨g, cap, cur, h0, _, _, h3, _⟩
  · injection h0 with _ h1 h2; omega
  · injection h0 with _ h1 h2; omega
theorem RB.reads (h : RB base W (.slice A rs.length c) rs vs) : Rs W A rs := fun hn => by
  rcases h.own.2 with ⟨h0, h1⟩ | ⟨g, cap, cur, h0, h1, hg, _⟩
  · omega
  · injection h0 with h0 _ hcap
    subst h0
    refine ⟨g, vs, rfl, (Array.getElem?_eq_some_iff.1 hg).1, h.len, fun j r v h2 h3 => ?_⟩
    have hj : j < rs.length := (List.getElem?_eq_some_iff.1 h2).1
    obtain ⟨h4, h5⟩ := flatR_get h.len h2 h3
    obtain ⟨⟨A', c', e, hc'⟩, h7⟩ := h.inner j v r h3 h2
    refine ⟨(World.ownsRow.cellAt h.own (j * 2) (by omega)).trans h4, (World.ownsRow.cellAt h.own (j * 2 + 1) (by omega)).trans h5, A', c', e, hc', ?_, ?_⟩
    · subst e; exact own_cap h7
    · subst e; exact RS.of_own h7
end
end Go.Proofs.YtbmpbcnhgnmekaaDoor
