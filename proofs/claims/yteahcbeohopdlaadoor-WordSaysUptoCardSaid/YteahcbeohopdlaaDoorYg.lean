/- A slice of slices that the call itself builds: one element more behind its last part; what it reads as. No conditions. -/
import Derived.Test.YteahcbeohopdlaaDoorYb
open Go.RowKit
namespace Go.Proofs.YteahcbeohopdlaaDoor
section
variable {base : Nat} {to ti : TypeId} {w w' : World} {css : List (List ByteArray)} {vs : List Value} {g cap : Nat}
theorem Bld.put (h : Bld base to ti w (.slice (some ⟨g, 0, none⟩) css.length cap) css vs) (hne : to ≠ ti) {j : Nat} {y : Value} {cs : List ByteArray} (hy : vs[j]? = some y) (hcs : css[j]? = some cs)
    {o : Obj} {v' : Value} {x : ByteArray} (ho : w'.ownsRow base ti 1 v' (cs.length + 1) (cs.map Value.string ++ [.string x])) (hg : (w.alloc o).grownBy w' y.ownBlock)
    (hat : v'.ownBlock = y.ownBlock ∨ v'.ownBlock = some (w.alloc o).heap.size) :
    Bld base to ti (w'.setCell ⟨g, j, none⟩ v') (.slice (some ⟨g, 0, none⟩) css.length cap) (css.set j (cs ++ [x])) (vs.set j v') := by
  have hl := h.len
  have hyo := h.inner j y cs hy hcs
  have houter : w'.ownsRow base to 1 (.slice (some ⟨g, 0, none⟩) css.length cap) css.length vs := (h.own.alloc o).kept hg (own_type_ne (h.own.alloc o) (hyo.alloc o) hne)
  have hst := World.ownsRow.stored houter j v'
  have hjv : j < vs.length := by
    rcases Nat.lt_or_ge j vs.length with h1 | h1
    · exact h1
    · rw [List.getElem?_eq_none h1] at hy; cases hy
  have keep : ∀ {z : Value} {n : Nat} {zs : List Value}, w'.ownsRow base ti 1 z n zs → (w'.setCell ⟨g, j, none⟩ v').ownsRow base ti 1 z n zs := fun {z n zs} hz =>
    hz.kept hst.2 (by rcases own_type_ne hz houter (Ne.symm hne) with e | e; (· exact .inl e); (· exact .inr e))
  refine ⟨by rw [List.length_set]; exact hst.1, fun i x' cs' h1 h2 => ?_, fun i k x' y' h1 h2 hik => ?_⟩
  · by_cases hij : i = j
    · subst hij
      rw [List.getElem?_set_self hjv] at h1
      rw [List.getElem?_set_self (by omega)] at h2
      injection h1 with h1
      injection h2 with h2
      subst h1; subst h2
      have := keep ho
      rw [List.length_append, List.map_append]
      exact this
    · rw [List.getElem?_set_ne (Ne.symm hij)] at h1 h2
      have hx := h.inner i x' cs' h1 h2
      exact keep ((hx.alloc o).kept hg (h.apart i j x' y h1 hy hij))
  · have new : ∀ {i : Nat} {x' : Value}, vs[i]? = some x' → x'.ownBlock ≠ some (w.alloc o).heap.size := fun {i x'} hx e => by
      have hi : i < css.length := by
        rcases Nat.lt_or_ge i css.length with h3 | h3
        · exact h3
        · rw [List.getElem?_eq_none (by omega)] at hx; cases hx
      have h3 := (h.inner i x' _ hx (List.getElem?_eq_getElem hi)).lt _ e
      simp at h3
      omega
    by_cases hi : i = j
    · subst hi
      rw [List.getElem?_set_self hjv] at h1
      injection h1 with h1
      subst h1
      rw [List.getElem?_set_ne hik] at h2
      rcases hat with e | e
      · rw [e]; exact h.apart i k y y' hy h2 hik
      · rw [e]; exact .inr (Ne.symm (new h2))
    · rw [List.getElem?_set_ne (Ne.symm hi)] at h1
      by_cases hk : k = j
      · subst hk
        rw [List.getElem?_set_self hjv] at h2
        injection h2 with h2
        subst h2
        rcases hat with e | e
        · rw [e]; exact h.apart i k x' y h1 hy hik
        · rw [e]; exact .inr (new h1)
      · rw [List.getElem?_set_ne (Ne.symm hk)] at h2
        exact h.apart i k x' y' h1 h2 hik
/-- The address and capacity that a slice value bears. -/
def bears : Option Value → Option Addr × Nat
  | some (.slice A _ c) => (A, c)
  | _ => (none, 0)
theorem Bld.rss (h : Bld base to ti w (.slice (some ⟨g, 0, none⟩) css.length cap) css vs) : RSS w w.heap.size (some ⟨g, 0, none⟩) css := fun hn => by
  have hl := h.len
  refine ⟨_, fun j => bears vs[j]?, rfl, (h.own.lt g rfl).2, fun j cs hcs => ?_⟩
  have hj : j < vs.length := by
    rcases Nat.lt_or_ge j vs.length with h1 | h1
    · exact h1
    · rw [List.getElem?_eq_none (by omega)] at hcs; cases hcs
  have hx := List.getElem?_eq_getElem hj
  have hc := h.own.cells (g := g) rfl j _ hx
  have ho := h.inner j _ cs hx hcs
  show w.cell? _ = some (Value.slice (bears vs[j]?).1 cs.length (bears vs[j]?).2) ∧ RS w w.heap.size (bears vs[j]?).1 cs ∧ ((bears vs[j]?).1 = none → (bears vs[j]?).2 = 0)
  rw [hx]
  have form : ∃ A c, vs[j] = .slice A cs.length c ∧ (A = none → c = 0) := by
    rcases ho.2 with ⟨e, e2⟩ | ⟨g', cap', cur, e, _⟩
    · exact ⟨none, 0, by rw [e, e2], fun _ => rfl⟩
    · exact ⟨_, _, e, fun h => by cases h⟩
  obtain ⟨A, c, e, e3⟩ := form
  rw [e] at hc ho ⊢
  exact ⟨hc, RS.of_own ho, e3⟩
theorem Bld.form {v : Value} (h : Bld base to ti w v css vs) (hn : 0 < css.length) : ∃ g cap, v = .slice (some ⟨g, 0, none⟩) css.length cap := by
  rcases h.own.2 with ⟨_, e⟩ | ⟨g, cap, cur, e, _⟩
  · omega
  · exact ⟨g, cap, e⟩
theorem Bld.cell {j : Nat} {y : Value} (h : Bld base to ti w (.slice (some ⟨g, 0, none⟩) css.length cap) css vs) (hy : vs[j]? = some y) : w.cell? ⟨g, j, none⟩ = some y := by
  have hl := h.len
  have hj : j < vs.length := by
    rcases Nat.lt_or_ge j vs.length with h1 | h1
    · exact h1
    · rw [List.getElem?_eq_none h1] at hy; cases hy
  rw [World.ownsRow.cellAt h.own j (by omega)]
  exact hy
/-- One nil slice, made. -/
theorem Bld.start (hb : base ≤ w.heap.size) : Bld base to ti (w.alloc (.cells #[.slice none 0 0] to)) (.slice (some ⟨w.heap.size, 0, none⟩) 1 1) [[]] [.slice none 0 0] := by
  refine ⟨World.ownsRow_lit w _ 1 hb (by decide) rfl, fun j x cs h1 h2 => ?_, fun i j x y h1 h2 hij => ?_⟩
  · cases j with
    | zero => simp at h1 h2; subst h1; subst h2; exact World.ownsRow_nil _ _ _ _
    | succ j => simp at h1
  · cases i with
    | zero => simp at h1; subst h1; exact .inl rfl
    | succ i => simp at h1
end
theorem set_last {a c : ByteArray} {css : List (List ByteArray)} {j : Nat} {cs : List ByteArray} (hc : c ≠ a) (hj : css.length = j + 1) (hcs : css[j]? = some cs) : css.set j (cs ++ [c]) = cutMore a c css := by
  unfold cutMore
  rw [if_neg hc]
  have hl : css.getLastD [] = cs := by
    rw [List.getLastD_eq_getLast?, List.getLast?_eq_getElem?, show css.length - 1 = j by omega, hcs]; rfl
  rw [hl]
  obtain ⟨pre, hp⟩ : ∃ pre, css = pre ++ [cs] := by
    refine ⟨css.take j, ?_⟩
    have hlt : j < css.length := by omega
    rw [List.getElem?_eq_getElem hlt] at hcs
    injection hcs with hcs
    rw [← hcs, ← List.take_succ_eq_append_getElem hlt, List.take_of_length_le (by omega)]
  subst hp
  have hpl : pre.length = j := by simp at hj; exact hj
  subst hpl
  rw [List.set_append, if_neg (by omega), Nat.sub_self, List.dropLast_concat]
  rfl
theorem cut_step {a c : ByteArray} {xs : List ByteArray} {k : Nat} (h : xs[k]? = some c) : cutBy a (xs.take (k + 1)) = cutMore a c (cutBy a (xs.take k)) := by
  rw [List.take_add_one, h]
  exact cutBy_snoc _ _
theorem own_form {w : World} {base : Nat} {e : TypeId} {v : Value} {n : Nat} {xs : List Value} (h : w.ownsRow base e 1 v n xs) (hn : 0 < n) : ∃ g cap, v = .slice (some ⟨g, 0, none⟩) n cap := by
  rcases h.2 with ⟨_, e⟩ | ⟨g, cap, cur, e, _⟩
  · omega
  · exact ⟨g, cap, e⟩
theorem arm_facts {w w1 : World} {base g m cap l : Nat} {to ti : TypeId} {vs ys zs : List Value} {y v1 : Value} {o : Obj} (hw : Hid (w.ownsRow base to 1 (.slice (some ⟨g, 0, none⟩) (m + 1) cap) (m + 1) vs)) (hoy : Hid (w.ownsRow base ti 1 y l ys)) (hne : to ≠ ti)
    (hy : Hid (vs[m]? = some y)) (ho : w1.ownsRow base ti 1 v1 (l + 1) zs) (hg : (w.alloc o).grownBy w1 y.ownBlock) :
    (∃ g1 cap1, v1 = .slice (some ⟨g1, 0, none⟩) (l + 1) cap1) ∧ w1.cell? ⟨g, m, none⟩ = some y ∧ w1.frozen? ⟨g, m, none⟩ = false := by
  have h2 := (hw.out.alloc o).kept hg (own_type_ne (hw.out.alloc o) (hoy.out.alloc o) hne)
  refine ⟨own_form ho (by omega), ?_, World.ownsRow.frozenAt h2 m⟩
  rw [World.ownsRow.cellAt h2 m (by omega)]
  exact hy.out
theorem ymem_le_sum {x : Nat} {l : List Nat} (h : x ∈ l) : x ≤ l.sum := by
  induction l with
  | nil => simp at h
  | cons y l ih =>
    rw [List.sum_cons]
    rcases List.mem_cons.1 h with rfl | h
    · omega
    · have := ih h; omega
theorem cutBy_piece {a : ByteArray} {l p : List ByteArray} (h : p ∈ cutBy a l) : p.length ≤ l.length := by
  have h1 := cutBy_total (a := a) l
  have h2 := ymem_le_sum (List.mem_map_of_mem (f := List.length) h)
  omega
end Go.Proofs.YteahcbeohopdlaaDoor
