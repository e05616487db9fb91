/- Plain mathematics on names made of words: words, cutting a list at an element, putting it together again. No conditions. -/
import Derived.Lib.SplitLaws
import Derived.Lib.Join
namespace Go.Proofs.YtkjcnpckajpogaaDoor
def wdig (c : UInt8) : Bool := decide (48 ≤ c) && decide (c ≤ 57)
def wchar (c : UInt8) : Bool := (decide (97 ≤ c) && decide (c ≤ 122)) || wdig c
def goodW (l : List UInt8) : Bool := decide (1 ≤ l.length) && (decide (l.length ≤ 20) && l.all wchar)
def numW (l : List UInt8) : Bool := decide (1 ≤ l.length) && (decide (l.length ≤ 20) && (l.all wdig && decide (l.head? ≠ some 48)))
section
variable {α : Type} {a : α}
/-- Put together with a between them. -/
def glue (a : α) : List (List α) → List α
  | [] => []
  | [p] => p
  | p :: q :: r => p ++ a :: glue a (q :: r)
theorem glue_cons (p : List α) {r : List (List α)} (h : r ≠ []) : glue a (p :: r) = p ++ a :: glue a r := by
  cases r with
  | nil => exact absurd rfl h
  | cons q r => rfl
theorem glue_snoc {r : List (List α)} (h : r ≠ []) (p : List α) : glue a (r ++ [p]) = glue a r ++ a :: p := by
  induction r with
  | nil => exact absurd rfl h
  | cons q r ih =>
    cases r with
    | nil => rfl
    | cons q2 r =>
      rw [List.cons_append, glue_cons q (r := q2 :: r ++ [p]) (by simp), ih (by simp), glue_cons q (List.cons_ne_nil q2 r)]
      simp
end
/-- A list cut at each element that equals a. -/
def cutBy {α : Type} [DecidableEq α] (a : α) : List α → List (List α)
  | [] => [[]]
  | c :: l => if c = a then [] :: cutBy a l else match cutBy a l with
    | [] => [[c]]
    | p :: ps => (c :: p) :: ps
section
variable {α : Type} [DecidableEq α] {a : α}
theorem cutBy_nil : cutBy a [] = [[]] := rfl
theorem cutBy_hit (l : List α) : cutBy a (a :: l) = [] :: cutBy a l := by simp [cutBy]
theorem cutBy_ne (l : List α) : cutBy a l ≠ [] := by
  cases l with
  | nil => simp [cutBy]
  | cons c l =>
    unfold cutBy
    split
    · simp
    · split <;> simp
theorem cutBy_miss {c : α} (h : c ≠ a) {l p : List α} {ps : List (List α)} (hl : cutBy a l = p :: ps) : cutBy a (c :: l) = (c :: p) :: ps := by
  rw [cutBy, if_neg h, hl]
theorem cutBy_form (l : List α) : ∃ p ps, cutBy a l = p :: ps := by
  cases h : cutBy a l with
  | nil => exact absurd h (cutBy_ne l)
  | cons p ps => exact ⟨p, ps, rfl⟩
/-- What is cut so far, one element more. -/
def cutMore (a c : α) (r : List (List α)) : List (List α) := if c = a then r ++ [[]] else r.dropLast ++ [r.getLastD [] ++ [c]]
theorem cutMore_cons {p : List α} {r : List (List α)} (hr : r ≠ []) (c : α) : cutMore a c (p :: r) = p :: cutMore a c r := by
  unfold cutMore
  cases r with
  | nil => exact absurd rfl hr
  | cons q r => split <;> simp [List.getLastD]
theorem cutBy_snoc (l : List α) (c : α) : cutBy a (l ++ [c]) = cutMore a c (cutBy a l) := by
  induction l with
  | nil =>
    by_cases h : c = a
    · subst h; simp [cutBy, cutMore]
    · simp [cutBy, cutMore, h]
  | cons d l ih =>
    by_cases h : d = a
    · subst h
      rw [List.cons_append, cutBy_hit, cutBy_hit, ih, cutMore_cons (cutBy_ne l)]
    · obtain ⟨p, ps, hp⟩ := cutBy_form (a := a) l
      rw [cutBy_miss h hp, List.cons_append]
      cases ps with
      | nil =>
        rw [hp] at ih
        by_cases hc : c = a
        · subst hc
          have e : cutMore c c [p] = p :: [[]] := by simp [cutMore]
          rw [e] at ih
          rw [cutBy_miss h ih]; simp [cutMore]
        · have e : cutMore a c [p] = (p ++ [c]) :: [] := by simp [cutMore, hc]
          rw [e] at ih
          rw [cutBy_miss h ih]; simp [cutMore, hc]
      | cons q qs =>
        rw [hp, cutMore_cons (List.cons_ne_nil q qs)] at ih
        rw [cutBy_miss h ih, cutMore_cons (List.cons_ne_nil q qs)]
theorem cutBy_length (l : List α) : (cutBy a l).length = l.count a + 1 := by
  induction l with
  | nil => rfl
  | cons c l ih =>
    by_cases h : c = a
    · subst h; rw [cutBy_hit]; simp [ih]
    · obtain ⟨p, ps, hp⟩ := cutBy_form (a := a) l
      rw [cutBy_miss h hp, List.count_cons_of_ne (by simpa using h), ← ih, hp]; rfl
/-- How often a stands in l. -/
def cnt (a : α) (l : List α) : Nat := l.count a
theorem cnt_snoc (l : List α) (x : α) : cnt a (l ++ [x]) = cnt a l + if x = a then 1 else 0 := by
  unfold cnt
  rw [List.count_append]
  by_cases hx : x = a
  · subst hx; simp
  · rw [if_neg hx]; simp [List.count_singleton, hx]
theorem cutBy_cnt (l : List α) : (cutBy a l).length = cnt a l + 1 := cutBy_length l
theorem cutBy_le (l : List α) : (cutBy a l).length ≤ l.length + 1 := by
  rw [cutBy_length]; have := List.count_le_length (a := a) (l := l); omega
theorem cutBy_total (l : List α) : ((cutBy a l).map List.length).sum + l.count a = l.length := by
  induction l with
  | nil => rfl
  | cons c l ih =>
    by_cases h : c = a
    · subst h; rw [cutBy_hit]; simp; omega
    · obtain ⟨p, ps, hp⟩ := cutBy_form (a := a) l
      rw [cutBy_miss h hp, List.count_cons_of_ne (by simpa using h)]
      rw [hp] at ih
      simp at ih ⊢; omega
theorem cutBy_all (l : List α) : ((cutBy a l).map List.length).sum + cnt a l = l.length := cutBy_total l
theorem cutBy_free (l : List α) : ∀ p ∈ cutBy a l, a ∉ p := by
  induction l with
  | nil => intro p hp; simp [cutBy] at hp; subst hp; simp
  | cons c l ih =>
    by_cases h : c = a
    · subst h; rw [cutBy_hit]
      intro p hp
      rcases List.mem_cons.1 hp with rfl | hp
      · simp
      · exact ih p hp
    · obtain ⟨p, ps, hp⟩ := cutBy_form (a := a) l
      rw [cutBy_miss h hp]
      rw [hp] at ih
      intro q hq
      rcases List.mem_cons.1 hq with rfl | hq
      · have := ih p (by simp)
        simp only [List.mem_cons, not_or]
        exact ⟨fun e => h e.symm, this⟩
      · exact ih q (by simp [hq])
theorem cutBy_mem (l : List α) : ∀ p ∈ cutBy a l, ∀ x ∈ p, x ∈ l := by
  induction l with
  | nil => intro p hp; simp [cutBy] at hp; subst hp; simp
  | cons c l ih =>
    by_cases h : c = a
    · subst h; rw [cutBy_hit]
      intro p hp x hx
      rcases List.mem_cons.1 hp with rfl | hp
      · simp at hx
      · exact List.mem_cons_of_mem _ (ih p hp x hx)
    · obtain ⟨p, ps, hp⟩ := cutBy_form (a := a) l
      rw [cutBy_miss h hp]
      rw [hp] at ih
      intro q hq x hx
      rcases List.mem_cons.1 hq with rfl | hq
      · rcases List.mem_cons.1 hx with rfl | hx
        · simp
        · exact List.mem_cons_of_mem _ (ih p (by simp) x hx)
      · exact List.mem_cons_of_mem _ (ih q (by simp [hq]) x hx)
theorem glue_cutBy (l : List α) : glue a (cutBy a l) = l := by
  induction l with
  | nil => rfl
  | cons c l ih =>
    by_cases h : c = a
    · subst h; rw [cutBy_hit, glue_cons _ (cutBy_ne l), ih]; rfl
    · obtain ⟨p, ps, hp⟩ := cutBy_form (a := a) l
      rw [cutBy_miss h hp]
      rw [hp] at ih
      cases ps with
      | nil => simp only [glue] at ih ⊢; rw [ih]
      | cons q qs => rw [glue_cons _ (by simp)] at ih ⊢; rw [List.cons_append, ih]
theorem cutBy_plain {p : List α} (h : a ∉ p) : cutBy a p = [p] := by
  induction p with
  | nil => rfl
  | cons c p ih =>
    simp only [List.mem_cons, not_or] at h
    rw [cutBy_miss (fun e => h.1 e.symm) (ih h.2)]
theorem cutBy_lead {p : List α} (h : a ∉ p) (l : List α) : cutBy a (p ++ a :: l) = p :: cutBy a l := by
  induction p with
  | nil => exact cutBy_hit l
  | cons c p ih =>
    simp only [List.mem_cons, not_or] at h
    rw [List.cons_append, cutBy_miss (fun e => h.1 e.symm) (ih h.2)]
theorem cutBy_glue {r : List (List α)} (hr : r ≠ []) (h : ∀ p ∈ r, a ∉ p) : cutBy a (glue a r) = r := by
  induction r with
  | nil => exact absurd rfl hr
  | cons p r ih =>
    cases r with
    | nil => exact cutBy_plain (h p (by simp))
    | cons q r =>
      rw [glue_cons _ (by simp), cutBy_lead (h p (by simp)), ih (by simp) (fun x hx => h x (by simp [hx]))]
end
theorem join_glue (c : UInt8) (xs : List (List UInt8)) : Lib.join xs [c] = glue c xs := by
  induction xs with
  | nil => rfl
  | cons x xs ih =>
    cases xs with
    | nil => rw [Lib.join_one]; rfl
    | cons y ys =>
      rw [glue_cons _ (by simp), ← ih, Lib.join_cons, Lib.join_cons]
      simp [Lib.joinTail]
/-- The pieces between the hyphens. -/
def parts (s : List UInt8) : List (List UInt8) := cutBy 45 s
theorem index_hit (c : UInt8) (l : List UInt8) : Lib.index (c :: l) [c] = 0 := by
  have hix : Lib.index (c :: l) [c] = ((0 : Nat) : Int) := by rw [Lib.index]; simp [List.isPrefixOf]
  exact hix
theorem index_pass {b c : UInt8} (h : b ≠ c) (l : List UInt8) : Lib.index (b :: l) [c] = if Lib.index l [c] == -1 then -1 else Lib.index l [c] + 1 := by
  have hp : ([c] : List UInt8).isPrefixOf (b :: l) = false := by simp [List.isPrefixOf, Ne.symm h]
  rw [Lib.index, hp]; simp
theorem split_cut (c : UInt8) (s : List UInt8) : Lib.split s [c] = cutBy c s := by
  unfold Lib.split
  induction s with
  | nil => rw [Lib.count_one]; rfl
  | cons b l ih =>
    rw [Lib.count_one] at ih ⊢
    by_cases h : b = c
    · subst h
      rw [cutBy_hit, List.count_cons_self, Lib.splitK, if_neg (by rw [index_hit]; decide), index_hit, ← ih]
      simp
    · rw [List.count_cons_of_ne (by simpa using h)]
      obtain ⟨p, ps, hp⟩ := cutBy_form (a := c) l
      rw [cutBy_miss h hp]
      rw [hp] at ih
      cases hk : l.count c with
      | zero =>
        rw [hk] at ih
        simp only [Lib.splitK] at ih ⊢
        injection ih with e1 e2
        rw [e1, e2]
      | succ k =>
        rw [hk] at ih
        have hne : ¬ (Lib.index l [c] == -1) = true := by
          intro e
          have h0 := Lib.count_miss (beq_iff_eq.1 e)
          rw [Lib.count_one, hk] at h0
          omega
        have hge := Lib.index_ge l [c]
        have hne2 : Lib.index l [c] ≠ -1 := fun e => hne (beq_iff_eq.2 e)
        obtain ⟨i, hi⟩ : ∃ i : Nat, Lib.index l [c] = i := ⟨(Lib.index l [c]).toNat, by omega⟩
        rw [Lib.splitK, if_neg hne, hi] at ih
        rw [Lib.splitK, index_pass h, if_neg hne, hi]
        have hne3 : ¬ (((i : Int) + 1) == -1) = true := by intro e; have := beq_iff_eq.1 e; omega
        rw [if_neg hne3, show ((i : Int) + 1).toNat = i + 1 by omega]
        simp only [Int.toNat_natCast, Nat.add_zero, List.length_cons, List.length_nil, List.take_succ_cons] at ih ⊢
        injection ih with e1 e2
        rw [e1, ← e2]
        simp
theorem goodW_free {l : List UInt8} (h : goodW l = true) : (45 : UInt8) ∉ l := by
  intro hm
  unfold goodW at h
  simp only [Bool.and_eq_true] at h
  have := List.all_eq_true.1 h.2.2 45 hm
  exact absurd this (by decide)
theorem goodW_len {l : List UInt8} (h : goodW l = true) : 1 ≤ l.length ∧ l.length ≤ 20 := by
  unfold goodW at h
  simp only [Bool.and_eq_true, decide_eq_true_eq] at h
  exact ⟨h.1, h.2.1⟩
end Go.Proofs.YtkjcnpckajpogaaDoor
