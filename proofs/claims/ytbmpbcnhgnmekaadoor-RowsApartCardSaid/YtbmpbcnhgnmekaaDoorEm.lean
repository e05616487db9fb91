/- A text and another one behind it: the rows of both. Plain mathematics. No conditions. -/
import Derived.Test.YtbmpbcnhgnmekaaDoorEk
open Go.RowKit
set_option maxRecDepth 100000
namespace Go.Proofs.YtbmpbcnhgnmekaaDoor
theorem cutBy_two {α : Type} [DecidableEq α] (a : α) (r : List α) : ∀ l : List α, cutBy a (l ++ a :: r) = cutBy a l ++ cutBy a r
  | [] => by rw [List.nil_append, cutBy_hit, cutBy_nil]; rfl
  | c :: l => by
    have ih := cutBy_two a r l
    obtain ⟨p, ps, h⟩ := cutBy_form (a := a) l
    by_cases hc : c = a
    · subst hc; rw [List.cons_append, cutBy_hit, cutBy_hit, ih]; rfl
    · rw [List.cons_append, cutBy_miss hc h, cutBy_miss hc (p := p) (ps := ps ++ cutBy a r) (by rw [ih, h]; rfl)]; rfl
/-- A text, an end of a line, a text. -/
def twoB (a b : ByteArray) : ByteArray := a ++ ⟨#[10]⟩ ++ b
theorem twoB_data (a b : ByteArray) : (twoB a b).data.toList = a.data.toList ++ 10 :: b.data.toList := by
  unfold twoB; simp [ByteArray.data_append]
theorem twoB_size (a b : ByteArray) : (twoB a b).size = a.size + 1 + b.size := by
  rw [Lib.size_eq, Lib.size_eq, Lib.size_eq, twoB_data]; simp; omega
theorem pieces_two (a b : ByteArray) : pieces 10 (twoB a b) = pieces 10 a ++ pieces 10 b := by
  refine map_data_inj ?_
  rw [List.map_append, pieces_data, pieces_data, pieces_data, twoB_data, cutBy_two]
theorem rowsOf_len : ∀ (ls : List ByteArray) (i k : Nat), (rowsOf i k ls).1.length ≤ ls.length
  | [], i, k => by rw [rowsOf]; exact Nat.le_refl _
  | l :: ls, i, k => by
    have h1 := rowsOf_len ls (i + 1) k
    have h2 := rowsOf_len ls (i + 1) (k + 1)
    rw [rowsOf]
    split
    · simp
    · split
      · simp; omega
      · split
        · simp
        · split
          · simp; omega
          · simp
theorem rowsOf_line : ∀ (ls : List ByteArray) (i k : Nat), (rowsOf i k ls).2.2 ≠ 0 → 1 ≤ (rowsOf i k ls).2.1
  | [], i, k => by rw [rowsOf]; intro h; exact absurd rfl h
  | l :: ls, i, k => by
    have h1 := rowsOf_line ls (i + 1) k
    have h2 := rowsOf_line ls (i + 1) (k + 1)
    rw [rowsOf]
    split
    · intro _; simp
    · split
      · exact h1
      · split
        · intro _; simp
        · split
          · intro h; exact absurd rfl h
          · exact fun _ => h2 (by assumption)
theorem rowsOf_two : ∀ (ls ms : List ByteArray) (i k : Nat), rowsOf i k (ls ++ ms) = if (rowsOf i k ls).2.2 = 0 then comb (rowsOf i k ls).1 (rowsOf (i + ls.length) (k + (rowsOf i k ls).1.length) ms) else rowsOf i k ls
  | [], ms, i, k => by
    have e : rowsOf i k [] = ([], 0, 0) := by rw [rowsOf]
    rw [e, if_pos rfl, List.nil_append]
    exact comb_start.symm
  | l :: ls, ms, i, k => by
    have h1 := rowsOf_two ls ms (i + 1) k
    have h2 := rowsOf_two ls ms (i + 1) (k + 1)
    have ei : i + 1 + ls.length = i + (l :: ls).length := by simp; omega
    rw [List.cons_append, rowsOf, rowsOf]
    by_cases g1 : plainB l = false ∨ 24 < (wordsB l).length
    · rw [if_pos g1, if_pos g1]; rfl
    · rw [if_neg g1, if_neg g1]
      by_cases g2 : wordsB l = []
      · rw [if_pos g2, if_pos g2, h1, ei]
      · rw [if_neg g2, if_neg g2]
        by_cases g3 : k = 2000
        · rw [if_pos g3, if_pos g3]; rfl
        · rw [if_neg g3, if_neg g3, h2, ei]
          by_cases g4 : (rowsOf (i + 1) (k + 1) ls).2.2 = 0
          · rw [if_pos g4, if_pos g4, if_pos rfl]
            have e3 : k + 1 + (rowsOf (i + 1) (k + 1) ls).1.length = k + ((i + 1, wordsB l) :: (rowsOf (i + 1) (k + 1) ls).1).length := by simp; omega
            rw [e3]
            unfold comb
            split
            · rw [if_pos rfl]; rfl
            · rename_i g5; first | rfl | rw [if_neg g5]
          · rw [if_neg g4, if_neg g4, if_neg g4]
theorem rowsOf_shift : ∀ (ls : List ByteArray) (i k i' k' : Nat), k + ls.length ≤ 2000 → k' + ls.length ≤ 2000 →
    (rowsOf i k ls).2.2 = (rowsOf i' k' ls).2.2 ∧ (rowsOf i k ls).1.map (·.2) = (rowsOf i' k' ls).1.map (·.2)
  | [], i, k, i', k', _, _ => by rw [rowsOf, rowsOf]; exact ⟨rfl, rfl⟩
  | l :: ls, i, k, i', k', h, h' => by
    simp only [List.length_cons] at h h'
    obtain ⟨h1, h2⟩ := rowsOf_shift ls (i + 1) k (i' + 1) k' (by omega) (by omega)
    obtain ⟨h3, h4⟩ := rowsOf_shift ls (i + 1) (k + 1) (i' + 1) (k' + 1) (by omega) (by omega)
    rw [rowsOf, rowsOf]
    by_cases g1 : plainB l = false ∨ 24 < (wordsB l).length
    · rw [if_pos g1, if_pos g1]; exact ⟨rfl, rfl⟩
    · rw [if_neg g1, if_neg g1]
      by_cases g2 : wordsB l = []
      · rw [if_pos g2, if_pos g2]; exact ⟨h1, h2⟩
      · rw [if_neg g2, if_neg g2, if_neg (show ¬ k = 2000 by omega), if_neg (show ¬ k' = 2000 by omega)]
        by_cases g4 : (rowsOf (i + 1) (k + 1) ls).2.2 = 0
        · rw [if_pos g4, if_pos (by rw [← h3]; exact g4)]
          exact ⟨rfl, by rw [List.map_cons, List.map_cons, h4]⟩
        · rw [if_neg g4, if_neg (by rw [← h3]; exact g4)]
          exact ⟨h3, rfl⟩
/-- What is read out of both. -/
theorem table_two {a b : ByteArray} (ha : a.size ≤ 800) (hb : b.size ≤ 800) {x y : List TRow} {n m e f : Nat} (h : tableOf a = (x, n, e)) (h' : tableOf b = (y, m, f)) :
    (e ≠ 0 ∨ f ≠ 0 → ∃ j g, tableOf (twoB a b) = ([], j, g) ∧ g ≠ 0 ∧ 1 ≤ j) ∧ (e = 0 → f = 0 → ∃ y', tableOf (twoB a b) = (x ++ y', 0, 0) ∧ y'.map (·.2) = y.map (·.2)) := by
  have hs := twoB_size a b
  have la := pieces_len (c := 10) (s := a)
  have lb := pieces_len (c := 10) (s := b)
  have hT : tableOf (twoB a b) = rowsOf 0 0 (pieces 10 a ++ pieces 10 b) := by unfold tableOf; rw [if_neg (by omega), pieces_two]
  unfold tableOf at h h'
  rw [if_neg (by omega)] at h h'
  have hl := rowsOf_len (pieces 10 a) 0 0
  rw [h] at hl
  simp only at hl
  rw [hT, rowsOf_two, h]
  obtain ⟨s1, s2⟩ := rowsOf_shift (pieces 10 b) (0 + (pieces 10 a).length) (0 + x.length) 0 0 (by omega) (by omega)
  rw [h'] at s1 s2
  simp only at s1 s2
  obtain ⟨w1, w2⟩ := rowsOf_form (pieces 10 b) (0 + (pieces 10 a).length) (0 + x.length)
  have w3 := rowsOf_line (pieces 10 b) (0 + (pieces 10 a).length) (0 + x.length)
  have v2 := (rowsOf_form (pieces 10 a) 0 0).2
  have v3 := rowsOf_line (pieces 10 a) 0 0
  rw [h] at v2 v3
  simp only at v2 v3
  generalize rowsOf (0 + (pieces 10 a).length) (0 + x.length) (pieces 10 b) = q at s1 s2 w1 w2 w3 ⊢
  obtain ⟨y', n', f'⟩ := q
  simp only at s1 s2 w1 w2 w3 ⊢
  subst s1
  refine ⟨fun h3 => ?_, fun h3 h4 => ?_⟩
  · by_cases he : e = 0
    · have hf : f' ≠ 0 := h3.resolve_left (fun g => g he)
      rw [if_pos he]
      unfold comb
      simp only
      rw [if_neg hf]
      exact ⟨n', f', rfl, hf, w3 hf⟩
    · rw [if_neg he, v2 he]
      exact ⟨n, e, rfl, he, v3 he⟩
  · rw [if_pos h3]
    unfold comb
    simp only
    rw [if_pos h4]
    exact ⟨y', rfl, s2⟩
end Go.Proofs.YtbmpbcnhgnmekaaDoor
