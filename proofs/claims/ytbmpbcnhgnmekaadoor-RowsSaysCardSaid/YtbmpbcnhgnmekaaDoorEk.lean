/- Plain mathematics on tables: what is shown is read again; a text and another behind it. No conditions. -/
import Derived.Test.YtbmpbcnhgnmekaaDoorEi
open Go.RowKit
set_option maxRecDepth 100000
namespace Go.Proofs.YtbmpbcnhgnmekaaDoor
theorem mem_while {α : Type} {p : α → Bool} {x : α} : ∀ {l : List α}, x ∈ l.takeWhile p → p x = true
  | [], h => by cases h
  | a :: l, h => by
    rw [List.takeWhile_cons] at h
    split at h
    · rename_i ha
      rcases List.mem_cons.1 h with rfl | h
      · exact ha
      · exact mem_while h
    · cases h
theorem while_all {α : Type} {p : α → Bool} {l : List α} (h : ∀ x ∈ l, p x = true) : l.takeWhile p = l := by
  induction l with
  | nil => rfl
  | cons a l ih => rw [List.takeWhile_cons, if_pos (h a (by simp)), ih (fun x hx => h x (by simp [hx]))]
/-- Words that a row may have. -/
def GoodWs (ws : List ByteArray) : Prop := ws ≠ [] ∧ ws.length ≤ 24 ∧ ∀ w ∈ ws, w.data.toList ≠ [] ∧ isRemark w = false ∧ ∀ c ∈ w.data.toList, plainC c = true ∧ c ≠ 32
theorem goodws_of {l : ByteArray} (h1 : plainB l = true) (h2 : (wordsB l).length ≤ 24) (h3 : wordsB l ≠ []) : GoodWs (wordsB l) := by
  refine ⟨h3, h2, fun w hw => ?_⟩
  unfold wordsB wordsIn at hw
  obtain ⟨hw1, hw2⟩ := List.mem_filter.1 hw
  have hw3 := mem_while hw1
  have hw4 : w ∈ pieces 32 l := (List.takeWhile_sublist _).subset hw1
  have hw5 : w.data.toList ∈ cutBy 32 l.data.toList := by rw [← pieces_data]; exact List.mem_map_of_mem hw4
  refine ⟨by simpa using hw2, by unfold isRemark; simpa using hw3, fun c hc => ⟨?_, fun e => ?_⟩⟩
  · exact List.all_eq_true.1 h1 c (cutBy_mem _ _ hw5 c hc)
  · exact cutBy_free _ _ hw5 (e ▸ hc)
theorem glue_mem {α : Type} {a c : α} : ∀ {ps : List (List α)}, c ∈ glue a ps → c = a ∨ ∃ p ∈ ps, c ∈ p
  | [], h => by cases h
  | [p], h => .inr ⟨p, by simp, h⟩
  | p :: q :: r, h => by
    rw [glue_cons p (List.cons_ne_nil q r)] at h
    rcases List.mem_append.1 h with h | h
    · exact .inr ⟨p, by simp, h⟩
    · rcases List.mem_cons.1 h with h | h
      · exact .inl h
      · rcases glue_mem h with h | ⟨x, hx, hc⟩
        · exact .inl h
        · exact .inr ⟨x, by simp at hx ⊢; exact .inr hx, hc⟩
theorem words_join {ws : List ByteArray} (h : GoodWs ws) : wordsB (joinW ws) = ws ∧ plainB (joinW ws) = true := by
  obtain ⟨h1, h2, h3⟩ := h
  have e1 : (joinW ws).data.toList = glue 32 (ws.map (·.data.toList)) := rfl
  have e2 : pieces 32 (joinW ws) = ws := by
    refine map_data_inj ?_
    rw [pieces_data, e1]
    refine cutBy_glue (by simpa using h1) fun p hp => ?_
    obtain ⟨w, hw, rfl⟩ := List.mem_map.1 hp
    exact fun hc => ((h3 w hw).2.2 32 hc).2 rfl
  refine ⟨?_, ?_⟩
  · unfold wordsB wordsIn
    rw [e2, while_all (fun w hw => by have := (h3 w hw).2.1; unfold isRemark at this; rw [this]; rfl)]
    refine List.filter_eq_self.2 fun w hw => ?_
    simpa using (h3 w hw).1
  · unfold plainB
    rw [e1]
    refine List.all_eq_true.2 fun c hc => ?_
    rcases glue_mem hc with rfl | ⟨p, hp, hc⟩
    · decide
    · obtain ⟨w, hw, rfl⟩ := List.mem_map.1 hp
      exact ((h3 w hw).2.2 c hc).1
theorem rowsOf_good : ∀ (ls : List ByteArray) (i k : Nat), k ≤ 2000 → (∀ r ∈ (rowsOf i k ls).1, GoodWs r.2) ∧ (rowsOf i k ls).1.length + k ≤ 2000
  | [], i, k, hk => by rw [rowsOf]; simp; exact hk
  | l :: ls, i, k, hk => by
    rw [rowsOf]
    split
    · simp; exact hk
    · rename_i h1
      split
      · exact rowsOf_good ls (i + 1) k hk
      · rename_i h2
        split
        · simp; exact hk
        · split
          · obtain ⟨g1, g2⟩ := rowsOf_good ls (i + 1) (k + 1) (by omega)
            refine ⟨fun r hr => ?_, by simp only [List.length_cons]; omega⟩
            rcases List.mem_cons.1 hr with rfl | hr
            · refine goodws_of ?_ ?_ h2
              · cases hp : plainB l with
                | true => rfl
                | false => exact absurd (.inl hp) h1
              · exact Nat.not_lt.1 fun h => h1 (.inr h)
            · exact g1 r hr
          · simp; exact hk
/-- The same rows, told one behind the other. -/
def renum : Nat → List TRow → List TRow
  | _, [] => []
  | i, r :: rs => (i + 1, r.2) :: renum (i + 1) rs
theorem renum_len : ∀ (rs : List TRow) (i : Nat), (renum i rs).length = rs.length
  | [], _ => rfl
  | r :: rs, i => by rw [renum, List.length_cons, List.length_cons, renum_len rs (i + 1)]
theorem renum_get : ∀ (rs : List TRow) (i j : Nat) (r : TRow), rs[j]? = some r → (renum i rs)[j]? = some (i + j + 1, r.2)
  | [], i, j, r, h => by simp at h
  | r' :: rs, i, 0, r, h => by simp at h; subst h; simp [renum]
  | r' :: rs, i, j + 1, r, h => by
    have := renum_get rs (i + 1) j r (by simpa using h)
    rw [renum, List.getElem?_cons_succ, this]
    congr 2; omega
theorem showL_renum (i : Nat) (rs : List TRow) : showL (renum i rs) = showL rs := by
  induction rs generalizing i with
  | nil => rfl
  | cons r rs ih =>
    have := ih (i + 1)
    unfold showL at this ⊢
    rw [renum, List.map_cons, List.map_cons, List.flatten_cons, List.flatten_cons, this]
theorem rowsOf_show : ∀ (rs : List TRow) (i k : Nat), (∀ r ∈ rs, GoodWs r.2) → k + rs.length ≤ 2000 → rowsOf i k (rs.map (fun r => joinW r.2) ++ [⟨#[]⟩]) = (renum i rs, 0, 0)
  | [], i, k, _, _ => by
    have h1 : wordsB ⟨#[]⟩ = [] := by decide
    rw [List.map_nil, List.nil_append, rowsOf, if_neg (by rw [h1]; decide), if_pos h1, rowsOf]; rfl
  | r :: rs, i, k, h, hk => by
    obtain ⟨h1, h2⟩ := words_join (h r (by simp))
    have h3 := h r (by simp)
    have ih := rowsOf_show rs (i + 1) (k + 1) (fun r hr => h r (by simp [hr])) (by simp only [List.length_cons] at hk; omega)
    simp only [List.length_cons] at hk
    rw [List.map_cons, List.cons_append, rowsOf, h1, h2, if_neg (by have := h3.2.1; simp; omega), if_neg h3.1, if_neg (by omega), ih, if_pos rfl, renum]
theorem plain_no10 {l : ByteArray} (h : plainB l = true) : ¬ (10 : UInt8) ∈ l.data.toList := fun hm => by
  have := List.all_eq_true.1 h 10 hm
  exact absurd this (by decide)
theorem pieces_show {rs : List TRow} (h : ∀ r ∈ rs, GoodWs r.2) : pieces 10 (showB rs) = rs.map (fun r => joinW r.2) ++ [⟨#[]⟩] := by
  have key : cutBy 10 (showL rs) = rs.map (fun r => (joinW r.2).data.toList) ++ [[]] := by
    induction rs with
    | nil => rfl
    | cons r rs ih =>
      have h1 := plain_no10 (words_join (h r (by simp))).2
      have e : showL (r :: rs) = (joinW r.2).data.toList ++ 10 :: showL rs := by unfold showL; simp
      rw [e, cutBy_lead h1, ih (fun r hr => h r (by simp [hr]))]; rfl
  refine map_data_inj ?_
  rw [pieces_data, show (showB rs).data.toList = showL rs from rfl, key, List.map_append, List.map_map]; rfl
/-- Sizes. -/
def msr (xs : List ByteArray) : Nat := (xs.map fun x => x.size + 1).sum
theorem msr_sub {xs ys : List ByteArray} (h : xs.Sublist ys) : msr xs ≤ msr ys := by
  induction h with
  | slnil => exact Nat.le_refl _
  | cons a _ ih => unfold msr at *; simp only [List.map_cons, List.sum_cons]; omega
  | cons_cons a _ ih => unfold msr at *; simp only [List.map_cons, List.sum_cons]; omega
theorem msr_pieces (c : UInt8) (s : ByteArray) : msr (pieces c s) = s.size + 1 := by
  have h1 := cutBy_all (a := c) s.data.toList
  have h2 := cutBy_cnt (a := c) s.data.toList
  have h3 : ∀ ls : List (List UInt8), msr (ls.map fun l => ⟨l.toArray⟩) = (ls.map List.length).sum + ls.length := fun ls => by
    induction ls with
    | nil => rfl
    | cons l ls ih =>
      unfold msr at *
      simp only [List.map_cons, List.sum_cons, List.length_cons, ih]
      have : (⟨l.toArray⟩ : ByteArray).size = l.length := by rw [Lib.size_eq]
      omega
  unfold pieces
  rw [h3, h2, Lib.size_eq]
  omega
theorem glue_size : ∀ {ws : List ByteArray}, ws ≠ [] → (joinW ws).size + 1 = msr ws
  | [], h => absurd rfl h
  | [w], _ => by
    have : (joinW [w]).size = w.size := by rw [Lib.size_eq, Lib.size_eq]; rfl
    rw [this]; unfold msr; simp
  | w :: x :: ws, _ => by
    have ih := glue_size (ws := x :: ws) (List.cons_ne_nil _ _)
    have e : (joinW (w :: x :: ws)).size = w.size + 1 + (joinW (x :: ws)).size := by
      rw [Lib.size_eq, Lib.size_eq, Lib.size_eq]
      show (glue 32 (w.data.toList :: x.data.toList :: ws.map (·.data.toList))).length = _
      rw [glue_cons _ (List.cons_ne_nil _ _), List.length_append, List.length_cons]
      show _ = w.data.toList.length + 1 + (glue 32 ((x :: ws).map (·.data.toList))).length
      rw [List.map_cons]; omega
    unfold msr at *
    simp only [List.map_cons, List.sum_cons] at *
    omega
theorem join_le {l : ByteArray} (h : wordsB l ≠ []) : (joinW (wordsB l)).size ≤ l.size := by
  have h1 := glue_size h
  have h2 : msr (wordsB l) ≤ msr (pieces 32 l) := msr_sub (List.filter_sublist.trans (List.takeWhile_sublist _))
  rw [msr_pieces] at h2
  omega
theorem rows_size : ∀ (ls : List ByteArray) (i k : Nat), (showL (rowsOf i k ls).1).length ≤ msr ls
  | [], i, k => by rw [rowsOf]; exact Nat.le_refl _
  | l :: ls, i, k => by
    have e : msr (l :: ls) = l.size + 1 + msr ls := by unfold msr; simp
    rw [rowsOf, e]
    split
    · exact Nat.zero_le _
    · split
      · have := rows_size ls (i + 1) k; omega
      · rename_i h2
        split
        · exact Nat.zero_le _
        · split
          · have h3 := rows_size ls (i + 1) (k + 1)
            have h4 := join_le h2
            have e2 : ∀ (r : TRow) (rs : List TRow), (showL (r :: rs)).length = (joinW r.2).size + 1 + (showL rs).length := fun r rs => by
              unfold showL
              rw [List.map_cons, List.flatten_cons, List.length_append, List.length_append, ← Lib.size_eq]; rfl
            rw [e2]; simp only; omega
          · exact Nat.zero_le _
/-- What is shown of a text that is read. -/
theorem table_show {t : ByteArray} (ht : t.size ≤ 2000) {rs : List TRow} (h : tableOf t = (rs, 0, 0)) : tableOf (showB rs) = (renum 0 rs, 0, 0) ∧ (showL rs).length ≤ 2001 ∧ rs.length ≤ 2000 ∧ (∀ r ∈ rs, r.2.length ≤ 24) := by
  unfold tableOf at h
  rw [if_neg (by omega)] at h
  have h1 := rowsOf_good (pieces 10 t) 0 0 (Nat.zero_le _)
  have h2 := rows_size (pieces 10 t) 0 0
  rw [h] at h1 h2
  rw [msr_pieces] at h2
  simp only at h1 h2
  refine ⟨?_, by omega, by simpa using h1.2, fun r hr => (h1.1 r hr).2.1⟩
  unfold tableOf
  have h3 : (showB rs).size = (showL rs).length := by rw [Lib.size_eq]; rfl
  rw [if_neg (by rw [h3]; omega), pieces_show h1.1]
  exact rowsOf_show rs 0 0 h1.1 (by have := h1.2; omega)
theorem table_err {t : ByteArray} {rs : List TRow} {n e : Nat} (h : tableOf t = (rs, n, e)) (he : e ≠ 0) : rs = [] := by
  unfold tableOf at h
  split at h
  · injection h with h1 _; exact h1.symm
  · have h1 := (rowsOf_form (pieces 10 t) 0 0).2
    rw [h] at h1
    exact h1 he
end Go.Proofs.YtbmpbcnhgnmekaaDoor
