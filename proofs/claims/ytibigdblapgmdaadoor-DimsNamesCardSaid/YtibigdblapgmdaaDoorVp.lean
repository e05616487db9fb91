/- Which rows are named: plain mathematics. No conditions. -/
import Derived.Test.YtibigdblapgmdaaDoorVa
namespace Go.Proofs.YtibigdblapgmdaaDoor
theorem vtoList_loop (bs : ByteArray) (k : Nat) : ∀ i r, bs.size - i = k → ByteArray.toList.loop bs i r = r.reverse ++ bs.data.toList.drop i := by
  induction k with
  | zero =>
    intro i r h
    unfold ByteArray.toList.loop
    rw [if_neg (by omega), List.drop_of_length_le (by show bs.data.size ≤ i; have : bs.data.size = bs.size := rfl; omega), List.append_nil]
  | succ k ih =>
    intro i r h
    have hi : i < bs.data.toList.length := by show i < bs.data.size; have : bs.data.size = bs.size := rfl; omega
    unfold ByteArray.toList.loop
    rw [if_pos (by omega), ih (i + 1) _ (by omega), List.drop_eq_getElem_cons hi, List.reverse_cons, List.append_assoc]
    congr 2
    show bs.get! i :: _ = _
    have : bs.get! i = bs.data.toList[i] := by
      show bs.data[i]! = _
      rw [getElem!_pos bs.data i hi]; rfl
    rw [this]; rfl
theorem vtoList_data (bs : ByteArray) : bs.toList = bs.data.toList := by
  unfold ByteArray.toList
  rw [vtoList_loop bs _ 0 [] rfl]; rfl
section
variable (f : Nat → V8) (g : Nat → ByteArray)
/-- Row i gets no name, when the rows ps have one. -/
def dupB (ps : List Nat) (i : Nat) : Bool := (g i).toList.isEmpty || ps.any fun j => decide (f j = f i)
/-- Of the first i rows those that are named, in order. -/
def sel : Nat → List Nat
  | 0 => []
  | i + 1 => if dupB f g (sel i) i then sel i else sel i ++ [i]
theorem sel_lt : ∀ (i j : Nat), j ∈ sel f g i → j < i
  | 0, j, h => by cases h
  | i + 1, j, h => by
    unfold sel at h
    split at h
    · exact Nat.lt_succ_of_lt (sel_lt i j h)
    · rcases List.mem_append.1 h with h | h
      · exact Nat.lt_succ_of_lt (sel_lt i j h)
      · rw [List.mem_singleton.1 h]; exact Nat.lt_succ_self _
theorem sel_len : ∀ i : Nat, (sel f g i).length ≤ i
  | 0 => Nat.le_refl _
  | i + 1 => by
    have := sel_len i
    unfold sel
    split
    · omega
    · rw [List.length_append]; simp; exact this
/-- The test as far as the k-th of the rows that are named. -/
def dupTo (ps : List Nat) (i k : Nat) : Bool := (g i).toList.isEmpty || (ps.take k).any fun j => decide (f j = f i)
theorem dupTo_zero (ps : List Nat) (i : Nat) : dupTo f g ps i 0 = (g i).toList.isEmpty := by simp [dupTo]
theorem dupTo_all (ps : List Nat) (i : Nat) : dupTo f g ps i ps.length = dupB f g ps i := by simp [dupTo, dupB]
theorem dupTo_succ {ps : List Nat} {i k j : Nat} (h : ps[k]? = some j) : dupTo f g ps i (k + 1) = (dupTo f g ps i k || decide (f j = f i)) := by
  unfold dupTo
  obtain ⟨hk, rfl⟩ := List.getElem?_eq_some_iff.1 h
  rw [List.take_succ_eq_append_getElem hk, List.any_append, Bool.or_assoc]
  simp
theorem dup_mem {ps : List Nat} {i : Nat} (h : (g i).toList.isEmpty = false) : dupB f g ps i = decide (f i ∈ ps.map f) := by
  unfold dupB
  rw [h, Bool.false_or, Bool.eq_iff_iff, List.any_eq_true, decide_eq_true_iff, List.mem_map]
  constructor
  · rintro ⟨j, hj, e⟩; exact ⟨j, hj, of_decide_eq_true e⟩
  · rintro ⟨j, hj, e⟩; exact ⟨j, hj, decide_eq_true e⟩
theorem sel_dup {i : Nat} (h : dupB f g (sel f g i) i = true) : sel f g (i + 1) = sel f g i := by rw [sel, if_pos h]
theorem sel_new {i : Nat} (h : dupB f g (sel f g i) i = false) : sel f g (i + 1) = sel f g i ++ [i] := by rw [sel, if_neg (by rw [h]; decide)]
theorem dup_no {ps : List Nat} {i : Nat} (h : dupB f g ps i = false) : (g i).toList.isEmpty = false ∧ ¬ f i ∈ ps.map f := by
  have h1 : (g i).toList.isEmpty = false := by
    cases h2 : (g i).toList.isEmpty with
    | false => rfl
    | true => unfold dupB at h; rw [h2] at h; cases h
  rw [dup_mem f g h1] at h
  exact ⟨h1, of_decide_eq_false h⟩
theorem dup_yes {ps : List Nat} {i : Nat} (h : dupB f g ps i = true) : f i ∈ ps.map f ∨ (¬ f i ∈ ps.map f ∧ g i = ⟨#[]⟩) := by
  by_cases hm : f i ∈ ps.map f
  · exact .inl hm
  · refine .inr ⟨hm, ?_⟩
    cases h2 : (g i).toList.isEmpty with
    | false => rw [dup_mem f g h2] at h; exact absurd (of_decide_eq_true h) hm
    | true =>
      have h3 : (g i).data.toList = [] := by rw [← vtoList_data]; exact List.isEmpty_iff.1 h2
      cases hg : g i with
      | mk d => rw [hg] at h3; simp at h3; rw [h3]
end
end Go.Proofs.YtibigdblapgmdaaDoor
