/- Numbers as lists of digits in any base: plain mathematics, without conditions. -/
namespace Go.Proofs.YtbmpbcnhgnmekaaDoor
/-- The number that a list of digits in base b tells, the least significant one first. -/
def val (b : Nat) : List Nat → Nat
  | [] => 0
  | x :: xs => x + b * val b xs
/-- The digits of n in base b, none of noughts at the end. -/
def digs (b n : Nat) : List Nat := if _h : n = 0 ∨ b < 2 then [] else n % b :: digs b (n / b)
termination_by n
decreasing_by exact Nat.div_lt_self (by omega) (by omega)
theorem digs_zero (b : Nat) : digs b 0 = [] := by rw [digs]; simp
theorem digs_pos {b n : Nat} (hb : 2 ≤ b) (hn : 0 < n) : digs b n = n % b :: digs b (n / b) := by rw [digs, dif_neg (by omega)]
theorem val_digs {b : Nat} (hb : 2 ≤ b) (n : Nat) : val b (digs b n) = n := by
  induction n using Nat.strongRecOn with
  | _ n ih =>
    by_cases hn : n = 0
    · subst hn; rw [digs_zero]; rfl
    · rw [digs_pos hb (by omega), val, ih _ (Nat.div_lt_self (by omega) (by omega))]; exact Nat.mod_add_div n b
theorem digs_lt {b : Nat} (hb : 2 ≤ b) (n : Nat) : ∀ x ∈ digs b n, x < b := by
  induction n using Nat.strongRecOn with
  | _ n ih =>
    by_cases hn : n = 0
    · subst hn; rw [digs_zero]; simp
    · rw [digs_pos hb (by omega)]
      intro x hx
      rcases List.mem_cons.1 hx with rfl | hx
      · exact Nat.mod_lt _ (by omega)
      · exact ih _ (Nat.div_lt_self (by omega) (by omega)) x hx
theorem val_append (b : Nat) (xs ys : List Nat) : val b (xs ++ ys) = val b xs + b ^ xs.length * val b ys := by
  induction xs with
  | nil => simp [val]
  | cons x xs ih => simp only [List.cons_append, val, ih, List.length_cons, Nat.pow_succ, Nat.mul_add]; rw [Nat.mul_comm (b ^ xs.length) b, Nat.mul_assoc, Nat.add_assoc]
theorem val_snoc (b : Nat) (xs : List Nat) (y : Nat) : val b (xs ++ [y]) = val b xs + b ^ xs.length * y := by rw [val_append]; simp [val]
theorem val_lt {b : Nat} (xs : List Nat) (h : ∀ x ∈ xs, x < b) : val b xs < b ^ xs.length := by
  induction xs with
  | nil => simp [val]
  | cons x xs ih =>
    have h1 := h x (by simp)
    have h2 := ih fun y hy => h y (by simp [hy])
    simp only [val, List.length_cons, Nat.pow_succ]
    have h3 : b * (val b xs + 1) ≤ b * b ^ xs.length := Nat.mul_le_mul_left _ h2
    rw [Nat.mul_comm (b ^ xs.length) b]; rw [Nat.mul_add] at h3; omega
theorem digs_val {b : Nat} (hb : 2 ≤ b) (l : List Nat) (h : ∀ x ∈ l, x < b) (hl : ∀ x, l.getLast? = some x → x ≠ 0) : digs b (val b l) = l := by
  induction l with
  | nil => exact digs_zero b
  | cons x xs ih =>
    have hx := h x (by simp)
    have hv : 0 < val b (x :: xs) := by
      simp only [val]
      cases xs with
      | nil => have := hl x rfl; simp [val]; omega
      | cons y ys =>
        have e := ih (fun z hz => h z (by simp [hz])) (fun z hz => hl z (by rw [List.getLast?_cons_cons]; exact hz))
        have : 0 < val b (y :: ys) := by
          rcases Nat.eq_zero_or_pos (val b (y :: ys)) with h0 | h0
          · rw [h0, digs_zero] at e; simp at e
          · exact h0
        have := Nat.mul_pos (show 0 < b by omega) this
        omega
    rw [digs_pos hb hv]
    simp only [val]
    rw [Nat.add_mul_mod_self_left, Nat.mod_eq_of_lt hx, Nat.add_mul_div_left _ _ (by omega), Nat.div_eq_of_lt hx, Nat.zero_add]
    cases xs with
    | nil => simp [val, digs_zero]
    | cons y ys => rw [ih (fun z hz => h z (by simp [hz])) (fun z hz => hl z (by rw [List.getLast?_cons_cons]; exact hz))]
theorem val_zeros (b k : Nat) : val b (List.replicate k 0) = 0 := by
  induction k with
  | zero => rfl
  | succ k ih => simp [List.replicate_succ, val, ih]
theorem zeros_of {l : List Nat} (h : ∀ j : Nat, l[j]?.getD 0 = 0) : l = List.replicate l.length 0 := by
  apply List.ext_getElem (by simp)
  intro i h1 h2
  have := h i
  rw [List.getElem?_eq_getElem h1] at this
  simpa using this
theorem val_take_zeros (b : Nat) (l : List Nat) (k : Nat) (h : ∀ j : Nat, k ≤ j → l[j]?.getD 0 = 0) : val b (l.take k) = val b l := by
  have e : val b l = val b (l.take k ++ l.drop k) := by rw [List.take_append_drop]
  rw [e, val_append, zeros_of (l := l.drop k) (fun j => by rw [List.getElem?_drop]; exact h _ (by omega)), val_zeros]; simp
theorem trim_eq {b : Nat} (hb : 2 ≤ b) (l : List Nat) (k : Nat) (h : ∀ x ∈ l, x < b) (hk : k ≤ l.length) (hz : ∀ j : Nat, k ≤ j → l[j]?.getD 0 = 0) (hl : 0 < k → l[k - 1]?.getD 0 ≠ 0) : l.take k = digs b (val b l) := by
  rw [← val_take_zeros b l k hz, digs_val hb _ (fun x hx => h x (List.mem_of_mem_take hx))]
  intro x hx
  rw [List.getLast?_eq_getElem?, List.length_take, Nat.min_eq_left hk] at hx
  rcases Nat.eq_zero_or_pos k with rfl | h0
  · simp at hx
  · rw [List.getElem?_take, if_pos (by omega)] at hx
    have := hl h0
    rw [hx] at this
    simpa using this
theorem digs_len_le {b : Nat} (hb : 2 ≤ b) (l : List Nat) (h : ∀ x ∈ l, x < b) : (digs b (val b l)).length ≤ l.length := by
  induction l with
  | nil => simp [val, digs_zero]
  | cons x xs ih =>
    have hx := h x (by simp)
    have h1 := ih fun y hy => h y (by simp [hy])
    rcases Nat.eq_zero_or_pos (val b (x :: xs)) with h0 | h0
    · rw [h0, digs_zero]; simp
    · rw [digs_pos hb h0]
      simp only [val]
      rw [Nat.add_mul_div_left _ _ (by omega), Nat.div_eq_of_lt hx, Nat.zero_add]
      simp; exact h1
/-- The last digit isn't 0. -/
theorem digs_last {b : Nat} (hb : 2 ≤ b) (n : Nat) : ∀ x, (digs b n).getLast? = some x → x ≠ 0 := by
  induction n using Nat.strongRecOn with
  | _ n ih =>
    intro x hx
    by_cases hn : n = 0
    · subst hn; rw [digs_zero] at hx; simp at hx
    · rw [digs_pos hb (by omega)] at hx
      by_cases hz : n / b = 0
      · rw [hz, digs_zero] at hx
        simp at hx
        have := Nat.mod_add_div n b
        rw [hz] at this
        omega
      · rw [digs_pos hb (Nat.pos_of_ne_zero hz), List.getLast?_cons_cons, ← digs_pos hb (Nat.pos_of_ne_zero hz)] at hx
        exact ih _ (Nat.div_lt_self (by omega) (by omega)) x hx
theorem digs_len_pos {b n : Nat} (hb : 2 ≤ b) : (digs b n).length = 0 ↔ n = 0 := by
  constructor
  · intro h
    have := val_digs hb n
    rw [List.eq_nil_of_length_eq_zero h] at this
    exact this.symm
  · rintro rfl; rw [digs_zero]; rfl
theorem pow_le_of_digs {b n : Nat} (hb : 2 ≤ b) (hn : 0 < n) : b ^ ((digs b n).length - 1) ≤ n := by
  induction n using Nat.strongRecOn with
  | _ n ih =>
    rw [digs_pos hb hn]
    simp only [List.length_cons, Nat.add_sub_cancel]
    by_cases hz : n / b = 0
    · rw [hz, digs_zero]; simp; omega
    · have h1 := ih _ (Nat.div_lt_self (by omega) (by omega)) (Nat.pos_of_ne_zero hz)
      have h2 : (digs b (n / b)).length ≠ 0 := fun h => hz ((digs_len_pos hb).1 h)
      obtain ⟨m, hm⟩ : ∃ m, (digs b (n / b)).length = m + 1 := ⟨_, (Nat.sub_add_cancel (by omega)).symm⟩
      rw [hm] at h1 ⊢
      rw [Nat.pow_succ]
      exact Nat.le_trans (Nat.mul_le_mul_right _ h1) (Nat.div_mul_le_self n b)
theorem lt_pow_digs {b : Nat} (hb : 2 ≤ b) (n : Nat) : n < b ^ (digs b n).length := by
  have := val_lt (digs b n) (digs_lt hb n)
  rwa [val_digs hb] at this
theorem digs_len_lt {b m n : Nat} (hb : 2 ≤ b) (h : (digs b m).length < (digs b n).length) : m < n := by
  have h1 := lt_pow_digs hb m
  have h2 : 0 < n := by
    rcases Nat.eq_zero_or_pos n with rfl | h2
    · rw [digs_zero] at h; simp at h
    · exact h2
  have h3 := pow_le_of_digs hb h2
  have h4 : b ^ (digs b m).length ≤ b ^ ((digs b n).length - 1) := Nat.pow_le_pow_right (by omega) (by omega)
  omega
theorem digs_len_mono {b m n : Nat} (hb : 2 ≤ b) (h : m ≤ n) : (digs b m).length ≤ (digs b n).length := by
  rcases Nat.lt_or_ge (digs b n).length (digs b m).length with h1 | h1
  · have := digs_len_lt hb h1; omega
  · exact h1
theorem digs_inj {b m n : Nat} (hb : 2 ≤ b) (h : digs b m = digs b n) : m = n := by rw [← val_digs hb m, h, val_digs hb]
/-- Two lists of one length that agree above place i and differ there. -/
theorem val_cmp {b : Nat} (l m : List Nat) (i : Nat) (hl : ∀ x ∈ l, x < b) (hlen : l.length = m.length) (hi : i < l.length) (heq : l.drop (i + 1) = m.drop (i + 1)) (hlt : l[i]?.getD 0 < m[i]?.getD 0) : val b l < val b m := by
  have e1 : val b l = val b (l.take i ++ (l[i] :: l.drop (i + 1))) := by rw [List.getElem_cons_drop, List.take_append_drop]
  have e2 : val b m = val b (m.take i ++ (m[i]'(by omega) :: m.drop (i + 1))) := by rw [List.getElem_cons_drop, List.take_append_drop]
  rw [e1, e2, val_append, val_append]
  simp only [val, List.length_take, ← hlen, heq]
  rw [List.getElem?_eq_getElem hi, List.getElem?_eq_getElem (by omega)] at hlt
  simp only [Option.getD_some] at hlt
  have h1 : val b (l.take i) < b ^ i := by
    have := val_lt (b := b) (l.take i) (fun x hx => hl x (List.mem_of_mem_take hx))
    rwa [List.length_take, Nat.min_eq_left (by omega)] at this
  rw [Nat.min_eq_left (by omega), Nat.mul_add, Nat.mul_add]
  have h2 : b ^ i * (l[i] + 1) ≤ b ^ i * (m[i]'(by omega)) := Nat.mul_le_mul_left _ hlt
  rw [Nat.mul_add] at h2
  omega
end Go.Proofs.YtbmpbcnhgnmekaaDoor
