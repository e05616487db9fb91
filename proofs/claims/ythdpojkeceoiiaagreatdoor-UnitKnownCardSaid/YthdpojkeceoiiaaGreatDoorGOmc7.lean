/- Several texts in one, each with its own sentence and conditions. -/
import Derived.Test.YthdpojkeceoiiaaGreatDoorGsd
section
/- Plain mathematics of long division by words, without conditions on memory. -/
open Go.RowKit
namespace Go.Proofs.YthdpojkeceoiiaaGreatDoor
/-- The three highest words of k + 1, by place. -/
theorem val_three (b : Nat) {L : List Nat} {k i1 i2 u0 u1 u2 : Nat} (h1 : i1 + 1 = k) (h2 : i2 + 2 = k) (e0 : L[i2]? = some u0) (e1 : L[i1]? = some u1) (e2 : L[k]? = some u2) :
    val b (L.take (k + 1)) = val b (L.take i2) + b ^ i2 * ((u2 * b + u1) * b + u0) := by
  obtain rfl : i1 = i2 + 1 := by omega
  obtain rfl : k = i2 + 2 := by omega
  rw [val_take_succ b e2, val_take_succ b e1, val_take_succ b e0, Nat.pow_succ b (i2 + 1), Nat.pow_succ]
  have a1 : b ^ i2 * b * b * u2 = b ^ i2 * (u2 * b * b) := by rw [Nat.mul_assoc, Nat.mul_assoc, Nat.mul_comm u2 b, Nat.mul_assoc, Nat.mul_comm u2 b]
  have a2 : b ^ i2 * b * u1 = b ^ i2 * (u1 * b) := by rw [Nat.mul_assoc, Nat.mul_comm b]
  rw [a1, a2, Nat.add_mul, Nat.mul_add, Nat.mul_add]; omega
/-- The two highest words of k, by place. -/
theorem val_two (b : Nat) {L : List Nat} {k i1 i2 u0 u1 : Nat} (h1 : i1 + 1 = k) (h2 : i2 + 2 = k) (hk : L.length = k) (e0 : L[i2]? = some u0) (e1 : L[i1]? = some u1) :
    val b L = val b (L.take i2) + b ^ i2 * (u1 * b + u0) := by
  obtain rfl : i1 = i2 + 1 := by omega
  obtain rfl : k = i2 + 2 := by omega
  have h : val b L = val b (L.take (i2 + 1 + 1)) := by rw [List.take_of_length_le (by omega)]
  rw [h, val_take_succ b e1, val_take_succ b e0, Nat.pow_succ, Nat.mul_add]
  have a2 : b ^ i2 * b * u1 = b ^ i2 * (u1 * b) := by rw [Nat.mul_assoc, Nat.mul_comm b]
  rw [a2]; omega
theorem val_take_lt {L : List Nat} (h : Good32 L) (i : Nat) : val W32 (L.take i) < W32 ^ i :=
  Nat.lt_of_lt_of_le (val_lt _ (good_take h i)) (Nat.pow_le_pow_right (by decide) (by rw [List.length_take]; omega))
/-- The guess is the digit, or one more. -/
theorem guess_digit {U V T D P hi lo U' V' : Nat} (hU : U = U' + P * T) (hV : V = V' + P * (hi * W32 + lo)) (hU' : U' < P) (hV' : V' < P) (hhi : 1 ≤ hi) (hD : D < W32) (hUV : U < V * W32)
    (h1 : D * (hi * W32 + lo) ≤ T) (h2 : D + 1 = W32 ∨ T < (D + 1) * (hi * W32 + lo)) : U < (D + 1) * V ∧ D * V ≤ U + V := by
  constructor
  · rcases h2 with h2 | h2
    · rw [h2, Nat.mul_comm]; exact hUV
    · have h3 : P * (T + 1) ≤ P * ((D + 1) * (hi * W32 + lo)) := Nat.mul_le_mul_left _ h2
      have h4 : (D + 1) * (P * (hi * W32 + lo)) ≤ (D + 1) * V := Nat.mul_le_mul_left _ (by omega)
      rw [Nat.mul_left_comm] at h4
      rw [Nat.mul_add, Nat.mul_one] at h3
      omega
  · have h3 : P * (D * (hi * W32 + lo)) ≤ P * T := Nat.mul_le_mul_left _ h1
    have h4 : D * V' ≤ W32 * P := Nat.mul_le_mul (Nat.le_of_lt hD) (Nat.le_of_lt hV')
    have h5 : P * W32 ≤ P * (hi * W32 + lo) := Nat.mul_le_mul_left _ (Nat.le_trans (Nat.le_mul_of_pos_left _ hhi) (Nat.le_add_right _ _))
    rw [Nat.mul_comm] at h5
    rw [hV, Nat.mul_add, Nat.mul_left_comm]
    omega
/-- No borrow: the digit is right. -/
theorem step_right {U V D s low P t c : Nat} (hVP : V ≤ P) (hU : U = low + P * t) (hsub : s + D * V = low + P * c) (h1 : U < (D + 1) * V) (hct : c ≤ t) : U / V = D ∧ U % V = s := by
  have hV : 0 < V := by
    rcases Nat.eq_zero_or_pos V with h | h
    · rw [h, Nat.mul_zero] at h1; omega
    · exact h
  rw [Nat.add_mul, Nat.one_mul] at h1
  have e : c = t := by
    rcases Nat.eq_or_lt_of_le hct with h | h
    · exact h
    · have := Nat.mul_le_mul_left P h
      rw [Nat.mul_succ] at this
      omega
  subst e
  have hU2 : U = s + V * D := by rw [Nat.mul_comm]; omega
  have hsV : s < V := by rw [Nat.mul_comm] at hU2; omega
  rw [hU2, Nat.add_mul_div_left _ _ hV, Nat.add_mul_mod_self_left, Nat.div_eq_of_lt hsV, Nat.mod_eq_of_lt hsV]
  exact ⟨by omega, rfl⟩
/-- A borrow: the digit is one less, and the rest is put right by adding once. -/
theorem step_over {U V D s s2 low P t c c2 : Nat} (hs : s < P) (hs2 : s2 < P) (hVP : V ≤ P) (hU : U = low + P * t) (hlow : low < P) (hsub : s + D * V = low + P * c) (h2 : D * V ≤ U + V) (hct : t < c) (hadd : s2 + P * c2 = s + V) :
    1 ≤ D ∧ U / V = D - 1 ∧ U % V = s2 := by
  have h3 := Nat.mul_le_mul_left P hct
  rw [Nat.mul_succ] at h3
  have hD : 1 ≤ D := by
    rcases Nat.eq_zero_or_pos D with h | h
    · subst h; rw [Nat.zero_mul] at hsub; omega
    · exact h
  have hc : P * c = P * t + P := by
    have h4 : c = t + 1 := by
      rcases Nat.eq_or_lt_of_le hct with h | h
      · exact h.symm
      · have h5 := Nat.mul_le_mul_left P h
        rw [Nat.mul_succ, Nat.mul_succ] at h5
        omega
    rw [h4, Nat.mul_succ]
  obtain ⟨E, rfl⟩ : ∃ E, D = E + 1 := ⟨D - 1, by omega⟩
  rw [Nat.add_mul, Nat.one_mul] at hsub h2
  have hc2 : c2 = 1 := by
    rcases Nat.lt_trichotomy c2 1 with h | h | h
    · obtain rfl : c2 = 0 := by omega
      rw [Nat.mul_zero] at hadd; omega
    · exact h
    · have h5 := Nat.mul_le_mul_left P (show 2 ≤ c2 from h)
      omega
  subst hc2
  rw [Nat.mul_one] at hadd
  have hU2 : U = s2 + V * E := by rw [Nat.mul_comm]; omega
  have hsV : s2 < V := by omega
  have hV : 0 < V := by omega
  rw [hU2, Nat.add_mul_div_left _ _ hV, Nat.add_mul_mod_self_left, Nat.div_eq_of_lt hsV, Nat.mod_eq_of_lt hsV]
  exact ⟨hD, by omega, rfl⟩
theorem top_le {U V hi U' P T u2 r lo : Nat} (hU : U = U' + P * T) (hT : T = (u2 * W32 + r) * W32 + lo) (hV : V ≤ P * W32 * (hi + 1)) (hUV : U < V * W32) : u2 ≤ hi := by
  rcases Nat.lt_or_ge hi u2 with h | h
  · exfalso
    have h1 : P * W32 * (hi + 1) * W32 ≤ P * W32 * u2 * W32 := Nat.mul_le_mul_right _ (Nat.mul_le_mul_left _ h)
    have h2 := Nat.mul_le_mul_right W32 hV
    have h3 : P * W32 * u2 * W32 = P * (u2 * W32 * W32) := by simp only [Nat.mul_assoc, Nat.mul_left_comm, Nat.mul_comm]
    have h4 : P * (u2 * W32 * W32) ≤ P * T := Nat.mul_le_mul_left _ (by rw [hT, Nat.add_mul]; omega)
    omega
  · exact h
/-- One round of long division. -/
theorem long_step {X V H low P U : Nat} (hX : X = V * (P * W32 * H) + (low + P * U)) (hlt : low + P * U < V * (P * W32)) (hlow : low < P) (hV : 0 < V) :
    U < V * W32 ∧ X = V * (P * (U / V + W32 * H)) + (low + P * (U % V)) ∧ low + P * (U % V) < V * P := by
  refine ⟨?_, ?_, ?_⟩
  · rcases Nat.lt_or_ge U (V * W32) with h | h
    · exact h
    · have h1 := Nat.mul_le_mul_left P h
      rw [Nat.mul_left_comm] at h1
      omega
  · have h1 := Nat.mod_add_div U V
    have h2 : P * U = P * (U % V) + V * (P * (U / V)) := by
      rw [Nat.mul_left_comm V, ← Nat.mul_add, h1]
    rw [hX, h2, Nat.mul_add P, Nat.mul_add V, ← Nat.mul_assoc P W32 H]
    omega
  · have h1 : P * (U % V + 1) ≤ P * V := Nat.mul_le_mul_left _ (Nat.mod_lt _ hV)
    rw [Nat.mul_add, Nat.mul_one, Nat.mul_comm P V] at h1
    omega
theorem long_take {l : List Nat} {i n : Nat} (h : i + n < l.length) : val W32 (l.take (n + (i + 1))) = val W32 (l.take i) + W32 ^ i * val W32 ((l.drop i).take (n + 1)) := by
  have e : l.take (n + (i + 1)) = l.take i ++ (l.drop i).take (n + 1) := by
    rw [show n + (i + 1) = i + (n + 1) by omega, List.take_add]
  rw [e, val_append, List.length_take, Nat.min_eq_left (by omega)]
theorem long_left {l seg : List Nat} {i n : Nat} (h : i + n < l.length) (hs : seg.length = n) : val W32 ((l.take i ++ (seg ++ l.drop (i + n))).take (n + i)) = val W32 (l.take i) + W32 ^ i * val W32 seg := by
  have e : (l.take i ++ (seg ++ l.drop (i + n))).take (n + i) = l.take i ++ seg := by
    rw [← List.append_assoc, List.take_append_of_le_length (by rw [List.length_append, List.length_take]; omega), List.take_of_length_le (by rw [List.length_append, List.length_take]; omega)]
  rw [e, val_append, List.length_take, Nat.min_eq_left (by omega)]
theorem long_set {h : List Nat} {i q : Nat} : (List.replicate (i + 1) 0 ++ h).set i q = List.replicate i 0 ++ (q :: h) := by
  have e : List.replicate (i + 1) 0 ++ h = List.replicate i 0 ++ (0 :: h) := by
    rw [List.replicate_succ', List.append_assoc]; rfl
  rw [e, List.set_append, if_neg (by simp), List.length_replicate, Nat.sub_self, List.set_cons_zero]
theorem long_get {h : List Nat} {i : Nat} : (List.replicate (i + 1) 0 ++ h)[i]? = some 0 := by
  rw [List.getElem?_append_left (by simp)]; simp
/-- The shift that sets the highest bit. -/
theorem norm_bits {t L : Nat} (h1 : 1 ≤ L) (h2 : 2 ^ (L - 1) ≤ t) (h3 : t < 2 ^ L) (hL : L ≤ 32) : 2147483648 ≤ t * 2 ^ (32 - L) ∧ t * 2 ^ (32 - L) < W32 := by
  constructor
  · have h4 := Nat.mul_le_mul_right (2 ^ (32 - L)) h2
    rw [← Nat.pow_add, show L - 1 + (32 - L) = 31 by omega] at h4
    exact h4
  · have h4 := Nat.mul_lt_mul_of_pos_right h3 (Nat.pow_pos (n := 32 - L) (show 0 < 2 by decide))
    rw [← Nat.pow_add, show L + (32 - L) = 32 by omega] at h4
    exact h4
/-- The top word of a number's words, and what it weighs. -/
theorem top_word {m n i1 : Nat} (h : dl m = n) (hi : i1 + 1 = n) : ∃ t, (digs W32 m)[i1]? = some t ∧ 1 ≤ t ∧ t < W32 ∧ t * W32 ^ i1 ≤ m ∧ m < (t + 1) * W32 ^ i1 := by
  have hl : (digs W32 m).length = i1 + 1 := by unfold dl at h; omega
  obtain ⟨t, ht⟩ : ∃ t, (digs W32 m)[i1]? = some t := ⟨_, List.getElem?_eq_getElem (by omega)⟩
  have e := val_take_succ W32 ht
  rw [List.take_of_length_le (by omega), val_digs32] at e
  have hlt := val_take_lt (good_digs m) i1
  have hne : t ≠ 0 := digs_last (b := W32) (by decide) m t (by rw [List.getLast?_eq_getElem?, hl, Nat.add_sub_cancel]; exact ht)
  refine ⟨t, ht, by omega, good_digs m t (List.mem_of_getElem? ht), ?_, ?_⟩
  · rw [Nat.mul_comm]; omega
  · rw [Nat.add_mul, Nat.one_mul, Nat.mul_comm]; omega
/-- The words of the shifted divisor: the highest is 0, the next has its highest bit set. -/
theorem norm_list {R : List Nat} {m n i1 t s : Nat} (hR : R.length = n + 1) (hg : Good32 R) (hv : val W32 R = m * 2 ^ s) (hi : i1 + 1 = n) (h1 : t * W32 ^ i1 ≤ m) (h2 : m < (t + 1) * W32 ^ i1) (hb : 2147483648 ≤ t * 2 ^ s) (ht : t * 2 ^ s < W32) (hs : s ≤ 31) :
    val W32 (R.take n) = m * 2 ^ s ∧ (R.take n).length = n ∧ Good32 (R.take n) ∧ ∀ x, (R.take n)[i1]? = some x → 2147483648 ≤ x := by
  have hlen : (R.take n).length = n := by rw [List.length_take]; omega
  have hgt := good_take hg n
  obtain ⟨z, hz⟩ : ∃ z, R[n]? = some z := ⟨_, List.getElem?_eq_getElem (by omega)⟩
  have e := val_take_succ W32 hz
  rw [List.take_of_length_le (by omega), hv] at e
  have hlt := val_take_lt hg n
  have hsp := W32_split hs
  have hm : m * 2 ^ s < W32 ^ n := by
    have h3 := Nat.mul_lt_mul_of_pos_right h2 (Nat.pow_pos (n := s) (show 0 < 2 by decide))
    have h4 : (t + 1) * 2 ^ s ≤ W32 := by
      have h5 : t < 2 ^ (32 - s) := by
        rw [hsp, Nat.mul_comm] at ht
        exact Nat.lt_of_mul_lt_mul_left ht
      have h6 := Nat.mul_le_mul_right (2 ^ s) (show t + 1 ≤ 2 ^ (32 - s) from h5)
      rw [Nat.mul_comm (2 ^ (32 - s)), ← hsp] at h6
      exact h6
    have h7 := Nat.mul_le_mul_right (W32 ^ i1) h4
    rw [← hi, Nat.pow_succ, Nat.mul_comm (W32 ^ i1)]
    rw [Nat.mul_right_comm] at h7
    omega
  have hz0 : z = 0 := by
    rcases Nat.eq_zero_or_pos z with h | h
    · exact h
    · have := Nat.mul_le_mul_left (W32 ^ n) h
      omega
  rw [hz0, Nat.mul_zero, Nat.add_zero] at e
  refine ⟨e.symm, hlen, hgt, fun x hx => ?_⟩
  rcases Nat.lt_or_ge x 2147483648 with hxl | hxl
  · exfalso
    have e2 := val_take_succ W32 hx
    rw [List.take_of_length_le (by omega), ← e] at e2
    have h3 := val_take_lt hgt i1
    have h4 := Nat.mul_le_mul_right (2 ^ s) h1
    rw [Nat.mul_right_comm] at h4
    have h5 := Nat.mul_le_mul_right (W32 ^ i1) (show x + 1 ≤ t * 2 ^ s by omega)
    rw [Nat.add_mul, Nat.one_mul, Nat.mul_comm x] at h5
    omega
  · exact hxl
theorem long_start {m m' a b s : Nat} (ha : m < W32 ^ a) (hb : W32 ^ b ≤ m') (hab : b ≤ a) : m * 2 ^ s < m' * 2 ^ s * W32 ^ (a - b) := by
  have h1 := Nat.mul_le_mul_right (W32 ^ (a - b)) hb
  rw [← Nat.pow_add, show b + (a - b) = a by omega] at h1
  rw [Nat.mul_right_comm]
  exact Nat.mul_lt_mul_of_pos_right (Nat.lt_of_lt_of_le ha h1) (Nat.pow_pos (by decide))
theorem long_end {X V H r m m' s : Nat} (hX : X = V * H + r) (hr : r < V) (h1 : X = m * 2 ^ s) (h2 : V = m' * 2 ^ s) : H = m / m' ∧ r / 2 ^ s = m % m' := by
  have hp : 0 < 2 ^ s := Nat.pow_pos (by decide)
  have e1 : X / V = m / m' := by rw [h1, h2, Nat.mul_div_mul_right _ _ hp]
  have e2 : X % V = m % m' * 2 ^ s := by rw [h1, h2, Nat.mul_mod_mul_right]
  constructor
  · rw [← e1, hX, Nat.mul_add_div (by omega), Nat.div_eq_of_lt hr, Nat.add_zero]
  · rw [hX, Nat.mul_add_mod, Nat.mod_eq_of_lt hr] at e2
    rw [e2, Nat.mul_div_cancel _ hp]
end Go.Proofs.YthdpojkeceoiiaaGreatDoor
end

section
/- divideStep: one digit of the quotient, and what is left. Conditions: at most 1000000 words. -/
open Go.RowKit
set_option maxRecDepth 100000
namespace Go.Proofs.YthdpojkeceoiiaaGreatDoor
def StepPost (w : World) (g o k U V : Nat) (l : List Nat) (e : Ending) (w' : World) : Prop :=
  ∃ (seg : List Nat), e = .returned (.int .u32 ((U / V : Nat) : Int)) ∧ Hid (U / V < W32) ∧ Hid (seg.length = k) ∧ Hid (Good32 seg) ∧ Hid (val W32 seg = U % V) ∧
    Hid (Blk U32 73 w' g (l.take o ++ (seg ++ l.drop (o + k)))) ∧ Hid (w.grownBy w' (some g))
/-- What guessDigit's answer is good for. -/
structure Guess (U V D : Nat) : Prop where
  lt : D < W32
  hi : U < (D + 1) * V
  lo : D * V ≤ U + V
theorem grown_of_drew {w w' : World} {g q : Nat} (h : (w.drewN q).grownBy w' (some g)) : w.grownBy w' (some g) :=
  grown_trans (grown_drewN (World.grownBy.refl w (some g)) q) h
theorem take_step {l : List Nat} {o k t : Nat} (ht : l[o + k]? = some t) : val W32 ((l.drop o).take (k + 1)) = val W32 ((l.drop o).take k) + W32 ^ k * t :=
  val_take_succ W32 (by rw [List.getElem?_drop]; exact ht)
theorem mid_take {l seg : List Nat} {o k : Nat} (ho : o ≤ l.length) (hs : seg.length = k) : ((l.take o ++ (seg ++ l.drop (o + k))).drop o).take k = seg := by
  rw [List.drop_append_of_le_length (by rw [List.length_take]; omega), List.drop_of_length_le (by rw [List.length_take]; omega), List.nil_append, List.take_append_of_le_length (by omega), List.take_of_length_le (by omega)]
theorem mid_again {l seg seg2 : List Nat} {o k : Nat} (ho : o ≤ l.length) (hs : seg.length = k) :
    (l.take o ++ (seg ++ l.drop (o + k))).take o ++ (seg2 ++ (l.take o ++ (seg ++ l.drop (o + k))).drop (o + k)) = l.take o ++ (seg2 ++ l.drop (o + k)) := by
  have h1 : (l.take o).length = o := by rw [List.length_take]; omega
  rw [List.take_append_of_le_length (by omega), List.take_of_length_le (by omega)]
  congr 2
  rw [← List.append_assoc, List.drop_append, List.drop_of_length_le (by simp; omega), List.nil_append, List.length_append, h1, hs, Nat.sub_self, List.drop_zero]
theorem dec_mod {D : Nat} (h1 : 1 ≤ D) (h2 : D < W32) : ((D : Int) - 1) % 4294967296 = ((D - 1 : Nat) : Int) := by
  rw [W32_eq] at h2
  omega
theorem step_lt {seg : List Nat} {k : Nat} (h : seg.length = k) (hg : Good32 seg) : val W32 seg < W32 ^ k := by
  rw [← h]; exact val_lt seg hg
end Go.Proofs.YthdpojkeceoiiaaGreatDoor
end
