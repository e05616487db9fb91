/- Plain mathematics on words and wraps, without conditions on memory. -/
import Derived.Test.YtlmfkeicmldcnaaDoorCmp
import Derived.Laws.Bits64
import Derived.Laws.BitsAllLaws
open Go.RowKit
namespace Go.Proofs.YtlmfkeicmldcnaaDoor
theorem val_take_succ (b : Nat) {L : List Nat} {i x : Nat} (h : L[i]? = some x) : val b (L.take (i + 1)) = val b (L.take i) + b ^ i * x := by
  have hi : i < L.length := by
    rcases Nat.lt_or_ge i L.length with h1 | h1
    · exact h1
    · rw [List.getElem?_eq_none h1] at h; cases h
  rw [List.take_succ_eq_append_getElem hi, val_snoc, List.length_take, Nat.min_eq_left (by omega)]
  rw [List.getElem?_eq_getElem hi] at h
  injection h with h
  rw [h]
theorem set_mid {P seg l : List Nat} {o i v : Nat} (hP : P.length = o) (hs : seg.length = i) (hl : o + i < l.length) : (P ++ (seg ++ l.drop (o + i))).set (o + i) v = P ++ ((seg ++ [v]) ++ l.drop (o + (i + 1))) := by
  rw [List.set_append, if_neg (by omega), List.set_append, if_neg (by omega), List.drop_eq_getElem_cons hl, show o + i - P.length - seg.length = 0 by omega, List.set_cons_zero]
  simp [Nat.add_assoc]
theorem get_mid {P seg l : List Nat} {o i : Nat} (hP : P.length = o) (hs : seg.length = i) : (P ++ (seg ++ l.drop (o + i)))[o + i]? = l[o + i]? := by
  rw [List.getElem?_append_right (by omega), List.getElem?_append_right (by omega), List.getElem?_drop]
  congr 1; omega
theorem good_snoc {l : List Nat} {x : Nat} (h : Good32 l) (hx : x < W32) : Good32 (l ++ [x]) := by
  intro y hy
  rcases List.mem_append.1 hy with hy | hy
  · exact h y hy
  · simp at hy; subst hy; exact hx
theorem addmul_math {P V t q r cr y f s VA VY W : Nat} (h : V + P * cr = VA + f * VY) (ht : t = cr + (y * f + s)) (hq : r + W * q = t) : V + P * r + P * W * q = VA + P * s + f * (VY + P * y) := by
  have e1 : P * r + P * W * q = P * t := by rw [← hq, Nat.mul_add, Nat.mul_assoc]
  have e2 : P * t = P * cr + (P * (y * f) + P * s) := by rw [ht, Nat.mul_add, Nat.mul_add]
  have e3 : f * (P * y) = P * (y * f) := by rw [Nat.mul_comm y f, Nat.mul_left_comm]
  rw [Nat.mul_add f, e3]; omega
theorem prod_le {y f : Nat} (hy : y < W32) (hf : f < W32) : y * f ≤ 4294967295 * 4294967295 := Nat.mul_le_mul (by rw [W32_eq] at hy; omega) (by rw [W32_eq] at hf; omega)
theorem u64_nat {n : Nat} (h : n ≤ 18446744073709551615) : IntKind.u64.wrap (n : Int) = (n : Int) := IntWalk.u64_in _ ⟨by omega, by omega⟩
theorem u64_word {n : Nat} (h : n < W32) : IntKind.u64.wrap (n : Int) = (n : Int) := u64_nat (by rw [W32_eq] at h; omega)
theorem addmul_wrap {y f s cr : Nat} (hy : y < W32) (hf : f < W32) (hs : s < W32) (hc : cr < W32) :
    IntKind.u64.wrap ((cr : Int) + IntKind.u64.wrap (IntKind.u64.wrap (IntKind.u64.wrap (y : Int) * IntKind.u64.wrap (f : Int)) + IntKind.u64.wrap (s : Int))) = ((cr + (y * f + s) : Nat) : Int) := by
  have hp := prod_le hy hf
  rw [W32_eq] at hs hc
  rw [u64_word hy, u64_word hf, u64_word (n := s) (by rw [W32_eq]; exact hs), ← Int.natCast_mul, u64_nat (by omega), ← Int.natCast_add, u64_nat (by omega), ← Int.natCast_add, u64_nat (by omega)]
theorem hi32 (t : Nat) : ((t : Nat) : Int) / 4294967296 = ((t / W32 : Nat) : Int) := rfl
theorem lo32 (t : Nat) : ((t : Nat) : Int) % 4294967296 = ((t % W32 : Nat) : Int) := rfl
theorem lohi (t : Nat) : t % W32 + W32 * (t / W32) = t := Nat.mod_add_div t W32
theorem lo_lt (t : Nat) : t % W32 < W32 := Nat.mod_lt _ (by decide)
theorem addmul_hi {y f s cr : Nat} (hy : y < W32) (hf : f < W32) (hs : s < W32) (hc : cr < W32) : (cr + (y * f + s)) / W32 < W32 := by
  have hp := prod_le hy hf
  rw [W32_eq] at hs hc ⊢; omega
theorem mul_round {seg seg2 : List Nat} {i k c word m' X z : Nat} (hlen : seg.length = i + k) (h2 : seg2.length = k) (hv : val W32 seg = X * m')
    (h : val W32 seg2 + W32 ^ k * c = val W32 (((seg ++ List.replicate z 0).drop i).take k) + word * m') : val W32 (seg.take i ++ (seg2 ++ [c])) = (X + W32 ^ i * word) * m' := by
  rw [val_append, val_snoc, h2, List.length_take, Nat.min_eq_left (by omega), h]
  have e1 : ((seg ++ List.replicate z 0).drop i).take k = seg.drop i := by
    rw [List.drop_append_of_le_length (by omega), List.take_append_of_le_length (by rw [List.length_drop]; omega), List.take_of_length_le (by rw [List.length_drop]; omega)]
  have e2 : val W32 seg = val W32 (seg.take i) + W32 ^ i * val W32 (seg.drop i) := by
    have := val_append W32 (seg.take i) (seg.drop i)
    rwa [List.take_append_drop, List.length_take, Nat.min_eq_left (by omega)] at this
  rw [e1, Nat.mul_add, ← Nat.add_assoc, ← e2, hv, Nat.add_mul, Nat.mul_assoc]
theorem mul_list {seg seg2 : List Nat} {i k c z : Nat} (hlen : seg.length = i + k) (h2 : seg2.length = k) :
    ((seg ++ List.replicate (z + 1) 0).take i ++ (seg2 ++ (seg ++ List.replicate (z + 1) 0).drop (i + k))).set (i + k) c = (seg.take i ++ (seg2 ++ [c])) ++ List.replicate z 0 := by
  rw [List.take_append_of_le_length (by omega), List.drop_append, List.drop_of_length_le (by omega), hlen, Nat.sub_self, List.drop_zero, List.nil_append, List.replicate_succ]
  rw [List.set_append, if_neg (by rw [List.length_take]; omega), List.set_append, if_neg (by rw [List.length_take]; omega), show i + k - (List.take i seg).length - seg2.length = 0 by rw [List.length_take]; omega, List.set_cons_zero]
  simp
theorem mul_cell {seg seg2 : List Nat} {i k z : Nat} (hlen : seg.length = i + k) (h2 : seg2.length = k) :
    ((seg ++ List.replicate (z + 1) 0).take i ++ (seg2 ++ (seg ++ List.replicate (z + 1) 0).drop (i + k)))[i + k]? = some 0 := by
  rw [List.take_append_of_le_length (by omega), List.drop_append, List.drop_of_length_le (by omega), hlen, Nat.sub_self, List.drop_zero, List.nil_append, List.replicate_succ]
  rw [List.getElem?_append_right (by rw [List.length_take]; omega), List.getElem?_append_right (by rw [List.length_take]; omega), show i + k - (List.take i seg).length - seg2.length = 0 by rw [List.length_take]; omega]
  rfl
theorem good_zeros {l : List Nat} (h : Good32 l) (z : Nat) : Good32 (l ++ List.replicate z 0) := by
  intro x hx
  rcases List.mem_append.1 hx with hx | hx
  · exact h x hx
  · rw [(List.mem_replicate.1 hx).2]; decide
theorem good_app {l m : List Nat} (h : Good32 l) (hm : Good32 m) : Good32 (l ++ m) := by
  intro x hx
  rcases List.mem_append.1 hx with hx | hx
  · exact h x hx
  · exact hm x hx
theorem good_take {l : List Nat} (h : Good32 l) (k : Nat) : Good32 (l.take k) := fun x hx => h x (List.mem_of_mem_take hx)
theorem good_drop {l : List Nat} (h : Good32 l) (k : Nat) : Good32 (l.drop k) := fun x hx => h x (List.mem_of_mem_drop hx)
theorem good_digs (m : Nat) : Good32 (digs W32 m) := digs_lt (by decide) m
theorem val_digs32 (m : Nat) : val W32 (digs W32 m) = m := val_digs (by decide) m
theorem set_zeros {seg : List Nat} {i v z : Nat} (h : seg.length = i) : (seg ++ List.replicate (z + 1) 0).set i v = (seg ++ [v]) ++ List.replicate z 0 := by
  rw [List.set_append, if_neg (by omega), h, Nat.sub_self, List.replicate_succ, List.set_cons_zero]; simp
theorem get_zeros {seg : List Nat} {i z : Nat} (h : seg.length = i) : (seg ++ List.replicate (z + 1) 0)[i]? = some 0 := by
  rw [List.getElem?_append_right (by omega), h, Nat.sub_self]; rfl
theorem val_take_more (b : Nat) {L : List Nat} {i : Nat} (h : L.length ≤ i) : val b (L.take (i + 1)) = val b (L.take i) := by
  rw [List.take_of_length_le h, List.take_of_length_le (by omega)]
theorem add_math {P V t q r cr x VA VB W : Nat} (h : V + P * cr = VA + VB) (ht : t = cr + x) (hq : r + W * q = t) : V + P * r + P * W * q = VA + VB + P * x := by
  have e1 : P * r + P * W * q = P * t := by rw [← hq, Nat.mul_add, Nat.mul_assoc]
  have e2 : P * t = P * cr + P * x := by rw [ht, Nat.mul_add]
  omega
theorem sub_math {P V A B W r q x t b y : Nat} (h : V + B = A + P * b) (ht : t = b + y) (hq : r + t = x + W * q) : V + P * r + (B + P * y) = A + P * x + P * W * q := by
  have e1 : P * r + P * t = P * x + P * W * q := by rw [← Nat.mul_add, hq, Nat.mul_add, Nat.mul_assoc]
  have e2 : P * t = P * b + P * y := by rw [ht, Nat.mul_add]
  omega
theorem sub_wrap {x t : Nat} (hx : x < W32) (ht : t ≤ W32) (hlt : x < t) : IntKind.u64.wrap ((x : Int) - (t : Int)) % 4294967296 = ((W32 + x - t : Nat) : Int) ∧ IntKind.u64.wrap ((x : Int) - (t : Int)) / 9223372036854775808 = 1 := by
  rw [IntKind.wrap_u64]
  rw [W32_eq] at *
  omega
theorem or_pow (a b i : Nat) (hb : b < 2 ^ i) : a * 2 ^ i ||| b = a * 2 ^ i + b := by
  rw [Nat.mul_comm, ← Nat.two_pow_add_eq_or_of_lt hb]
theorem or64 {hi lo : Nat} (h1 : hi ≤ 4294967295) (h2 : lo ≤ 4294967295) : bits .or .u64 ((hi : Int) * 4294967296) (lo : Int) = ((hi * 4294967296 + lo : Nat) : Int) := by
  rw [show ((hi : Int) * 4294967296) = ((hi * 4294967296 : Nat) : Int) by omega, u64_or_nat _ _ (by omega) (by omega), or_pow hi lo 32 (by omega)]
theorem word_le {x : Nat} (h : x < W32) : x ≤ 4294967295 := by rw [W32_eq] at h; omega
theorem exists_zeros {b : Nat} (hb : 2 ≤ b) (l : List Nat) (h : ∀ x ∈ l, x < b) : ∃ k, l = digs b (val b l) ++ List.replicate k 0 := by
  induction l with
  | nil => exact ⟨0, by simp [val, digs_zero]⟩
  | cons x xs ih =>
    obtain ⟨k, hk⟩ := ih fun y hy => h y (by simp [hy])
    have hx := h x (by simp)
    rcases Nat.eq_zero_or_pos (val b (x :: xs)) with h0 | h0
    · refine ⟨k + 1, ?_⟩
      simp only [val] at h0
      have hx0 : x = 0 := by omega
      have hv : val b xs = 0 := by
        rcases Nat.eq_zero_or_pos (val b xs) with h1 | h1
        · exact h1
        · have := Nat.mul_pos (show 0 < b by omega) h1; omega
      rw [hv, digs_zero, List.nil_append] at hk
      subst hx0
      rw [show val b (0 :: xs) = 0 by simp [val, hv], digs_zero, List.nil_append, List.replicate_succ, ← hk]
    · refine ⟨k, ?_⟩
      rw [digs_pos hb h0]
      simp only [val]
      rw [Nat.add_mul_mod_self_left, Nat.mod_eq_of_lt hx, Nat.add_mul_div_left _ _ (by omega), Nat.div_eq_of_lt hx, Nat.zero_add, List.cons_append, ← hk]
theorem text_math {D P v g q r d m : Nat} (h : D + P * v = m) (hv : v = q * d + g) (hr : g = r) : D + P * (r + d * q) = m := by
  subst hr
  rw [← h, hv, Nat.mul_comm q d, Nat.add_comm g]
theorem digit_math {D P g T v m : Nat} (h : D + P * (g + 10 * T * v) = m) : (D + P * (g % 10)) + P * 10 * (g / 10 + T * v) = m := by
  have e : g + 10 * T * v = g % 10 + 10 * (g / 10 + T * v) := by rw [Nat.mul_add, ← Nat.add_assoc, Nat.mod_add_div, Nat.mul_assoc]
  rw [← h, e, Nat.mul_add P, Nat.mul_assoc P 10]; omega
end Go.Proofs.YtlmfkeicmldcnaaDoor
