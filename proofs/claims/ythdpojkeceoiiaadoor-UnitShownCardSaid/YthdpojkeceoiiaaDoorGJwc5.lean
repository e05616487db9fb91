/- Several texts in one, each with its own sentence and conditions. -/
import Derived.Test.YthdpojkeceoiiaaDoorGJwc4
section
/- shiftLeft. Conditions: at most 100000 words, a shift of at most 31. -/
open Go.RowKit
set_option maxRecDepth 100000
namespace Go.Proofs.YthdpojkeceoiiaaDoor
theorem W32_split {sh : Nat} (h : sh ≤ 31) : W32 = 2 ^ sh * 2 ^ (32 - sh) := by
  rw [← Nat.pow_add, show sh + (32 - sh) = 32 by omega]; rfl
theorem shl_lo {y sh : Nat} (h : sh ≤ 31) : y * 2 ^ sh % W32 = (y % 2 ^ (32 - sh)) * 2 ^ sh := by
  rw [W32_split h, Nat.mul_comm y, Nat.mul_mod_mul_left, Nat.mul_comm]
theorem shl_room {y sh hh : Nat} (h : sh ≤ 31) (hl : hh < 2 ^ sh) : hh + y * 2 ^ sh % W32 < W32 := by
  rw [shl_lo h]
  have h1 : y % 2 ^ (32 - sh) + 1 ≤ 2 ^ (32 - sh) := Nat.mod_lt _ (Nat.pow_pos (by decide))
  have h2 := Nat.mul_le_mul_right (2 ^ sh) h1
  rw [Nat.add_mul, Nat.one_mul, Nat.mul_comm (2 ^ (32 - sh)), ← W32_split h] at h2
  omega
theorem shl_hi {y sh : Nat} (hy : y < W32) : y * 2 ^ sh / W32 < 2 ^ sh := by
  rw [Nat.div_lt_iff_lt_mul (by decide), Nat.mul_comm (2 ^ sh)]
  exact Nat.mul_lt_mul_of_pos_right hy (Nat.pow_pos (by decide))
theorem shl_wrap {y sh : Nat} (hy : y < W32) (h : sh ≤ 31) : IntKind.u64.wrap ((y : Int) * 2 ^ sh) = ((y * 2 ^ sh : Nat) : Int) := by
  have h1 : y * 2 ^ sh < W32 * 2 ^ 31 := Nat.lt_of_lt_of_le (Nat.mul_lt_mul_of_pos_right hy (Nat.pow_pos (by decide))) (Nat.mul_le_mul_left _ (Nat.pow_le_pow_right (by decide) h))
  have h2 : W32 * 2 ^ 31 ≤ 18446744073709551615 := by decide
  rw [show ((y : Int) * 2 ^ sh) = ((y * 2 ^ sh : Nat) : Int) by rw [Int.natCast_mul, Int.natCast_pow]; rfl]
  exact u64_nat (by omega)
theorem shl_or {y sh hh : Nat} (h : sh ≤ 31) (hl : hh < 2 ^ sh) : bits .or .u32 (hh : Int) (((y * 2 ^ sh : Nat) : Int) % 4294967296) = ((hh + y * 2 ^ sh % W32 : Nat) : Int) := by
  have h0 := shl_room (y := y) h hl
  have h3 : y * 2 ^ sh % W32 < W32 := Nat.mod_lt _ (by decide)
  rw [lo32, u32_or_nat _ _ (by rw [W32_eq] at h0; omega) (by rw [W32_eq] at h3; exact h3), Nat.or_comm, shl_lo h, or_pow _ _ _ hl, Nat.add_comm]
theorem shl_math {P V hh T A y W s : Nat} (h : V + P * hh = A * s) (ht : T = y * s) : V + P * (hh + T % W) + P * W * (T / W) = (A + P * y) * s := by
  have e : P * (hh + T % W) + P * W * (T / W) = P * hh + P * T := by
    rw [Nat.mul_assoc, ← Nat.mul_add, Nat.add_assoc, Nat.mod_add_div, Nat.mul_add]
  rw [Nat.add_assoc, e, ← Nat.add_assoc, h, ht, Nat.add_mul, Nat.mul_assoc]
theorem shl_list {seg : List Nat} {i hh z a b : Nat} (h : seg.length = i) : ((seg ++ (hh :: 0 :: List.replicate z 0)).set i a).set (i + 1) b = (seg ++ [a]) ++ (b :: List.replicate z 0) := by
  rw [List.set_append, if_neg (by omega), h, Nat.sub_self, List.set_cons_zero, List.set_append, if_neg (by omega), h, show i + 1 - i = 1 by omega]
  simp
def ShlPost (w : World) (n sh v : Nat) (e : Ending) (w' : World) : Prop :=
  ∃ g R, e = .returned (.slice (some ⟨g, 0, none⟩) (n + 1) (n + 1)) ∧ Hid (w.heap.size ≤ g) ∧ Hid (Blk U32 60 w' g R) ∧ Hid (R.length = n + 1) ∧ Hid (Good32 R) ∧ Hid (val W32 R = v * 2 ^ sh) ∧ Hid (Below w.heap.size w w')
end Go.Proofs.YthdpojkeceoiiaaDoor
end

section
/- shiftRight. Conditions: at most 100000 words, a shift of at most 31. -/
open Go.RowKit
set_option maxRecDepth 100000
namespace Go.Proofs.YthdpojkeceoiiaaDoor
theorem W32_split' {s : Nat} (h : s ≤ 31) : W32 = 2 ^ (32 - s) * 2 ^ s := by rw [W32_split h, Nat.mul_comm]
theorem shr_wide {y s : Nat} (h : s ≤ 31) : y * 4294967296 / 2 ^ s = y * 2 ^ (32 - s) := by
  rw [show (4294967296 : Nat) = 2 ^ (32 - s) * 2 ^ s from W32_split' h, ← Nat.mul_assoc, Nat.mul_div_cancel _ (Nat.pow_pos (by decide))]
theorem shr_lo {y s : Nat} (h : s ≤ 31) : y * 2 ^ (32 - s) % W32 = (y % 2 ^ s) * 2 ^ (32 - s) := by
  rw [W32_split' h, Nat.mul_comm y, Nat.mul_mod_mul_left, Nat.mul_comm]
theorem shr_hi {y s : Nat} (h : s ≤ 31) : y * 2 ^ (32 - s) / W32 = y / 2 ^ s := by
  rw [W32_split' h, Nat.mul_comm y, Nat.mul_div_mul_left _ _ (Nat.pow_pos (by decide))]
theorem shr_top {y s : Nat} (hy : y < W32) (h : s ≤ 31) : y / 2 ^ s < 2 ^ (32 - s) := by
  rw [Nat.div_lt_iff_lt_mul (Nat.pow_pos (by decide)), ← W32_split' h]; exact hy
theorem shr_room {y s t : Nat} (h : s ≤ 31) (ht : t < 2 ^ (32 - s)) : t + (y % 2 ^ s) * 2 ^ (32 - s) < W32 := by
  have h1 : y % 2 ^ s + 1 ≤ 2 ^ s := Nat.mod_lt _ (Nat.pow_pos (by decide))
  have h2 := Nat.mul_le_mul_right (2 ^ (32 - s)) h1
  rw [Nat.add_mul, Nat.one_mul, ← W32_split h] at h2
  omega
theorem shr_or {y s t : Nat} (h : s ≤ 31) (ht : t < 2 ^ (32 - s)) : bits .or .u32 (t : Int) (((y * 2 ^ (32 - s) : Nat) : Int) % 4294967296) = ((t + (y % 2 ^ s) * 2 ^ (32 - s) : Nat) : Int) := by
  have h0 := shr_room (y := y) h ht
  have h3 : y * 2 ^ (32 - s) % W32 < W32 := Nat.mod_lt _ (by decide)
  rw [lo32, u32_or_nat _ _ (by rw [W32_eq] at h0; omega) (by rw [W32_eq] at h3; exact h3), Nat.or_comm, shr_lo h, or_pow _ _ _ ht, Nat.add_comm]
theorem shr_wrap {y s : Nat} (h : s ≤ 31) : ((y : Int) * 4294967296) / 2 ^ s = ((y * 2 ^ (32 - s) : Nat) : Int) := by
  rw [← shr_wide h, Int.natCast_ediv, Int.natCast_mul, Int.natCast_pow]; rfl
theorem shr_math {V P p A y s : Nat} (hs : s ≤ 31) (h : V + P * p = A / 2 ^ s) : V + P * (p + (y % 2 ^ s) * 2 ^ (32 - s)) + P * W32 * (y / 2 ^ s) = (A + P * W32 * y) / 2 ^ s := by
  have e1 : P * W32 * y = 2 ^ s * (P * 2 ^ (32 - s) * y) := by
    rw [W32_split hs]
    simp only [Nat.mul_assoc, Nat.mul_left_comm]
  rw [e1, Nat.add_mul_div_left _ _ (Nat.pow_pos (by decide)), ← h, W32_split hs]
  have e2 : P * 2 ^ (32 - s) * y = P * (y % 2 ^ s * 2 ^ (32 - s)) + P * (2 ^ s * 2 ^ (32 - s)) * (y / 2 ^ s) := by
    have e3 := Nat.mod_add_div y (2 ^ s)
    have e4 : P * (2 ^ s * 2 ^ (32 - s)) * (y / 2 ^ s) = P * 2 ^ (32 - s) * (2 ^ s * (y / 2 ^ s)) := by
      simp only [Nat.mul_assoc, Nat.mul_left_comm]
    rw [e4, Nat.mul_comm (y % 2 ^ s), ← Nat.mul_assoc, ← Nat.mul_add, e3]
  rw [e2, Nat.mul_add]
  omega
theorem shr_word {y s : Nat} (hy : y < W32) (hs : s ≤ 31) : ((y * 2 ^ (32 - s) : Nat) : Int) / 4294967296 % 4294967296 = ((y / 2 ^ s : Nat) : Int) := by
  have h3 : y * 2 ^ (32 - s) / W32 = y / 2 ^ s := shr_hi hs
  have h4 : y / 2 ^ s < W32 := Nat.lt_of_le_of_lt (Nat.div_le_self _ _) hy
  rw [hi32, h3]
  obtain ⟨q, hq⟩ : ∃ q, q = y / 2 ^ s := ⟨_, rfl⟩
  rw [← hq, W32_eq] at h4
  rw [← hq]
  omega
theorem shr_list {seg : List Nat} {i z a b c d : Nat} (h : seg.length = i) : (((seg ++ [c]) ++ (d :: List.replicate z 0)).set (i + 1) a).set i b = ((seg ++ [b]) ++ [a]) ++ List.replicate z 0 := by
  simp [List.set_append, h]
theorem shr_snoc {seg : List Nat} {j : Nat} (h : seg.length = j + 1) : ∃ S p, seg = S ++ [p] ∧ S.length = j := by
  have hne : seg ≠ [] := by intro e; rw [e] at h; cases h
  refine ⟨seg.dropLast, seg.getLast hne, (List.dropLast_concat_getLast hne).symm, ?_⟩
  rw [List.length_dropLast, h]; rfl
def ShrPost (w : World) (n sh v : Nat) (e : Ending) (w' : World) : Prop :=
  ∃ g R, e = .returned (.slice (some ⟨g, 0, none⟩) n n) ∧ Hid (w.heap.size ≤ g) ∧ Hid (Blk U32 60 w' g R) ∧ Hid (R.length = n) ∧ Hid (Good32 R) ∧ Hid (val W32 R = v / 2 ^ sh) ∧ Hid (Below w.heap.size w w')
end Go.Proofs.YthdpojkeceoiiaaDoor
end

section
/- subMultiple: words in place. Conditions: at most 100000 words. -/
open Go.RowKit
set_option maxRecDepth 100000
namespace Go.Proofs.YthdpojkeceoiiaaDoor
def SubMulPost (w : World) (g o k f t : Nat) (l ys : List Nat) (e : Ending) (w' : World) : Prop :=
  ∃ (seg : List Nat) (c : Nat), e = .returned (.bool (decide (t < c))) ∧ Hid (seg.length = k) ∧ Hid (Good32 seg) ∧ Hid (c ≤ W32) ∧ Hid (val W32 seg + f * val W32 ys = val W32 ((l.drop o).take k) + W32 ^ k * c) ∧
    Blk U32 60 w' g (l.take o ++ (seg ++ l.drop (o + k))) ∧ w.grownBy w' (some g)
theorem submul_prod {y f cr : Nat} (hy : y < W32) (hf : f < W32) (hc : cr ≤ W32) : cr + y * f ≤ 18446744069414584321 := by
  have h := Nat.mul_le_mul (Nat.le_sub_one_of_lt hy) (Nat.le_sub_one_of_lt hf)
  rw [W32_eq] at *
  omega
theorem submul_wrap {y f cr : Nat} (hy : y < W32) (hf : f < W32) (hc : cr ≤ W32) :
    IntKind.u64.wrap ((cr : Int) + IntKind.u64.wrap (IntKind.u64.wrap (y : Int) * IntKind.u64.wrap (f : Int))) = ((cr + y * f : Nat) : Int) := by
  have h1 := submul_prod hy hf hc
  rw [u64_word hy, u64_word hf, ← Int.natCast_mul, u64_nat (by omega), ← Int.natCast_add, u64_nat (by omega)]
theorem submul_math {P V VL VY cr y f s s' T r q b W : Nat} (h : V + f * VY = VL + P * cr) (hT : T = cr + y * f) (hq : r + W * q = T) (hs : s' + r = s + W * b) : V + P * s' + f * (VY + P * y) = VL + P * s + P * W * (q + b) := by
  have e1 : P * s' + P * T = P * s + P * W * (q + b) := by
    rw [← Nat.mul_add, show s' + T = s + W * (q + b) by rw [Nat.mul_add]; omega, Nat.mul_add, Nat.mul_assoc]
  have e2 : P * T = P * cr + P * (y * f) := by rw [hT, Nat.mul_add]
  have e3 : f * (P * y) = P * (y * f) := by rw [Nat.mul_comm y f, Nat.mul_left_comm]
  rw [Nat.mul_add f, e3]; omega
theorem submul_yes {T s : Nat} (hT : T ≤ 18446744069414584321) (hs : s < W32) (h : (s : Int) < (T : Int) % 4294967296) :
    ∃ s' b, s' < W32 ∧ T / W32 + b ≤ W32 ∧ s' + T % W32 = s + W32 * b ∧ IntKind.u64.wrap ((T : Int) / 4294967296 + 1) = ((T / W32 + b : Nat) : Int) ∧ ((s : Int) - (T : Int)) % 4294967296 = (s' : Int) := by
  rw [W32_eq] at *
  refine ⟨s + 4294967296 - T % 4294967296, 1, by omega, by omega, by omega, ?_, by omega⟩
  rw [show (T : Int) / 4294967296 + 1 = ((T / 4294967296 + 1 : Nat) : Int) by omega]
  exact u64_nat (by omega)
theorem submul_no {T s : Nat} (hT : T ≤ 18446744069414584321) (hs : s < W32) (h : ¬ (s : Int) < (T : Int) % 4294967296) :
    ∃ s' b, s' < W32 ∧ T / W32 + b ≤ W32 ∧ s' + T % W32 = s + W32 * b ∧ (T : Int) / 4294967296 = ((T / W32 + b : Nat) : Int) ∧ ((s : Int) - (T : Int)) % 4294967296 = (s' : Int) := by
  rw [W32_eq] at *
  exact ⟨s - T % 4294967296, 0, by omega, by omega, by omega, by omega, by omega⟩
end Go.Proofs.YthdpojkeceoiiaaDoor
end
