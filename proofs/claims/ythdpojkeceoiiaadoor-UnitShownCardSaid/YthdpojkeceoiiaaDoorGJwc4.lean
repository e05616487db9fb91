/- Several texts in one, each with its own sentence and conditions. -/
import Derived.Test.YthdpojkeceoiiaaDoorGJwc3
import Derived.Laws.Bits64
import Derived.Laws.BitsAllLaws
import Derived.Deep.AppendLies
import Derived.Deep.LoopGhost
import Derived.Maps.AppendAt
import Derived.Deep.RegionHeld3
section
/- Plain mathematics on words and wraps, without conditions on memory. -/
open Go.RowKit
namespace Go.Proofs.YthdpojkeceoiiaaDoor
theorem val_take_succ (b : Nat) {L : List Nat} {i x : Nat} (h : L[i]? = some x) : val b (L.take (i + 1)) = val b (L.take i) + b ^ i * x := by
  have hi : i < L.length := by
    rcases Nat.lt_or_ge i L.length with h1 | h1
    · exact h1
    · rw [List.getElem?_eq_none h1] at h; cases h
  rw [List.take_succ_eq_append_getElem hi, val_snoc, List.length_take, Nat.min_eq_left (by omega)]
  rw [List.getElem?_eq_getElem hi] at h
  injection h with h
  rw [h]
theorem set_mid {P seg l : List Nat} {o i v : Nat} (hP : P.length = o) (hs : seg.length = i) (hl : o + i < l.length) : (P ++ (seg ++ l.drop (o + i))).set (o + i) v = P ++ ((seg ++ [v]) ++ l.drop (o + (i + 1))) := by
  rw [List.set_append, if_neg (by omega), List.set_append, if_neg (by omega), List.drop_eq_getElem_cons hl, show o + i - P.length - seg.length = 0 by omega, List.set_cons_zero]
  simp [Nat.add_assoc]
theorem get_mid {P seg l : List Nat} {o i : Nat} (hP : P.length = o) (hs : seg.length = i) : (P ++ (seg ++ l.drop (o + i)))[o + i]? = l[o + i]? := by
  rw [List.getElem?_append_right (by omega), List.getElem?_append_right (by omega), List.getElem?_drop]
  congr 1; omega
theorem good_snoc {l : List Nat} {x : Nat} (h : Good32 l) (hx : x < W32) : Good32 (l ++ [x]) := by
  intro y hy
  rcases List.mem_append.1 hy with hy | hy
  · exact h y hy
  · simp at hy; subst hy; exact hx
theorem addmul_math {P V t q r cr y f s VA VY W : Nat} (h : V + P * cr = VA + f * VY) (ht : t = cr + (y * f + s)) (hq : r + W * q = t) : V + P * r + P * W * q = VA + P * s + f * (VY + P * y) := by
  have e1 : P * r + P * W * q = P * t := by rw [← hq, Nat.mul_add, Nat.mul_assoc]
  have e2 : P * t = P * cr + (P * (y * f) + P * s) := by rw [ht, Nat.mul_add, Nat.mul_add]
  have e3 : f * (P * y) = P * (y * f) := by rw [Nat.mul_comm y f, Nat.mul_left_comm]
  rw [Nat.mul_add f, e3]; omega
theorem prod_le {y f : Nat} (hy : y < W32) (hf : f < W32) : y * f ≤ 4294967295 * 4294967295 := Nat.mul_le_mul (by rw [W32_eq] at hy; omega) (by rw [W32_eq] at hf; omega)
theorem u64_nat {n : Nat} (h : n ≤ 18446744073709551615) : IntKind.u64.wrap (n : Int) = (n : Int) := IntWalk.u64_in _ ⟨by omega, by omega⟩
theorem u64_word {n : Nat} (h : n < W32) : IntKind.u64.wrap (n : Int) = (n : Int) := u64_nat (by rw [W32_eq] at h; omega)
theorem addmul_wrap {y f s cr : Nat} (hy : y < W32) (hf : f < W32) (hs : s < W32) (hc : cr < W32) :
    IntKind.u64.wrap ((cr : Int) + IntKind.u64.wrap (IntKind.u64.wrap (IntKind.u64.wrap (y : Int) * IntKind.u64.wrap (f : Int)) + IntKind.u64.wrap (s : Int))) = ((cr + (y * f + s) : Nat) : Int) := by
  have hp := prod_le hy hf
  rw [W32_eq] at hs hc
  rw [u64_word hy, u64_word hf, u64_word (n := s) (by rw [W32_eq]; exact hs), ← Int.natCast_mul, u64_nat (by omega), ← Int.natCast_add, u64_nat (by omega), ← Int.natCast_add, u64_nat (by omega)]
theorem hi32 (t : Nat) : ((t : Nat) : Int) / 4294967296 = ((t / W32 : Nat) : Int) := rfl
theorem lo32 (t : Nat) : ((t : Nat) : Int) % 4294967296 = ((t % W32 : Nat) : Int) := rfl
theorem lohi (t : Nat) : t % W32 + W32 * (t / W32) = t := Nat.mod_add_div t W32
theorem lo_lt (t : Nat) : t % W32 < W32 := Nat.mod_lt _ (by decide)
theorem addmul_hi {y f s cr : Nat} (hy : y < W32) (hf : f < W32) (hs : s < W32) (hc : cr < W32) : (cr + (y * f + s)) / W32 < W32 := by
  have hp := prod_le hy hf
  rw [W32_eq] at hs hc ⊢; omega
theorem mul_round {seg seg2 : List Nat} {i k c word m' X z : Nat} (hlen : seg.length = i + k) (h2 : seg2.length = k) (hv : val W32 seg = X * m')
    (h : val W32 seg2 + W32 ^ k * c = val W32 (((seg ++ List.replicate z 0).drop i).take k) + word * m') : val W32 (seg.take i ++ (seg2 ++ [c])) = (X + W32 ^ i * word) * m' := by
  rw [val_append, val_snoc, h2, List.length_take, Nat.min_eq_left (by omega), h]
  have e1 : ((seg ++ List.replicate z 0).drop i).take k = seg.drop i := by
    rw [List.drop_append_of_le_length (by omega), List.take_append_of_le_length (by rw [List.length_drop]; omega), List.take_of_length_le (by rw [List.length_drop]; omega)]
  have e2 : val W32 seg = val W32 (seg.take i) + W32 ^ i * val W32 (seg.drop i) := by
    have := val_append W32 (seg.take i) (seg.drop i)
    rwa [List.take_append_drop, List.length_take, Nat.min_eq_left (by omega)] at this
  rw [e1, Nat.mul_add, ← Nat.add_assoc, ← e2, hv, Nat.add_mul, Nat.mul_assoc]
theorem mul_list {seg seg2 : List Nat} {i k c z : Nat} (hlen : seg.length = i + k) (h2 : seg2.length = k) :
    ((seg ++ List.replicate (z + 1) 0).take i ++ (seg2 ++ (seg ++ List.replicate (z + 1) 0).drop (i + k))).set (i + k) c = (seg.take i ++ (seg2 ++ [c])) ++ List.replicate z 0 := by
  rw [List.take_append_of_le_length (by omega), List.drop_append, List.drop_of_length_le (by omega), hlen, Nat.sub_self, List.drop_zero, List.nil_append, List.replicate_succ]
  rw [List.set_append, if_neg (by rw [List.length_take]; omega), List.set_append, if_neg (by rw [List.length_take]; omega), show i + k - (List.take i seg).length - seg2.length = 0 by rw [List.length_take]; omega, List.set_cons_zero]
  simp
theorem mul_cell {seg seg2 : List Nat} {i k z : Nat} (hlen : seg.length = i + k) (h2 : seg2.length = k) :
    ((seg ++ List.replicate (z + 1) 0).take i ++ (seg2 ++ (seg ++ List.replicate (z + 1) 0).drop (i + k)))[i + k]? = some 0 := by
  rw [List.take_append_of_le_length (by omega), List.drop_append, List.drop_of_length_le (by omega), hlen, Nat.sub_self, List.drop_zero, List.nil_append, List.replicate_succ]
  rw [List.getElem?_append_right (by rw [List.length_take]; omega), List.getElem?_append_right (by rw [List.length_take]; omega), show i + k - (List.take i seg).length - seg2.length = 0 by rw [List.length_take]; omega]
  rfl
theorem good_zeros {l : List Nat} (h : Good32 l) (z : Nat) : Good32 (l ++ List.replicate z 0) := by
  intro x hx
  rcases List.mem_append.1 hx with hx | hx
  · exact h x hx
  · rw [(List.mem_replicate.1 hx).2]; decide
theorem good_app {l m : List Nat} (h : Good32 l) (hm : Good32 m) : Good32 (l ++ m) := by
  intro x hx
  rcases List.mem_append.1 hx with hx | hx
  · exact h x hx
  · exact hm x hx
theorem good_take {l : List Nat} (h : Good32 l) (k : Nat) : Good32 (l.take k) := fun x hx => h x (List.mem_of_mem_take hx)
theorem good_drop {l : List Nat} (h : Good32 l) (k : Nat) : Good32 (l.drop k) := fun x hx => h x (List.mem_of_mem_drop hx)
theorem good_digs (m : Nat) : Good32 (digs W32 m) := digs_lt (by decide) m
theorem val_digs32 (m : Nat) : val W32 (digs W32 m) = m := val_digs (by decide) m
theorem set_zeros {seg : List Nat} {i v z : Nat} (h : seg.length = i) : (seg ++ List.replicate (z + 1) 0).set i v = (seg ++ [v]) ++ List.replicate z 0 := by
  rw [List.set_append, if_neg (by omega), h, Nat.sub_self, List.replicate_succ, List.set_cons_zero]; simp
theorem get_zeros {seg : List Nat} {i z : Nat} (h : seg.length = i) : (seg ++ List.replicate (z + 1) 0)[i]? = some 0 := by
  rw [List.getElem?_append_right (by omega), h, Nat.sub_self]; rfl
theorem val_take_more (b : Nat) {L : List Nat} {i : Nat} (h : L.length ≤ i) : val b (L.take (i + 1)) = val b (L.take i) := by
  rw [List.take_of_length_le h, List.take_of_length_le (by omega)]
theorem add_math {P V t q r cr x VA VB W : Nat} (h : V + P * cr = VA + VB) (ht : t = cr + x) (hq : r + W * q = t) : V + P * r + P * W * q = VA + VB + P * x := by
  have e1 : P * r + P * W * q = P * t := by rw [← hq, Nat.mul_add, Nat.mul_assoc]
  have e2 : P * t = P * cr + P * x := by rw [ht, Nat.mul_add]
  omega
theorem sub_math {P V A B W r q x t b y : Nat} (h : V + B = A + P * b) (ht : t = b + y) (hq : r + t = x + W * q) : V + P * r + (B + P * y) = A + P * x + P * W * q := by
  have e1 : P * r + P * t = P * x + P * W * q := by rw [← Nat.mul_add, hq, Nat.mul_add, Nat.mul_assoc]
  have e2 : P * t = P * b + P * y := by rw [ht, Nat.mul_add]
  omega
theorem sub_wrap {x t : Nat} (hx : x < W32) (ht : t ≤ W32) (hlt : x < t) : IntKind.u64.wrap ((x : Int) - (t : Int)) % 4294967296 = ((W32 + x - t : Nat) : Int) ∧ IntKind.u64.wrap ((x : Int) - (t : Int)) / 9223372036854775808 = 1 := by
  rw [IntKind.wrap_u64]
  rw [W32_eq] at *
  omega
theorem or_pow (a b i : Nat) (hb : b < 2 ^ i) : a * 2 ^ i ||| b = a * 2 ^ i + b := by
  rw [Nat.mul_comm, ← Nat.two_pow_add_eq_or_of_lt hb]
theorem or64 {hi lo : Nat} (h1 : hi ≤ 4294967295) (h2 : lo ≤ 4294967295) : bits .or .u64 ((hi : Int) * 4294967296) (lo : Int) = ((hi * 4294967296 + lo : Nat) : Int) := by
  rw [show ((hi : Int) * 4294967296) = ((hi * 4294967296 : Nat) : Int) by omega, u64_or_nat _ _ (by omega) (by omega), or_pow hi lo 32 (by omega)]
theorem word_le {x : Nat} (h : x < W32) : x ≤ 4294967295 := by rw [W32_eq] at h; omega
theorem exists_zeros {b : Nat} (hb : 2 ≤ b) (l : List Nat) (h : ∀ x ∈ l, x < b) : ∃ k, l = digs b (val b l) ++ List.replicate k 0 := by
  induction l with
  | nil => exact ⟨0, by simp [val, digs_zero]⟩
  | cons x xs ih =>
    obtain ⟨k, hk⟩ := ih fun y hy => h y (by simp [hy])
    have hx := h x (by simp)
    rcases Nat.eq_zero_or_pos (val b (x :: xs)) with h0 | h0
    · refine ⟨k + 1, ?_⟩
      simp only [val] at h0
      have hx0 : x = 0 := by omega
      have hv : val b xs = 0 := by
        rcases Nat.eq_zero_or_pos (val b xs) with h1 | h1
        · exact h1
        · have := Nat.mul_pos (show 0 < b by omega) h1; omega
      rw [hv, digs_zero, List.nil_append] at hk
      subst hx0
      rw [show val b (0 :: xs) = 0 by simp [val, hv], digs_zero, List.nil_append, List.replicate_succ, ← hk]
    · refine ⟨k, ?_⟩
      rw [digs_pos hb h0]
      simp only [val]
      rw [Nat.add_mul_mod_self_left, Nat.mod_eq_of_lt hx, Nat.add_mul_div_left _ _ (by omega), Nat.div_eq_of_lt hx, Nat.zero_add, List.cons_append, ← hk]
theorem text_math {D P v g q r d m : Nat} (h : D + P * v = m) (hv : v = q * d + g) (hr : g = r) : D + P * (r + d * q) = m := by
  subst hr
  rw [← h, hv, Nat.mul_comm q d, Nat.add_comm g]
theorem digit_math {D P g T v m : Nat} (h : D + P * (g + 10 * T * v) = m) : (D + P * (g % 10)) + P * 10 * (g / 10 + T * v) = m := by
  have e : g + 10 * T * v = g % 10 + 10 * (g / 10 + T * v) := by rw [Nat.mul_add, ← Nat.add_assoc, Nat.mod_add_div, Nat.mul_assoc]
  rw [← h, e, Nat.mul_add P, Nat.mul_assoc P 10]; omega
end Go.Proofs.YthdpojkeceoiiaaDoor
end

section
/- addMultiple: words in place. Conditions: at most 100000 words. -/
open Go.RowKit
set_option maxRecDepth 100000
namespace Go.Proofs.YthdpojkeceoiiaaDoor
theorem grown_drewN {a w : World} {row : Option Nat} (h : a.grownBy w row) (n : Nat) : a.grownBy (w.drewN n) row := ⟨h.os, h.tape, h.output, h.size, h.block⟩
theorem grown_set {a w : World} {g : Nat} (h : a.grownBy w (some g)) (i : Nat) (u : Value) : a.grownBy (w.setCell ⟨g, i, none⟩ u) (some g) :=
  ⟨h.os, h.tape, h.output, by simpa [World.setCell] using h.size, fun k hk hne => (Below.heap_setCell w _ u k (by rintro rfl; exact hne rfl)).trans (h.block k hk hne)⟩
theorem grown_below {w w' : World} {g B : Nat} (h : w.grownBy w' (some g)) (hB : B ≤ g) (hg : g < w.heap.size) : Below B w w' :=
  ⟨h.os, h.tape, h.output, h.size, fun k hk => h.block k (by omega) (by intro e; injection e; omega)⟩
theorem Rd.grown {f : Nat → Value} {w w' : World} {B g : Nat} {A : Option Addr} {xs : List Nat} (h : Rd f w B A xs) (hg : w.grownBy w' (some g)) (hB : B ≤ g) : Rd f w' B A xs := fun hn => by
  obtain ⟨ad, e, hb, hc⟩ := h hn
  exact ⟨ad, e, hb, fun j u hu => hg.cell (hc j u hu) (by rw [block_add]; intro e; injection e; omega)⟩
theorem grown_trans {a b c : World} {row : Option Nat} (h : a.grownBy b row) (k : b.grownBy c row) : a.grownBy c row :=
  ⟨k.os.trans h.os, k.tape.trans h.tape, k.output.trans h.output, Nat.le_trans h.size k.size, fun i hi hne => (k.block i (Nat.lt_of_lt_of_le hi h.size) hne).trans (h.block i hi hne)⟩
/-- trim over words of the call's own. -/
theorem trim_own {w : World} {g n c v : Nat} {seg : List Nat} (h : Blk U32 60 w g seg) (hn : n = seg.length) (hg : Good32 seg) (hl : n ≤ 1000000) (hc : n ≤ c) (hv : val W32 seg = v) :
    Calls Tryd.prog 19 #[.slice (some ⟨g, 0, none⟩) n c] w fun e w' => e = .returned (.slice (some ⟨g, 0, none⟩) (dl v) c) ∧ w = w' := by
  subst hn; subst hv
  exact trim_any _ seg c w w.heap.size (h.rd0 h.lt) hg hl hc
/-- What the words of the call's own tell. -/
theorem can_own {w : World} {g n c v : Nat} {seg : List Nat} (h : Blk U32 60 w g seg) (hn : n = seg.length) (hg : Good32 seg) (hc : n ≤ c) (hv : val W32 seg = v) : Can w w.heap.size (some ⟨g, 0, none⟩) c v := by
  subst hn; subst hv
  have hle : dl (val W32 seg) ≤ seg.length := digs_len_le (by decide) seg hg
  refine ⟨by omega, ?_⟩
  have := (h.rd0 h.lt).take (dl (val W32 seg))
  rwa [show seg.take (dl (val W32 seg)) = digs W32 (val W32 seg) from digs_take (by decide) seg hg] at this
/-- What a call leaves that returns a number. -/
def NumPost (w : World) (v : Nat) (e : Ending) (w' : World) : Prop := ∃ A c, e = .returned (.agg #[.slice A (dl v) c]) ∧ Can w' w'.heap.size A c v ∧ Below w.heap.size w w'
theorem pre3 (w : World) (o1 o2 : Obj) (v : Value) (t : TypeId) (k : Nat) :
    Below w.heap.size w ((((w.alloc o1).alloc o2).alloc (.cells #[v] t)).drewN k) ∧ ((((w.alloc o1).alloc o2).alloc (.cells #[v] t)).drewN k).heap.size = w.heap.size + 3 ∧
    ((((w.alloc o1).alloc o2).alloc (.cells #[v] t)).drewN k).heap[w.heap.size + 2]? = some (.cells #[v] t (0, 0)) := by
  refine ⟨below_drewN ((((Below.refl _ _).alloc (Nat.le_refl _) _).alloc (by simp) _).alloc (by simp; omega) _) k, by simp, ?_⟩
  have := heap_alloc_new ((w.alloc o1).alloc o2) (.cells #[v] t)
  simpa using this
theorem after3 {w w1 : World} {o1 o2 : Obj} {v : Value} {t : TypeId} {k : Nat} (h : Below ((((w.alloc o1).alloc o2).alloc (.cells #[v] t)).drewN k).heap.size ((((w.alloc o1).alloc o2).alloc (.cells #[v] t)).drewN k) w1) :
    Below w.heap.size w w1 ∧ w1.heap[w.heap.size + 2]? = some (.cells #[v] t (0, 0)) ∧ w.heap.size + 3 ≤ w1.heap.size := by
  obtain ⟨p1, p2, p3⟩ := pre3 w o1 o2 v t k
  exact ⟨p1.trans (h.mono p1.size), (h.block _ (by omega)).trans p3, by have := h.size; omega⟩
theorem one_cell {w : World} {g : Nat} {v : Value} {t : TypeId} (h : w.heap[g]? = some (.cells #[v] t (0, 0))) : w.cell? ⟨g, 0, none⟩ = some v ∧ w.frozen? ⟨g, 0, none⟩ = false := by
  refine ⟨?_, ?_⟩
  · rw [cell_of_row w g 0 _ t (0, 0) h]; rfl
  · simp [World.frozen?, h]
def AddMulPost (w : World) (g o k f : Nat) (l ys : List Nat) (e : Ending) (w' : World) : Prop :=
  ∃ (seg : List Nat) (c : Nat), e = .returned (.int .u32 (c : Int)) ∧ Hid (seg.length = k) ∧ Hid (Good32 seg) ∧ Hid (c < W32) ∧ Hid (val W32 seg + W32 ^ k * c = val W32 ((l.drop o).take k) + f * val W32 ys) ∧
    Blk U32 60 w' g (l.take o ++ (seg ++ l.drop (o + k))) ∧ w.grownBy w' (some g)
end Go.Proofs.YthdpojkeceoiiaaDoor
end

section
/- appendGroup. Conditions: at most 1000000 words. -/
open Go.RowKit
set_option maxRecDepth 100000
namespace Go.Proofs.YthdpojkeceoiiaaDoor
theorem set_at {seg L : List Nat} {i v : Nat} (h : seg.length = i) (hi : i < L.length) : (seg ++ L.drop i).set i v = (seg ++ [v]) ++ L.drop (i + 1) := by
  rw [List.set_append, if_neg (by omega), h, Nat.sub_self, List.drop_eq_getElem_cons hi, List.set_cons_zero]; simp
theorem get_at {seg L : List Nat} {i : Nat} (h : seg.length = i) : (seg ++ L.drop i)[i]? = L[i]? := by
  rw [List.getElem?_append_right (by omega), h, Nat.sub_self, List.getElem?_drop]; rfl
/-- Words of the value's own length that tell enough are its digits. -/
theorem digs_of_big {b : Nat} (hb : 2 ≤ b) (l : List Nat) (h : ∀ x ∈ l, x < b) (hv : 0 < l.length → b ^ (l.length - 1) ≤ val b l) : digs b (val b l) = l := by
  have h1 := digs_take hb l h
  have h2 := digs_len_le hb l h
  have h3 : l.length ≤ (digs b (val b l)).length := by
    rcases Nat.eq_zero_or_pos l.length with h0 | h0
    · omega
    · have h4 := hv h0
      have h5 := lt_pow_digs hb (val b l)
      rcases Nat.lt_or_ge (digs b (val b l)).length l.length with h6 | h6
      · have : b ^ (digs b (val b l)).length ≤ b ^ (l.length - 1) := Nat.pow_le_pow_right (by omega) (by omega)
        omega
      · exact h6
  rw [← h1, List.take_of_length_le h3]
/-- A slice of the call's own that reads as ws, with room perhaps. -/
def OwnF (f : Nat → Value) (t : TypeId) (w : World) (base g cap : Nat) (ws : List Nat) : Prop := w.ownsRow base t 1 (.slice (some ⟨g, 0, none⟩) ws.length cap) ws.length (ws.map f)
section
variable {f : Nat → Value} {t : TypeId} {w : World} {base g cap : Nat} {ws : List Nat}
theorem OwnF.cell (h : OwnF f t w base g cap ws) {i x : Nat} (hx : ws[i]? = some x) : w.cell? ⟨g, i, none⟩ = some (f x) := by
  have hi : i < ws.length := by
    rcases Nat.lt_or_ge i ws.length with h1 | h1
    · exact h1
    · rw [List.getElem?_eq_none h1] at hx; cases hx
  rw [World.ownsRow.cellAt h i (by omega), List.getElem?_map, hx]; rfl
theorem OwnF.set_ (h : OwnF f t w base g cap ws) (i v : Nat) : OwnF f t (w.setCell ⟨g, i, none⟩ (f v)) base g cap (ws.set i v) := by
  have := (World.ownsRow.stored h i (f v)).1
  unfold OwnF
  rw [List.length_set, List.map_set]
  exact this
theorem OwnF.ge (h : OwnF f t w base g cap ws) : base ≤ g ∧ g < w.heap.size := h.lt g rfl
theorem OwnF.frozen (h : OwnF f t w base g cap ws) (i : Nat) : w.frozen? ⟨g, i, none⟩ = false := World.ownsRow.frozenAt h i
theorem OwnF.drewN (h : OwnF f t w base g cap ws) (n : Nat) : OwnF f t (w.drewN n) base g cap ws := h
theorem OwnF.drew (h : OwnF f t w base g cap ws) : OwnF f t w.drew base g cap ws := h
end
def OwnG (w : World) (base g cap : Nat) (ws : List Nat) : Prop := OwnF U32 60 w base g cap ws
theorem OwnG.cell {w : World} {base g cap : Nat} {ws : List Nat} (h : OwnG w base g cap ws) {i x : Nat} (hx : ws[i]? = some x) : w.cell? ⟨g, i, none⟩ = some (.int .u32 (x : Int)) := OwnF.cell h hx
theorem OwnG.set_ {w : World} {base g cap : Nat} {ws : List Nat} (h : OwnG w base g cap ws) (i v : Nat) : OwnG (w.setCell ⟨g, i, none⟩ (.int .u32 (v : Int))) base g cap (ws.set i v) := OwnF.set_ h i v
theorem OwnG.ge {w : World} {base g cap : Nat} {ws : List Nat} (h : OwnG w base g cap ws) : base ≤ g ∧ g < w.heap.size := OwnF.ge h
def AGPost (w : World) (base M : Nat) (e : Ending) (w' : World) : Prop :=
  ∃ g' cap', e = .returned (.slice (some ⟨g', 0, none⟩) (dl M) cap') ∧ Hid (OwnG w' base g' cap' (digs W32 M)) ∧ Hid (Below base w w')
theorem OwnG.can {w : World} {base g cap m : Nat} (h : OwnG w base g cap (digs W32 m)) {p : Addr} (hp : g ≠ p.block) (u : Value) : Can (w.setCell p u) (w.setCell p u).heap.size (some ⟨g, 0, none⟩) cap m := by
  refine ⟨?_, fun _ => ⟨_, rfl, by have := h.ge.2; simpa [World.setCell] using this, fun j x hx => ?_⟩⟩
  · rcases h.2 with ⟨h', _⟩ | ⟨g', cap', cur, h', _, _, hn, _⟩
    · cases h'
    · simp only [Value.slice.injEq, Option.some.injEq, Addr.mk.injEq, and_true, true_and] at h'
      obtain ⟨_, rfl⟩ := h'
      exact hn
  · rw [World.cell?_setCell_other w p _ u (by intro e; rw [e, block_add] at hp; exact hp rfl)]
    exact World.ownsRow.cells h rfl j _ (by rw [List.getElem?_map, hx]; rfl)
theorem ag_math {P V c vt group q r x W : Nat} (h : V + P * c = vt * 1000000000 + group) (hq : r + W * q = c + x * 1000000000) : V + P * r + P * W * q = (vt + P * x) * 1000000000 + group := by
  have e1 : P * r + P * W * q = P * c + P * (x * 1000000000) := by rw [Nat.mul_assoc, ← Nat.mul_add, hq, Nat.mul_add]
  rw [Nat.add_mul, Nat.mul_assoc P x]; omega
set_option maxHeartbeats 1000000 in
theorem appendGroup_any {g cap base m group : Nat} {w : World} (h : OwnG w base g cap (digs W32 m)) (hg : group ≤ 999999999) (hl : dl m ≤ 1000000) :
    Calls Tryd.prog 60 #[.slice (some ⟨g, 0, none⟩) (dl m) cap, .int .u32 (group : Int)] w (AGPost w base (m * 1000000000 + group)) := by
  have H := hide h
  have HBG := hide h.ge
  clear h
  obtain ⟨i0, hi0, hz0, hz1, hz2⟩ := info_parts Tryd.infoU32
  have I0 := hide hi0
  have Z0 := hide hz0
  have Z1 := hide hz1
  have Z2 := hide hz2
  clear hi0 hz0 hz1 hz2
  go_enter Tryd.func60, Tryd.ntmps60
  go_wp2
  go_loopw [5, 12] (fun cv iv wr => ∃ i c : Nat, ∃ seg : List Nat, i ≤ dl m ∧ c ≤ 999999999 ∧ cv = .int .u64 (c : Int) ∧ iv = .int .i64 (i : Int) ∧ Hid (seg.length = i) ∧ Hid (Good32 seg) ∧ Hid (val W32 seg + W32 ^ i * c = val W32 ((digs W32 m).take i) * 1000000000 + group) ∧
      Hid (OwnG wr base g cap (seg ++ (digs W32 m).drop i)) ∧ Hid (w.grownBy wr (some g)))
    (fun _ iv _ => dl m - (intOf iv).toNat)
  case atStart => exact ⟨0, group, [], Nat.zero_le _, hg, rfl, rfl, rfl, by intro x hx; simp at hx, by simp [Hid, val], H, World.grownBy.refl _ _⟩
  case round =>
    obtain ⟨i, c, seg, hi, hc, rfl, rfl, hsl, hsg, hval, hown, hgr⟩ := hrel
    by_cases hlt : i < dl m
    · have hix : i < (digs W32 m).length := hlt
      obtain ⟨x, hxe⟩ : ∃ x, x = (digs W32 m)[i] := ⟨_, rfl⟩
      have hxL : (digs W32 m)[i]? = some x := by rw [hxe]; exact List.getElem?_eq_getElem hix
      have RX := hide (val_take_succ W32 (L := digs W32 m) (i := i) (x := x) hxL)
      have hxW : x ≤ 4294967295 := word_le (by rw [hxe]; exact good_digs m _ (List.getElem_mem _))
      have hcx := hown.out.cell (show (seg ++ (digs W32 m).drop i)[i]? = some x by rw [get_at hsl.out]; exact hxL)
      have hfz := World.ownsRow.frozenAt hown.out i
      have RM := hide (ag_math (W := W32) hval.out (lohi (c + x * 1000000000)))
      have HS := hide (set_at (v := (c + x * 1000000000) % W32) hsl.out hix)
      clear hxe hix hxL
      go_wp2
      go_roundw
      case rel =>
        refine ⟨i + 1, (c + x * 1000000000) / W32, seg ++ [(c + x * 1000000000) % W32], by omega, by rw [W32_eq]; omega, rfl, by go_num, by unfold Hid; simp [hsl.out], good_snoc hsg.out (lo_lt _), ?_, ?_, grown_set hgr.out _ _⟩
        · unfold Hid
          rw [val_snoc, hsl.out, Nat.pow_succ, RX.out]
          exact RM.out
        · have h1 := hown.out.set_ i ((c + x * 1000000000) % W32)
          rw [HS.out] at h1
          exact h1
      case measure => simp [intOf]; omega
    · obtain rfl : i = dl m := by omega
      have hd : (digs W32 m).drop (dl m) = [] := List.drop_of_length_le (Nat.le_refl _)
      rw [hd, List.append_nil] at hown
      have HV : Hid (val W32 seg + W32 ^ dl m * c = m * 1000000000 + group) := by
        have := hval.out
        rw [List.take_of_length_le (show (digs W32 m).length ≤ dl m from Nat.le_refl _), val_digs32] at this
        exact this
      clear hd hval
      by_cases hc0 : c = 0
      · subst hc0
        have HM : Hid (digs W32 (m * 1000000000 + group) = seg) := by
          unfold Hid
          have h1 := HV.out
          rw [Nat.mul_zero, Nat.add_zero] at h1
          rw [← h1]
          refine digs_of_big (by decide) seg hsg.out fun h0 => ?_
          rw [hsl.out] at h0 ⊢
          have h2 := pow_le_of_digs (b := W32) (n := m) (by decide) (by
            rcases Nat.eq_zero_or_pos m with rfl | h3
            · exact absurd h0 (by unfold dl; rw [digs_zero]; simp)
            · exact h3)
          exact Nat.le_trans h2 (by rw [h1]; omega)
        have HDL : Hid (dl (m * 1000000000 + group) = dl m) := by unfold Hid; rw [show dl (m * 1000000000 + group) = seg.length by unfold dl; rw [HM.out], hsl.out]
        go_wp2
        go_ret
        refine ⟨g, cap, slice_ret HDL.out.symm, ?_, grown_below hgr.out HBG.out.1 HBG.out.2⟩
        rw [HM.out]
        exact hown
      · have hcp : (0 : Int) < (c : Int) := by omega
        have HM : Hid (digs W32 (m * 1000000000 + group) = seg ++ [c]) := by
          unfold Hid
          have h1 : val W32 (seg ++ [c]) = m * 1000000000 + group := by rw [val_snoc, hsl.out]; exact HV.out
          rw [← h1]
          refine digs_of_big (by decide) _ (good_snoc hsg.out (by rw [W32_eq]; omega)) fun _ => ?_
          rw [val_snoc, List.length_append, List.length_singleton, Nat.add_sub_cancel]
          exact Nat.le_trans (Nat.le_mul_of_pos_right _ (by omega)) (Nat.le_add_left _ _)
        have HDL : Hid (dl (m * 1000000000 + group) = dl m + 1) := by unfold Hid; rw [show dl (m * 1000000000 + group) = (seg ++ [c]).length by unfold dl; rw [HM.out]]; simp [hsl.out]
        have HO : Hid (wr.ownsRow base 60 1 (.slice (some ⟨g, 0, none⟩) (dl m) cap) (dl m) (seg.map U32)) := by
          have := hown.out
          unfold OwnG OwnF at this
          rw [hsl.out] at this
          exact this
        have HBW := hide (Nat.le_trans HBG.out.1 (Nat.le_of_lt (Nat.lt_of_lt_of_le HBG.out.2 hgr.out.size)))
        clear hc0
        go_wp2_with (first | (at_builtin; go_must (refine wpList_append_own _ rfl (.tmp 32) (.tmp 35) 39 rfl base 60 i0 (.int .u32 0) 1 4 Tryd.underlying39 I0.out Z0.out Z1.out Z2.out rfl (by decide) _ _ _ rfl (HO.out.alloc _) ⟨wr.heap.size, 0, none⟩ 1 1 [.int .u32 (c : Int)] rfl rfl (cell_one_new _ _ _) (by intro u hu; simp at hu; subst hu; rfl) (by simp only [maxLen]; omega) (by omega) (by have := HBW.out; simp; omega) ?_; intro v' w1 hown' hgrow hnil)))
        go_ret
        have hown2 := hown'
        rcases hown'.2 with ⟨_, h0⟩ | ⟨g', cap', cur, rfl, _⟩
        · omega
        · refine ⟨g', cap', slice_ret HDL.out.symm, ?_, ?_⟩
          · unfold Hid OwnG OwnF
            rw [HM.out, List.length_append, hsl.out, List.map_append]
            exact hown2
          · exact ((grown_below hgr.out HBG.out.1 HBG.out.2).alloc HBW.out _).grown hgrow (by have := HBW.out; simp; omega) (by intro k hk; have e : some g = some k := hk; injection e with e; have := HBG.out.1; omega)
end Go.Proofs.YthdpojkeceoiiaaDoor
end

section
/- The document's own numbers, four digits each: trim, at, Cmp, Small. Conditions: at most 1000000 of them. -/
open Go.RowKit
set_option maxRecDepth 100000
namespace Go.Proofs.YthdpojkeceoiiaaDoor
def D4 : Nat := 10000
theorem D4_eq : D4 = 10000 := rfl
def dq (m : Nat) : Nat := (digs D4 m).length
def Good4 (ws : List Nat) : Prop := ∀ x ∈ ws, x < D4
def RN (w : World) (B : Nat) (A : Option Addr) (c m : Nat) : Prop := dq m ≤ c ∧ Rd I64 w B A (digs D4 m)
section
variable {w w' : World} {B B' : Nat} {A : Option Addr} {c m : Nat}
theorem RN.below (h : RN w B A c m) (hb : Below B w w') : RN w' B A c m := ⟨h.1, h.2.below hb⟩
theorem RN.more (h : RN w B A c m) (hb : B ≤ B') : RN w B' A c m := ⟨h.1, h.2.more hb⟩
theorem RN.drewN (h : RN w B A c m) (k : Nat) : RN (w.drewN k) B A c m := h
end
def RefPost (w : World) (m : Nat) (e : Ending) (w' : World) : Prop := ∃ A c, e = .returned (.slice A (dq m) c) ∧ Hid (RN w' w'.heap.size A c m) ∧ Hid (Below w.heap.size w w')
theorem good4_digs (m : Nat) : Good4 (digs D4 m) := digs_lt (by decide) m
theorem val_digs4 (m : Nat) : val D4 (digs D4 m) = m := val_digs (by decide) m
def trimmed4 (ws : List Nat) : Nat := dq (val D4 ws)
theorem trimmed4_of {ws : List Nat} {k : Nat} (h : Good4 ws) (hk : k ≤ ws.length) (hz : ∀ j : Nat, k ≤ j → ws[j]?.getD 0 = 0) (hl : 0 < k → ws[k - 1]?.getD 0 ≠ 0) : trimmed4 ws = k := by
  unfold trimmed4 dq
  rw [← trim_eq (by decide) ws k h hk hz hl, List.length_take, Nat.min_eq_left hk]
theorem rdigs_take (ws : List Nat) (h : Good4 ws) : ws.take (dq (val D4 ws)) = digs D4 (val D4 ws) := digs_take (by decide) ws h
theorem rn_of {A : Option Addr} {ws : List Nat} {n c v : Nat} {w : World} {B : Nat} (hn : n = ws.length) (hv : val D4 ws = v) (h : Rd I64 w B A ws) (hw : Good4 ws) (hc : n ≤ c) : RN w B A c v := by
  subst hn; subst hv
  have hle : dq (val D4 ws) ≤ ws.length := digs_len_le (by decide) ws hw
  refine ⟨by omega, ?_⟩
  have := h.take (dq (val D4 ws))
  rwa [rdigs_take ws hw] at this
theorem cmpI_len4 {m n : Nat} (h : dq m ≠ dq n) : cmpI (dq m) (dq n) = cmpI m n := by
  rcases Nat.lt_or_ge (dq m) (dq n) with h1 | h1
  · rw [cmpI_lt h1, cmpI_lt (digs_len_lt (b := D4) (by decide) h1)]
  · rw [cmpI_gt (by omega), cmpI_gt (digs_len_lt (b := D4) (by decide) (show dq n < dq m by omega))]
theorem cmpI_at4 {m n i : Nat} (hlen : dq m = dq n) (hi : i < dq m) (heq : (digs D4 m).drop (i + 1) = (digs D4 n).drop (i + 1)) {x y : Nat} (hx : (digs D4 m)[i]? = some x) (hy : (digs D4 n)[i]? = some y) (hne : x ≠ y) : cmpI x y = cmpI m n := by
  have key : ∀ {m n x y : Nat}, dq m = dq n → i < dq m → (digs D4 m).drop (i + 1) = (digs D4 n).drop (i + 1) → (digs D4 m)[i]? = some x → (digs D4 n)[i]? = some y → x < y → m < n := by
    intro m n x y hlen hi heq hx hy hlt
    have := val_cmp (b := D4) (digs D4 m) (digs D4 n) i (digs_lt (by decide) m) hlen hi heq (by rw [hx, hy]; exact hlt)
    rwa [val_digs (by decide), val_digs (by decide)] at this
  rcases Nat.lt_or_ge x y with h | h
  · rw [cmpI_lt h, cmpI_lt (key hlen hi heq hx hy h)]
  · rw [cmpI_gt (by omega), cmpI_gt (key hlen.symm (by omega) heq.symm hy hx (by omega))]
end Go.Proofs.YthdpojkeceoiiaaDoor
end

section
/- The document's own numbers: Small, Add. Conditions: at most 100000 fours of digits. -/
open Go.RowKit
set_option maxRecDepth 100000
namespace Go.Proofs.YthdpojkeceoiiaaDoor
theorem row_rd {f : Nat → Value} {t : TypeId} {w : World} {base : Nat} {v : Value} {dd : List Nat} (h : w.ownsRow base t 1 v dd.length (dd.map f)) : ∃ A c, v = .slice A dd.length c ∧ dd.length ≤ c ∧ Rd f w w.heap.size A dd := by
  have h' := h
  rcases h.2 with ⟨rfl, h0⟩ | ⟨g, cap, cur, rfl, _, _, hn, _⟩
  · have := List.eq_nil_of_length_eq_zero h0
    subst this
    exact ⟨none, 0, rfl, Nat.le_refl _, Rd.nil⟩
  · exact ⟨_, cap, rfl, hn, fun _ => ⟨_, rfl, (h'.lt g rfl).2, fun j x hx => World.ownsRow.cells h' rfl j _ (by rw [List.getElem?_map, hx]; rfl)⟩⟩
theorem app_below {w wr w1 : World} {base n : Nat} {t : TypeId} {dv : Value} {xs : List Value} {o : Obj} (hown : wr.ownsRow base t 1 dv n xs) (hbel : Below w.heap.size w wr) (hg : w.heap.size ≤ base) (hgrow : (wr.alloc o).grownBy w1 dv.ownBlock) : Below w.heap.size w w1 :=
  (hbel.alloc hbel.size _).grown hgrow (by have := hbel.size; simp; omega) (fun k hk => by have := (hown.lt k hk).1; omega)
theorem dq_u64 {n : Nat} (h : n < 100000000000000000000) : dq n ≤ 5 := by
  rcases Nat.eq_zero_or_pos n with rfl | h0
  · unfold dq; rw [digs_zero]; simp
  · have h1 := pow_le_of_digs (b := D4) (by decide) h0
    have h2 : D4 ^ (dq n - 1) < D4 ^ 5 := Nat.lt_of_le_of_lt h1 (by rw [D4_eq]; omega)
    have h3 := (Nat.pow_lt_pow_iff_right (a := D4) (by decide)).1 h2
    omega
theorem val_take_getD (b : Nat) (L : List Nat) (i : Nat) : val b (L.take (i + 1)) = val b (L.take i) + b ^ i * (L[i]?.getD 0) := by
  rcases Nat.lt_or_ge i L.length with h | h
  · rw [val_take_succ b (List.getElem?_eq_getElem h), List.getElem?_eq_getElem h]; rfl
  · rw [val_take_more b h, List.getElem?_eq_none h]; rfl
theorem getD_lt {L : List Nat} (h : Good4 L) (i : Nat) : L[i]?.getD 0 ≤ 9999 := by
  rcases Nat.lt_or_ge i L.length with h1 | h1
  · rw [List.getElem?_eq_getElem h1]
    have := h _ (List.getElem_mem h1)
    rw [D4_eq] at this
    show L[i] ≤ 9999; omega
  · rw [List.getElem?_eq_none h1]; exact Nat.zero_le _
theorem lohi4 (t : Nat) : t % D4 + D4 * (t / D4) = t := Nat.mod_add_div t D4
end Go.Proofs.YthdpojkeceoiiaaDoor
end

section
/- The document's own numbers: Sub. Conditions: at most 100000 fours of digits; a is at least b. -/
open Go.RowKit
set_option maxRecDepth 100000
namespace Go.Proofs.YthdpojkeceoiiaaDoor
theorem rsub_end {V m n k cr : Nat} (h : V + n = m + D4 ^ k * cr) (hV : V < D4 ^ k) (hnm : n ≤ m) (hc : cr ≤ 1) : V = m - n := by
  rcases Nat.eq_zero_or_pos cr with h0 | h0
  · rw [h0, Nat.mul_zero] at h; omega
  · obtain rfl : cr = 1 := by omega
    rw [Nat.mul_one] at h; omega
end Go.Proofs.YthdpojkeceoiiaaDoor
end

section
/- Words for the document's own division: the reckoning, and append of any slice that reads as a list. No conditions. -/
open Go.RowKit
set_option maxRecDepth 100000
namespace Go.Proofs.YthdpojkeceoiiaaDoor
section
variable {P : Program} {w : World}
/-- Of a nil slice append adds nothing. -/
theorem app_nil (base : Nat) (t ty e : TypeId) (i : TypeInfo) (size : Nat) (ht : P.underlying t = some (.slice e)) (hi : P.info? e = some i)
    (v : Value) (n : Nat) (xs : List Value) (hown : w.ownsRow base e size v n xs) (c : Nat) : (Builtin.append_ #[t, t] ty #[v, .slice none 0 c]).run P w = .ok v w := by
  rcases hown.2 with ⟨rfl, rfl⟩ | ⟨g, cap, cur, rfl, _, _, hnc, _⟩
  · simp [Builtin.append_, run_underlying ht, sizeOf, typeInfo, hi, Builtin.lenOf, Builtin.firstCells]
  · simp [Builtin.append_, run_underlying ht, sizeOf, typeInfo, hi, Builtin.lenOf, Builtin.firstCells, hnc, storeCells]
theorem app_run {f : Nat → Value} (hf : ∀ x, (f x).oneCell' = true) (base : Nat) (t ty e : TypeId) (i : TypeInfo) (z : Value) (bytes : Nat) (ht : P.underlying t = some (.slice e)) (hi : P.info? e = some i) (hz : i.zero = some z)
    (hsize : i.size = 1) (hby : i.bytes = bytes) (hzs : z.cells.size = 1) {v : Value} {n : Nat} {xs : List Value} (hown : w.ownsRow base e 1 v n xs)
    {B : Nat} {A : Option Addr} {m c : Nat} {ws : List Nat} (hm : m = ws.length) (hr : Rd f w B A ws) (h63 : n + m ≤ maxLen) (hbytes : (n + m) * bytes ≤ 140737488355328) (hbase : base ≤ w.heap.size) :
    ∃ v' w', (Builtin.append_ #[t, t] ty #[v, .slice A m c]).run P w = .ok v' w' ∧ w'.ownsRow base e 1 v' (n + m) (xs ++ ws.map f) ∧ w.grownBy w' v.ownBlock ∧ (v'.ownBlock = v.ownBlock ∨ v'.ownBlock = some w.heap.size) := by
  subst hm
  by_cases h0 : ws = []
  · subst h0
    cases A with
    | none => exact ⟨v, w, app_nil base t ty e i 1 ht hi v n xs hown c, by simpa using hown, World.grownBy.refl w _, .inl rfl⟩
    | some ad =>
      obtain ⟨v', w', h1, h2, h3, _, h5⟩ := run_append_own_at (P := P) w base t ty e i z 1 bytes ht hi hz hsize hby hzs (by decide) v n xs hown ad 0 c [] (by simp) (by simp) (by simp) h63 hbytes hbase
      exact ⟨v', w', h1, by simpa using h2, h3, h5⟩
  · obtain ⟨ad, rfl, _, hc⟩ := hr (List.length_pos_iff.2 h0)
    obtain ⟨v', w', h1, h2, h3, _, h5⟩ := run_append_own_at (P := P) w base t ty e i z 1 bytes ht hi hz hsize hby hzs (by decide) v n xs hown ad ws.length c (ws.map f) (by simp) (fun j u hu => by
      rw [List.getElem?_map] at hu
      cases hj : ws[j]? with
      | none => rw [hj] at hu; cases hu
      | some x => rw [hj] at hu; injection hu with hu; rw [← hu]; exact hc j x hj) (by intro u hu; obtain ⟨x, _, rfl⟩ := List.mem_map.1 hu; exact hf x) h63 hbytes hbase
    exact ⟨v', w', h1, h2, h3, h5⟩
theorem wpList_app {f : Nat → Value} (hf : ∀ x, (f x).oneCell' = true) {ops : Array Oper} {rest : List Oper} {o : Oper} {a : Act} {Q : Exit → Act → World → Prop} (hgd : o.guard = none) (s x : Operand) (t : TypeId)
    (ho : o.op = .call { callee := .builtin .append, args := #[s, x], argTypes := #[t, t] }) (base : Nat) (e : TypeId) (i : TypeInfo) (z : Value) (bytes : Nat) (ht : P.underlying t = some (.slice e)) (hi : P.info? e = some i) (hz : i.zero = some z)
    (hsize : i.size = 1) (hby : i.bytes = bytes) (hzs : z.cells.size = 1) {v : Value} {n : Nat} {xs : List Value} (hs : a.eval s = v) (hown : w.ownsRow base e 1 v n xs)
    {B : Nat} {A : Option Addr} {m c : Nat} {ws : List Nat} (hx : a.eval x = .slice A m c) (hm : m = ws.length) (hr : Rd f w B A ws) (h63 : n + m ≤ maxLen) (hbytes : (n + m) * bytes ≤ 140737488355328) (hbase : base ≤ w.heap.size)
    (h : ∀ v' w', w'.ownsRow base e 1 v' (n + m) (xs ++ ws.map f) → w.grownBy w' v.ownBlock → (v'.ownBlock = v.ownBlock ∨ v'.ownBlock = some w.heap.size) → wpList P ops Q rest (a.put o.dst v') w') : wpList P ops Q (o :: rest) a w := by
  refine wpList_plain hgd fun K hK => ?_
  obtain ⟨v', w', h1, h2, h3, h4⟩ := app_run (P := P) hf base t o.type e i z bytes ht hi hz hsize hby hzs hown hm hr h63 hbytes hbase
  unfold Oper.wp execOp
  simp only [ho, resolve, invoke, builtin, Sem.run_bind, Sem.run_pure, Result.andThen_ok, List.map_toArray, List.map_cons, List.map_nil, hs, hx]
  rw [h1]
  exact hK _ _ (h v' w' h2 h3 h4)
end
/-- One digit of the quotient. -/
theorem rdiv_digit {n r x : Nat} (hr : r < n) (hx : x ≤ 9999) : (x + D4 * r) / n ≤ 9999 ∧ (x + D4 * r) - n * ((x + D4 * r) / n) < n ∧ n * ((x + D4 * r) / n) ≤ x + D4 * r := by
  have h0 : 0 < n := by omega
  have h1 : (x + D4 * r) / n < 10000 := by
    rw [Nat.div_lt_iff_lt_mul h0]
    have : D4 * (r + 1) ≤ 10000 * n := Nat.mul_le_mul (by decide) hr
    rw [Nat.mul_add, D4_eq] at this
    rw [D4_eq]; omega
  have h2 := Nat.div_add_mod (x + D4 * r) n
  have h3 := Nat.mod_lt (x + D4 * r) h0
  omega
theorem rdiv_step {n H r x M t r' : Nat} (hM : M = n * H + r) (ht : n * t + r' = x + D4 * r) : x + D4 * M = n * (t + D4 * H) + r' := by
  have e1 : n * (t + D4 * H) = n * t + D4 * (n * H) := by rw [Nat.mul_add, Nat.mul_left_comm]
  rw [hM, e1, Nat.mul_add]; omega
theorem rdiv_end {m n Q r : Nat} (hM : m = n * Q + r) (hr : r < n) : m / n = Q ∧ m % n = r := by
  exact (Nat.div_mod_unique (a := m) (b := n) (by omega)).2 ⟨by rw [hM, Nat.add_comm], hr⟩
theorem zeros_set {hi : List Nat} {i v : Nat} : (List.replicate (i + 1) 0 ++ hi).set i v = List.replicate i 0 ++ (v :: hi) := by
  rw [List.replicate_succ']
  rw [List.append_assoc, List.set_append_right _ _ (by simp)]
  simp
theorem val_drop_lt {m top : Nat} (h : top ≤ dq m) : val D4 ((digs D4 m).drop top) < D4 ^ (dq m - top) := by
  have := val_lt ((digs D4 m).drop top) (fun x hx => good4_digs m x (List.mem_of_mem_drop hx))
  rwa [List.length_drop] at this
/-- The bisection's step. -/
theorem bis_le {n s t : Nat} (h0 : 0 < n) : n * s ≤ t ↔ s ≤ t / n := by rw [Nat.mul_comm]; exact (Nat.le_div_iff_mul_le h0).symm
end Go.Proofs.YthdpojkeceoiiaaDoor
end

section
/- The document's own numbers: Mul. Conditions: at most 100000 fours of digits. -/
open Go.RowKit
set_option maxRecDepth 100000
namespace Go.Proofs.YthdpojkeceoiiaaDoor
theorem made_i64 (w : World) (n : Nat) : Blk I64 3 (w.alloc (.cells (madeCells #[.int .i64 0] n) 3)) w.heap.size (List.replicate n 0) := made_zeros w _ _ n
theorem rmul_end {R seg : List Nat} {i k x m' X : Nat} (hi : i + k ≤ R.length) (hs : seg.length = k) (hR : val D4 R = X * m') (hv : val D4 seg = val D4 ((R.drop i).take k) + x * m') :
    val D4 (R.take i ++ (seg ++ R.drop (i + k))) = (X + D4 ^ i * x) * m' := by
  rw [val_append, val_append, hv, hs, List.length_take, Nat.min_eq_left (by omega)]
  have e : val D4 R = val D4 (R.take i) + D4 ^ i * (val D4 ((R.drop i).take k) + D4 ^ k * val D4 (R.drop (i + k))) := by
    have h1 := val_append D4 (R.take i) (R.drop i)
    rw [List.take_append_drop, List.length_take, Nat.min_eq_left (by omega)] at h1
    have h2 := val_append D4 ((R.drop i).take k) ((R.drop i).drop k)
    rw [List.take_append_drop, List.length_take, List.length_drop, Nat.min_eq_left (by omega), List.drop_drop] at h2
    rw [h1, h2]
  rw [Nat.add_mul, ← hR, e, Nat.mul_assoc]
  generalize D4 ^ i = P
  simp only [Nat.mul_add]; omega
theorem good4_app {l m : List Nat} (h : Good4 l) (hm : Good4 m) : Good4 (l ++ m) := by
  intro x hx
  rcases List.mem_append.1 hx with hx | hx
  · exact h x hx
  · exact hm x hx
theorem rmul_math {P V c A x Y s y t q r : Nat} (h : V + P * c = A + x * Y) (ht : t = s + x * y + c) (hq : r + D4 * q = t) : V + P * r + P * D4 * q = A + P * s + x * (Y + P * y) := by
  have e1 : P * r + P * D4 * q = P * t := by rw [← hq, Nat.mul_add, Nat.mul_assoc]
  have e2 : P * t = P * s + P * (x * y) + P * c := by rw [ht, Nat.mul_add, Nat.mul_add]
  have e3 : x * (P * y) = P * (x * y) := by rw [Nat.mul_left_comm]
  rw [Nat.mul_add x, e3]; omega
end Go.Proofs.YthdpojkeceoiiaaDoor
end

section
/- The document's own numbers: Words. Conditions: at most 4000 words. -/
open Go.RowKit
set_option maxRecDepth 100000
namespace Go.Proofs.YthdpojkeceoiiaaDoor
theorem dq_le {m k : Nat} (h : m < D4 ^ k) : dq m ≤ k := by
  rcases Nat.eq_zero_or_pos m with rfl | h0
  · unfold dq; rw [digs_zero]; simp
  · have h1 := pow_le_of_digs (b := D4) (by decide) h0
    have h2 : D4 ^ (dq m - 1) < D4 ^ k := Nat.lt_of_le_of_lt h1 h
    have h3 := (Nat.pow_lt_pow_iff_right (a := D4) (by decide)).1 h2
    omega
theorem dq_words {m k : Nat} (h : m < W32 ^ k) : dq m ≤ 3 * k := by
  refine dq_le (Nat.lt_of_lt_of_le h ?_)
  rw [Nat.pow_mul]
  exact Nat.pow_le_pow_left (by decide) k
theorem dq_zero : dq 0 = 0 := by unfold dq; rw [digs_zero]; rfl
theorem u64_of_word {x : Nat} (h : x ≤ 4294967295) : x < 18446744073709551616 := by omega
theorem keepS {wr W W' : World} {a : Addr} {v : Option Value} (hlt : a.block < wr.heap.size) (hb : Hid (Below W.heap.size W W')) (h : W.cell? a = v ∧ Below wr.heap.size wr W) : W'.cell? a = v ∧ Below wr.heap.size wr W' :=
  ⟨(hb.out.cell (Nat.lt_of_lt_of_le hlt h.2.size)).trans h.1, h.2.trans (hb.out.mono h.2.size)⟩
end Go.Proofs.YthdpojkeceoiiaaDoor
end

section
/- The document's own numbers: Div. Conditions: at most 100000 fours of digits, a divisor above 0. -/
open Go.RowKit
set_option maxRecDepth 100000
namespace Go.Proofs.YthdpojkeceoiiaaDoor
def RDivR (w : World) (q r : Nat) (e : Ending) (w' : World) : Prop :=
  ∃ A c A' c', e = .returned (.tuple #[.slice A (dq q) c, .slice A' (dq r) c']) ∧ Hid (RN w' w'.heap.size A c q) ∧ Hid (RN w' w'.heap.size A' c' r) ∧ Hid (Below w.heap.size w w')
theorem rn_nil (w : World) (B : Nat) (A : Option Addr) (c : Nat) : RN w B A c 0 := ⟨by rw [dq_zero]; exact Nat.zero_le _, by rw [digs_zero]; exact Rd.nil⟩
theorem slice_from (t e : TypeId) (i : TypeInfo) (ht : Tryd.prog.underlying t = some (.slice e)) (hi : Tryd.prog.info? e = some i) (hs : i.size = 1) (A : Option Addr) {n c k : Nat} (hk : k ≤ n) (W : World) :
    (Instr.sliceAt t (.slice A n c) (some (.int .i64 (k : Int))) none none).run Tryd.prog W = .ok (.slice (if c = k then A else A.map (·.add k)) (n - k) (c - k)) W := by
  have he : Tryd.prog.elem t = e := by simp [Program.elem, ht]
  have h2 : Tryd.prog.underlying t = some (.slice (Tryd.prog.elem t)) := by rw [he]; exact ht
  rw [run_sliceAt_slice W t _ _ _ _ h2, run_slice_l W t A n c h2 .i64 (k : Int) (by omega) (by omega), he]
  simp [sizeOf, typeInfo, hi, hs, sliced, Result.andThen]
/-- The row that append leaves, read as a list. -/
theorem row_own {w : World} {base n : Nat} {t : TypeId} {v : Value} {xs : List Value} {f : Nat → Value} {dd : List Nat} (h : w.ownsRow base t 1 v n xs) (hn : n = dd.length) (hx : xs = dd.map f) :
    ∃ A c, v = .slice A n c ∧ n ≤ c ∧ Rd f w w.heap.size A dd ∧ (∀ ad, A = some ad → v.ownBlock = some ad.block) := by
  subst hn; subst hx
  obtain ⟨A, c, rfl, h1, h2⟩ := row_rd h
  exact ⟨A, c, rfl, h1, h2, fun ad e => by subst e; rfl⟩
theorem RN.set {w : World} {B : Nat} {A : Option Addr} {c m g i : Nat} (h : RN w B A c m) (hg : ∀ ad, A = some ad → ad.block ≠ g) (u : Value) : RN (w.setCell ⟨g, i, none⟩ u) B A c m := by
  refine ⟨h.1, fun hn => ?_⟩
  obtain ⟨ad, e, hb, hx⟩ := h.2 hn
  refine ⟨ad, e, hb, fun j x hj => ?_⟩
  rw [World.cell?_setCell_other w ⟨g, i, none⟩ _ u (by intro e2; exact hg ad e (by rw [← block_add ad j, ← e2]))]
  exact hx j x hj
theorem dq_mul_le {n s : Nat} (hl : dq n ≤ 100000) (hs : s ≤ 9999) : dq (n * s) ≤ 1000000 := by
  have h1 : n < D4 ^ dq n := lt_pow_digs (b := D4) (by decide) n
  have h2 : n * s < D4 ^ (dq n + 1) := by
    rw [Nat.pow_succ]
    exact Nat.lt_of_le_of_lt (Nat.mul_le_mul_left n (show s ≤ D4 by rw [D4_eq]; omega)) (Nat.mul_lt_mul_of_pos_right h1 (by decide))
  have := dq_le h2
  omega
theorem dq_step {n r x : Nat} (hl : dq n ≤ 99999) (hr : r < n) (hx : x ≤ 9999) : dq (x + D4 * r) ≤ 100000 := by
  have h1 : n < D4 ^ dq n := lt_pow_digs (b := D4) (by decide) n
  have h2 : x + D4 * r < D4 ^ (dq n + 1) := by
    rw [Nat.pow_succ]
    generalize D4 ^ dq n = P at h1
    have h3 : (r + 1) * 10000 ≤ P * 10000 := Nat.mul_le_mul_right _ (by omega)
    rw [D4_eq]
    omega
  have := dq_le h2
  omega
end Go.Proofs.YthdpojkeceoiiaaDoor
end
