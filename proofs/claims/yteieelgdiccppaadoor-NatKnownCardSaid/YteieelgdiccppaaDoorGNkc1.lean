/- Several texts in one, each with its own sentence and conditions. -/
import Derived.Test.YteieelgdiccppaaDoorGNkc0
import Derived.Laws.Bits64
import Derived.Laws.BitsAllLaws
section
/- Plain mathematics on words and wraps, without conditions on memory. -/
open Go.RowKit
namespace Go.Proofs.YteieelgdiccppaaDoor
theorem val_take_succ (b : Nat) {L : List Nat} {i x : Nat} (h : L[i]? = some x) : val b (L.take (i + 1)) = val b (L.take i) + b ^ i * x := by
  have hi : i < L.length := by
    rcases Nat.lt_or_ge i L.length with h1 | h1
    · exact h1
    · rw [List.getElem?_eq_none h1] at h; cases h
  rw [List.take_succ_eq_append_getElem hi, val_snoc, List.length_take, Nat.min_eq_left (by omega)]
  rw [List.getElem?_eq_getElem hi] at h
  injection h with h
  rw [h]
theorem set_mid {P seg l : List Nat} {o i v : Nat} (hP : P.length = o) (hs : seg.length = i) (hl : o + i < l.length) : (P ++ (seg ++ l.drop (o + i))).set (o + i) v = P ++ ((seg ++ [v]) ++ l.drop (o + (i + 1))) := by
  rw [List.set_append, if_neg (by omega), List.set_append, if_neg (by omega), List.drop_eq_getElem_cons hl, show o + i - P.length - seg.length = 0 by omega, List.set_cons_zero]
  simp [Nat.add_assoc]
theorem get_mid {P seg l : List Nat} {o i : Nat} (hP : P.length = o) (hs : seg.length = i) : (P ++ (seg ++ l.drop (o + i)))[o + i]? = l[o + i]? := by
  rw [List.getElem?_append_right (by omega), List.getElem?_append_right (by omega), List.getElem?_drop]
  congr 1; omega
theorem good_snoc {l : List Nat} {x : Nat} (h : Good32 l) (hx : x < W32) : Good32 (l ++ [x]) := by
  intro y hy
  rcases List.mem_append.1 hy with hy | hy
  · exact h y hy
  · simp at hy; subst hy; exact hx
theorem addmul_math {P V t q r cr y f s VA VY W : Nat} (h : V + P * cr = VA + f * VY) (ht : t = cr + (y * f + s)) (hq : r + W * q = t) : V + P * r + P * W * q = VA + P * s + f * (VY + P * y) := by
  have e1 : P * r + P * W * q = P * t := by rw [← hq, Nat.mul_add, Nat.mul_assoc]
  have e2 : P * t = P * cr + (P * (y * f) + P * s) := by rw [ht, Nat.mul_add, Nat.mul_add]
  have e3 : f * (P * y) = P * (y * f) := by rw [Nat.mul_comm y f, Nat.mul_left_comm]
  rw [Nat.mul_add f, e3]; omega
theorem prod_le {y f : Nat} (hy : y < W32) (hf : f < W32) : y * f ≤ 4294967295 * 4294967295 := Nat.mul_le_mul (by rw [W32_eq] at hy; omega) (by rw [W32_eq] at hf; omega)
theorem u64_nat {n : Nat} (h : n ≤ 18446744073709551615) : IntKind.u64.wrap (n : Int) = (n : Int) := IntWalk.u64_in _ ⟨by omega, by omega⟩
theorem u64_word {n : Nat} (h : n < W32) : IntKind.u64.wrap (n : Int) = (n : Int) := u64_nat (by rw [W32_eq] at h; omega)
theorem addmul_wrap {y f s cr : Nat} (hy : y < W32) (hf : f < W32) (hs : s < W32) (hc : cr < W32) :
    IntKind.u64.wrap ((cr : Int) + IntKind.u64.wrap (IntKind.u64.wrap (IntKind.u64.wrap (y : Int) * IntKind.u64.wrap (f : Int)) + IntKind.u64.wrap (s : Int))) = ((cr + (y * f + s) : Nat) : Int) := by
  have hp := prod_le hy hf
  rw [W32_eq] at hs hc
  rw [u64_word hy, u64_word hf, u64_word (n := s) (by rw [W32_eq]; exact hs), ← Int.natCast_mul, u64_nat (by omega), ← Int.natCast_add, u64_nat (by omega), ← Int.natCast_add, u64_nat (by omega)]
theorem hi32 (t : Nat) : ((t : Nat) : Int) / 4294967296 = ((t / W32 : Nat) : Int) := rfl
theorem lo32 (t : Nat) : ((t : Nat) : Int) % 4294967296 = ((t % W32 : Nat) : Int) := rfl
theorem lohi (t : Nat) : t % W32 + W32 * (t / W32) = t := Nat.mod_add_div t W32
theorem lo_lt (t : Nat) : t % W32 < W32 := Nat.mod_lt _ (by decide)
theorem addmul_hi {y f s cr : Nat} (hy : y < W32) (hf : f < W32) (hs : s < W32) (hc : cr < W32) : (cr + (y * f + s)) / W32 < W32 := by
  have hp := prod_le hy hf
  rw [W32_eq] at hs hc ⊢; omega
theorem mul_round {seg seg2 : List Nat} {i k c word m' X z : Nat} (hlen : seg.length = i + k) (h2 : seg2.length = k) (hv : val W32 seg = X * m')
    (h : val W32 seg2 + W32 ^ k * c = val W32 (((seg ++ List.replicate z 0).drop i).take k) + word * m') : val W32 (seg.take i ++ (seg2 ++ [c])) = (X + W32 ^ i * word) * m' := by
  rw [val_append, val_snoc, h2, List.length_take, Nat.min_eq_left (by omega), h]
  have e1 : ((seg ++ List.replicate z 0).drop i).take k = seg.drop i := by
    rw [List.drop_append_of_le_length (by omega), List.take_append_of_le_length (by rw [List.length_drop]; omega), List.take_of_length_le (by rw [List.length_drop]; omega)]
  have e2 : val W32 seg = val W32 (seg.take i) + W32 ^ i * val W32 (seg.drop i) := by
    have := val_append W32 (seg.take i) (seg.drop i)
    rwa [List.take_append_drop, List.length_take, Nat.min_eq_left (by omega)] at this
  rw [e1, Nat.mul_add, ← Nat.add_assoc, ← e2, hv, Nat.add_mul, Nat.mul_assoc]
theorem mul_list {seg seg2 : List Nat} {i k c z : Nat} (hlen : seg.length = i + k) (h2 : seg2.length = k) :
    ((seg ++ List.replicate (z + 1) 0).take i ++ (seg2 ++ (seg ++ List.replicate (z + 1) 0).drop (i + k))).set (i + k) c = (seg.take i ++ (seg2 ++ [c])) ++ List.replicate z 0 := by
  rw [List.take_append_of_le_length (by omega), List.drop_append, List.drop_of_length_le (by omega), hlen, Nat.sub_self, List.drop_zero, List.nil_append, List.replicate_succ]
  rw [List.set_append, if_neg (by rw [List.length_take]; omega), List.set_append, if_neg (by rw [List.length_take]; omega), show i + k - (List.take i seg).length - seg2.length = 0 by rw [List.length_take]; omega, List.set_cons_zero]
  simp
theorem mul_cell {seg seg2 : List Nat} {i k z : Nat} (hlen : seg.length = i + k) (h2 : seg2.length = k) :
    ((seg ++ List.replicate (z + 1) 0).take i ++ (seg2 ++ (seg ++ List.replicate (z + 1) 0).drop (i + k)))[i + k]? = some 0 := by
  rw [List.take_append_of_le_length (by omega), List.drop_append, List.drop_of_length_le (by omega), hlen, Nat.sub_self, List.drop_zero, List.nil_append, List.replicate_succ]
  rw [List.getElem?_append_right (by rw [List.length_take]; omega), List.getElem?_append_right (by rw [List.length_take]; omega), show i + k - (List.take i seg).length - seg2.length = 0 by rw [List.length_take]; omega]
  rfl
theorem good_zeros {l : List Nat} (h : Good32 l) (z : Nat) : Good32 (l ++ List.replicate z 0) := by
  intro x hx
  rcases List.mem_append.1 hx with hx | hx
  · exact h x hx
  · rw [(List.mem_replicate.1 hx).2]; decide
theorem good_app {l m : List Nat} (h : Good32 l) (hm : Good32 m) : Good32 (l ++ m) := by
  intro x hx
  rcases List.mem_append.1 hx with hx | hx
  · exact h x hx
  · exact hm x hx
theorem good_take {l : List Nat} (h : Good32 l) (k : Nat) : Good32 (l.take k) := fun x hx => h x (List.mem_of_mem_take hx)
theorem good_drop {l : List Nat} (h : Good32 l) (k : Nat) : Good32 (l.drop k) := fun x hx => h x (List.mem_of_mem_drop hx)
theorem good_digs (m : Nat) : Good32 (digs W32 m) := digs_lt (by decide) m
theorem val_digs32 (m : Nat) : val W32 (digs W32 m) = m := val_digs (by decide) m
theorem set_zeros {seg : List Nat} {i v z : Nat} (h : seg.length = i) : (seg ++ List.replicate (z + 1) 0).set i v = (seg ++ [v]) ++ List.replicate z 0 := by
  rw [List.set_append, if_neg (by omega), h, Nat.sub_self, List.replicate_succ, List.set_cons_zero]; simp
theorem get_zeros {seg : List Nat} {i z : Nat} (h : seg.length = i) : (seg ++ List.replicate (z + 1) 0)[i]? = some 0 := by
  rw [List.getElem?_append_right (by omega), h, Nat.sub_self]; rfl
theorem val_take_more (b : Nat) {L : List Nat} {i : Nat} (h : L.length ≤ i) : val b (L.take (i + 1)) = val b (L.take i) := by
  rw [List.take_of_length_le h, List.take_of_length_le (by omega)]
theorem add_math {P V t q r cr x VA VB W : Nat} (h : V + P * cr = VA + VB) (ht : t = cr + x) (hq : r + W * q = t) : V + P * r + P * W * q = VA + VB + P * x := by
  have e1 : P * r + P * W * q = P * t := by rw [← hq, Nat.mul_add, Nat.mul_assoc]
  have e2 : P * t = P * cr + P * x := by rw [ht, Nat.mul_add]
  omega
theorem sub_math {P V A B W r q x t b y : Nat} (h : V + B = A + P * b) (ht : t = b + y) (hq : r + t = x + W * q) : V + P * r + (B + P * y) = A + P * x + P * W * q := by
  have e1 : P * r + P * t = P * x + P * W * q := by rw [← Nat.mul_add, hq, Nat.mul_add, Nat.mul_assoc]
  have e2 : P * t = P * b + P * y := by rw [ht, Nat.mul_add]
  omega
theorem sub_wrap {x t : Nat} (hx : x < W32) (ht : t ≤ W32) (hlt : x < t) : IntKind.u64.wrap ((x : Int) - (t : Int)) % 4294967296 = ((W32 + x - t : Nat) : Int) ∧ IntKind.u64.wrap ((x : Int) - (t : Int)) / 9223372036854775808 = 1 := by
  rw [IntKind.wrap_u64]
  rw [W32_eq] at *
  omega
theorem or_pow (a b i : Nat) (hb : b < 2 ^ i) : a * 2 ^ i ||| b = a * 2 ^ i + b := by
  rw [Nat.mul_comm, ← Nat.two_pow_add_eq_or_of_lt hb]
theorem or64 {hi lo : Nat} (h1 : hi ≤ 4294967295) (h2 : lo ≤ 4294967295) : bits .or .u64 ((hi : Int) * 4294967296) (lo : Int) = ((hi * 4294967296 + lo : Nat) : Int) := by
  rw [show ((hi : Int) * 4294967296) = ((hi * 4294967296 : Nat) : Int) by omega, u64_or_nat _ _ (by omega) (by omega), or_pow hi lo 32 (by omega)]
theorem word_le {x : Nat} (h : x < W32) : x ≤ 4294967295 := by rw [W32_eq] at h; omega
theorem exists_zeros {b : Nat} (hb : 2 ≤ b) (l : List Nat) (h : ∀ x ∈ l, x < b) : ∃ k, l = digs b (val b l) ++ List.replicate k 0 := by
  induction l with
  | nil => exact ⟨0, by simp [val, digs_zero]⟩
  | cons x xs ih =>
    obtain ⟨k, hk⟩ := ih fun y hy => h y (by simp [hy])
    have hx := h x (by simp)
    rcases Nat.eq_zero_or_pos (val b (x :: xs)) with h0 | h0
    · refine ⟨k + 1, ?_⟩
      simp only [val] at h0
      have hx0 : x = 0 := by omega
      have hv : val b xs = 0 := by
        rcases Nat.eq_zero_or_pos (val b xs) with h1 | h1
        · exact h1
        · have := Nat.mul_pos (show 0 < b by omega) h1; omega
      rw [hv, digs_zero, List.nil_append] at hk
      subst hx0
      rw [show val b (0 :: xs) = 0 by simp [val, hv], digs_zero, List.nil_append, List.replicate_succ, ← hk]
    · refine ⟨k, ?_⟩
      rw [digs_pos hb h0]
      simp only [val]
      rw [Nat.add_mul_mod_self_left, Nat.mod_eq_of_lt hx, Nat.add_mul_div_left _ _ (by omega), Nat.div_eq_of_lt hx, Nat.zero_add, List.cons_append, ← hk]
theorem text_math {D P v g q r d m : Nat} (h : D + P * v = m) (hv : v = q * d + g) (hr : g = r) : D + P * (r + d * q) = m := by
  subst hr
  rw [← h, hv, Nat.mul_comm q d, Nat.add_comm g]
theorem digit_math {D P g T v m : Nat} (h : D + P * (g + 10 * T * v) = m) : (D + P * (g % 10)) + P * 10 * (g / 10 + T * v) = m := by
  have e : g + 10 * T * v = g % 10 + 10 * (g / 10 + T * v) := by rw [Nat.mul_add, ← Nat.add_assoc, Nat.mod_add_div, Nat.mul_assoc]
  rw [← h, e, Nat.mul_add P, Nat.mul_assoc P 10]; omega
end Go.Proofs.YteieelgdiccppaaDoor
end

section
/- addMultiple: words in place. Conditions: at most 100000 words. -/
open Go.RowKit
set_option maxRecDepth 100000
namespace Go.Proofs.YteieelgdiccppaaDoor
theorem grown_drewN {a w : World} {row : Option Nat} (h : a.grownBy w row) (n : Nat) : a.grownBy (w.drewN n) row := ⟨h.os, h.tape, h.output, h.size, h.block⟩
theorem grown_set {a w : World} {g : Nat} (h : a.grownBy w (some g)) (i : Nat) (u : Value) : a.grownBy (w.setCell ⟨g, i, none⟩ u) (some g) :=
  ⟨h.os, h.tape, h.output, by simpa [World.setCell] using h.size, fun k hk hne => (Below.heap_setCell w _ u k (by rintro rfl; exact hne rfl)).trans (h.block k hk hne)⟩
theorem grown_below {w w' : World} {g B : Nat} (h : w.grownBy w' (some g)) (hB : B ≤ g) (hg : g < w.heap.size) : Below B w w' :=
  ⟨h.os, h.tape, h.output, h.size, fun k hk => h.block k (by omega) (by intro e; injection e; omega)⟩
theorem Rd.grown {f : Nat → Value} {w w' : World} {B g : Nat} {A : Option Addr} {xs : List Nat} (h : Rd f w B A xs) (hg : w.grownBy w' (some g)) (hB : B ≤ g) : Rd f w' B A xs := fun hn => by
  obtain ⟨ad, e, hb, hc⟩ := h hn
  exact ⟨ad, e, hb, fun j u hu => hg.cell (hc j u hu) (by rw [block_add]; intro e; injection e; omega)⟩
theorem grown_trans {a b c : World} {row : Option Nat} (h : a.grownBy b row) (k : b.grownBy c row) : a.grownBy c row :=
  ⟨k.os.trans h.os, k.tape.trans h.tape, k.output.trans h.output, Nat.le_trans h.size k.size, fun i hi hne => (k.block i (Nat.lt_of_lt_of_le hi h.size) hne).trans (h.block i hi hne)⟩
/-- trim over words of the call's own. -/
theorem trim_own {w : World} {g n c v : Nat} {seg : List Nat} (h : Blk U32 30 w g seg) (hn : n = seg.length) (hg : Good32 seg) (hl : n ≤ 1000000) (hc : n ≤ c) (hv : val W32 seg = v) :
    Calls Tryd.prog 73 #[.slice (some ⟨g, 0, none⟩) n c] w fun e w' => e = .returned (.slice (some ⟨g, 0, none⟩) (dl v) c) ∧ w = w' := by
  subst hn; subst hv
  exact trim_any _ seg c w w.heap.size (h.rd0 h.lt) hg hl hc
/-- What the words of the call's own tell. -/
theorem can_own {w : World} {g n c v : Nat} {seg : List Nat} (h : Blk U32 30 w g seg) (hn : n = seg.length) (hg : Good32 seg) (hc : n ≤ c) (hv : val W32 seg = v) : Can w w.heap.size (some ⟨g, 0, none⟩) c v := by
  subst hn; subst hv
  have hle : dl (val W32 seg) ≤ seg.length := digs_len_le (by decide) seg hg
  refine ⟨by omega, ?_⟩
  have := (h.rd0 h.lt).take (dl (val W32 seg))
  rwa [show seg.take (dl (val W32 seg)) = digs W32 (val W32 seg) from digs_take (by decide) seg hg] at this
/-- What a call leaves that returns a number. -/
def NumPost (w : World) (v : Nat) (e : Ending) (w' : World) : Prop := ∃ A c, e = .returned (.agg #[.slice A (dl v) c]) ∧ Can w' w'.heap.size A c v ∧ Below w.heap.size w w'
theorem pre3 (w : World) (o1 o2 : Obj) (v : Value) (t : TypeId) (k : Nat) :
    Below w.heap.size w ((((w.alloc o1).alloc o2).alloc (.cells #[v] t)).drewN k) ∧ ((((w.alloc o1).alloc o2).alloc (.cells #[v] t)).drewN k).heap.size = w.heap.size + 3 ∧
    ((((w.alloc o1).alloc o2).alloc (.cells #[v] t)).drewN k).heap[w.heap.size + 2]? = some (.cells #[v] t (0, 0)) := by
  refine ⟨below_drewN ((((Below.refl _ _).alloc (Nat.le_refl _) _).alloc (by simp) _).alloc (by simp; omega) _) k, by simp, ?_⟩
  have := heap_alloc_new ((w.alloc o1).alloc o2) (.cells #[v] t)
  simpa using this
theorem after3 {w w1 : World} {o1 o2 : Obj} {v : Value} {t : TypeId} {k : Nat} (h : Below ((((w.alloc o1).alloc o2).alloc (.cells #[v] t)).drewN k).heap.size ((((w.alloc o1).alloc o2).alloc (.cells #[v] t)).drewN k) w1) :
    Below w.heap.size w w1 ∧ w1.heap[w.heap.size + 2]? = some (.cells #[v] t (0, 0)) ∧ w.heap.size + 3 ≤ w1.heap.size := by
  obtain ⟨p1, p2, p3⟩ := pre3 w o1 o2 v t k
  exact ⟨p1.trans (h.mono p1.size), (h.block _ (by omega)).trans p3, by have := h.size; omega⟩
theorem one_cell {w : World} {g : Nat} {v : Value} {t : TypeId} (h : w.heap[g]? = some (.cells #[v] t (0, 0))) : w.cell? ⟨g, 0, none⟩ = some v ∧ w.frozen? ⟨g, 0, none⟩ = false := by
  refine ⟨?_, ?_⟩
  · rw [cell_of_row w g 0 _ t (0, 0) h]; rfl
  · simp [World.frozen?, h]
def AddMulPost (w : World) (g o k f : Nat) (l ys : List Nat) (e : Ending) (w' : World) : Prop :=
  ∃ (seg : List Nat) (c : Nat), e = .returned (.int .u32 (c : Int)) ∧ Hid (seg.length = k) ∧ Hid (Good32 seg) ∧ Hid (c < W32) ∧ Hid (val W32 seg + W32 ^ k * c = val W32 ((l.drop o).take k) + f * val W32 ys) ∧
    Blk U32 30 w' g (l.take o ++ (seg ++ l.drop (o + k))) ∧ w.grownBy w' (some g)
set_option maxHeartbeats 1000000 in
theorem addMultiple_any {A : Option Addr} {g o k c c' f B : Nat} {l ys : List Nat} {w : World} (hb : Blk U32 30 w g l) (hr : Rd U32 w B A ys) (hB : B ≤ g) (hk : k = ys.length) (ho : o + k ≤ l.length)
    (hl : Good32 l) (hy : Good32 ys) (hf : f < W32) (hlim : l.length ≤ 1000000) :
    Calls Tryd.prog 118 #[.slice (some ⟨g, o, none⟩) k c, .slice A k c', .int .u32 (f : Int)] w (AddMulPost w g o k f l ys) := by
  have HB := hide hb; have HR := hide hr; have HK := hide hk; have HL := hide hl; have HY := hide hy; have HF := hide hf; have HO := hide ho
  have hkl : k ≤ 1000000 := by omega
  clear hb hr hk hl hy hf hlim ho
  go_enter Tryd.func118, Tryd.ntmps118
  go_wp2
  go_loopw [7, 12] (fun cv iv wr => ∃ i cr : Nat, ∃ seg : List Nat, i ≤ k ∧ Hid (cr < W32) ∧ iv = .int .i64 (i : Int) ∧ cv = .int .u64 (cr : Int) ∧ Hid (seg.length = i) ∧ Hid (Good32 seg) ∧
      Hid (val W32 seg + W32 ^ i * cr = val W32 ((l.drop o).take i) + f * val W32 (ys.take i)) ∧ Hid (Blk U32 30 wr g (l.take o ++ (seg ++ l.drop (o + i)))) ∧ Hid (w.grownBy wr (some g)))
    (fun _ iv _ => k - (intOf iv).toNat)
  case atStart => exact ⟨0, 0, [], Nat.zero_le _, by unfold Hid; decide, rfl, rfl, rfl, by intro x hx; simp at hx, by simp [Hid, val], by simpa [Hid] using HB.out, World.grownBy.refl _ _⟩
  case round =>
    obtain ⟨i, cr, seg, hi, hcr, rfl, rfl, hsl, hsg, hval, hblk, hgr⟩ := hrel
    by_cases hlt : i < k
    · have hiy : i < ys.length := by rw [← HK.out]; exact hlt
      have hil : o + i < l.length := by have := HO.out; omega
      obtain ⟨y, hye⟩ : ∃ y, y = ys[i] := ⟨_, rfl⟩
      obtain ⟨s, hse⟩ : ∃ s, s = l[o + i] := ⟨_, rfl⟩
      obtain ⟨ad, rfl, hab, hcy⟩ := (HR.out.grown hgr.out hB).at_ hiy
      have hsL : l[o + i]? = some s := by rw [hse]; exact List.getElem?_eq_getElem hil
      have hcs : wr.cell? ⟨g, o + i, none⟩ = some (U32 s) := hblk.out.cell (by rw [get_mid (by rw [List.length_take]; omega) hsl.out, hsL])
      have hfz := hblk.out.frozen (o + i)
      rw [← hye] at hcy
      have hyW : y < W32 := by rw [hye]; exact HY.out _ (List.getElem_mem _)
      have hsW : s < W32 := by rw [hse]; exact HL.out _ (List.getElem_mem _)
      have R := hide (addmul_wrap hyW HF.out hsW hcr.out)
      have Rq := hide (addmul_hi hyW HF.out hsW hcr.out)
      have Rv := hide (addmul_math (W := W32) hval.out rfl (lohi (cr + (y * f + s))))
      have Rm := hide (set_mid (seg := seg) (v := (cr + (y * f + s)) % W32) (show (l.take o).length = o by rw [List.length_take]; omega) hsl.out hil)
      have RL := hide (val_take_succ W32 (L := l.drop o) (i := i) (x := s) (by rw [List.getElem?_drop]; exact hsL))
      have RY := hide (val_take_succ W32 (L := ys) (i := i) (x := y) (by rw [hye]; exact List.getElem?_eq_getElem hiy))
      unfold U32 at hcs hcy
      clear hye hse hiy hil hyW hsW hsL
      go_wp2
      go_roundw
      case rel =>
        refine ⟨i + 1, (cr + (y * f + s)) / W32, seg ++ [(cr + (y * f + s)) % W32], by omega, Rq, by go_num, by rw [R.out]; rfl, by unfold Hid; simp [hsl.out], good_snoc hsg.out (lo_lt _), ?_, ?_, ?_⟩
        · unfold Hid
          rw [val_snoc, hsl.out, Nat.pow_succ, RL.out, RY.out]
          exact Rv.out
        · have hb := hblk.out.set_ (o + i) ((cr + (y * f + s)) % W32)
          rw [Rm.out] at hb
          rw [R.out]
          exact hb
        · exact grown_set hgr.out _ _
      case measure => simp [intOf]; omega
    · obtain rfl : i = k := by omega
      have hcw : cr ≤ 4294967295 := by have := hcr.out; rw [W32_eq] at this; omega
      go_wp2
      go_ret
      refine ⟨seg, cr, rfl, hsl.out, hsg.out, hcr.out, ?_, hblk.out, hgr.out⟩
      have := hval.out
      rwa [List.take_of_length_le (show ys.length ≤ i by rw [HK.out]; exact Nat.le_refl _)] at this
end Go.Proofs.YteieelgdiccppaaDoor
end

section
/- Mul: the product. Conditions: at most 100000 words each. -/
open Go.RowKit
set_option maxRecDepth 100000
namespace Go.Proofs.YteieelgdiccppaaDoor
set_option maxHeartbeats 1000000 in
theorem Mul_any {A A' : Option Addr} {n n' c c' m m' : Nat} {w : World} (h : Arg w w.heap.size A n c m) (h' : Arg w w.heap.size A' n' c' m') :
    Calls Tryd.prog 72 #[.agg #[.slice A n c], .agg #[.slice A' n' c']] w (NumPost w (m * m')) := by
  have H : Hid (∀ o1 o2 v t k, Arg ((((w.alloc o1).alloc o2).alloc (.cells #[v] t)).drewN k) w.heap.size A n c m) := fun o1 o2 v t k => h.below (pre3 w o1 o2 v t k).1
  have H' : Hid (∀ o1 o2 v t k, Arg ((((w.alloc o1).alloc o2).alloc (.cells #[v] t)).drewN k) w.heap.size A' n' c' m') := fun o1 o2 v t k => h'.below (pre3 w o1 o2 v t k).1
  have hl : dl m ≤ 100000 := by have := h.digs.2; obtain ⟨_, _, _, h3, _⟩ := h; omega
  have hl' : dl m' ≤ 100000 := by have := h'.digs.2; obtain ⟨_, _, _, h3, _⟩ := h'; omega
  have HX := hide h.digs.1
  have HY := hide h'.digs.1
  clear h h'
  go_enter Tryd.func72, Tryd.ntmps72
  go_wp2_with fail
  go_quiet ((go_at_call 73; first | exact quiet_left (trim_arg (H.out _ _ _ _ _)) | exact quiet_left (trim_arg (H'.out _ _ _ _ _))))
  go_wp2_with (first | (at_make; go_must (refine wpList_words rfl _ _ rfl (dl m + dl m') rfl rfl (by omega) ?_; intro g w1 hg hb1 hbel)))
  have HG : Hid (g = w.heap.size + 3) := by unfold Hid; rw [hg.out]; exact (pre3 w _ _ _ _ _).2.1
  have hB : w.heap.size ≤ g := by have := HG.out; omega
  obtain ⟨hw1, hres, hsz1⟩ := after3 hbel
  have HRES := hide hres
  have HW1 := hide hw1
  clear hbel hres hg hw1 H H'
  go_loopw [24] (fun iv wr => ∃ i : Nat, ∃ seg : List Nat, i ≤ dl m ∧ iv = .int .i64 (i : Int) ∧ Hid (seg.length = i + dl m') ∧ Hid (Good32 seg) ∧ Hid (val W32 seg = val W32 ((digs W32 m).take i) * m') ∧
      Hid (Blk U32 30 wr g (seg ++ List.replicate (dl m - i) 0)) ∧ Hid (w1.grownBy wr (some g)))
    (fun iv _ => dl m - (intOf iv).toNat)
  case atStart => exact ⟨0, List.replicate (dl m') 0, Nat.zero_le _, rfl, by simp [Hid], good_zeros (l := []) (by intro x hx; simp at hx) _, by simp [Hid, val, val_zeros], by have := hb1.out; rw [Nat.add_comm, ← List.replicate_append_replicate] at this; exact this, World.grownBy.refl _ _⟩
  case round =>
    obtain ⟨i, seg, hi, rfl, hsl, hsg, hval, hblk, hgr⟩ := hrel
    by_cases hlt : i < dl m
    · have hix : i < (digs W32 m).length := hlt
      have HXR := hide ((HX.out.below HW1.out).2.grown hgr.out hB)
      have HYR := hide ((HY.out.below HW1.out).2.grown hgr.out hB)
      obtain ⟨ad, rfl, hab, hcx⟩ := HXR.out.at_ hix
      obtain ⟨x, hxe⟩ : ∃ x, x = (digs W32 m)[i] := ⟨_, rfl⟩
      rw [← hxe] at hcx
      have RX := hide (val_take_succ W32 (L := digs W32 m) (i := i) (x := x) (by rw [hxe]; exact List.getElem?_eq_getElem hix))
      have hxW : Hid (x < W32) := by unfold Hid; rw [hxe]; exact good_digs m _ (List.getElem_mem _)
      obtain ⟨z, hz⟩ : ∃ z, dl m - i = z + 1 := ⟨dl m - i - 1, by omega⟩
      rw [hz] at hblk
      have HZ := hide hz
      unfold U32 at hcx
      clear hxe hix hz
      by_cases hx0 : x = 0
      · subst hx0
        go_wp2
        go_roundw
        case rel =>
          refine ⟨i + 1, seg ++ [0], by omega, by go_num, by unfold Hid; rw [List.length_append, hsl.out]; simp; omega, good_snoc hsg.out (by decide), by unfold Hid; rw [val_snoc, hval.out, RX.out]; simp, ?_, hgr⟩
          have hb := hblk.out
          rw [List.replicate_succ] at hb
          rw [show dl m - (i + 1) = z by have := HZ.out; omega]
          simpa [Hid] using hb
        case measure => simp [intOf]; omega
      · have hx1 : ((x : Int) == 0) = false := by simp; omega
        clear hx0
        have hlen1 : i + dl m' ≤ (seg ++ List.replicate (z + 1) 0).length := by rw [List.length_append, hsl.out, List.length_replicate]; omega
        have hlen2 : (seg ++ List.replicate (z + 1) 0).length ≤ 1000000 := by rw [List.length_append, hsl.out, List.length_replicate]; have := HZ.out; omega
        go_wp2_with (first | (go_at_call 118; go_must (refine (addMultiple_any (k := dl m') hblk.out HYR.out hB rfl hlen1 (good_zeros hsg.out _) (good_digs m') hxW.out hlen2).mono ?_); rintro e w2 ⟨seg2, c2, rfl, hs2, hg2, hc2, hv2, hb2, hgr2⟩; have hc : w2.cell? ⟨g, i + dl m', none⟩ = some (.int .u32 0) := hb2.cell (mul_cell hsl.out hs2.out); have hf := hb2.frozen (i + dl m')))
        go_roundw
        case rel =>
          refine ⟨i + 1, seg.take i ++ (seg2 ++ [c2]), by omega, by go_num, by unfold Hid; rw [List.length_append, List.length_append, hs2.out, List.length_take, hsl.out]; simp; omega, good_app (good_take hsg.out _) (good_snoc hg2.out hc2.out), ?_, ?_, ?_⟩
          · unfold Hid
            rw [RX.out]
            exact mul_round hsl.out hs2.out hval.out (by rw [val_digs32] at hv2; exact hv2.out)
          · have hb := hb2.set_ (i + dl m') c2
            rw [mul_list hsl.out hs2.out] at hb
            rw [show dl m - (i + 1) = z by have := HZ.out; omega]
            exact hb
          · exact grown_set (grown_trans hgr.out hgr2) _ _
        case measure => simp [intOf]; omega
    · obtain rfl : i = dl m := by omega
      have hr2 := (one_cell ((hgr.out.block _ (by omega) (by intro e; injection e with e; have := HG.out; omega)).trans HRES.out))
      obtain ⟨hr3, hr4⟩ := hr2
      have hlz : seg ++ List.replicate (dl m - dl m) 0 = seg := by simp
      rw [hlz] at hblk
      have HV : Hid (val W32 seg = m * m') := by unfold Hid; rw [hval.out, List.take_of_length_le (show (digs W32 m).length ≤ dl m from Nat.le_refl _), val_digs32]
      clear hlz
      go_wp2_with (first | (go_at_call 73; go_must (refine (trim_own hblk.out hsl.out.symm hsg.out (by omega) (by omega) HV.out).mono ?_); rintro e w2 ⟨rfl, rfl⟩))
      refine bodyPost_ret (v := .agg #[.slice (some ⟨g, 0, none⟩) (dl (m * m')) (dl m + dl m')]) (by simp [results, Tryd.results72, go_sem, hr3]) rfl ?_
      have hne : g ≠ w.heap.size + 1 + 1 := by have := HG.out; omega
      exact ⟨_, _, rfl, can_own (hblk.out.far (p := ⟨w.heap.size + 1 + 1, 0, none⟩) hne _) hsl.out.symm hsg.out (Nat.le_refl _) HV.out, (HW1.out.trans (grown_below hgr.out hB hb1.out.lt)).setCell (by simp; omega) _⟩
end Go.Proofs.YteieelgdiccppaaDoor
end

section
/- Add: the sum. Conditions: at most 100000 words each. -/
open Go.RowKit
set_option maxRecDepth 100000
namespace Go.Proofs.YteieelgdiccppaaDoor

set_option maxHeartbeats 2000000 in
theorem Add_core {A A' : Option Addr} {n n' c c' m m' : Nat} {w : World} (h : Arg w w.heap.size A n c m) (h' : Arg w w.heap.size A' n' c' m') (hle : dl m' ≤ dl m) :
    (Calls Tryd.prog 89 #[.agg #[.slice A n c], .agg #[.slice A' n' c']] w (NumPost w (m + m'))) ∧
    (dl m' < dl m → Calls Tryd.prog 89 #[.agg #[.slice A' n' c'], .agg #[.slice A n c]] w (NumPost w (m + m'))) := by
  have H : Hid (∀ o1 o2 v t k, Arg ((((w.alloc o1).alloc o2).alloc (.cells #[v] t)).drewN k) w.heap.size A n c m) := fun o1 o2 v t k => h.below (pre3 w o1 o2 v t k).1
  have H' : Hid (∀ o1 o2 v t k, Arg ((((w.alloc o1).alloc o2).alloc (.cells #[v] t)).drewN k) w.heap.size A' n' c' m') := fun o1 o2 v t k => h'.below (pre3 w o1 o2 v t k).1
  have hl : dl m ≤ 100000 := by have := h.digs.2; obtain ⟨_, _, _, h3, _⟩ := h; omega
  have HX := hide h.digs.1
  have HY := hide h'.digs.1
  clear h h'
  refine ⟨?_, fun hlt => ?_⟩
  all_goals
    go_enter Tryd.func89, Tryd.ntmps89
    go_wp2_with fail
    go_quiet ((go_at_call 73; first | exact quiet_left (trim_arg (H.out _ _ _ _ _)) | exact quiet_left (trim_arg (H'.out _ _ _ _ _))))
    go_wp2_with (first | (at_make; go_must (refine wpList_words rfl _ _ rfl (dl m + 1) rfl rfl (by omega) ?_; intro g w1 hg hb1 hbel)))
    have HG : Hid (g = w.heap.size + 3) := by unfold Hid; rw [hg.out]; exact (pre3 w _ _ _ _ _).2.1
    have hB : w.heap.size ≤ g := by have := HG.out; omega
    obtain ⟨hw1, hres, hsz1⟩ := after3 hbel
    have HRES := hide hres
    have HW1 := hide hw1
    clear hbel hres hg hw1 H H'
    go_loopw [8, 30] (fun cv iv wr => ∃ i cr : Nat, ∃ seg : List Nat, i ≤ dl m ∧ cr ≤ 1 ∧ cv = .int .u64 (cr : Int) ∧ iv = .int .i64 (i : Int) ∧ Hid (seg.length = i) ∧ Hid (Good32 seg) ∧ Hid (val W32 seg + W32 ^ i * cr = val W32 ((digs W32 m).take i) + val W32 ((digs W32 m').take i)) ∧
        Hid (Blk U32 30 wr g (seg ++ List.replicate (dl m + 1 - i) 0)) ∧ Hid (w1.grownBy wr (some g)))
      (fun _ iv _ => dl m - (intOf iv).toNat)
    case atStart => exact ⟨0, 0, [], Nat.zero_le _, by omega, rfl, rfl, rfl, by intro x hx; simp at hx, by simp [Hid, val], hb1, World.grownBy.refl _ _⟩
    case round =>
      obtain ⟨i, cr, seg, hi, hcr, rfl, rfl, hsl, hsg, hval, hblk, hgr⟩ := hrel
      by_cases hlt : i < dl m
      · have hix : i < (digs W32 m).length := hlt
        have HXR := hide ((HX.out.below HW1.out).2.grown hgr.out hB)
        have HYR := hide ((HY.out.below HW1.out).2.grown hgr.out hB)
        obtain ⟨ad, rfl, hab, hcx⟩ := HXR.out.at_ hix
        obtain ⟨x, hxe⟩ : ∃ x, x = (digs W32 m)[i] := ⟨_, rfl⟩
        rw [← hxe] at hcx
        have RX := hide (val_take_succ W32 (L := digs W32 m) (i := i) (x := x) (by rw [hxe]; exact List.getElem?_eq_getElem hix))
        have hxW : x ≤ 4294967295 := word_le (by rw [hxe]; exact good_digs m _ (List.getElem_mem _))
        obtain ⟨z, hz⟩ : ∃ z, dl m + 1 - i = z + 1 := ⟨dl m - i, by omega⟩
        rw [hz] at hblk
        have HZ := hide hz
        have hcs : wr.cell? ⟨g, i, none⟩ = some (.int .u32 0) := hblk.out.cell (get_zeros hsl.out)
        have hfz := hblk.out.frozen i
        unfold U32 at hcx
        clear hxe hix hz
        by_cases hs : i < dl m'
        · have hiy : i < (digs W32 m').length := hs
          obtain ⟨ad', rfl, hab', hcy⟩ := HYR.out.at_ hiy
          obtain ⟨y, hye⟩ : ∃ x, x = (digs W32 m')[i] := ⟨_, rfl⟩
          rw [← hye] at hcy
          have RY := hide (val_take_succ W32 (L := digs W32 m') (i := i) (x := y) (by rw [hye]; exact List.getElem?_eq_getElem hiy))
          have hyW : y ≤ 4294967295 := word_le (by rw [hye]; exact good_digs m' _ (List.getElem_mem _))
          unfold U32 at hcy
          clear hye hiy
          have RM := hide (add_math (W := W32) hval.out rfl (lohi (cr + (x + y))))
          go_wp2
          go_roundw
          case rel =>
            refine ⟨i + 1, (cr + x + y) / W32, seg ++ [(cr + x + y) % W32], by omega, by rw [W32_eq]; omega, rfl, by go_num, by unfold Hid; simp [hsl.out], good_snoc hsg.out (lo_lt _), ?_, ?_, ?_⟩
            · unfold Hid
              rw [val_snoc, hsl.out, Nat.pow_succ, RX.out, RY.out, Nat.add_assoc cr x y, RM.out, Nat.mul_add]
              omega
            · have hb := hblk.out.set_ i ((cr + x + y) % W32)
              rw [set_zeros hsl.out] at hb
              rw [show dl m + 1 - (i + 1) = z by have := HZ.out; omega]
              exact hb
            · exact grown_set hgr.out _ _
          case measure => simp [intOf]; omega
        · have RY := hide (val_take_more W32 (L := digs W32 m') (i := i) (show dl m' ≤ i by omega))
          have RM := hide (add_math (W := W32) hval.out rfl (lohi (cr + x)))
          go_wp2
          go_roundw
          case rel =>
            refine ⟨i + 1, (cr + x) / W32, seg ++ [(cr + x) % W32], by omega, by rw [W32_eq]; omega, rfl, by go_num, by unfold Hid; simp [hsl.out], good_snoc hsg.out (lo_lt _), ?_, ?_, ?_⟩
            · unfold Hid
              rw [val_snoc, hsl.out, Nat.pow_succ, RX.out, RY.out, RM.out]
              omega
            · have hb := hblk.out.set_ i ((cr + x) % W32)
              rw [set_zeros hsl.out] at hb
              rw [show dl m + 1 - (i + 1) = z by have := HZ.out; omega]
              exact hb
            · exact grown_set hgr.out _ _
          case measure => simp [intOf]; omega
      · obtain rfl : i = dl m := by omega
        obtain ⟨hr3, hr4⟩ := one_cell ((hgr.out.block _ (by omega) (by intro e; injection e with e; have := HG.out; omega)).trans HRES.out)
        have hlz : seg ++ List.replicate (dl m + 1 - dl m) 0 = seg ++ List.replicate (0 + 1) 0 := by rw [show dl m + 1 - dl m = 0 + 1 by omega]
        rw [hlz] at hblk
        have hcs : wr.cell? ⟨g, dl m, none⟩ = some (.int .u32 0) := hblk.out.cell (get_zeros hsl.out)
        have hfz := hblk.out.frozen (dl m)
        have hb : Blk U32 30 (wr.setCell ⟨g, dl m, none⟩ (.int .u32 (cr : Int))) g _ := hblk.out.set_ (dl m) cr
        rw [set_zeros hsl.out, List.replicate_zero, List.append_nil] at hb
        have HB := hide hb
        have hne : w.heap.size + 2 ≠ g := by have := HG.out; omega
        have hr5 : (wr.setCell ⟨g, dl m, none⟩ (.int .u32 (cr : Int))).cell? ⟨w.heap.size + 2, 0, none⟩ = some (.slice none 0 0) := (World.cell?_setCell_other wr _ _ _ (by intro e; injection e with e; exact hne e.symm)).trans hr3
        have hr6 : (wr.setCell ⟨g, dl m, none⟩ (.int .u32 (cr : Int))).frozen? ⟨w.heap.size + 2, 0, none⟩ = false := by rw [World.frozen?_setCell]; exact hr4
        have HL : Hid (dl m + 1 = (seg ++ [cr]).length) := by unfold Hid; simp [hsl.out]
        have HGD := hide (good_snoc hsg.out (show cr < W32 by rw [W32_eq]; omega))
        have HV : Hid (val W32 (seg ++ [cr]) = m + m') := by
          unfold Hid
          rw [val_snoc, hsl.out, hval.out, List.take_of_length_le (show (digs W32 m).length ≤ dl m from Nat.le_refl _), List.take_of_length_le (show (digs W32 m').length ≤ dl m from hle), val_digs32, val_digs32]
        clear hlz hb
        go_wp2_with (first | (go_at_call 73; go_must (refine (trim_own HB.out HL.out HGD.out (by omega) (by omega) HV.out).mono ?_); rintro e w2 ⟨rfl, rfl⟩))
        refine bodyPost_ret (v := .agg #[.slice (some ⟨g, 0, none⟩) (dl (m + m')) (dl m + 1)]) (by simp [results, Tryd.results89, go_sem, hr5]) rfl ?_
        exact ⟨_, _, rfl, can_own (HB.out.far (p := ⟨w.heap.size + 1 + 1, 0, none⟩) (by simp; omega) _) HL.out HGD.out (Nat.le_refl _) HV.out, ((HW1.out.trans (grown_below hgr.out hB hb1.out.lt)).setCell (p := ⟨g, dl m, none⟩) hB _).setCell (by simp; omega) _⟩
theorem Add_any {A A' : Option Addr} {n n' c c' m m' : Nat} {w : World} (h : Arg w w.heap.size A n c m) (h' : Arg w w.heap.size A' n' c' m') :
    Calls Tryd.prog 89 #[.agg #[.slice A n c], .agg #[.slice A' n' c']] w (NumPost w (m + m')) := by
  rcases Nat.lt_or_ge (dl m) (dl m') with hlt | hge
  · have := (Add_core h' h (by omega)).2 hlt
    rwa [Nat.add_comm] at this
  · exact (Add_core h h' hge).1
end Go.Proofs.YteieelgdiccppaaDoor
end

section
/- Of, Good, Low. Conditions: lengths that fit int. -/
open Go.RowKit
set_option maxRecDepth 100000
namespace Go.Proofs.YteieelgdiccppaaDoor
theorem Of_any {n : Nat} {w : World} (hn : n ≤ 18446744073709551615) :
    Calls Tryd.prog 12 #[.int .u64 (n : Int)] w (NumPost w n) := by
  have HN := hide hn
  clear hn
  go_enter Tryd.func12, Tryd.ntmps12
  have hblk : Hid (∀ W : World, Blk U32 30 (W.alloc (.cells #[.int .u32 ((n : Int) % 4294967296), .int .u32 ((n : Int) / 4294967296 % 4294967296)] 30)) W.heap.size [n % W32, n / W32 % W32]) := fun W => heap_alloc_new W _
  have HV : Hid (val W32 [n % W32, n / W32 % W32] = n) := by unfold Hid; have := HN.out; simp only [val]; rw [W32_eq]; omega
  have HG : Hid (Good32 [n % W32, n / W32 % W32]) := by
    intro x hx; simp at hx; rcases hx with rfl | rfl <;> exact Nat.mod_lt _ (by decide)
  go_wp2_with (first | (go_at_call 73; go_must (refine (trim_own (n := 2) (by simpa using hblk.out (w.alloc (.cells #[.slice none 0 0] 25))) rfl HG.out (by omega) (by omega) HV.out).mono ?_); rintro e w2 ⟨rfl, rfl⟩))
  refine bodyPost_ret (v := .agg #[.slice (some ⟨w.heap.size + 1, 0, none⟩) (dl n) 2]) (by simp [results, Tryd.results12, go_sem]) rfl ?_
  exact ⟨_, _, rfl, can_own (n := 2) (by simpa using hblk.out (w.alloc (.cells #[.slice (some ⟨w.heap.size + 1, 0, none⟩) (dl n) 2] 25))) rfl HG.out (by omega) HV.out, ((Below.refl _ _).alloc (Nat.le_refl _) _).alloc (by simp) _⟩
/-- Whether the last word isn't 0. -/
def goodB (ws : List Nat) : Bool := ws.getLast? != some 0
theorem Good_any {A : Option Addr} {n c : Nat} {ws : List Nat} {w : World} (hn : n = ws.length) (h : Rd U32 w w.heap.size A ws) (hl : n ≤ 1000000) :
    Calls Tryd.prog 20 #[.agg #[.slice A n c]] w fun e w' => e = .returned (.bool (goodB ws)) ∧ Below w.heap.size w w' := by
  have HN := hide hn
  have HR : Hid (∀ o, Rd U32 (w.alloc o) w.heap.size A ws) := fun o => h.alloc (Nat.le_refl _) o
  clear hn h
  by_cases h0 : n = 0
  · subst h0
    have HG : Hid (goodB ws = true) := by have := HN.out; unfold Hid; rw [List.eq_nil_of_length_eq_zero this.symm]; rfl
    go_enter Tryd.func20, Tryd.ntmps20
    go_wp2
    go_ret
    exact ⟨by rw [HG.out]; rfl, (Below.refl _ _).alloc (Nat.le_refl _) _⟩
  · obtain ⟨k, rfl⟩ : ∃ k, n = k + 1 := ⟨n - 1, by omega⟩
    have hk : k < ws.length := by have := HN.out; omega
    obtain ⟨x, hx⟩ : ∃ x, x = ws[k] := ⟨_, rfl⟩
    obtain ⟨ad, rfl, hab, hc⟩ := (HR.out (.cells #[.slice A (k + 1) c] 25)).at_ hk
    rw [← hx] at hc
    unfold U32 at hc
    have HG : Hid (goodB ws = ((x : Int) != 0)) := by
      unfold Hid goodB
      rw [List.getLast?_eq_getElem?, ← HN.out, Nat.add_sub_cancel, List.getElem?_eq_getElem hk, ← hx]
      by_cases h : x = 0
      · subst h; rfl
      · have h1 : (some x != some 0) = true := by simpa using h
        have h2 : ((x : Int) != 0) = true := by simp; exact h
        rw [h1, h2]
    clear hx hk
    go_enter Tryd.func20, Tryd.ntmps20
    go_wp2
    go_ret
    exact ⟨by rw [HG.out]; rfl, (Below.refl _ _).alloc (Nat.le_refl _) _⟩
theorem dl_zero {m : Nat} (h : dl m = 0) : m = 0 := (digs_len_pos (by decide)).1 h
theorem digs_one {m : Nat} (h : dl m = 1) : digs W32 m = [m] ∧ m < W32 := by
  have h0 : 0 < m := by
    rcases Nat.eq_zero_or_pos m with rfl | h1
    · unfold dl at h; rw [digs_zero] at h; simp at h
    · exact h1
  have h2 : m < W32 := by have := lt_pow_digs (b := W32) (by decide) m; unfold dl at h; rw [h] at this; simpa using this
  refine ⟨?_, h2⟩
  rw [digs_pos (by decide) h0, Nat.div_eq_of_lt h2, digs_zero, Nat.mod_eq_of_lt h2]
theorem digs_two {m : Nat} (h : dl m = 2) : digs W32 m = [m % W32, m / W32] ∧ m / W32 < W32 := by
  have h0 : 0 < m := by
    rcases Nat.eq_zero_or_pos m with rfl | h1
    · unfold dl at h; rw [digs_zero] at h; simp at h
    · exact h1
  have e := digs_pos (b := W32) (by decide) h0
  have h1 : dl (m / W32) = 1 := by unfold dl at h ⊢; rw [e] at h; simpa using h
  obtain ⟨e2, h2⟩ := digs_one h1
  exact ⟨by rw [e, e2], h2⟩
theorem dl_three {m : Nat} (h : 3 ≤ dl m) : 18446744073709551616 ≤ m := by
  have h0 : 0 < m := by
    rcases Nat.eq_zero_or_pos m with rfl | h1
    · unfold dl at h; rw [digs_zero] at h; simp at h
    · exact h1
  have h1 := pow_le_of_digs (b := W32) (by decide) h0
  have h2 : W32 ^ 2 ≤ W32 ^ (dl m - 1) := Nat.pow_le_pow_right (by decide) (by omega)
  have h3 : W32 ^ 2 = 18446744073709551616 := by rw [W32_eq]
  unfold dl at h2; omega
end Go.Proofs.YteieelgdiccppaaDoor
end

section
/- Low. Conditions: lengths that fit int. -/
open Go.RowKit
set_option maxRecDepth 100000
namespace Go.Proofs.YteieelgdiccppaaDoor
def LowPost (w : World) (m : Nat) (e : Ending) (w' : World) : Prop :=
  e = .returned (.tuple #[.int .u64 ((if m < 18446744073709551616 then m else 0 : Nat) : Int), .bool (decide (m < 18446744073709551616))]) ∧ Below w.heap.size w w'
theorem low_ret {v u : Int} {b b' : Bool} (h : v = u) (hb : b = b') : Ending.returned (.tuple #[.int .u64 v, .bool b]) = .returned (.tuple #[.int .u64 u, .bool b']) := by rw [h, hb]
set_option maxHeartbeats 1000000 in
theorem Low_any {A : Option Addr} {n c m : Nat} {w : World} (h : Arg w w.heap.size A n c m) : Calls Tryd.prog 13 #[.agg #[.slice A n c]] w (LowPost w m) := by
  have H : Hid (∀ o, Arg (w.alloc o) w.heap.size A n c m) := fun o => h.below ((Below.refl _ _).alloc (Nat.le_refl _) _)
  have HX : Hid (∀ o, Rd U32 (w.alloc o) w.heap.size A (digs W32 m)) := fun o => (h.digs.1.below ((Below.refl _ _).alloc (Nat.le_refl _) _)).2
  have HBW : Hid (∀ o, Below w.heap.size w (w.alloc o)) := fun o => (Below.refl _ _).alloc (Nat.le_refl _) _
  clear h
  rcases (show dl m = 0 ∨ dl m = 1 ∨ dl m = 2 ∨ 3 ≤ dl m by omega) with hd | hd | hd | hd
  · have hm := hide (dl_zero hd)
    go_enter Tryd.func13, Tryd.ntmps13
    go_wp2_with (first | (go_at_call 73; go_must (refine (trim_arg (H.out _)).mono ?_); rintro e w2 ⟨rfl, rfl⟩))
    go_ret2
    exact ⟨low_ret (by rw [hm.out]; rfl) (by rw [hm.out]; rfl), HBW.out _⟩
  · obtain ⟨e, hlt⟩ := digs_one hd
    rw [e] at HX
    have hm := hide (word_le hlt)
    obtain ⟨ad, rfl, hab, hc⟩ := (HX.out (.cells #[.slice A n c] 25)).at_ (k := 0) (by simp)
    have hc : (w.alloc (.cells #[.slice (some ad) n c] 25)).cell? ad = some (.int .u32 (m : Int)) := hc
    have hml := word_le hlt
    clear e hlt
    go_enter Tryd.func13, Tryd.ntmps13
    go_wp2_with (first | (go_at_call 73; go_must (refine (trim_arg (H.out _)).mono ?_); rintro e w2 ⟨rfl, rfl⟩))
    go_ret2
    exact ⟨low_ret (by rw [if_pos (by have := hm.out; omega)]) (by rw [decide_eq_true (by have := hm.out; omega)]), HBW.out _⟩
  · obtain ⟨e, hlt⟩ := digs_two hd
    rw [e] at HX
    have HM : Hid (m < 18446744073709551616) := by unfold Hid; rw [W32_eq] at hlt; omega
    obtain ⟨hi, hhi⟩ : ∃ hi, hi = m / W32 := ⟨_, rfl⟩
    obtain ⟨lo, hlo⟩ : ∃ lo, lo = m % W32 := ⟨_, rfl⟩
    rw [← hhi, ← hlo] at HX
    obtain ⟨ad, rfl, hab, hc⟩ := (HX.out (.cells #[.slice A n c] 25)).at_ (k := 0) (by simp)
    have hc : (w.alloc (.cells #[.slice (some ad) n c] 25)).cell? ad = some (.int .u32 (lo : Int)) := hc
    obtain ⟨ad', e', hab', hc'⟩ := (HX.out (.cells #[.slice (some ad) n c] 25)).at_ (k := 1) (by simp)
    cases e'
    have hc' : (w.alloc (.cells #[.slice (some ad) n c] 25)).cell? ⟨ad.block, ad.off + 1, none⟩ = some (.int .u32 (hi : Int)) := hc'
    have hl1 : lo ≤ 4294967295 := word_le (by rw [hlo]; exact lo_lt m)
    have hl2 : hi ≤ 4294967295 := word_le (by rw [hhi]; exact hlt)
    have HE : Hid (m = hi * 4294967296 + lo) := by unfold Hid; have := lohi m; rw [← hlo, ← hhi, W32_eq] at this; omega
    clear e hlt hhi hlo
    go_enter Tryd.func13, Tryd.ntmps13
    go_wp2_with (first | (go_at_call 73; go_must (refine (trim_arg (H.out _)).mono ?_); rintro e w2 ⟨rfl, rfl⟩))
    go_quiet (fail)
    go_wp2
    go_ret2
    exact ⟨low_ret (by rw [if_pos HM.out, HE.out]; exact or64 hl2 hl1) (by rw [decide_eq_true HM.out]), below_drewN (HBW.out _) _⟩
  · have hm := hide (dl_three hd)
    go_enter Tryd.func13, Tryd.ntmps13
    go_wp2_with (first | (go_at_call 73; go_must (refine (trim_arg (H.out _)).mono ?_); rintro e w2 ⟨rfl, rfl⟩))
    go_ret2
    exact ⟨low_ret (by rw [if_neg (by have := hm.out; omega)]; rfl) (by rw [decide_eq_false (by have := hm.out; omega)]), HBW.out _⟩
end Go.Proofs.YteieelgdiccppaaDoor
end
