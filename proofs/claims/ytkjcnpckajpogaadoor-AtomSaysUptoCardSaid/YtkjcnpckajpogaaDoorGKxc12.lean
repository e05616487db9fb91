/- Several texts in one, each with its own sentence and conditions. -/
import Derived.Test.YtkjcnpckajpogaaDoorGKxc9
import Derived.Test.YtkjcnpckajpogaaDoorLdn
import Derived.Test.YtkjcnpckajpogaaDoorGKxc6
import Derived.WalkSpells
import Derived.Lib.Strings
import Derived.Laws.BytesArg
import Derived.Deep.LoopGhost
import Derived.Deep.RegionHeld3
section
/- divideLong: the quotient's words and the rest's. Conditions: at most 100000 words, a divisor of two words or more, not greater than what is divided. -/
open Go.RowKit
set_option maxRecDepth 100000
namespace Go.Proofs.YtkjcnpckajpogaaDoor
def LongPost (w : World) (m m' : Nat) (e : Ending) (w' : World) : Prop :=
  ∃ (gq gr nq nr : Nat) (Q R : List Nat), e = .returned (.tuple #[.slice (some ⟨gq, 0, none⟩) nq nq, .slice (some ⟨gr, 0, none⟩) nr nr]) ∧ Hid (Blk U32 110 w' gq Q) ∧ Hid (nq = Q.length ∧ Good32 Q ∧ nq ≤ 100000 ∧ val W32 Q = m / m') ∧
    Hid (Blk U32 110 w' gr R) ∧ Hid (nr = R.length ∧ Good32 R ∧ nr ≤ 100000 ∧ val W32 R = m % m') ∧ Hid (w.heap.size ≤ gq ∧ w.heap.size ≤ gr) ∧ Hid (Below w.heap.size w w')
/-- What the loop keeps. -/
structure LongInv (X V n z j g2 g3 : Nat) (wb wr : World) (l H : List Nat) : Prop where
  ll : l.length = n + z + 1
  lg : Good32 l
  hl : H.length = z + 1 - j
  hg : Good32 H
  hx : X = V * (W32 ^ j * val W32 H) + val W32 (l.take (n + j))
  hv : val W32 (l.take (n + j)) < V * W32 ^ j
  b2 : Blk U32 110 wr g2 l
  b3 : Blk U32 110 wr g3 (List.replicate j 0 ++ H)
  bl : Below g2 wb wr
theorem long_zero {X V n z : Nat} {L : List Nat} (hl : L.length = n + z + 1) (hv : val W32 L = X) (hs : X < V * W32 ^ (z + 1)) :
    X = V * (W32 ^ (z + 1) * val W32 []) + val W32 (L.take (n + (z + 1))) ∧ val W32 (L.take (n + (z + 1))) < V * W32 ^ (z + 1) := by
  have e : L.take (n + (z + 1)) = L := List.take_of_length_le (by clear hs; omega)
  rw [e, hv]
  generalize W32 ^ (z + 1) = P at hs ⊢
  exact ⟨by show X = V * (P * 0) + X; rw [Nat.mul_zero, Nat.mul_zero, Nat.zero_add], hs⟩
theorem long_idx (z : Nat) : Value.int .i64 (z : Int) = Value.int .i64 (((z + 1 : Nat) : Int) - 1) := by go_num
end Go.Proofs.YtkjcnpckajpogaaDoor
end

section
/- Mul: the product. Conditions: at most 100000 words each. -/
open Go.RowKit
set_option maxRecDepth 100000
namespace Go.Proofs.YtkjcnpckajpogaaDoor
end Go.Proofs.YtkjcnpckajpogaaDoor
end

section
/- Add: the sum. Conditions: at most 100000 words each. -/
open Go.RowKit
set_option maxRecDepth 100000
namespace Go.Proofs.YtkjcnpckajpogaaDoor

end Go.Proofs.YtkjcnpckajpogaaDoor
end

section
/- Of, Good, Low. Conditions: lengths that fit int. -/
open Go.RowKit
set_option maxRecDepth 100000
namespace Go.Proofs.YtkjcnpckajpogaaDoor
/-- Whether the last word isn't 0. -/
def goodB (ws : List Nat) : Bool := ws.getLast? != some 0
theorem dl_zero {m : Nat} (h : dl m = 0) : m = 0 := (digs_len_pos (by decide)).1 h
theorem digs_one {m : Nat} (h : dl m = 1) : digs W32 m = [m] ∧ m < W32 := by
  have h0 : 0 < m := by
    rcases Nat.eq_zero_or_pos m with rfl | h1
    · unfold dl at h; rw [digs_zero] at h; simp at h
    · exact h1
  have h2 : m < W32 := by have := lt_pow_digs (b := W32) (by decide) m; unfold dl at h; rw [h] at this; simpa using this
  refine ⟨?_, h2⟩
  rw [digs_pos (by decide) h0, Nat.div_eq_of_lt h2, digs_zero, Nat.mod_eq_of_lt h2]
theorem digs_two {m : Nat} (h : dl m = 2) : digs W32 m = [m % W32, m / W32] ∧ m / W32 < W32 := by
  have h0 : 0 < m := by
    rcases Nat.eq_zero_or_pos m with rfl | h1
    · unfold dl at h; rw [digs_zero] at h; simp at h
    · exact h1
  have e := digs_pos (b := W32) (by decide) h0
  have h1 : dl (m / W32) = 1 := by unfold dl at h ⊢; rw [e] at h; simpa using h
  obtain ⟨e2, h2⟩ := digs_one h1
  exact ⟨by rw [e, e2], h2⟩
theorem dl_three {m : Nat} (h : 3 ≤ dl m) : 18446744073709551616 ≤ m := by
  have h0 : 0 < m := by
    rcases Nat.eq_zero_or_pos m with rfl | h1
    · unfold dl at h; rw [digs_zero] at h; simp at h
    · exact h1
  have h1 := pow_le_of_digs (b := W32) (by decide) h0
  have h2 : W32 ^ 2 ≤ W32 ^ (dl m - 1) := Nat.pow_le_pow_right (by decide) (by omega)
  have h3 : W32 ^ 2 = 18446744073709551616 := by rw [W32_eq]
  unfold dl at h2; omega
end Go.Proofs.YtkjcnpckajpogaaDoor
end

section
/- divideByWord: words in place, by one word. Conditions: at most 1000000 words. -/
open Go.RowKit
set_option maxRecDepth 100000
namespace Go.Proofs.YtkjcnpckajpogaaDoor
def DivWordPost (w : World) (g k d : Nat) (L : List Nat) (e : Ending) (w' : World) : Prop :=
  ∃ (q : List Nat) (rest : Nat), e = .returned (.int .u32 (rest : Int)) ∧ Hid (q.length = k) ∧ Hid (Good32 q) ∧ rest < d ∧ Hid (val W32 (L.take k) = val W32 q * d + rest) ∧ Hid (Blk U32 110 w' g (q ++ L.drop k)) ∧ w.grownBy w' (some g)
theorem divw_math {vq d rest t q r x v W : Nat} (h : v = vq * d + rest) (ht : t = rest * W + x) (hq : r + d * q = t) : x + W * v = (q + W * vq) * d + r := by
  rw [h, Nat.mul_add, Nat.add_mul, Nat.mul_assoc W vq d]
  have : W * rest = rest * W := Nat.mul_comm _ _
  have : d * q = q * d := Nat.mul_comm _ _
  omega
theorem divw_lt {d rest t x W : Nat} (hr : rest < d) (ht : t = rest * W + x) (hx : x < W) : t / d < W := by
  rw [Nat.div_lt_iff_lt_mul (by omega), ht]
  have h1 : (rest + 1) * W ≤ d * W := Nat.mul_le_mul_right _ hr
  rw [Nat.add_mul, Nat.one_mul] at h1
  rw [Nat.mul_comm W d]; omega
theorem down_list {L D : List Nat} {i x v : Nat} (h : L[i]? = some x) : (L.take (i + 1) ++ D).set i v = L.take i ++ (v :: D) := by
  have hi : i < L.length := by
    rcases Nat.lt_or_ge i L.length with h1 | h1
    · exact h1
    · rw [List.getElem?_eq_none h1] at h; cases h
  have hl : (L.take i).length = i := by rw [List.length_take]; omega
  rw [List.take_succ_eq_append_getElem hi, List.append_assoc, List.set_append, if_neg (by omega), hl, Nat.sub_self]
  rfl
theorem down_drop {L : List Nat} {i k x : Nat} (h : L[i]? = some x) (hk : i < k) : (L.take k).drop i = x :: (L.take k).drop (i + 1) := by
  have hi : i < L.length := by
    rcases Nat.lt_or_ge i L.length with h1 | h1
    · exact h1
    · rw [List.getElem?_eq_none h1] at h; cases h
  rw [List.getElem?_eq_getElem hi] at h
  injection h with h
  rw [List.drop_eq_getElem_cons (by rw [List.length_take]; omega), List.getElem_take, h]
theorem quo_word {t d : Nat} (h : t / d < W32) : IntKind.u64.wrap ((t : Int) / (d : Int)) % 4294967296 = ((t / d : Nat) : Int) := by
  rw [W32_eq] at h
  rw [← Int.natCast_ediv]
  generalize t / d = q at h ⊢
  rw [u64_nat (by omega)]; omega
end Go.Proofs.YtkjcnpckajpogaaDoor
end

section
/- Div by a number of at most one word. Conditions: at most 100000 words. -/
open Go.RowKit
set_option maxRecDepth 100000
namespace Go.Proofs.YtkjcnpckajpogaaDoor
theorem pre4 (w : World) (o1 o2 : Obj) (v u : Value) (t : TypeId) (k : Nat) :
    Below w.heap.size w (((((w.alloc o1).alloc o2).alloc (.cells #[v] t)).alloc (.cells #[u] t)).drewN k) ∧ (((((w.alloc o1).alloc o2).alloc (.cells #[v] t)).alloc (.cells #[u] t)).drewN k).heap.size = w.heap.size + 4 ∧
    (((((w.alloc o1).alloc o2).alloc (.cells #[v] t)).alloc (.cells #[u] t)).drewN k).heap[w.heap.size + 2]? = some (.cells #[v] t (0, 0)) ∧
    (((((w.alloc o1).alloc o2).alloc (.cells #[v] t)).alloc (.cells #[u] t)).drewN k).heap[w.heap.size + 3]? = some (.cells #[u] t (0, 0)) := by
  obtain ⟨p1, p2, p3⟩ := pre3 w o1 o2 v t 0
  refine ⟨below_drewN (((((Below.refl _ _).alloc (Nat.le_refl _) _).alloc (by simp) _).alloc (by simp; omega) _).alloc (by simp; omega) _) k, by simp, ?_, ?_⟩
  · exact (Below.heap_alloc _ _ _ (by simp)).trans p3
  · have := heap_alloc_new (((w.alloc o1).alloc o2).alloc (.cells #[v] t)) (.cells #[u] t)
    simpa using this
theorem dl0 : dl 0 = 0 := by unfold dl; rw [digs_zero]; rfl
theorem after4 {w w1 : World} {o1 o2 : Obj} {v u : Value} {t : TypeId} {k : Nat} (h : Below (((((w.alloc o1).alloc o2).alloc (.cells #[v] t)).alloc (.cells #[u] t)).drewN k).heap.size (((((w.alloc o1).alloc o2).alloc (.cells #[v] t)).alloc (.cells #[u] t)).drewN k) w1) :
    Below w.heap.size w w1 ∧ w1.heap[w.heap.size + 2]? = some (.cells #[v] t (0, 0)) ∧ w1.heap[w.heap.size + 3]? = some (.cells #[u] t (0, 0)) ∧ w.heap.size + 4 ≤ w1.heap.size := by
  obtain ⟨p1, p2, p3, p4⟩ := pre4 w o1 o2 v u t k
  exact ⟨p1.trans (h.mono p1.size), (h.block _ (by omega)).trans p3, (h.block _ (by omega)).trans p4, by have := h.size; omega⟩
/-- What Div leaves where b isn't 0. -/
def DivPost (w : World) (m n : Nat) (e : Ending) (w' : World) : Prop :=
  ∃ A c A' c', e = .returned (.tuple #[.agg #[.slice A (dl (m / n)) c], .agg #[.slice A' (dl (m % n)) c'], .bool true]) ∧ Hid (Can w' w'.heap.size A c (m / n)) ∧ Hid (Can w' w'.heap.size A' c' (m % n)) ∧ Hid (Below w.heap.size w w')
def DivNone (w : World) (e : Ending) (w' : World) : Prop := e = .returned (.tuple #[.agg #[.slice none 0 0], .agg #[.slice none 0 0], .bool false]) ∧ Hid (Below w.heap.size w w')
theorem Rd.setBox {w : World} {B : Nat} {A : Option Addr} {xs : List Nat} (h : Rd U32 w B A xs) {p : Addr} {a : Option Addr} {l c : Nat} (hc : w.cell? p = some (.slice a l c)) (u : Value) : Rd U32 (w.setCell p u) B A xs := fun hn => by
  obtain ⟨ad, e, hb, hx⟩ := h hn
  refine ⟨ad, e, hb, fun j x hj => ?_⟩
  have h1 := hx j x hj
  rw [World.cell?_setCell_other w p _ u (by intro e; rw [← e, hc] at h1; cases h1)]
  exact h1
theorem div_parts {w : World} {g m d rest : Nat} {q : List Nat} {w2 : World} (_h : Hid (Blk U32 110 w g (digs W32 m))) (_hq1 : Hid (q.length = dl m)) (hq3 : Hid (val W32 ((digs W32 m).take (dl m)) = val W32 q * d + rest)) (hq4 : Hid (Blk U32 110 w2 g (q ++ (digs W32 m).drop (dl m)))) (hr : rest < d) :
    Hid (Blk U32 110 w2 g q) ∧ Hid (val W32 q = m / d) ∧ Hid (rest = m % d) := by
  have h1 := hq3.out
  rw [List.take_of_length_le (show (digs W32 m).length ≤ dl m from Nat.le_refl _), val_digs32] at h1
  have h2 := hq4.out
  rw [List.drop_of_length_le (show (digs W32 m).length ≤ dl m from Nat.le_refl _), List.append_nil] at h2
  refine ⟨h2, ?_, ?_⟩
  · unfold Hid
    rw [h1, Nat.mul_comm, Nat.mul_add_div (by omega), Nat.div_eq_of_lt hr, Nat.add_zero]
  · unfold Hid
    rw [h1, Nat.mul_comm, Nat.mul_add_mod, Nat.mod_eq_of_lt hr]
end Go.Proofs.YtkjcnpckajpogaaDoor
end

section
/- Div whole: the quotient and the rest of any two numbers. Conditions: less than 100000 words. -/
open Go.RowKit
set_option maxRecDepth 100000
namespace Go.Proofs.YtkjcnpckajpogaaDoor
end Go.Proofs.YtkjcnpckajpogaaDoor
end

section
/- Strings of digits: trimLeftByte, TrimLeft, isDigits, valueOf. Conditions: lengths within the model's own bound. -/
open Go.RowKit
set_option maxRecDepth 100000
namespace Go.Proofs.YtkjcnpckajpogaaDoor
theorem toList_drop1 (t : ByteArray) : (t.extract 1 t.size).data.toList = t.data.toList.drop 1 := by
  rw [Lib.extract_data, List.take_of_length_le]
  rw [List.length_drop]; exact Nat.le_refl _
theorem size_list (t : ByteArray) : t.size = t.data.toList.length := rfl
theorem str_ret {t u : ByteArray} (h : t = u) : Ending.returned (.string t) = .returned (.string u) := by rw [h]
def TrimPost (l : List UInt8) (w : World) (e : Ending) (w' : World) : Prop := ∃ t : ByteArray, e = .returned (.string t) ∧ t.data.toList = l.dropWhile (· == 48) ∧ w = w'
theorem drop_yes {t : ByteArray} {h : 0 < t.size} (hx : t[0] = 48) : t.data.toList.dropWhile (· == 48) = (t.data.toList.drop 1).dropWhile (· == 48) := by
  obtain ⟨⟨l⟩⟩ := t
  cases l with
  | nil => simp [ByteArray.size] at h
  | cons a l =>
    have : a = 48 := hx
    subst this
    rfl
theorem drop_no {t : ByteArray} {h : 0 < t.size} (hx : t[0] ≠ 48) : t.data.toList.dropWhile (· == 48) = t.data.toList := by
  obtain ⟨⟨l⟩⟩ := t
  cases l with
  | nil => simp [ByteArray.size] at h
  | cons a l =>
    have : (a == 48) = false := by
      have : a ≠ 48 := hx
      simpa using this
    rw [List.dropWhile_cons, this]; rfl
set_option maxHeartbeats 400000 in
theorem trimByte_any (s : ByteArray) (w : World) :
    Calls Tryd.prog 61 #[.string s, .int .u8 48] w (TrimPost s.data.toList w) := by
  go_enter Tryd.func61, Tryd.ntmps61
  go_wp2
  go_loop [0] (fun sv => ∃ t : ByteArray, sv = .string t ∧ Hid (s.data.toList.dropWhile (· == 48) = t.data.toList.dropWhile (· == 48)) ∧ t.size ≤ s.size) (fun sv => match sv with | .string t => t.size | _ => 0)
  case atStart => exact ⟨s, rfl, rfl, Nat.le_refl _⟩
  case round =>
    obtain ⟨t, rfl, ht, hts⟩ := hrel
    by_cases h0 : t.size = 0
    · have HZ := hide h0
      have h1 : ¬ 0 < t.size := by omega
      clear h0
      go_wp2
      go_ret
      exact ⟨t, rfl, by rw [ht.out, List.eq_nil_of_length_eq_zero (show t.data.toList.length = 0 from HZ.out)]; rfl, rfl⟩
    · have h1 : 0 < t.size := by omega
      by_cases hx : t[0] = 48
      · have HX := hide hx
        have hxt : ((t[0].toNat : Int) == 48) = true := by rw [hx]; rfl
        clear hx
        go_wp2
        go_round
        case rel => exact ⟨_, rfl, by unfold Hid; rw [ht.out, toList_drop1, drop_yes HX.out], by simp; omega⟩
        case measure => simp; omega
      · have HX := hide hx
        have hxt : ((t[0].toNat : Int) == 48) = false := by
          rw [beq_eq_false_iff_ne]
          intro e
          exact hx (UInt8.toNat_inj.1 (by simpa using (show t[0].toNat = 48 by omega)))
        clear hx
        go_wp2
        go_ret
        exact ⟨t, rfl, by rw [ht.out, drop_no HX.out], rfl⟩
/-- Is it a digit? -/
def isDig (c : UInt8) : Bool := decide (48 ≤ c.toNat) && decide (c.toNat ≤ 57)
/-- One or more digits. -/
def digB (l : List UInt8) : Bool := !l.isEmpty && l.all isDig
def numL (l : List UInt8) : Nat := l.foldl (fun a c => a * 10 + (c.toNat - 48)) 0
theorem numL_snoc (l : List UInt8) (c : UInt8) : numL (l ++ [c]) = numL l * 10 + (c.toNat - 48) := by simp [numL]
theorem take_snoc {s : ByteArray} {k : Nat} (h : k < s.size) : s.data.toList.take (k + 1) = s.data.toList.take k ++ [s[k]] := by
  rw [List.take_succ_eq_append_getElem (by simpa using h)]; rfl
theorem bool_ret {a b : Bool} (h : a = b) : Ending.returned (.bool a) = .returned (.bool b) := by rw [h]
theorem dig_iff (c : UInt8) : isDig c = true ↔ 48 ≤ (c.toNat : Int) ∧ (c.toNat : Int) ≤ 57 := by unfold isDig; simp; omega
/-- The digits' numbers, the least significant first. -/
def dvs (l : List UInt8) : List Nat := l.reverse.map fun c => c.toNat - 48
theorem fold_val (l : List UInt8) : ∀ a : Nat, l.foldl (fun a c => a * 10 + (c.toNat - 48)) a = a * 10 ^ l.length + val 10 (dvs l) := by
  induction l with
  | nil => intro a; simp [dvs, val]
  | cons c l ih =>
    intro a
    rw [List.foldl_cons, ih]
    unfold dvs
    rw [List.reverse_cons, List.map_append, val_append, List.length_cons, Nat.pow_succ]
    simp only [List.map_cons, List.map_nil, val, List.length_map, List.length_reverse, Nat.mul_zero, Nat.add_zero]
    rw [Nat.add_mul, Nat.mul_assoc, Nat.mul_comm 10, Nat.mul_comm (10 ^ l.length) (c.toNat - 48)]
    omega
theorem numL_val (l : List UInt8) : numL l = val 10 (dvs l) := by unfold numL; rw [fold_val]; simp
theorem dvs_len (l : List UInt8) : (dvs l).length = l.length := by simp [dvs]
theorem dvs_lt {l : List UInt8} (h : l.all isDig = true) : ∀ x ∈ dvs l, x < 10 := by
  intro x hx
  unfold dvs at hx
  obtain ⟨c, hc, rfl⟩ := List.mem_map.1 hx
  have := (dig_iff c).1 (List.all_eq_true.1 h c (List.mem_reverse.1 hc))
  omega
theorem numL_lt (l : List UInt8) (h : l.all isDig = true) : numL l < 10 ^ l.length := by
  rw [numL_val, ← dvs_len]
  exact val_lt _ (dvs_lt h)
end Go.Proofs.YtkjcnpckajpogaaDoor
end

section
/- Parse. Conditions: at most 100000 letters. -/
open Go.RowKit
set_option maxRecDepth 100000
namespace Go.Proofs.YtkjcnpckajpogaaDoor
/-- What Parse leaves. -/
def ParsePost (w : World) (l : List UInt8) (e : Ending) (w' : World) : Prop :=
  if digB l = true then ∃ A c, e = .returned (.tuple #[.agg #[.slice A (dl (numL l)) c], .bool true]) ∧ Can w' w'.heap.size A c (numL l) ∧ Below w.heap.size w w'
  else e = .returned (.tuple #[.agg #[.slice none 0 0], .bool false]) ∧ Below w.heap.size w w'
theorem numL_drop (l : List UInt8) : numL (l.dropWhile (· == 48)) = numL l := by
  induction l with
  | nil => rfl
  | cons c l ih =>
    by_cases h : c = 48
    · subst h
      rw [show (48 :: l).dropWhile (· == (48 : UInt8)) = l.dropWhile (· == 48) from rfl, ih]
      rfl
    · rw [List.dropWhile_cons, if_neg (by simpa using h)]
theorem all_drop {l : List UInt8} (h : l.all isDig = true) : (l.dropWhile (· == 48)).all isDig = true := by
  rw [List.all_eq_true] at *
  exact fun c hc => h c ((List.dropWhile_sublist _).subset hc)
theorem len_drop (l : List UInt8) : (l.dropWhile (· == 48)).length ≤ l.length := (List.dropWhile_sublist _).length_le
theorem numL_append (l m : List UInt8) : numL (l ++ m) = numL l * 10 ^ m.length + numL m := by
  rw [show numL (l ++ m) = m.foldl (fun a c => a * 10 + (c.toNat - 48)) (numL l) by unfold numL; rw [List.foldl_append], fold_val, ← numL_val]
theorem own_made (w : World) (base cap : Nat) (hb : base ≤ w.heap.size) (hm : cap ≤ 1000000) : ∀ cur : Array Value, cur.size = cap → OwnG (w.alloc (.cells cur 110)) base w.heap.size cap [] := fun cur hs =>
  World.ownsRow_made w cur cap hb (by simp only [maxLen]; omega) (by omega)
theorem dl_le {m k : Nat} (h : m < W32 ^ k) : dl m ≤ k := by
  rcases Nat.eq_zero_or_pos m with rfl | h0
  · unfold dl; rw [digs_zero]; simp
  · have h1 := pow_le_of_digs (b := W32) (by decide) h0
    have h2 : W32 ^ (dl m - 1) < W32 ^ k := Nat.lt_of_le_of_lt h1 h
    have h3 := (Nat.pow_lt_pow_iff_right (a := W32) (by decide)).1 h2
    omega
end Go.Proofs.YtkjcnpckajpogaaDoor
end

section
/- slices.Reverse over bytes of the call's own. Conditions: at most 10000000 of them. -/
open Go.RowKit
set_option maxRecDepth 100000
namespace Go.Proofs.YtkjcnpckajpogaaDoor
def RevPost (w : World) (base g cap : Nat) (xs : List Nat) (e : Ending) (w' : World) : Prop := e = .returned (.tuple #[]) ∧ OwnF U8 5 w' base g cap xs.reverse ∧ w.grownBy w' (some g)
end Go.Proofs.YtkjcnpckajpogaaDoor
end

section
/- Text. Conditions: at most 100000 words. -/
open Go.RowKit
set_option maxRecDepth 100000
namespace Go.Proofs.YtkjcnpckajpogaaDoor
/-- The letters of a number in base ten. -/
def decL (m : Nat) : List UInt8 := if m = 0 then [48] else (digs 10 m).reverse.map fun d => UInt8.ofNat (48 + d)
def TextPost (w : World) (m : Nat) (e : Ending) (w' : World) : Prop := ∃ t : ByteArray, e = .returned (.string t) ∧ t.data.toList = decL m ∧ Below w.heap.size w w'
def letter (d : Nat) : UInt8 := UInt8.ofNat (48 + d)
theorem letter_toNat {d : Nat} (h : d < 10) : (letter d).toNat = 48 + d := by unfold letter; rw [UInt8.toNat_ofNat']; omega
theorem letter_ne {d : Nat} (h : d < 10) (h0 : d ≠ 0) : (letter d == 48) = false := by
  rw [beq_eq_false_iff_ne]
  intro e
  have h1 := letter_toNat h
  rw [e] at h1
  have : (48 : UInt8).toNat = 48 := rfl
  omega
theorem drop_rep (k : Nat) (l : List UInt8) : (List.replicate k 48 ++ l).dropWhile (· == 48) = l.dropWhile (· == 48) := by
  induction k with
  | zero => rfl
  | succ k ih => rw [List.replicate_succ, List.cons_append]; exact ih
theorem text_end {dd : List Nat} {m : Nat} (hd : ∀ d ∈ dd, d < 10) (hv : val 10 dd = m) (hm : 0 < m) : ((dd.map letter).reverse).dropWhile (· == 48) = decL m := by
  obtain ⟨k, hk⟩ := exists_zeros (b := 10) (by omega) dd hd
  rw [hv] at hk
  have e : (dd.map letter).reverse = List.replicate k 48 ++ ((digs 10 m).reverse.map letter) := by
    rw [hk, List.map_append, List.reverse_append, List.map_replicate, List.reverse_replicate, ← List.map_reverse]; rfl
  rw [e, drop_rep]
  unfold decL
  rw [if_neg (by omega)]
  show ((digs 10 m).reverse.map letter).dropWhile (· == 48) = (digs 10 m).reverse.map letter
  cases hr : (digs 10 m).reverse with
  | nil => rfl
  | cons a l =>
    have h1 : (digs 10 m).getLast? = some a := by
      have : digs 10 m = (a :: l).reverse := by rw [← hr, List.reverse_reverse]
      rw [this, List.getLast?_reverse]; rfl
    have h2 := digs_last (b := 10) (by omega) m a h1
    have h3 : a < 10 := digs_lt (b := 10) (by omega) m a (List.mem_of_getLast? h1)
    rw [List.map_cons, List.dropWhile_cons, letter_ne h3 h2]; rfl
theorem text_conv {w : World} {base g cap n : Nat} {bs : List Nat} (h : OwnF U8 5 w base g cap bs) (hb : ∀ b ∈ bs, b < 256) (hn : n = bs.length) :
    (convert 76 9 (.slice (some ⟨g, 0, none⟩) n cap)).run Tryd.prog w = .ok (.string ⟨(bs.map UInt8.ofNat).toArray⟩) w := by
  subst hn
  have h1 := run_convert_bytes_back (P := Tryd.prog) w 76 9 5 ⟨g, 0, none⟩ cap (bs.map UInt8.ofNat) Tryd.underlying76 Tryd.underlying5 Tryd.underlying9 (fun j hj => by
    have hj' : j < bs.length := by simpa using hj
    have h2 := h.cell (List.getElem?_eq_getElem hj')
    have e : (⟨g, 0, none⟩ : Addr).add j = ⟨g, j, none⟩ := by unfold Addr.add; split <;> simp_all
    rw [e, h2]
    have h3 := hb _ (List.getElem_mem hj')
    simp [U8, List.getElem_map, UInt8.toNat_ofNat']
    omega)
  rwa [List.length_map] at h1
/-- Digits as the cells of letters. -/
def UD (d : Nat) : Value := .int .u8 ((48 + d : Nat) : Int)
def NewZero (w : World) (m : Nat) (e : Ending) (w' : World) : Prop := ∃ g, e = .returned (.slice (some ⟨g, 0, none⟩) 0 0) ∧ Hid (w.heap.size ≤ g) ∧ Hid (Blk U32 110 w' g (digs W32 m)) ∧ Hid (Below w.heap.size w w')
theorem text_app {w wr w1 : World} {g n : Nat} {dv : Value} {xs : List Value} {B : List Nat} {o : Obj} (hown : wr.ownsRow (g + 1) 5 1 dv n xs) (hblk : Blk U32 110 wr g B) (hbel : Below w.heap.size w wr) (hg : w.heap.size ≤ g)
    (hgrow : (wr.alloc o).grownBy w1 dv.ownBlock) : Hid (Blk U32 110 w1 g B) ∧ Hid (Below w.heap.size w w1) := by
  have h1 : ∀ k, dv.ownBlock = some k → g + 1 ≤ k := fun k hk => (hown.lt k hk).1
  have h2 := hblk.lt
  refine ⟨(hblk.alloc o).grown hgrow (fun e => by have := h1 g e.symm; omega), (hbel.alloc (by omega) _).grown hgrow (by simp; omega) (fun k hk => by have := h1 k hk; omega)⟩
theorem map_snoc (dd : List Nat) (d : Nat) : dd.map UD ++ [UD d] = (dd ++ [d]).map UD := by simp
end Go.Proofs.YtkjcnpckajpogaaDoor
end

section
/- Words for 'is': validity of a number's own words, comparing with 0. No conditions. -/
open Go.RowKit
set_option maxRecDepth 100000
namespace Go.Proofs.YtkjcnpckajpogaaDoor
theorem goodB_digs (m : Nat) : goodB (digs W32 m) = true := by
  unfold goodB
  rw [bne_iff_ne]
  intro h
  exact digs_last (b := W32) (by decide) m 0 h rfl
theorem cmpI_beq (m n : Nat) : (cmpI m n == 0) = decide (m = n) := by
  rcases Nat.lt_trichotomy m n with h | h | h
  · rw [cmpI_lt h, decide_eq_false (by omega)]; rfl
  · rw [cmpI_eq h, decide_eq_true h]; rfl
  · rw [cmpI_gt h, decide_eq_false (by omega)]; rfl
theorem chain {w a b : World} (h : Hid (Below w.heap.size w a)) (hb : Below a.heap.size a b) : Hid (Below w.heap.size w b) := h.out.trans (hb.mono h.out.size)
end Go.Proofs.YtkjcnpckajpogaaDoor
end

section
/- Sub: the difference. Conditions: at most 100000 words each. -/
open Go.RowKit
set_option maxRecDepth 100000
namespace Go.Proofs.YtkjcnpckajpogaaDoor
/-- What Sub leaves. -/
def SubPost (w : World) (m m' : Nat) (e : Ending) (w' : World) : Prop :=
  if m' ≤ m then ∃ A c, e = .returned (.tuple #[.agg #[.slice A (dl (m - m')) c], .bool true]) ∧ Can w' w'.heap.size A c (m - m') ∧ Below w.heap.size w w'
  else e = .returned (.tuple #[.agg #[.slice none 0 0], .bool false]) ∧ Below w.heap.size w w'
end Go.Proofs.YtkjcnpckajpogaaDoor
end

section
/- Words for statements: arguments that tell numbers in every later world; cells of a statement's own variables kept through calls. No conditions. -/
open Go.RowKit
set_option maxRecDepth 100000
namespace Go.Proofs.YtkjcnpckajpogaaDoor
theorem keep4 {w W W' : World} {b : Nat} {v0 v1 v2 : Value} (hb : Hid (Below W.heap.size W W'))
    (h : W.cell? ⟨b, 0, none⟩ = some v0 ∧ W.cell? ⟨b + 1, 0, none⟩ = some v1 ∧ W.cell? ⟨b + 1 + 1, 0, none⟩ = some v2 ∧ Below w.heap.size w W ∧ b + 3 ≤ W.heap.size) :
    W'.cell? ⟨b, 0, none⟩ = some v0 ∧ W'.cell? ⟨b + 1, 0, none⟩ = some v1 ∧ W'.cell? ⟨b + 1 + 1, 0, none⟩ = some v2 ∧ Below w.heap.size w W' ∧ b + 3 ≤ W'.heap.size := by
  obtain ⟨h0, h1, h2, h3, h4⟩ := h
  have hs := hb.out.size
  exact ⟨(hb.out.cell (by simp; omega)).trans h0, (hb.out.cell (by simp; omega)).trans h1, (hb.out.cell (by simp; omega)).trans h2, h3.trans (hb.out.mono h3.size), by omega⟩
theorem start4 {w wa : World} {v0 v1 v2 : Value} {t : TypeId} (h : Hid (Below w.heap.size w wa)) :
    (((wa.alloc (.cells #[v0] t)).alloc (.cells #[v1] t)).alloc (.cells #[v2] t)).cell? ⟨wa.heap.size, 0, none⟩ = some v0 ∧
    (((wa.alloc (.cells #[v0] t)).alloc (.cells #[v1] t)).alloc (.cells #[v2] t)).cell? ⟨wa.heap.size + 1, 0, none⟩ = some v1 ∧
    (((wa.alloc (.cells #[v0] t)).alloc (.cells #[v1] t)).alloc (.cells #[v2] t)).cell? ⟨wa.heap.size + 1 + 1, 0, none⟩ = some v2 ∧
    Below w.heap.size w (((wa.alloc (.cells #[v0] t)).alloc (.cells #[v1] t)).alloc (.cells #[v2] t)) ∧ wa.heap.size + 3 ≤ (((wa.alloc (.cells #[v0] t)).alloc (.cells #[v1] t)).alloc (.cells #[v2] t)).heap.size := by
  have b1 : (wa.alloc (.cells #[v0] t)).heap[wa.heap.size]? = some (.cells #[v0] t (0, 0)) := heap_alloc_new wa _
  have b2 : ((wa.alloc (.cells #[v0] t)).alloc (.cells #[v1] t)).heap[wa.heap.size + 1]? = some (.cells #[v1] t (0, 0)) := by simpa using heap_alloc_new (wa.alloc (.cells #[v0] t)) (.cells #[v1] t)
  have b3 : (((wa.alloc (.cells #[v0] t)).alloc (.cells #[v1] t)).alloc (.cells #[v2] t)).heap[wa.heap.size + 1 + 1]? = some (.cells #[v2] t (0, 0)) := by simpa using heap_alloc_new ((wa.alloc (.cells #[v0] t)).alloc (.cells #[v1] t)) (.cells #[v2] t)
  have c1 : (((wa.alloc (.cells #[v0] t)).alloc (.cells #[v1] t)).alloc (.cells #[v2] t)).heap[wa.heap.size]? = some (.cells #[v0] t (0, 0)) :=
    (Below.heap_alloc _ _ _ (by simp; omega)).trans ((Below.heap_alloc _ _ _ (by simp)).trans b1)
  have c2 : (((wa.alloc (.cells #[v0] t)).alloc (.cells #[v1] t)).alloc (.cells #[v2] t)).heap[wa.heap.size + 1]? = some (.cells #[v1] t (0, 0)) := (Below.heap_alloc _ _ _ (by simp)).trans b2
  have hs := h.out.size
  exact ⟨(one_cell c1).1, (one_cell c2).1, (one_cell b3).1, ((h.out.alloc hs _).alloc (by simp; omega) _).alloc (by simp; omega) _, by simp⟩
theorem drew4 {w W : World} {b : Nat} {v0 v1 v2 : Value}
    (h : W.cell? ⟨b, 0, none⟩ = some v0 ∧ W.cell? ⟨b + 1, 0, none⟩ = some v1 ∧ W.cell? ⟨b + 1 + 1, 0, none⟩ = some v2 ∧ Below w.heap.size w W ∧ b + 3 ≤ W.heap.size) :
    W.drew.cell? ⟨b, 0, none⟩ = some v0 ∧ W.drew.cell? ⟨b + 1, 0, none⟩ = some v1 ∧ W.drew.cell? ⟨b + 1 + 1, 0, none⟩ = some v2 ∧ Below w.heap.size w W.drew ∧ b + 3 ≤ W.drew.heap.size :=
  ⟨h.1, h.2.1, h.2.2.1, h.2.2.2.1.drew, h.2.2.2.2⟩
theorem alloc4 {w W : World} {b : Nat} {v0 v1 v2 : Value} (o : Obj)
    (h : W.cell? ⟨b, 0, none⟩ = some v0 ∧ W.cell? ⟨b + 1, 0, none⟩ = some v1 ∧ W.cell? ⟨b + 1 + 1, 0, none⟩ = some v2 ∧ Below w.heap.size w W ∧ b + 3 ≤ W.heap.size) :
    (W.alloc o).cell? ⟨b, 0, none⟩ = some v0 ∧ (W.alloc o).cell? ⟨b + 1, 0, none⟩ = some v1 ∧ (W.alloc o).cell? ⟨b + 1 + 1, 0, none⟩ = some v2 ∧ Below w.heap.size w (W.alloc o) ∧ b + 3 ≤ (W.alloc o).heap.size := by
  have hb : Hid (Below W.heap.size W (W.alloc o)) := (Below.refl _ _).alloc (Nat.le_refl _) _
  exact keep4 hb h
theorem below4 {w W : World} {b : Nat} {v0 v1 v2 : Option Value} {a0 a1 a2 : Addr} (h : W.cell? a0 = v0 ∧ W.cell? a1 = v1 ∧ W.cell? a2 = v2 ∧ Below w.heap.size w W ∧ b ≤ W.heap.size) : Below w.heap.size w W := h.2.2.2.1
theorem cmpI_bd (a b : Nat) : -1 ≤ cmpI a b ∧ cmpI a b ≤ 1 := by
  rcases Nat.lt_trichotomy a b with h | h | h
  · rw [cmpI_lt h]; omega
  · rw [cmpI_eq h]; omega
  · rw [cmpI_gt h]; omega
theorem cmpI_le {a b : Nat} : cmpI a b ≤ 0 ↔ a ≤ b := by
  rcases Nat.lt_trichotomy a b with h | h | h
  · rw [cmpI_lt h]; omega
  · rw [cmpI_eq h]; omega
  · rw [cmpI_gt h]; omega
theorem cmpI_neg (a b : Nat) : cmpI a b = -cmpI b a := by
  rcases Nat.lt_trichotomy a b with h | h | h
  · rw [cmpI_lt h, cmpI_gt h]
  · rw [cmpI_eq h, cmpI_eq h.symm]; rfl
  · rw [cmpI_gt h, cmpI_lt h]; rfl
/-- A number that came in, in every later world. -/
def Later (w : World) (A : Option Addr) (l c m : Nat) : Prop := ∀ W, Below w.heap.size w W → Arg W W.heap.size A l c m
theorem later_of {w : World} {A : Option Addr} {l c : Nat} {z : List Nat} (h : l = z.length ∧ l ≤ c ∧ Rd U32 w w.heap.size A z ∧ Good32 z) (hl : l ≤ 100000) : Later w A l c (val W32 z) := fun _ hb =>
  ⟨z, h.1, h.2.1, hl, (h.2.2.1.below hb).more hb.size, h.2.2.2, rfl⟩
def IntPost (W : World) (v : Int) (e : Ending) (w' : World) : Prop := e = .returned (.int .i64 v) ∧ Hid (Below W.heap.size W w')
theorem val_lt24 {z : List Nat} {l : Nat} (hg : Good32 z) (hl : l = z.length) (h : l ≤ 24) : val W32 z < W32 ^ 24 :=
  Nat.lt_of_lt_of_le (val_lt z hg) (Nat.pow_le_pow_right (by decide) (by omega))
end Go.Proofs.YtkjcnpckajpogaaDoor
end

section
/- Gcd of any two numbers. Conditions: less than 100000 words. -/
open Go.RowKit
set_option maxRecDepth 100000
namespace Go.Proofs.YtkjcnpckajpogaaDoor
/-- What a call leaves that returns a number, hidden. -/
def NumH2 (w : World) (v : Nat) (e : Ending) (w' : World) : Prop := ∃ A c, e = .returned (.agg #[.slice A (dl v) c]) ∧ Hid (Can w' w'.heap.size A c v) ∧ Hid (Below w.heap.size w w')
theorem gcd_step (X Y : Nat) : Nat.gcd Y (X % Y) = Nat.gcd X Y := by
  rw [Nat.gcd_comm X Y, Nat.gcd_rec Y X, Nat.gcd_comm]
theorem keep5 {w W W' : World} {b : Nat} {v0 v1 v2 : Value} (hb : Hid (Below W.heap.size W W'))
    (h : W.cell? ⟨b, 0, none⟩ = some v0 ∧ W.cell? ⟨b + 1, 0, none⟩ = some v1 ∧ W.cell? ⟨b + 1 + 1, 0, none⟩ = some v2 ∧ W.frozen? ⟨b + 1 + 1, 0, none⟩ = false ∧ Below w.heap.size w W ∧ b + 3 ≤ W.heap.size) :
    W'.cell? ⟨b, 0, none⟩ = some v0 ∧ W'.cell? ⟨b + 1, 0, none⟩ = some v1 ∧ W'.cell? ⟨b + 1 + 1, 0, none⟩ = some v2 ∧ W'.frozen? ⟨b + 1 + 1, 0, none⟩ = false ∧ Below w.heap.size w W' ∧ b + 3 ≤ W'.heap.size := by
  obtain ⟨h0, h1, h2, hf, h3, h4⟩ := h
  have hs := hb.out.size
  exact ⟨(hb.out.cell (by simp; omega)).trans h0, (hb.out.cell (by simp; omega)).trans h1, (hb.out.cell (by simp; omega)).trans h2, (hb.out.frozen (by simp; omega)).trans hf, h3.trans (hb.out.mono h3.size), by omega⟩
theorem start5 {w wa : World} {v0 v1 v2 : Value} {t : TypeId} (h : Hid (Below w.heap.size w wa)) :
    (((wa.alloc (.cells #[v0] t)).alloc (.cells #[v1] t)).alloc (.cells #[v2] t)).drew.cell? ⟨wa.heap.size, 0, none⟩ = some v0 ∧
    (((wa.alloc (.cells #[v0] t)).alloc (.cells #[v1] t)).alloc (.cells #[v2] t)).drew.cell? ⟨wa.heap.size + 1, 0, none⟩ = some v1 ∧
    (((wa.alloc (.cells #[v0] t)).alloc (.cells #[v1] t)).alloc (.cells #[v2] t)).drew.cell? ⟨wa.heap.size + 1 + 1, 0, none⟩ = some v2 ∧
    (((wa.alloc (.cells #[v0] t)).alloc (.cells #[v1] t)).alloc (.cells #[v2] t)).drew.frozen? ⟨wa.heap.size + 1 + 1, 0, none⟩ = false ∧
    Below w.heap.size w (((wa.alloc (.cells #[v0] t)).alloc (.cells #[v1] t)).alloc (.cells #[v2] t)).drew ∧ wa.heap.size + 3 ≤ (((wa.alloc (.cells #[v0] t)).alloc (.cells #[v1] t)).alloc (.cells #[v2] t)).drew.heap.size := by
  obtain ⟨a0, a1, a2, a3, a4⟩ := drew4 (start4 (v0 := v0) (v1 := v1) (v2 := v2) (t := t) h)
  have b3 : (((wa.alloc (.cells #[v0] t)).alloc (.cells #[v1] t)).alloc (.cells #[v2] t)).heap[wa.heap.size + 1 + 1]? = some (.cells #[v2] t (0, 0)) := by simpa using heap_alloc_new ((wa.alloc (.cells #[v0] t)).alloc (.cells #[v1] t)) (.cells #[v2] t)
  exact ⟨a0, a1, a2, (one_cell b3).2, a3, a4⟩
theorem below5 {w W : World} {b : Nat} {f : Prop} {v0 v1 v2 : Option Value} {a0 a1 a2 : Addr} (h : W.cell? a0 = v0 ∧ W.cell? a1 = v1 ∧ W.cell? a2 = v2 ∧ f ∧ Below w.heap.size w W ∧ b ≤ W.heap.size) : Below w.heap.size w W := h.2.2.2.2.1
theorem box3 (w : World) (o1 o2 : Obj) (v : Value) (t : TypeId) : ((w.alloc o1).alloc o2).alloc (.cells #[v] t) = ((((w.alloc o1).alloc o2).alloc (.cells #[v] t)).drewN 0) := rfl
end Go.Proofs.YtkjcnpckajpogaaDoor
end
