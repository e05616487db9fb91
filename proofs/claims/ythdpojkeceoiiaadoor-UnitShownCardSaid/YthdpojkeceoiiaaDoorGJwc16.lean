/- Several texts in one, each with its own sentence and conditions. -/
import Derived.Test.YthdpojkeceoiiaaDoorZd
import Derived.Test.YthdpojkeceoiiaaDoorGJwc10
import Derived.Test.YthdpojkeceoiiaaDoorGJwc11
import Derived.Test.YthdpojkeceoiiaaDoorGJwc4
import Derived.Laws.BytesArg
import Derived.Deep.LoopGhost
import Derived.Test.YthdpojkeceoiiaaDoorGJwc3
import Derived.Deep.CutRange
import Derived.Maps.AppendAt
import Derived.WalkSmall
import Derived.Test.YthdpojkeceoiiaaDoorGJwc2
section
/- Package num: Cmp. Conditions: at most 100000 words. -/
open Go.RowKit
set_option maxRecDepth 100000
namespace Go.Proofs.YthdpojkeceoiiaaDoor
def cmpZ (a b : Int) : Int := if a < b then -1 else if b < a then 1 else 0
theorem al2 (W : World) (o1 o2 : Obj) : Below W.heap.size W ((W.alloc o1).alloc o2) := ((Below.refl _ _).alloc (Nat.le_refl _) _).alloc (by simp) _
section
variable {W : World} {b b' : Bool} {A A' : Option Addr} {n n' c c' : Nat} {z z' : Int}
end
end Go.Proofs.YthdpojkeceoiiaaDoor
end

section
/- A number's letters, read again. No conditions. -/
open Go.RowKit
set_option maxRecDepth 100000
namespace Go.Proofs.YthdpojkeceoiiaaDoor
theorem dig_letter {d : Nat} (h : d < 10) : isDig (letter d) = true := by unfold isDig; rw [letter_toNat h]; simp; omega
theorem dvs_letters (l : List Nat) (h : ∀ d ∈ l, d < 10) : dvs (l.reverse.map letter) = l := by
  unfold dvs
  rw [← List.map_reverse, List.reverse_reverse, List.map_map]
  have : ∀ m : List Nat, (∀ d ∈ m, d < 10) → m.map ((fun c : UInt8 => c.toNat - 48) ∘ letter) = m := by
    intro m
    induction m with
    | nil => intro _; rfl
    | cons d m ih =>
      intro hm
      rw [List.map_cons, ih fun x hx => hm x (List.mem_cons_of_mem _ hx)]
      have := letter_toNat (hm d (List.mem_cons_self ..))
      simp only [Function.comp_apply, this]
      congr 1; omega
  exact this l h
theorem numL_decL (m : Nat) : numL (decL m) = m ∧ digB (decL m) = true := by
  unfold decL
  by_cases h0 : m = 0
  · rw [if_pos h0, h0]; exact ⟨rfl, by decide⟩
  · rw [if_neg h0]
    have hlt := digs_lt (b := 10) (by omega) m
    refine ⟨?_, ?_⟩
    · show numL ((digs 10 m).reverse.map letter) = m
      rw [numL_val, dvs_letters _ hlt, val_digs (by omega)]
    · unfold digB
      rw [Bool.and_eq_true]
      refine ⟨?_, ?_⟩
      · rw [digs_pos (by omega) (by omega)]; simp
      · rw [List.all_eq_true]
        intro c hc
        obtain ⟨d, hd, rfl⟩ := List.mem_map.1 hc
        exact dig_letter (hlt d (List.mem_reverse.1 hd))
theorem dt_le {m k : Nat} (h : m < 10 ^ k) (hk : 1 ≤ k) : (decL m).length ≤ k := by
  unfold decL
  by_cases h0 : m = 0
  · rw [if_pos h0]; exact hk
  · rw [if_neg h0, List.length_map, List.length_reverse]
    have h1 := pow_le_of_digs (b := 10) (n := m) (by decide) (by omega)
    have h2 : 10 ^ ((digs 10 m).length - 1) < 10 ^ k := Nat.lt_of_le_of_lt h1 h
    have h3 := (Nat.pow_lt_pow_iff_right (a := 10) (by decide)).1 h2
    omega
end Go.Proofs.YthdpojkeceoiiaaDoor
end

section
/- Package num: Text, Good of a valid number. Conditions: at most 100000 words. -/
open Go.RowKit
set_option maxRecDepth 100000
namespace Go.Proofs.YthdpojkeceoiiaaDoor
/-- An integer's letters. -/
def decZ (z : Int) : List UInt8 := if z < 0 then 45 :: decL z.natAbs else decL z.natAbs
def TxR (W : World) (l : List UInt8) (e : Ending) (w' : World) : Prop := ∃ t : ByteArray, e = .returned (.string t) ∧ Hid (t.data.toList = l) ∧ Hid (Below W.heap.size W w')
section
variable {W : World} {b : Bool} {A : Option Addr} {n c : Nat} {z : Int}
theorem text_h {m : Nat} (h : Nm W A n c m) : Calls Tryd.prog 10 #[.agg #[.slice A n c]] W (TxR W (decL m)) := (Text_any h.out).mono fun _ _ h => h
theorem decL_len {W : World} {A : Option Addr} {n c m : Nat} (h : Nm W A n c m) : (decL m).length ≤ 1000001 := by
  have h1 : m < 10 ^ (10 * dl m + 1) := by
    have h2 : m < W32 ^ dl m := lt_pow_digs (b := W32) (by decide) m
    have h3 : W32 ^ dl m ≤ (10 ^ 10) ^ dl m := Nat.pow_le_pow_left (by decide) _
    rw [← Nat.pow_mul] at h3
    exact Nat.lt_of_lt_of_le h2 (Nat.le_trans h3 (Nat.pow_le_pow_right (by decide) (by omega)))
  have := dt_le h1 (by omega)
  have := h.dl
  omega
end
end Go.Proofs.YthdpojkeceoiiaaDoor
end

section
/- The document's own numbers: Text. Conditions: at most 100000 fours of digits. -/
open Go.RowKit
set_option maxRecDepth 100000
namespace Go.Proofs.YthdpojkeceoiiaaDoor
def DigR (w : World) (n least : Nat) (e : Ending) (w' : World) : Prop :=
  ∃ (t : ByteArray) (D : List Nat), e = .returned (.string t) ∧ Hid (t.data.toList = (D.map letter).reverse) ∧ Hid (∀ d ∈ D, d < 10) ∧ Hid (val 10 D = n) ∧ Hid (least ≤ D.length ∧ D.length ≤ 4) ∧ Hid (least < D.length → ∀ x, D.getLast? = some x → x ≠ 0) ∧ Hid (Below w.heap.size w w')
theorem one_conv (W : World) {d : Nat} (h : d < 10) : (convert 59 9 (.slice (some ⟨W.heap.size, 0, none⟩) 1 1)).run Tryd.prog (W.alloc (.cells #[.int .u8 (48 + (d : Int))] 5)) = .ok (.string ⟨#[letter d]⟩) (W.alloc (.cells #[.int .u8 (48 + (d : Int))] 5)) := by
  have h1 := run_convert_bytes_back (P := Tryd.prog) (W.alloc (.cells #[.int .u8 (48 + (d : Int))] 5)) 59 9 5 ⟨W.heap.size, 0, none⟩ 1 [letter d] Tryd.underlying59 Tryd.underlying5 Tryd.underlying9 (fun j hj => by
    have hj' : j = 0 := by simpa using hj
    subst hj'
    have e : (⟨W.heap.size, 0, none⟩ : Addr).add 0 = ⟨W.heap.size, 0, none⟩ := by unfold Addr.add; simp
    rw [e, (one_cell (heap_alloc_new W (.cells #[.int .u8 (48 + (d : Int))] 5))).1]
    simp [letter_toNat h])
  exact h1
theorem pow10_le {k v n : Nat} {V : Nat} (h : V + 10 ^ k * v = n) (hn : n ≤ 9999) (hv : 0 < v) : k ≤ 3 := by
  rcases Nat.lt_or_ge 3 k with h1 | h1
  · have h2 : 10 ^ 4 ≤ 10 ^ k := Nat.pow_le_pow_right (by decide) h1
    have h3 : 10 ^ k ≤ 10 ^ k * v := Nat.le_mul_of_pos_right _ hv
    omega
  · exact h1
/-- A four of digits ahead of others. -/
theorem digs_ahead {D : List Nat} {M : Nat} (hD : ∀ d ∈ D, d < 10) (hM : 0 < M) : digs 10 (val 10 D + 10 ^ D.length * M) = D ++ digs 10 M := by
  have h1 : val 10 (D ++ digs 10 M) = val 10 D + 10 ^ D.length * M := by rw [val_append, val_digs (by decide)]
  rw [← h1]
  refine digs_val (by decide) _ ?_ ?_
  · intro x hx
    rcases List.mem_append.1 hx with hx | hx
    · exact hD x hx
    · exact digs_lt (by decide) M x hx
  · intro x hx
    have hne : digs 10 M ≠ [] := fun e => by
      have := (digs_len_pos (b := 10) (n := M) (by decide)).1 (by rw [e]; rfl)
      omega
    rw [List.getLast?_append] at hx
    cases hg : (digs 10 M).getLast? with
    | none => exact absurd (List.getLast?_eq_none_iff.1 hg) hne
    | some y =>
      rw [hg] at hx
      simp at hx
      subst hx
      exact digs_last (by decide) M y hg
theorem decL_ahead {D : List Nat} {M : Nat} (hD : ∀ d ∈ D, d < 10) (hl : D.length = 4) (hM : 0 < M) : decL (val 10 D + D4 * M) = decL M ++ (D.map letter).reverse := by
  have e : D4 = 10 ^ D.length := by rw [hl]; rfl
  unfold decL
  rw [if_neg (by have : 0 < D4 * M := Nat.mul_pos (by decide) hM; omega), if_neg (by omega), e, digs_ahead hD hM, List.reverse_append, List.map_append, List.map_reverse, List.map_reverse]
  rfl
theorem decL_top {D : List Nat} {n : Nat} (hD : ∀ d ∈ D, d < 10) (hv : val 10 D = n) (h1 : 1 ≤ D.length) (hl : 1 < D.length → ∀ x, D.getLast? = some x → x ≠ 0) (hn : 0 < n) : decL n = (D.map letter).reverse := by
  have h2 : digs 10 n = D := by
    rw [← hv]
    refine digs_val (by decide) D hD fun x hx => ?_
    rcases Nat.lt_or_ge 1 D.length with h | h
    · exact hl h x hx
    · match D, h1, h with
      | [d], _, _ =>
        simp at hx
        subst hx
        simp [val] at hv
        omega
  unfold decL
  rw [if_neg (by omega), h2, List.map_reverse]
  rfl
theorem dec_four {m : Nat} : (decL m).length ≤ 4 * dq m + 1 := by
  have h1 : m < D4 ^ dq m := lt_pow_digs (b := D4) (by decide) m
  have h2 : D4 ^ dq m = 10 ^ (4 * dq m) := by rw [Nat.pow_mul]; rfl
  rw [h2] at h1
  exact dt_le (Nat.lt_of_lt_of_le h1 (Nat.pow_le_pow_right (by decide) (by omega))) (by omega)
end Go.Proofs.YthdpojkeceoiiaaDoor
end

section
/- The document's own Num, power, has. Conditions: a number below 16; lists that fit. -/
open Go.RowKit
set_option maxRecDepth 100000
namespace Go.Proofs.YthdpojkeceoiiaaDoor
theorem decL_num : ∀ n, n < 16 → decL n = (numB n).data.toList := by decide +kernel
theorem dq_16 {n : Nat} (h : n < 16) : dq n ≤ 5 := dq_u64 (by omega)
def RetI (W : World) (v : Int) (e : Ending) (w' : World) : Prop := e = .returned (.int .i64 v) ∧ Bel W w'
theorem hasB_take {l : List ByteArray} {x : ByteArray} {k : Nat} (h : k < l.length) : hasB (l.take (k + 1)) x = (hasB (l.take k) x || decide (l[k] = x)) := by
  rw [List.take_succ_eq_append_getElem h, hasB_snoc]
theorem hasB_hit {l : List ByteArray} {x : ByteArray} {k : Nat} (h : k < l.length) (he : l[k] = x) : hasB l x = true := hasB_iff.2 (he ▸ List.getElem_mem h)
end Go.Proofs.YthdpojkeceoiiaaDoor
end

section
/- The document's own May, row, GoodKnown. Conditions: texts and lists that fit. -/
open Go.RowKit
set_option maxRecDepth 100000
namespace Go.Proofs.YthdpojkeceoiiaaDoor
theorem figW_dig (l : List UInt8) : figW l = digitsB l := rfl
theorem kpre3 (s : ByteArray) (h : 3 ≤ s.size) : ((s.extract 0 3).toList == [112, 111, 119]) = Lib.hasPrefix s.data.toList powB.data.toList := by
  rw [Lib.toList_data, ByteArray.data_extract, Array.toList_extract]
  simp only [List.extract, List.drop_zero, Nat.sub_zero]
  rw [Bool.eq_iff_iff, beq_iff_eq]
  unfold Lib.hasPrefix
  rw [List.isPrefixOf_iff_prefix, List.prefix_iff_eq_take]
  exact ⟨fun h => h.symm, fun h => h.symm⟩
theorem mayB_bad {s : ByteArray} (h : goodW s.data.toList = false) : mayB s = false := by unfold mayB; rw [h]; rfl
theorem mayB_lit {s : ByteArray} (h : s = perB ∨ s = andB ∨ s = sqB ∨ s = cuB) : mayB s = false := by unfold mayB; rw [resB_lit h]; simp
theorem lit_good {s : ByteArray} (h : s = perB ∨ s = andB ∨ s = sqB ∨ s = cuB) : goodW s.data.toList = true := by
  rcases h with rfl | rfl | rfl | rfl <;> decide +kernel
theorem rest3 (s : ByteArray) : (s.extract 3 s.size).data.toList = s.data.toList.drop 3 := by
  rw [ByteArray.data_extract, Array.toList_extract]
  simp only [List.extract]
  rw [List.take_of_length_le]
  rw [List.length_drop, Lib.size_eq]; omega
end Go.Proofs.YthdpojkeceoiiaaDoor
end

section
/- The document's own row, GoodKnown; its Less; the law's own atomOf, knownOf. Conditions: texts and lists that fit. -/
open Go.RowKit
set_option maxRecDepth 100000
namespace Go.Proofs.YthdpojkeceoiiaaDoor
theorem Ss.part {W : World} {A : Option Addr} {xs : List ByteArray} (h : Ss W A xs) (k : Nat) : Ss W A (xs.take k) := fun h0 => by
  rw [List.length_take] at h0
  obtain ⟨ad, e, hb, hc⟩ := h.out (by omega)
  refine ⟨ad, e, hb, fun j x hj => hc j x ?_⟩
  rw [List.getElem?_take] at hj
  split at hj
  · exact hj
  · cases hj
def BoolQ (W : World) (b : Bool) (e : Ending) (w' : World) : Prop := e = .returned (.bool b) ∧ ∃ n, w' = W.drewN n
theorem boolQ_bel {W : World} {b : Bool} {e : Ending} {w' : World} (h : BoolQ W b e w') : RetB W b e w' := by
  obtain ⟨he, n, hn⟩ := h
  exact ⟨he, by rw [hn]; exact ybelow_drewN (Below.refl _ _) n⟩
def RetA (W : World) (p n : ByteArray) (k : Int) (e : Ending) (w' : World) : Prop := e = .returned (.agg #[.string p, .string n, .int .i64 k]) ∧ Bel W w'
end Go.Proofs.YthdpojkeceoiiaaDoor
end

section
/- The document's own ShowAtom. Conditions: texts that fit. -/
open Go.RowKit
set_option maxRecDepth 100000
namespace Go.Proofs.YthdpojkeceoiiaaDoor
theorem sq_join (u : ByteArray) : joinS [sqB, u] = (⟨#[115, 113, 117, 97, 114, 101, 45]⟩ : ByteArray) ++ u := by
  rw [join_two]; exact congrArg (· ++ u) (by decide +kernel)
theorem cu_join (u : ByteArray) : joinS [cuB, u] = (⟨#[99, 117, 98, 105, 99, 45]⟩ : ByteArray) ++ u := by
  rw [join_two]; exact congrArg (· ++ u) (by decide +kernel)
end Go.Proofs.YthdpojkeceoiiaaDoor
end

section
/- The document's own ParseAtom. Conditions: texts and lists that fit. -/
open Go.RowKit
set_option maxRecDepth 100000
namespace Go.Proofs.YthdpojkeceoiiaaDoor
theorem hp_split (u x : ByteArray) : Lib.hasPrefix u.data.toList x.data.toList = (decide (x.size ≤ u.size) && ((u.extract 0 x.size).toList == x.toList)) := by
  rw [Lib.toList_data, Lib.toList_data, ByteArray.data_extract, Array.toList_extract]
  simp only [List.extract, List.drop_zero, Nat.sub_zero]
  unfold Lib.hasPrefix
  rw [Bool.eq_iff_iff, Bool.and_eq_true, decide_eq_true_eq, beq_iff_eq, List.isPrefixOf_iff_prefix]
  constructor
  · intro h
    refine ⟨by rw [Lib.size_eq, Lib.size_eq]; exact h.length_le, ?_⟩
    rw [Lib.size_eq]
    exact (List.prefix_iff_eq_take.1 h).symm
  · rintro ⟨_, h⟩
    rw [Lib.size_eq] at h
    exact List.prefix_iff_eq_take.2 h.symm
/-- What the loop over the prefixes has found. -/
def Best (names ps : List ByteArray) (u : ByteArray) (k : Nat) (bi : Int) : Prop :=
  (bi = -1 ∧ lpB names u (ps.take k) = 0) ∨ ∃ b, b < k ∧ bi = (b : Int) ∧ ∃ p, ps[b]? = some p ∧ hitB names u p = true ∧ p.size = lpB names u (ps.take k) ∧ 0 < p.size
theorem best_zero (names ps : List ByteArray) (u : ByteArray) : Best names ps u 0 (-1) := .inl ⟨rfl, rfl⟩
theorem best_miss {names ps : List ByteArray} {u x : ByteArray} {k : Nat} {bi : Int} (h : Best names ps u k bi) (hx : ps[k]? = some x) (hh : hitB names u x = false) : Best names ps u (k + 1) bi := by
  obtain ⟨hk, hk2⟩ := List.getElem?_eq_some_iff.1 hx
  have e : lpB names u (ps.take (k + 1)) = lpB names u (ps.take k) := by rw [lpB_take hk, hk2, hh]; rfl
  rcases h with ⟨h1, h2⟩ | ⟨b, h1, h2, p, h3, h4, h5, h6⟩
  · exact .inl ⟨h1, by rw [e, h2]⟩
  · exact .inr ⟨b, by omega, h2, p, h3, h4, by rw [e, h5], h6⟩
theorem hit_pos {names : List ByteArray} {u x : ByteArray} (hn : hasB names u = false) (hh : hitB names u x = true) : 0 < x.size := by
  rcases Nat.eq_zero_or_pos x.size with h | h
  · have h1 := hitB_rest hh
    rw [h, restB_zero] at h1
    rw [hasB_iff.2 h1] at hn; cases hn
  · exact h
theorem best_hit {names ps : List ByteArray} {u x : ByteArray} {k : Nat} (hx : ps[k]? = some x) (hh : hitB names u x = true) (h0 : 0 < x.size) (hl : lpB names u (ps.take k) < x.size) : Best names ps u (k + 1) (k : Int) := by
  obtain ⟨hk, hk2⟩ := List.getElem?_eq_some_iff.1 hx
  refine .inr ⟨k, by omega, rfl, x, hx, hh, ?_, h0⟩
  rw [lpB_take hk, hk2, hh, if_pos rfl]; omega
theorem best_stay {names ps : List ByteArray} {u x : ByteArray} {k : Nat} {bi : Int} (h : Best names ps u k bi) (hx : ps[k]? = some x) (hh : hitB names u x = true) (hl : x.size ≤ lpB names u (ps.take k)) : Best names ps u (k + 1) bi := by
  obtain ⟨hk, hk2⟩ := List.getElem?_eq_some_iff.1 hx
  have e : lpB names u (ps.take (k + 1)) = lpB names u (ps.take k) := by rw [lpB_take hk, hk2, hh, if_pos rfl]; omega
  rcases h with ⟨h1, h2⟩ | ⟨b, h1, h2, p, h3, h4, h5, h6⟩
  · exact .inl ⟨h1, by rw [e, h2]⟩
  · exact .inr ⟨b, by omega, h2, p, h3, h4, by rw [e, h5], h6⟩
theorem parseU_name {names ps : List ByteArray} {k t : Nat} {u : ByteArray} (h : hasB names u = true) : parseU names ps k t u = ⟨⟨#[]⟩, u, k, t + 1, true⟩ := by
  have e : sizeP names ps u = (0, true) := by unfold sizeP; rw [if_pos h]
  unfold parseU
  rw [e]
  show (if true = true then _ else _) = _
  rw [if_pos rfl, restB_zero]
  have : u.extract 0 0 = ⟨#[]⟩ := by apply ByteArray.ext; apply Array.ext'; rw [ByteArray.data_extract, Array.toList_extract]; simp [List.extract]
  rw [this]
theorem parseU_none {names ps : List ByteArray} {k t : Nat} {u : ByteArray} (h : hasB names u = false) (hb : Best names ps u ps.length (-1)) : parseU names ps k t u = noPA := by
  rcases hb with ⟨_, h2⟩ | ⟨b, _, h2, _⟩
  · rw [List.take_length] at h2
    have e : sizeP names ps u = (0, false) := by unfold sizeP; rw [if_neg (by rw [h]; simp), h2]; rfl
    unfold parseU; rw [e]; rfl
  · omega
theorem parseU_some {names ps : List ByteArray} {k t b : Nat} {u : ByteArray} (h : hasB names u = false) (hb : Best names ps u ps.length (b : Int)) : ∃ p, ps[b]? = some p ∧ p.size ≤ u.size ∧ parseU names ps k t u = ⟨p, u.extract p.size u.size, k, t + 1, true⟩ := by
  rcases hb with ⟨h1, _⟩ | ⟨b', _, h2, p, h3, h4, h5, h6⟩
  · omega
  · have : b' = b := by omega
    subst this
    rw [List.take_length] at h5
    have e : sizeP names ps u = (p.size, true) := by unfold sizeP; rw [if_neg (by rw [h]; simp), ← h5, decide_eq_true h6]
    refine ⟨p, h3, (hitB_pre h4).1, ?_⟩
    unfold parseU; rw [e]
    show (if true = true then _ else _) = _
    rw [if_pos rfl, (hitB_pre h4).2]; rfl
end Go.Proofs.YthdpojkeceoiiaaDoor
end

section
/- Slices of atoms in memory; the law's own sameAtoms. Conditions: lists that fit. -/
open Go.RowKit
set_option maxRecDepth 100000
namespace Go.Proofs.YthdpojkeceoiiaaDoor
/-- A slice at A reads as these cells, below block B. -/
def RC (w : World) (B : Nat) (A : Option Addr) (cs : List Value) : Prop := 0 < cs.length → ∃ ad, A = some ad ∧ ad.block < B ∧ ∀ j v, cs[j]? = some v → w.cell? (ad.add j) = some v
section
variable {w w' : World} {B B' : Nat} {A : Option Addr} {cs : List Value}
theorem RC.nil : RC w B A [] := fun h => absurd h (by simp)
theorem RC.keep (h : RC w B A cs) (hk : ∀ p : Addr, p.block < B → w'.cell? p = w.cell? p) : RC w' B A cs := fun hn => by
  obtain ⟨ad, e, hb, hc⟩ := h hn
  exact ⟨ad, e, hb, fun j u hu => (hk _ (by rw [yblock_add]; exact hb)).trans (hc j u hu)⟩
theorem RC.more (h : RC w B A cs) (hB : B ≤ B') : RC w B' A cs := fun hn => by
  obtain ⟨ad, e, hb, hc⟩ := h hn
  exact ⟨ad, e, by omega, hc⟩
theorem RC.below (h : RC w B A cs) (hb : Below B w w') : RC w' B A cs := h.keep fun _ hp => hb.cell hp
theorem RC.of_own {base size : Nat} {e : TypeId} {n c : Nat} (h : w.ownsRow base e size (.slice A n c) n cs) : RC w w.heap.size A cs := fun hn => by
  rcases h.2 with ⟨h0, h1⟩ | ⟨g, cap, cur, h0, _, hg, _⟩
  · have := h.1
    rw [h1] at this
    omega
  · injection h0 with h0 h1 h2
    subst h0
    refine ⟨_, rfl, (Array.getElem?_eq_some_iff.1 hg).1, fun j x hx => ?_⟩
    exact h.cells (g := g) rfl j _ hx
end
/-- In world W the slice at A reads as these cells. -/
def Cs (W : World) (A : Option Addr) (cs : List Value) : Prop := Hid (RC W W.heap.size A cs)
section
variable {W W' : World} {A : Option Addr} {cs : List Value}
theorem Cs.nil : Cs W A [] := RC.nil
theorem Cs.up (h : Cs W A cs) (hb : Hid (Below W.heap.size W W')) : Cs W' A cs := (h.out.below hb.out).more hb.out.size
theorem Cs.al (h : Cs W A cs) (o : Obj) : Cs (W.alloc o) A cs := h.up ((Below.refl _ _).alloc (Nat.le_refl _) o)
theorem Cs.dr (h : Cs W A cs) : Cs W.drew A cs := h
theorem Cs.dn (h : Cs W A cs) (k : Nat) : Cs (W.drewN k) A cs := h
theorem Cs.of_own {base size : Nat} {e : TypeId} {n c : Nat} (h : W.ownsRow base e size (.slice A n c) n cs) : Cs W A cs := RC.of_own h
end
/-- A prefix, a name, a power. -/
abbrev AL := ByteArray × ByteArray × Int
def cellA (a : AL) : List Value := [.string a.1, .string a.2.1, .int .i64 a.2.2]
def cellsA (l : List AL) : List Value := l.flatMap cellA
theorem cellsA_snoc (l : List AL) (a : AL) : cellsA (l ++ [a]) = cellsA l ++ cellA a := by unfold cellsA; rw [List.flatMap_append]; simp
theorem cellsA_len : ∀ l : List AL, (cellsA l).length = l.length * 3
  | [] => rfl
  | a :: l => by
    have := cellsA_len l
    show (cellA a ++ cellsA l).length = _
    rw [List.length_append, this]; simp [cellA]; omega
theorem cellsA_get : ∀ {l : List AL} {k : Nat} {a : AL}, l[k]? = some a → (cellsA l)[k * 3]? = some (.string a.1) ∧ (cellsA l)[k * 3 + 1]? = some (.string a.2.1) ∧ (cellsA l)[k * 3 + 2]? = some (.int .i64 a.2.2)
  | [], k, a, h => by simp at h
  | b :: l, 0, a, h => by
    simp at h; subst h
    exact ⟨rfl, rfl, rfl⟩
  | b :: l, k + 1, a, h => by
    have h1 := cellsA_get (l := l) (k := k) (by simpa using h)
    have e : ∀ i, (cellsA (b :: l))[(k + 1) * 3 + i]? = (cellsA l)[k * 3 + i]? := fun i => by
      show (cellA b ++ cellsA l)[(k + 1) * 3 + i]? = _
      rw [List.getElem?_append_right (by simp [cellA]; omega)]
      congr 1
      simp [cellA]; omega
    exact ⟨(e 0).trans h1.1, (e 1).trans h1.2.1, (e 2).trans h1.2.2⟩
/-- The three cells of an atom from an address on, as a walk spells them. -/
abbrev Has3 (W : World) (ad : Addr) (a : AL) : Prop :=
  W.cell? ad = some (.string a.1) ∧ W.cell? ⟨ad.block, ad.off + 1, none⟩ = some (.string a.2.1) ∧ W.cell? ⟨ad.block, ad.off + 2, none⟩ = some (.int .i64 a.2.2)
theorem cs_at3 {W : World} {A : Option Addr} {l : List AL} {k : Nat} {a : AL} (h : Cs W A (cellsA l)) (hk : l[k]? = some a) : ∃ ad, A = some ad ∧ ad.block < W.heap.size ∧ Has3 W (ad.add (k * 3)) a := by
  have hl : k < l.length := (List.getElem?_eq_some_iff.1 hk).1
  obtain ⟨ad, e, hb, hc⟩ := h.out (by rw [cellsA_len]; omega)
  obtain ⟨h0, h1, h2⟩ := cellsA_get hk
  have c0 := hc _ _ h0
  have c1 := hc _ _ h1
  have c2 := hc _ _ h2
  have ea : ∀ i, (⟨(ad.add (k * 3)).block, (ad.add (k * 3)).off + (i + 1), none⟩ : Addr) = ad.add (k * 3 + (i + 1)) := fun i => by
    unfold Addr.add
    split <;> split <;> simp_all <;> omega
  refine ⟨ad, e, hb, c0, ?_, ?_⟩
  · rw [ea 0]; exact c1
  · rw [ea 1]; exact c2
theorem take_moreA {α : Type} {l l' : List α} {k : Nat} {x : α} (h : l[k]? = some x) (h' : l'[k]? = some x) (ht : l.take k = l'.take k) : l.take (k + 1) = l'.take (k + 1) := by
  obtain ⟨a, b⟩ := List.getElem?_eq_some_iff.1 h
  obtain ⟨c, d⟩ := List.getElem?_eq_some_iff.1 h'
  rw [List.take_succ_eq_append_getElem a, List.take_succ_eq_append_getElem c, ht, b, d]
def sameA (l l' : List AL) : Bool := decide (l = l')
theorem eqA_al (a b : AL) : eqA a.1 a.2.1 a.2.2 b.1 b.2.1 b.2.2 = decide (a = b) := by
  obtain ⟨p, n, k⟩ := a
  obtain ⟨p', n', k'⟩ := b
  unfold eqA
  rw [Bool.eq_iff_iff]; simp
set_option maxHeartbeats 2000000 in
theorem sameAtoms_any {A B : Option Addr} {n m c d : Nat} {l l' : List AL} {w : World} (h : Cs w A (cellsA l)) (h' : Cs w B (cellsA l')) (hn : n = l.length) (hm : m = l'.length) (hl : n ≤ 1000000) (hl' : m ≤ 1000000) :
    Calls Tryd.prog 16 #[.slice A n c, .slice B m d] w (BoolQ w (sameA l l')) := by
  by_cases hnm : n = m
  · subst hnm
    have HN := khide hn
    have HM := khide hm
    clear hn hm
    go_enter Tryd.func16, Tryd.ntmps16
    go_wp2
    go_loopw [5] (fun iv wr => ∃ k q : Nat, k ≤ n ∧ iv = .int .i64 (k : Int) ∧ Hid (wr = w.drewN q) ∧ Hid (l.take k = l'.take k)) (fun iv _ => n - (intOf iv).toNat)
    case atStart => exact ⟨0, 0, Nat.zero_le _, rfl, rfl, rfl⟩
    case round =>
      obtain ⟨k, q, hk, rfl, HQ, HT⟩ := hrel
      by_cases hlt : k < n
      · obtain ⟨a, ha⟩ : ∃ a, l[k]? = some a := ⟨l[k]'(by rw [← HN.out]; exact hlt), List.getElem?_eq_getElem _⟩
        obtain ⟨b, hb⟩ : ∃ a, l'[k]? = some a := ⟨l'[k]'(by rw [← HM.out]; exact hlt), List.getElem?_eq_getElem _⟩
        have h9 : Cs wr A (cellsA l) := by rw [HQ.out]; exact h.dn q
        have h9' : Cs wr B (cellsA l') := by rw [HQ.out]; exact h'.dn q
        obtain ⟨ad, rfl, had, a0, a1, a2⟩ := cs_at3 h9 ha
        obtain ⟨bd, rfl, hbd, b0, b1, b2⟩ := cs_at3 h9' hb
        have k0 : (0 : Int) ≤ (k : Int) := by omega
        have k1 : (k : Int) < (n : Int) := by omega
        by_cases he : a = b
        · have HT2 : Hid (l.take (k + 1) = l'.take (k + 1)) := take_moreA ha (by rw [hb, he]) HT.out
          have q1 : ∀ W, (binOp .neq 85 (.agg #[.string a.1, .string a.2.1, .int .i64 a.2.2]) (.agg #[.string b.1, .string b.2.1, .int .i64 b.2.2])).run Tryd.prog W = .ok (.bool false) W := fun W => by
            rw [rneq W, eqA_al, decide_eq_true he]; rfl
          clear he ha hb h9 h9' had hbd
          go_wp2_with fail
          go_quiet (fail)
          go_wp2
          go_roundw
          case rel =>
            obtain ⟨q2, hq2⟩ := ydrew_more HQ
            exact ⟨k + 1, q2, by omega, by go_num, hq2, HT2⟩
          case measure => simp [intOf]; omega
        · have HD : Hid (sameA l l' = false) := decide_eq_false (fun e => he (by rw [e, hb] at ha; exact (Option.some.inj ha).symm))
          have q1 : ∀ W, (binOp .neq 85 (.agg #[.string a.1, .string a.2.1, .int .i64 a.2.2]) (.agg #[.string b.1, .string b.2.1, .int .i64 b.2.2])).run Tryd.prog W = .ok (.bool true) W := fun W => by
            rw [rneq W, eqA_al, decide_eq_false he]; rfl
          clear he ha hb h9 h9' had hbd
          go_wp2_with fail
          go_quiet (fail)
          go_wp2
          go_ret
          exact ⟨ybool HD.out.symm, ydrew_more HQ⟩
      · obtain rfl : k = n := by omega
        go_wp2
        go_ret
        refine ⟨ybool (Eq.symm (decide_eq_true ?_)), q, HQ.out⟩
        have h3 := HT.out
        rwa [List.take_of_length_le (by rw [← HN.out]; exact Nat.le_refl _), List.take_of_length_le (by rw [← HM.out]; exact Nat.le_refl _)] at h3
  · have d1 : ((n : Int) == (m : Int)) = false := by rw [beq_eq_false_iff_ne]; omega
    have HD : Hid (sameA l l' = false) := decide_eq_false (fun e => hnm (by rw [hn, hm, e]))
    clear hnm hn hm
    go_enter Tryd.func16, Tryd.ntmps16
    go_wp2
    go_ret
    exact ⟨ybool HD.out.symm, 0, rfl⟩
end Go.Proofs.YthdpojkeceoiiaaDoor
end

section
/- The document's own atoms. Conditions: texts and lists that fit. -/
open Go.RowKit
set_option maxRecDepth 100000
namespace Go.Proofs.YthdpojkeceoiiaaDoor
theorem addr_add (a : Addr) (n j : Nat) : (a.add n).add j = a.add (n + j) := by
  unfold Addr.add
  split <;> split <;> simp_all <;> omega
theorem Ss.drop {W : World} {ad : Addr} {xs : List ByteArray} (h : Ss W (some ad) xs) (k : Nat) : Ss W (some (ad.add k)) (xs.drop k) := fun h0 => by
  rw [List.length_drop] at h0
  obtain ⟨ad', e, hb, hc⟩ := h.out (by omega)
  injection e with e
  subst e
  refine ⟨_, rfl, by rw [yblock_add]; exact hb, fun j x hj => ?_⟩
  rw [addr_add]
  exact hc _ x (by rw [List.getElem?_drop] at hj; exact hj)
theorem Ss.sub {W : World} {D : Option Addr} {xs : List ByteArray} {g t : Nat} (h : Ss W D xs) (hg : xs.length ≤ g) : Ss W (if g = t then D else Option.map (fun x => x.add t) D) (xs.drop t) := by
  by_cases e : g = t
  · rw [List.drop_eq_nil_of_le (by omega)]
    exact RS.nil
  · rw [if_neg e]
    cases D with
    | none =>
      intro h0
      rw [List.length_drop] at h0
      obtain ⟨ad, e, _⟩ := h.out (by omega)
      cases e
    | some ad => exact h.drop t
theorem parseU_t (names ps : List ByteArray) (k t : Nat) (u : ByteArray) : (parseU names ps k t u).ok = true → (parseU names ps k t u).t = t + 1 := by
  unfold parseU
  split
  · intro _; rfl
  · intro h; cases h
/-- What an atom takes: a word or two. -/
theorem parseA_t {names ps l : List ByteArray} (h : (parseA names ps l).ok = true) : 1 ≤ (parseA names ps l).t ∧ (parseA names ps l).t ≤ 2 ∧ (parseA names ps l).t ≤ l.length := by
  have h2 := (leadP_le l).2
  revert h
  unfold parseA
  cases e : l[(leadP l).2]? with
  | none => intro h; cases h
  | some u =>
    intro h
    have h3 := (List.getElem?_eq_some_iff.1 e).1
    have h4 : (parseU names ps (leadP l).1 (leadP l).2 u).t = (leadP l).2 + 1 := parseU_t _ _ _ _ _ h
    show 1 ≤ (parseU names ps (leadP l).1 (leadP l).2 u).t ∧ (parseU names ps (leadP l).1 (leadP l).2 u).t ≤ 2 ∧ (parseU names ps (leadP l).1 (leadP l).2 u).t ≤ l.length
    omega
/-- Words that are atoms alone. -/
def atomsF (names ps : List ByteArray) : Nat → List ByteArray → Option (List AL)
  | _, [] => some []
  | 0, _ :: _ => none
  | f + 1, u :: l => if (parseA names ps (u :: l)).ok then ((atomsF names ps f ((u :: l).drop (parseA names ps (u :: l)).t)).map fun r => ((parseA names ps (u :: l)).p, (parseA names ps (u :: l)).n, ((parseA names ps (u :: l)).k : Int)) :: r) else none
def atomsL (names ps l : List ByteArray) : Option (List AL) := atomsF names ps l.length l
section
variable {names ps : List ByteArray}
theorem atomsF_more : ∀ {f f' : Nat} {l : List ByteArray}, l.length ≤ f → l.length ≤ f' → atomsF names ps f l = atomsF names ps f' l
  | f, f', [], _, _ => by cases f <;> cases f' <;> rfl
  | f + 1, f' + 1, u :: l, h, h' => by
    unfold atomsF
    by_cases e : (parseA names ps (u :: l)).ok = true
    · rw [if_pos e, if_pos e]
      have h1 := parseA_t e
      have h2 : ((u :: l).drop (parseA names ps (u :: l)).t).length ≤ l.length := by rw [List.length_drop, List.length_cons]; omega
      rw [atomsF_more (f := f) (f' := f') (by simp at h; omega) (by simp at h'; omega)]
    · rw [if_neg e, if_neg e]
theorem atomsL_nil : atomsL names ps [] = some [] := rfl
theorem atomsL_bad {l : List ByteArray} (hn : 0 < l.length) (h : (parseA names ps l).ok = false) : atomsL names ps l = none := by
  cases l with
  | nil => simp at hn
  | cons u l =>
    unfold atomsL
    rw [List.length_cons, atomsF, if_neg (by rw [h]; simp)]
theorem atomsL_more {l : List ByteArray} (h : (parseA names ps l).ok = true) : atomsL names ps l = (atomsL names ps (l.drop (parseA names ps l).t)).map fun r => ((parseA names ps l).p, (parseA names ps l).n, ((parseA names ps l).k : Int)) :: r := by
  have h1 := parseA_t h
  cases l with
  | nil => simp at h1; omega
  | cons u l =>
    unfold atomsL
    rw [List.length_cons, atomsF, if_pos h]
    congr 1
    exact atomsF_more (by rw [List.length_drop, List.length_cons]; omega) (Nat.le_refl _)
/-- With atoms ahead of them. -/
def combA (acc : List AL) (r : Option (List AL)) : Option (List AL) := r.map (acc ++ ·)
theorem combA_start (r : Option (List AL)) : combA [] r = r := by cases r <;> rfl
theorem combA_end (acc : List AL) : combA acc (some []) = some acc := by simp [combA]
theorem combA_bad {acc : List AL} {l : List ByteArray} (hn : 0 < l.length) (h : (parseA names ps l).ok = false) : combA acc (atomsL names ps l) = none := by rw [atomsL_bad hn h]; rfl
theorem combA_more {acc : List AL} {l : List ByteArray} {p n : ByteArray} {k t : Nat} (h : parseA names ps l = ⟨p, n, k, t, true⟩) : combA acc (atomsL names ps l) = combA (acc ++ [(p, n, (k : Int))]) (atomsL names ps (l.drop t)) := by
  rw [atomsL_more (by rw [h]), h]
  unfold combA
  cases atomsL names ps (l.drop t) <;> simp
end
theorem infoAtomC : (Tryd.prog.info? 85).map (fun i => (i.zero, i.size, i.bytes)) = some (some (.agg #[.string ByteArray.empty, .string ByteArray.empty, .int .i64 0]), 3, 40) := by kernel_rfl
theorem own_up {W W' : World} {base size n : Nat} {e : TypeId} {v : Value} {xs : List Value} (h : W.ownsRow base e size v n xs) (hb : Hid (Below W.heap.size W W')) : W'.ownsRow base e size v n xs :=
  h.kept (row := none) ⟨hb.out.os, hb.out.tape, hb.out.output, hb.out.size, fun k hk _ => hb.out.block k hk⟩ (by cases v.ownBlock <;> simp)
theorem own_slice {W : World} {base size n : Nat} {e : TypeId} {v : Value} {xs : List Value} (h : W.ownsRow base e size v n xs) : ∃ A c, v = .slice A n c ∧ (A = none → c = 0) := by
  rcases h.2 with ⟨rfl, rfl⟩ | ⟨g, cap, cur, rfl, _⟩
  · exact ⟨none, 0, rfl, fun _ => rfl⟩
  · exact ⟨_, cap, rfl, fun h => by cases h⟩
theorem own_base {W : World} {base base' size n : Nat} {e : TypeId} {v : Value} {xs : List Value} (h : W.ownsRow base e size v n xs) (hb : base' ≤ base) : W.ownsRow base' e size v n xs := by
  refine ⟨h.1, ?_⟩
  rcases h.2 with h2 | ⟨g, cap, cur, h3, h4, h5⟩
  · exact .inl h2
  · exact .inr ⟨g, cap, cur, h3, Nat.le_trans hb h4, h5⟩
/-- What a row of atoms comes to. -/
def AtomsR (W : World) (r : Option (List AL)) (e : Ending) (w' : World) : Prop := match r with
  | none => e = .returned (.tuple #[.slice none 0 0, .bool false]) ∧ Bel W w'
  | some l => ∃ A c, e = .returned (.tuple #[.slice A l.length c, .bool true]) ∧ (A = none → c = 0) ∧ Hid (w'.ownsRow W.heap.size 85 3 (.slice A l.length c) l.length (cellsA l)) ∧ Bel W w'
end Go.Proofs.YthdpojkeceoiiaaDoor
end

section
/- The document's own atoms: the walk. Conditions: texts and lists that fit. -/
open Go.RowKit
set_option maxRecDepth 100000
namespace Go.Proofs.YthdpojkeceoiiaaDoor
theorem at_news {W : World} {b : Nat} {xs : List Value} (h : At W b xs) : ∀ j u, xs[j]? = some u → W.cell? ((⟨b, 0, none⟩ : Addr).add j) = some u := fun j u hu => by
  have e : (⟨b, 0, none⟩ : Addr).add j = ⟨b, j, none⟩ := by unfold Addr.add; split <;> simp_all
  rw [e]; exact At.ci h hu
theorem cellA_one (a : AL) : ∀ u ∈ cellA a, u.oneCell' = true := by
  intro u hu
  simp only [cellA, List.mem_cons, List.not_mem_nil, or_false] at hu
  rcases hu with rfl | rfl | rfl <;> rfl
end Go.Proofs.YthdpojkeceoiiaaDoor
end

section
/- unit.parseAtoms. Conditions: texts and lists that fit. -/
open Go.RowKit
set_option maxRecDepth 100000
namespace Go.Proofs.YthdpojkeceoiiaaDoor
theorem infoAtomP : (Tryd.prog.info? 98).map (fun i => (i.zero, i.size, i.bytes)) = some (some (.agg #[.string ByteArray.empty, .string ByteArray.empty, .int .i64 0]), 3, 40) := by kernel_rfl
/-- What a row of atoms comes to. -/
def AtomsP (W : World) (r : Option (List AL)) (e : Ending) (w' : World) : Prop := match r with
  | none => e = .returned (.tuple #[.slice none 0 0, .bool false]) ∧ Bel W w'
  | some l => ∃ A c, e = .returned (.tuple #[.slice A l.length c, .bool true]) ∧ (A = none → c = 0) ∧ Hid (w'.ownsRow W.heap.size 98 3 (.slice A l.length c) l.length (cellsA l)) ∧ Bel W w'
set_option maxHeartbeats 4000000 in
theorem patoms_any {A B D : Option Addr} {n c m d j g : Nat} {names ps l : List ByteArray} {w : World} (h : Ss w A names) (hn : n = names.length) (hl : n ≤ 1000000) (h' : Ss w B ps) (hm : m = ps.length) (hl' : m ≤ 1000000) (h2 : Ss w D l) (hj : j = l.length) (hjg : j ≤ g) (hjl : j ≤ 1000000) (hu : ∀ x ∈ l, x.size ≤ 140737488355328) {res : Option (List AL)} (hres : atomsL names ps l = res) :
    Calls Tryd.prog 25 #[.agg #[.slice A n c, .slice B m d], .slice D j g] w (AtomsP w res) := by
  obtain ⟨W1, hW1⟩ : ∃ X, X = w.alloc (.cells #[.slice A n c, .slice B m d] 31) := ⟨_, rfl⟩
  have HA : At W1 w.heap.size [.slice A n c, .slice B m d] := by rw [hW1]; exact at_new0 _ _ _
  have HBW : Bel w W1 := by rw [hW1]; exact (Bel.refl w).al _
  have CP : Hid (∀ (W : World) (D : Option Addr) (j' g' k : Nat), Bel w W → Ss W D (l.drop k) → j' = l.length - k → Calls Tryd.prog 42 #[.agg #[.slice A n c, .slice B m d], .slice D j' g'] W (PRes W (parseA names ps (l.drop k)))) := fun W D j' g' k hb hd hk =>
    parse_any (h.up hb.hid) hn hl (h'.up hb.hid) hm hl' hd (by rw [List.length_drop]; exact hk) (fun x hx => hu x (List.mem_of_mem_drop hx))
  have HW := khide hW1
  have HD2 : Ss W1 D l := h2.up (by rw [hW1]; exact (Below.refl _ _).alloc (Nat.le_refl _) _)
  have HN := khide hj
  have HR : Hid (res = combA [] (atomsL names ps (l.drop 0))) := by rw [combA_start, ← hres]; rfl
  obtain ⟨i0, hi, hz0, hz1, hz2⟩ := info_parts infoAtomP
  have J0 := khide hi; have Y0 := khide hz0; have Y1 := khide hz1; have Y2 := khide hz2
  clear hi hz0 hz1 hz2 hW1 hj hres h h' h2 hu hn hm hl hl'
  go_enter Tryd.func25, Tryd.ntmps25
  go_upto_region 1 with fail
  rw [← HW.out]
  go_wp2_with fail
  go_loopw [1, 6] (fun lv rv wr => ∃ (k j' g' cp : Nat) (D' R : Option Addr) (acc : List AL), lv = .slice D' j' g' ∧ rv = .slice R acc.length cp ∧ j' + k = j ∧ acc.length ≤ k ∧ j' ≤ g' ∧ Hid (Ss W1 D' (l.drop k)) ∧ Hid (res = combA acc (atomsL names ps (l.drop k))) ∧
    Hid (wr.ownsRow W1.heap.size 98 3 (.slice R acc.length cp) acc.length (cellsA acc)) ∧ Hid (Below W1.heap.size W1 wr)) (fun lv _ _ => match lv with | .slice _ j _ => j | _ => 0)
  case atStart => exact ⟨0, j, g, 0, D, none, [], rfl, rfl, rfl, Nat.le_refl _, hjg, HD2, HR.out, World.ownsRow_nil _ _ _ _, Below.refl _ _⟩
  case round =>
    obtain ⟨k, j', g', cp, D', R, acc, rfl, rfl, hjk, hacc, hjg', HS, HC, HO, HB⟩ := hrel
    have HAR := HA.up HB
    have HBS : Hid (W1.heap.size ≤ wr.heap.size) := HB.out.size
    have hBR : Hid (Bel w wr) := HBW.up HB
    have ha_0 := HAR.c0; have ha_1 := HAR.c1; have ha_l := HAR.lt
    by_cases h0 : 0 < j'
    · obtain ⟨pa, hpa⟩ : ∃ x, parseA names ps (l.drop k) = x := ⟨_, rfl⟩
      obtain ⟨p, nm, pk, t, ok⟩ := pa
      have C1 : Hid (∀ q : Nat, Calls Tryd.prog 42 #[.agg #[.slice A n c, .slice B m d], .slice D' j' g'] (wr.drewN q) (PRes (wr.drewN q) ⟨p, nm, pk, t, ok⟩)) := fun q => by
        rw [← hpa]
        exact CP.out _ D' j' g' k (ybelow_drewN hBR.out q) ((HS.out.up HB).dn q) (by rw [← HN.out]; omega)
      have C0 : Hid (Calls Tryd.prog 42 #[.agg #[.slice A n c, .slice B m d], .slice D' j' g'] wr (PRes wr ⟨p, nm, pk, t, ok⟩)) := C1.out 0
      have d0 : decide ((0 : Int) < (j' : Int)) = true := decide_eq_true (by omega)
      cases ok with
      | false =>
        have HV : Hid (res = none) := HC.out.trans (combA_bad (by rw [List.length_drop, ← HN.out]; omega) (by rw [hpa]))
        clear hpa
        go_wp2_with (first | (go_at_call 42; (with_reducible refine (C0.out).mono ?_); rintro e w2 ⟨rfl, hb2⟩) | fail)
        go_ret2
        rw [HV.out]
        exact ⟨rfl, ((hBR.out.up hb2.hid).al _)⟩
      | true =>
        have HV : Hid (res = combA (acc ++ [(p, nm, (pk : Int))]) (atomsL names ps (l.drop (k + t)))) := by
          have := HC.out.trans (combA_more hpa); rwa [List.drop_drop] at this
        have ht := parseA_t (names := names) (ps := ps) (l := l.drop k) (by rw [hpa])
        rw [hpa, List.length_drop, ← HN.out] at ht
        obtain ⟨t1, t2, t3⟩ := ht
        clear hpa
        go_wp2_with (first | (go_at_call 42; (with_reducible refine (C0.out).mono ?_); rintro e w2 ⟨rfl, hb2⟩) | (at_builtin; go_must (refine wpList_append_own _ rfl (.tmp 22) (.tmp 24) 38 rfl W1.heap.size 98 i0 (.agg #[.string ByteArray.empty, .string ByteArray.empty, .int .i64 0]) 3 40 Tryd.underlying38 J0.out Y0.out Y1.out Y2.out rfl (by decide) _ _ _ rfl (((own_up HO.out hb2.hid).alloc _).alloc _) ⟨w2.heap.size + 1, 0, none⟩ 1 1 (cellA (p, nm, (pk : Int))) rfl rfl (at_news (at_new1 _ _ _ _)) (cellA_one _) (by simp only [maxLen]; omega) (by omega) (Nat.le_trans HBS.out (Nat.le_trans hb2.size (by simp; omega))) ?_); intro v1 w3 ho1 hg1 hn1; clear hn1) | fail)
        have hg2 : ((w2.alloc (.cells #[.string p, .string nm, .int .i64 (pk : Int)] 98)).alloc (.cells #[.string p, .string nm, .int .i64 (pk : Int)] 98)).grownBy w3 (Value.slice R acc.length cp).ownBlock := hg1
        have HO2 := own_up HO.out hb2.hid
        have HB2 : Hid (Below W1.heap.size W1 w2) := HB.out.trans (hb2.mono HBS.out)
        have HB3 : Hid (Below W1.heap.size W1 w3) := ((HB2.out.alloc HB2.out.size _).alloc (HB2.out.alloc HB2.out.size _).size _).grown hg2 ((HB2.out.alloc HB2.out.size _).alloc (HB2.out.alloc HB2.out.size _).size _).size (fun g' e => (HO2.lt g' e).1)
        obtain ⟨R2, cp2, rfl, _⟩ := own_slice ho1
        have HS3 : Ss W1 (if g' = t then D' else Option.map (fun x => x.add t) D') (l.drop (k + t)) := by
          have := HS.out.sub (t := t) (g := g') (by rw [List.length_drop, ← HN.out]; omega)
          rwa [List.drop_drop] at this
        have HO3 := khide ho1
        clear hg1 hg2 ho1 HO2
        go_roundw
        case rel =>
          refine ⟨k + t, j' - t, g' - t, cp2, _, R2, acc ++ [(p, nm, (pk : Int))], rfl, by simp, by omega, by simp; omega, by omega, HS3, HV, ?_, HB3⟩
          rw [cellsA_snoc]
          unfold Hid
          simpa using HO3.out
        case measure => show j' - t < j'; omega
    · obtain rfl : j' = 0 := by omega
      go_wp2
      go_ret2
      have e0 : l.drop k = [] := List.drop_eq_nil_of_le (by rw [← HN.out]; omega)
      have HV := HC.out
      rw [e0, atomsL_nil, combA_end] at HV
      rw [HV]
      refine ⟨R, cp, rfl, ?_, own_base HO.out HBW.size, hBR.out⟩
      obtain ⟨A1, c1, e1, h1⟩ := own_slice HO.out
      injection e1 with e2 _ e3
      subst e2; subst e3
      exact h1
end Go.Proofs.YthdpojkeceoiiaaDoor
end

section
/- The document's own showAtoms. Conditions: atoms that fit. -/
open Go.RowKit
set_option maxRecDepth 100000
namespace Go.Proofs.YthdpojkeceoiiaaDoor
def showA (a : AL) : ByteArray := showB a.1 a.2.1 a.2.2
def showsA (l : List AL) : List ByteArray := l.map showA
/-- A row of strings that the call made. -/
def StrsO (W : World) (l : List ByteArray) (e : Ending) (w' : World) : Prop := ∃ A c, e = .returned (.slice A l.length c) ∧ (A = none → c = 0) ∧ Hid (l = [] → A = none ∧ c = 0) ∧ Hid (w'.ownsRow W.heap.size 9 1 (.slice A l.length c) l.length (l.map Value.string)) ∧ Bel W w'
theorem one_str (s : ByteArray) : ∀ u ∈ [Value.string s], u.oneCell' = true := by
  intro u hu
  simp only [List.mem_cons, List.not_mem_nil, or_false] at hu
  subst hu; rfl
theorem hinfoStr : (Tryd.prog.info? 9).map (fun i => (i.zero, i.size, i.bytes)) = some (some (.string ByteArray.empty), 1, 16) := by kernel_rfl
end Go.Proofs.YthdpojkeceoiiaaDoor
end

section
/- The document's own Join. Conditions: a text that fits. -/
open Go.RowKit
set_option maxRecDepth 100000
namespace Go.Proofs.YthdpojkeceoiiaaDoor
section
variable {α : Type} {t : α} {css : List (List α)}
theorem glue_more {i : Nat} (h : i < css.length) (h0 : i ≠ 0) : glue t (css.take (i + 1)) = glue t (css.take i) ++ t :: css[i] := by
  rw [List.take_succ_eq_append_getElem h, glue_snoc (by intro e; rw [List.take_eq_nil_iff] at e; rcases e with e | e; (· exact h0 e); (· rw [e] at h; simp at h))]
theorem glue_one (h : 0 < css.length) : glue t (css.take 1) = css[0] := by
  cases css with
  | nil => simp at h
  | cons c css => rfl
theorem glue_le (i : Nat) : (glue t (css.take i)).length ≤ (glue t css).length := by
  induction css generalizing i with
  | nil => simp
  | cons c css ih =>
    cases i with
    | zero => simp [glue]
    | succ i =>
      rw [List.take_succ_cons]
      cases css with
      | nil => simp
      | cons d css =>
        have := ih i
        cases i with
        | zero => simp [glue]
        | succ i =>
          rw [List.take_succ_cons] at this ⊢
          rw [glue_cons _ (List.cons_ne_nil _ _), glue_cons _ (List.cons_ne_nil _ _)]
          simp only [List.length_append, List.length_cons] at this ⊢
          omega
end
theorem ystr_ret {t u : ByteArray} (h : t = u) : Ending.returned (.string t) = .returned (.string u) := by rw [h]
theorem app_data (s t : ByteArray) : (s ++ t).data.toList = s.data.toList ++ t.data.toList := by simp
theorem rjoin_math {S x : ByteArray} {ls : List (List UInt8)} {k : Nat} (hS : S.data.toList = glue 45 (ls.take k)) (hx : ls[k]? = some x.data.toList) (h0 : k ≠ 0) : (S ++ ⟨#[45]⟩ ++ x).data.toList = glue 45 (ls.take (k + 1)) := by
  have hk : k < ls.length := by
    rcases Nat.lt_or_ge k ls.length with h1 | h1
    · exact h1
    · rw [List.getElem?_eq_none h1] at hx; cases hx
  rw [List.getElem?_eq_getElem hk] at hx
  injection hx with hx
  rw [glue_more hk h0, app_data, app_data, hS, hx]
  simp
theorem rjoin_math0 {S x : ByteArray} {ls : List (List UInt8)} (hS : S.data.toList = glue 45 (ls.take 0)) (hx : ls[0]? = some x.data.toList) : (S ++ x).data.toList = glue 45 (ls.take (0 + 1)) := by
  have hk : 0 < ls.length := by
    rcases Nat.lt_or_ge 0 ls.length with h1 | h1
    · exact h1
    · rw [List.getElem?_eq_none h1] at hx; cases hx
  rw [List.getElem?_eq_getElem hk] at hx
  injection hx with hx
  rw [glue_one hk, app_data, hS, hx]
  rfl
end Go.Proofs.YthdpojkeceoiiaaDoor
end
