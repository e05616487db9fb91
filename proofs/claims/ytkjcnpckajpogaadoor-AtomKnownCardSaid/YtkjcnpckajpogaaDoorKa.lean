/- Plain mathematics of atoms: the words for powers, what may not be a name, the longest prefix, the order. No conditions. -/
import Derived.Test.YtkjcnpckajpogaaDoorYa
import Derived.Lib.ItoaNum
import Derived.Lib.Strings
import Derived.Lib.SlTrimSet
import Derived.Laws.Strings
namespace Go.Proofs.YtkjcnpckajpogaaDoor
def sqB : ByteArray := ⟨#[115, 113, 117, 97, 114, 101]⟩
def cuB : ByteArray := ⟨#[99, 117, 98, 105, 99]⟩
def powB : ByteArray := ⟨#[112, 111, 119]⟩
def perB : ByteArray := ⟨#[112, 101, 114]⟩
def andB : ByteArray := ⟨#[97, 110, 100]⟩
/-- The digits of a number below 100. -/
def numB (n : Nat) : ByteArray := if n < 10 then ⟨#[UInt8.ofNat (48 + n)]⟩ else ⟨#[UInt8.ofNat (48 + n / 10), UInt8.ofNat (48 + n % 10)]⟩
theorem decDigits_num {n : Nat} (h : n < 100) : (⟨(Lib.decDigits n).toArray⟩ : ByteArray) = numB n := by
  unfold numB
  by_cases h1 : n < 10
  · rw [Lib.decDigits, dif_pos h1, if_pos h1]
  · rw [Lib.decDigits, dif_neg h1, Lib.decDigits, dif_pos (by omega), if_neg h1]; rfl
/-- The word for a power from 2 on. -/
def pwB (n : Nat) : ByteArray := if n = 2 then sqB else if n = 3 then cuB else powB ++ numB n
/-- The power that a word is the word for; 0: none. -/
def powOf (s : ByteArray) : Nat := ((List.range 16).find? (fun n => decide (2 ≤ n ∧ s = pwB n))).getD 0
theorem powOf_pw : ∀ n, n < 16 → 2 ≤ n → powOf (pwB n) = n := by decide +kernel
theorem pwB_size : ∀ n, n < 16 → 2 ≤ n → (pwB n).size ≤ 6 := by decide +kernel
theorem powOf_no {s : ByteArray} (h : ∀ n, n < 16 → 2 ≤ n → s ≠ pwB n) : powOf s = 0 := by
  have : (List.range 16).find? (fun n => decide (2 ≤ n ∧ s = pwB n)) = none := by
    rw [List.find?_eq_none]
    intro n hn
    simp only [decide_eq_true_eq, not_and]
    exact h n (List.mem_range.1 hn)
  unfold powOf; rw [this]; rfl
theorem powOf_is (s : ByteArray) : powOf s = 0 ∨ (2 ≤ powOf s ∧ powOf s < 16 ∧ s = pwB (powOf s)) := by
  unfold powOf
  cases hf : (List.range 16).find? (fun n => decide (2 ≤ n ∧ s = pwB n)) with
  | none => exact .inl rfl
  | some n =>
    have h1 := List.find?_some hf
    have h2 := List.mem_range.1 (List.mem_of_find?_eq_some hf)
    simp only [decide_eq_true_eq] at h1
    exact .inr ⟨h1.1, h2, h1.2⟩
theorem powOf_zero {s : ByteArray} (h : powOf s = 0) {n : Nat} (h1 : n < 16) (h2 : 2 ≤ n) : s ≠ pwB n := by
  rintro rfl
  rw [powOf_pw n h1 h2] at h; omega
/-- Digits alone, one at least. -/
def digitsB (l : List UInt8) : Bool := !l.isEmpty && l.all wdig
def digitSet : List UInt8 := [48, 49, 50, 51, 52, 53, 54, 55, 56, 57]
theorem digitSet_has (c : UInt8) : digitSet.contains c = wdig c := by
  revert c
  have h : ∀ n, n < 256 → digitSet.contains (UInt8.ofNat n) = wdig (UInt8.ofNat n) := by decide +kernel
  intro c
  have := h c.toNat (UInt8.toNat_lt c)
  rwa [UInt8.ofNat_toNat] at this
theorem trim_digits (l : List UInt8) : (Lib.trimS l digitSet).isEmpty = l.all wdig := by
  have e : (fun c => digitSet.contains c) = wdig := funext digitSet_has
  unfold Lib.trimS Lib.trimLeftS Lib.trimRightS
  rw [e]
  have hp : ∀ l : List UInt8, (l.dropWhile wdig).isEmpty = l.all wdig := by
    intro l
    induction l with
    | nil => rfl
    | cons c l ih =>
      rw [List.dropWhile_cons, List.all_cons]
      cases hc : wdig c
      · simp
      · simpa using ih
  by_cases ha : l.all wdig = true
  · rw [ha]
    have h1 : l.reverse.dropWhile wdig = [] := by
      have := hp l.reverse
      rw [List.all_reverse, ha] at this
      simpa using this
    rw [h1]; rfl
  · rw [hp, List.all_reverse]
    have h1 : l.reverse.dropWhile wdig ≠ [] := by
      intro h
      have := hp l.reverse
      rw [h, List.all_reverse] at this
      exact ha this.symm
    have h2 : ¬ (l.reverse.dropWhile wdig).all wdig = true := by
      intro h
      have := List.head_dropWhile_not (p := wdig) (l := l.reverse) h1
      have h3 := List.all_eq_true.1 h _ (List.head_mem h1)
      rw [h3] at this; cases this
    rw [Bool.eq_iff_iff]
    exact ⟨fun h => absurd h h2, fun h => absurd h ha⟩
/-- A word that has a meaning of its own in a unit. -/
def resB (s : ByteArray) : Bool := decide (s = perB) || (decide (s = andB) || (decide (s = sqB) || (decide (s = cuB) || (digitsB s.data.toList || (Lib.hasPrefix s.data.toList powB.data.toList && digitsB (s.data.toList.drop 3))))))
/-- What a name or a prefix may be. -/
def mayB (s : ByteArray) : Bool := goodW s.data.toList && !resB s
/-- Does x stand in l? -/
def hasB (l : List ByteArray) (x : ByteArray) : Bool := l.any fun y => decide (y = x)
theorem hasB_iff {l : List ByteArray} {x : ByteArray} : hasB l x = true ↔ x ∈ l := by
  unfold hasB
  rw [List.any_eq_true]
  constructor
  · rintro ⟨y, hy, h⟩; rw [decide_eq_true_eq] at h; exact h ▸ hy
  · intro h; exact ⟨x, h, decide_eq_true rfl⟩
theorem hasB_no {l : List ByteArray} {x : ByteArray} : hasB l x = false ↔ x ∉ l := by
  rw [← hasB_iff, Bool.not_eq_true]
/-- Each may be, none occurs twice. -/
def goodL (xs : List ByteArray) : Bool := xs.all mayB && decide xs.Nodup
theorem goodL_nil : goodL [] = true := rfl
theorem nodup_snoc {xs : List ByteArray} {x : ByteArray} : (xs ++ [x]).Nodup ↔ xs.Nodup ∧ x ∉ xs := by
  rw [List.nodup_append]
  constructor
  · rintro ⟨h1, _, h3⟩
    exact ⟨h1, fun h => h3 x h x (by simp) rfl⟩
  · rintro ⟨h1, h2⟩
    refine ⟨h1, by simp, fun a ha b hb => ?_⟩
    rw [List.mem_singleton] at hb
    subst hb
    rintro rfl
    exact h2 ha
theorem goodL_snoc (xs : List ByteArray) (x : ByteArray) : goodL (xs ++ [x]) = (goodL xs && (mayB x && !hasB xs x)) := by
  unfold goodL
  rw [List.all_append, Bool.eq_iff_iff]
  simp only [Bool.and_eq_true, decide_eq_true_eq, Bool.not_eq_true', hasB_no, nodup_snoc, List.all_cons, List.all_nil, Bool.and_true]
  constructor
  · rintro ⟨⟨a, b⟩, c, d⟩; exact ⟨⟨a, c⟩, b, d⟩
  · rintro ⟨⟨a, c⟩, b, d⟩; exact ⟨⟨a, b⟩, c, d⟩
theorem goodL_take {xs : List ByteArray} {k : Nat} (h : k < xs.length) : goodL (xs.take (k + 1)) = (goodL (xs.take k) && (mayB xs[k] && !hasB (xs.take k) xs[k])) := by
  rw [List.take_succ_eq_append_getElem h, goodL_snoc]
theorem goodL_bad {xs : List ByteArray} {k : Nat} (h : k < xs.length) (hb : goodL (xs.take (k + 1)) = false) : goodL xs = false := by
  rw [← List.take_append_drop (k + 1) xs]
  unfold goodL at hb ⊢
  rw [Bool.eq_false_iff] at hb ⊢
  intro hg
  apply hb
  simp only [Bool.and_eq_true, decide_eq_true_eq, List.all_append] at hg ⊢
  exact ⟨hg.1.1, (List.nodup_append.1 hg.2).1⟩
/-- What is left of u behind k bytes. -/
def restB (u : ByteArray) (k : Nat) : ByteArray := u.extract k u.size
def hitB (names : List ByteArray) (u p : ByteArray) : Bool := Lib.hasPrefix u.data.toList p.data.toList && hasB names (restB u p.size)
/-- The size of the longest prefix that a name follows. -/
def lpB (names : List ByteArray) (u : ByteArray) (ps : List ByteArray) : Nat := ps.foldl (fun m p => if hitB names u p then max m p.size else m) 0
theorem lpB_take {names ps : List ByteArray} {u : ByteArray} {k : Nat} (h : k < ps.length) : lpB names u (ps.take (k + 1)) = if hitB names u ps[k] then max (lpB names u (ps.take k)) ps[k].size else lpB names u (ps.take k) := by
  unfold lpB
  rw [List.take_succ_eq_append_getElem h, List.foldl_append]; rfl
theorem hitB_pre {names : List ByteArray} {u p : ByteArray} (h : hitB names u p = true) : p.size ≤ u.size ∧ u.extract 0 p.size = p := by
  unfold hitB at h
  simp only [Bool.and_eq_true] at h
  have h1 : p.data.toList <+: u.data.toList := List.isPrefixOf_iff_prefix.1 h.1
  refine ⟨by rw [Lib.size_eq, Lib.size_eq]; exact h1.length_le, ?_⟩
  have h2 := List.prefix_iff_eq_take.1 h1
  apply ByteArray.ext
  apply Array.ext'
  rw [ByteArray.data_extract, Array.toList_extract]
  simp only [List.extract, List.drop_zero, Nat.sub_zero]
  rw [Lib.size_eq]
  exact h2.symm
theorem lpB_le {names : List ByteArray} {u : ByteArray} (ps : List ByteArray) : ∀ k, k ≤ ps.length → lpB names u (ps.take k) ≤ u.size := by
  intro k
  induction k with
  | zero => intro _; simp [lpB]
  | succ k ih =>
    intro hk
    rw [lpB_take (by omega)]
    split
    · rename_i hh
      have := (hitB_pre hh).1
      have := ih (by omega)
      omega
    · exact ih (by omega)
/-- Does a name end u from byte i on? -/
def endB (names : List ByteArray) (u : ByteArray) (i : Nat) : Bool := names.any fun x => Lib.hasSuffix u.data.toList x.data.toList && (u.size - x.size == i)
theorem suffix_iff (u x : ByteArray) : Lib.hasSuffix u.data.toList x.data.toList = true ↔ x.size ≤ u.size ∧ restB u (u.size - x.size) = x := by
  unfold Lib.hasSuffix restB
  rw [List.isSuffixOf_iff_suffix, List.suffix_iff_eq_drop]
  constructor
  · intro h
    have hl : x.size ≤ u.size := by
      have := congrArg List.length h
      rw [List.length_drop] at this
      rw [Lib.size_eq, Lib.size_eq]; omega
    refine ⟨hl, ?_⟩
    apply ByteArray.ext
    apply Array.ext'
    rw [ByteArray.data_extract, Array.toList_extract]
    rw [Lib.size_eq, Lib.size_eq]
    simp only [List.extract]
    rw [← h, List.take_of_length_le]
    rw [Lib.size_eq, Lib.size_eq] at hl
    omega
  · rintro ⟨hl, h⟩
    have h2 := congrArg (fun b : ByteArray => b.data.toList) h
    simp only [ByteArray.data_extract, Array.toList_extract, List.extract] at h2
    rw [List.take_of_length_le (by rw [List.length_drop, Lib.size_eq]; omega)] at h2
    rw [Lib.size_eq, Lib.size_eq] at h2
    exact h2.symm
theorem restB_size (u : ByteArray) (k : Nat) (h : k ≤ u.size) : (restB u k).size = u.size - k := by
  unfold restB; rw [ByteArray.size_extract]; omega
theorem endB_mem {names : List ByteArray} {u : ByteArray} {i : Nat} (hi : i ≤ u.size) : endB names u i = hasB names (restB u i) := by
  unfold endB
  rw [Bool.eq_iff_iff, List.any_eq_true, hasB_iff]
  constructor
  · rintro ⟨x, hx, h⟩
    simp only [Bool.and_eq_true, beq_iff_eq] at h
    obtain ⟨h1, h2⟩ := (suffix_iff u x).1 h.1
    rw [h.2] at h2
    rw [h2]; exact hx
  · intro h
    refine ⟨_, h, ?_⟩
    have hs := restB_size u i hi
    simp only [Bool.and_eq_true, beq_iff_eq]
    refine ⟨(suffix_iff _ _).2 ⟨by omega, ?_⟩, by omega⟩
    rw [hs, show u.size - (u.size - i) = i by omega]
theorem endB_take {names : List ByteArray} {u : ByteArray} {i k : Nat} (h : k < names.length) : endB (names.take (k + 1)) u i = (endB (names.take k) u i || (Lib.hasSuffix u.data.toList names[k].data.toList && (u.size - names[k].size == i))) := by
  unfold endB
  rw [List.take_succ_eq_append_getElem h, List.any_append]; simp
theorem restB_zero (u : ByteArray) : restB u 0 = u := by
  unfold restB; exact ByteArray.extract_zero_size
end Go.Proofs.YtkjcnpckajpogaaDoor
