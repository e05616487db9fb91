/- Several texts in one, each with its own sentence and conditions. -/
import Derived.Test.YtfcamfkimnlfgaaGreatDoorGRsmc29
import Derived.Test.YtfcamfkimnlfgaaGreatDoorKp
import Derived.Test.YtfcamfkimnlfgaaGreatDoorGRsmc16
import Derived.Test.YtfcamfkimnlfgaaGreatDoorGRsmc10
import Derived.Deep.RegionHeld3
section
/- NatKnown's calls, each in the form that the walk wants: Low, Parse, Text, Good, Pow, and slices written out. No conditions. -/
open Go.RowKit
set_option maxRecDepth 100000
namespace Go.Proofs.YtfcamfkimnlfgaaGreatDoor
/-- A slice written out: the words need not be trimmed. -/
theorem nm_lit {W : World} {g n m : Nat} {ws : List Nat} (h : Blk U32 122 W g ws) (hn : n = ws.length) (h1 : n ≤ 100000) (hg : Good32 ws) (hv : val W32 ws = m) : Nm W (some ⟨g, 0, none⟩) n n m :=
  ⟨ws, hn, Nat.le_refl _, h1, h.rd0 h.lt, hg, hv⟩
def LowR (W : World) (v : Int) (b : Bool) (e : Ending) (w' : World) : Prop := e = .returned (.tuple #[.int .u64 v, .bool b]) ∧ Hid (Below W.heap.size W w')
section
variable {W : World} {A : Option Addr} {n c m : Nat}
def ParNo (W : World) (e : Ending) (w' : World) : Prop := e = .returned (.tuple #[.agg #[.slice none 0 0], .bool false]) ∧ Hid (Below W.heap.size W w')
def ParYes (W : World) (v : Nat) (e : Ending) (w' : World) : Prop := ∃ A c, e = .returned (.tuple #[.agg #[.slice A (dl v) c], .bool true]) ∧ Nm w' A (dl v) c v ∧ Hid (Below W.heap.size W w')
theorem parse_no {s : ByteArray} (hs : s.size ≤ 100000) (hd : digB s.data.toList = false) : Calls Tryz.prog 78 #[.string s] W (ParNo W) := by
  refine (Parse_any s W hs).mono fun e w' h1 => ?_
  unfold ParsePost at h1
  rw [if_neg (by rw [hd]; simp)] at h1
  exact h1
theorem parse_yes {s : ByteArray} {v : Nat} (hs : s.size ≤ 100000) (hd : digB s.data.toList = true) (hv : numL s.data.toList = v) (hl : dl v ≤ 100000) : Calls Tryz.prog 78 #[.string s] W (ParYes W v) := by
  subst hv
  refine (Parse_any s W hs).mono fun e w' h1 => ?_
  unfold ParsePost at h1
  rw [if_pos hd] at h1
  obtain ⟨A2, c2, he, hc, hb⟩ := h1
  exact ⟨A2, c2, he, nm_can hc hl, hb⟩
def TextR (W : World) (s : ByteArray) (e : Ending) (w' : World) : Prop := e = .returned (.string s) ∧ Hid (Below W.heap.size W w')
theorem text_r {s : ByteArray} (h : Nm W A n c m) (hs : s.data.toList = decL m) : Calls Tryz.prog 103 #[.agg #[.slice A n c]] W (TextR W s) := by
  refine (Text_any h.out).mono fun e w' ⟨t, he, ht, hb⟩ => ⟨?_, hb⟩
  rw [he, show t = s from ByteArray.ext (Array.ext' (ht.trans hs.symm))]
theorem good_no {g : Nat} {ws : List Nat} (h : Blk U32 122 W g ws) (hn : n = ws.length) (h1 : n ≤ 100000) (hg : goodB ws = false) : Calls Tryz.prog 114 #[.agg #[.slice (some ⟨g, 0, none⟩) n c]] W (BoolR W false) := by
  refine (Good_any hn (h.rd0 h.lt) (by omega)).mono fun e w' ⟨he, hb⟩ => ⟨?_, hb⟩
  rw [he, hg]
theorem good_nil : Calls Tryz.prog 114 #[.agg #[.slice none 0 0]] W (BoolR W true) := by
  refine (Good_any (n := 0) (c := 0) (A := none) (ws := []) rfl (fun h => absurd h (by decide)) (by omega)).mono fun e w' ⟨he, hb⟩ => ⟨?_, hb⟩
  rw [he]; rfl
theorem pow_h {k : Nat} {v : Nat} (h : Nm W A n c m) (hk : k ≤ 1000000) (hb : ∀ i, i ≤ k → dl (m ^ i) ≤ 100000) (hv : m ^ k = v) : Calls Tryz.prog 138 #[.agg #[.slice A n c], .int .i64 (k : Int)] W (NumR W v) := by
  subst hv
  exact (Pow_any h.out hk hb).mono fun _ _ ⟨A2, c2, he, hc, hbk⟩ => ⟨A2, c2, he, nm_can hc.out (hb k (Nat.le_refl _)), hbk⟩
theorem pow_low_h {k : Int} (hk : k ≤ 0) (hk2 : -9223372036854775808 ≤ k) : Calls Tryz.prog 138 #[.agg #[.slice A n c], .int .i64 k] W (NumR W 1) :=
  (Pow_low hk hk2).mono fun _ _ ⟨A2, c2, he, hc, hbk⟩ => ⟨A2, c2, he, nm_can hc.out (Nat.le_trans (dl_le (k := 1) (by decide)) (by decide)), hbk⟩
theorem pow_ten20 (h : Nm W A n c 10) : Calls Tryz.prog 138 #[.agg #[.slice A n c], .int .i64 20] W (NumR W (10 ^ 20)) :=
  pow_h (k := 20) h (by decide) (fun i hi => Nat.le_trans (dl_le (k := 20) (Nat.lt_of_le_of_lt (Nat.pow_le_pow_right (by decide) hi) (Nat.pow_lt_pow_left (by decide) (by decide)))) (by decide)) rfl
end
theorem lit3 (W : World) (a b c : Nat) : Blk U32 122 (W.alloc (.cells #[.int .u32 (a : Int), .int .u32 (b : Int), .int .u32 (c : Int)] 122)) W.heap.size [a, b, c] := heap_alloc_new W _
theorem good32_3 {a b c : Nat} (ha : a < W32) (hb : b < W32) (hc : c < W32) : Good32 [a, b, c] := by
  intro x hx; simp at hx; rcases hx with rfl | rfl | rfl <;> assumption
end Go.Proofs.YtfcamfkimnlfgaaGreatDoor
end

section
/- Numerals: the digits behind the point, and those that are not noughts at the end. No conditions. -/
open Go.RowKit
set_option maxRecDepth 100000
namespace Go.Proofs.YtfcamfkimnlfgaaGreatDoor
/-- The digits behind the point. -/
def partL (m s : Nat) : List UInt8 := (decL (10 ^ s + m % 10 ^ s)).drop 1
theorem decL_all (m : Nat) : (decL m).all isDig = true := by
  have h := (numL_decL m).2
  unfold digB at h
  rw [Bool.and_eq_true] at h
  exact h.2
theorem decL_ne (m : Nat) : decL m ≠ [] := by
  have h := (numL_decL m).2
  unfold digB at h
  rw [Bool.and_eq_true] at h
  intro e
  rw [e] at h
  exact absurd h.1 (by simp)
theorem numL_one (c : UInt8) (t : List UInt8) : numL (c :: t) = (c.toNat - 48) * 10 ^ t.length + numL t := by
  have h := numL_append [c] t
  rw [List.singleton_append] at h
  rw [h]
  congr 2
  simp [numL]
theorem one_rest {s r : Nat} (hr : r < 10 ^ s) : ∃ t, decL (10 ^ s + r) = 49 :: t ∧ t.length = s ∧ numL t = r ∧ t.all isDig = true := by
  obtain ⟨c, t, hct⟩ : ∃ c t, decL (10 ^ s + r) = c :: t := by
    cases h : decL (10 ^ s + r) with
    | nil => exact absurd h (decL_ne _)
    | cons c t => exact ⟨c, t, rfl⟩
  have hp : 10 ^ (s + 1) = 10 ^ s * 10 := Nat.pow_succ ..
  have hall := decL_all (10 ^ s + r)
  have hnum := (numL_decL (10 ^ s + r)).1
  have hle := dt_le (m := 10 ^ s + r) (k := s + 1) (by omega) (by omega)
  have hlt := numL_lt _ hall
  rw [hnum] at hlt
  have hge : s < (decL (10 ^ s + r)).length := by
    rcases Nat.lt_or_ge s (decL (10 ^ s + r)).length with h | h
    · exact h
    · have := Nat.pow_le_pow_right (n := 10) (by decide) h
      omega
  rw [hct] at hall hnum hle hge
  rw [List.length_cons] at hle hge
  have hl : t.length = s := by omega
  rw [numL_one, hl] at hnum
  rw [List.all_cons, Bool.and_eq_true] at hall
  have ht := numL_lt t hall.2
  rw [hl] at ht
  have h0 : 0 < 10 ^ s := Nat.pow_pos (by decide)
  have h1 : c.toNat - 48 = 1 := by
    have e1 : ((c.toNat - 48) * 10 ^ s + numL t) / 10 ^ s = c.toNat - 48 := by
      rw [Nat.mul_comm, Nat.mul_add_div h0, Nat.div_eq_of_lt ht, Nat.add_zero]
    have e2 : (10 ^ s + r) / 10 ^ s = 1 := by
      rw [Nat.add_div_left _ h0, Nat.div_eq_of_lt hr]
    rw [← e1, hnum, e2]
  rw [h1, Nat.one_mul] at hnum
  have hc : c = 49 := UInt8.toNat_inj.1 (by show c.toNat = 49; omega)
  exact ⟨t, by rw [hct, hc], hl, by omega, hall.2⟩
theorem part_facts (m s : Nat) : decL (10 ^ s + m % 10 ^ s) = 49 :: partL m s ∧ (partL m s).length = s ∧ numL (partL m s) = m % 10 ^ s ∧ (partL m s).all isDig = true := by
  obtain ⟨t, h1, h2, h3, h4⟩ := one_rest (Nat.mod_lt m (Nat.pow_pos (n := s) (show 0 < 10 by decide)))
  have e : partL m s = t := by unfold partL; rw [h1]; rfl
  rw [e]
  exact ⟨h1, h2, h3, h4⟩
theorem back_num (m s : Nat) : numL (decL (m / 10 ^ s) ++ partL m s) = m := by
  obtain ⟨_, h2, h3, _⟩ := part_facts m s
  rw [numL_append, (numL_decL _).1, h2, h3, Nat.mul_comm]
  exact Nat.div_add_mod m (10 ^ s)
theorem digB_app {a b : List UInt8} (ha : digB a = true) (hb : b.all isDig = true) : digB (a ++ b) = true := by
  unfold digB at ha ⊢
  rw [Bool.and_eq_true] at ha ⊢
  refine ⟨?_, by rw [List.all_append, ha.2, hb]; rfl⟩
  cases a with
  | nil => simp at ha
  | cons x xs => rfl
theorem back_dig (m s : Nat) : digB (decL (m / 10 ^ s) ++ partL m s) = true := digB_app (numL_decL _).2 (part_facts m s).2.2.2
/-- A text without the noughts at its end. -/
def strip (l : List UInt8) : List UInt8 := (l.reverse.dropWhile (· == 48)).reverse
theorem rev_strip (l : List UInt8) : ∃ k, l.reverse = List.replicate k 48 ++ l.reverse.dropWhile (· == 48) := by
  generalize l.reverse = r
  induction r with
  | nil => exact ⟨0, rfl⟩
  | cons x xs ih =>
    by_cases h : x = 48
    · obtain ⟨k, hk⟩ := ih
      subst h
      refine ⟨k + 1, ?_⟩
      rw [List.dropWhile_cons, if_pos (by rfl), List.replicate_succ, List.cons_append, ← hk]
    · refine ⟨0, ?_⟩
      rw [List.dropWhile_cons, if_neg (by simpa using h)]
      rfl
theorem strip_app (l : List UInt8) : l = strip l ++ List.replicate (l.length - (strip l).length) 48 := by
  obtain ⟨k, hk⟩ := rev_strip l
  have h1 : l = strip l ++ List.replicate k 48 := by
    have := congrArg List.reverse hk
    rw [List.reverse_reverse, List.reverse_append, List.reverse_replicate] at this
    exact this
  have h2 : l.length = (strip l).length + k := by
    have := congrArg List.length h1
    rwa [List.length_append, List.length_replicate] at this
  rw [show l.length - (strip l).length = k by omega]
  exact h1
theorem strip_last {l : List UInt8} (h : strip l ≠ []) : ∃ a d, strip l = a ++ [d] ∧ d ≠ 48 := by
  unfold strip at h ⊢
  cases hr : l.reverse.dropWhile (· == 48) with
  | nil => rw [hr] at h; exact absurd rfl h
  | cons x xs =>
    refine ⟨xs.reverse, x, by simp, ?_⟩
    have h1 := List.head?_dropWhile_not (p := (· == 48)) l.reverse
    rw [hr] at h1
    simpa using h1
theorem numL_noughts (k : Nat) : numL (List.replicate k 48) = 0 := by
  induction k with
  | zero => rfl
  | succ k ih => rw [List.replicate_succ, numL_one, ih]; simp
/-- How many digits behind the point are left. -/
def shortS (m s : Nat) : Nat := (strip (partL m s)).length
theorem short_le (m s : Nat) : shortS m s ≤ s := by
  have h := congrArg List.length (strip_app (partL m s))
  rw [List.length_append, (part_facts m s).2.1] at h
  unfold shortS
  omega
theorem dvd_rest {m s k : Nat} (hk : k ≤ s) : 10 ^ k ∣ m ↔ 10 ^ k ∣ m % 10 ^ s := by
  have h1 : 10 ^ k ∣ 10 ^ s := Nat.pow_dvd_pow 10 hk
  have h2 := Nat.div_add_mod m (10 ^ s)
  constructor
  · intro h
    exact (Nat.dvd_add_right (Nat.dvd_trans h1 (Nat.dvd_mul_right _ (m / 10 ^ s)))).1 (by rw [h2]; exact h)
  · intro h
    rw [← h2]
    exact (Nat.dvd_add_right (Nat.dvd_trans h1 (Nat.dvd_mul_right _ (m / 10 ^ s)))).2 h
theorem short_num (m s : Nat) : m % 10 ^ s = numL (strip (partL m s)) * 10 ^ (s - shortS m s) := by
  have h := strip_app (partL m s)
  have h1 := (part_facts m s).2.2.1
  rw [h, numL_append, numL_noughts, List.length_replicate, (part_facts m s).2.1] at h1
  unfold shortS
  omega
theorem short_dvd (m s : Nat) : 10 ^ (s - shortS m s) ∣ m := by
  rw [dvd_rest (s := s) (by omega), short_num]
  exact Nat.dvd_mul_left _ _
theorem short_ndvd {m s : Nat} (h : 0 < shortS m s) : ¬ 10 ^ (s - shortS m s + 1) ∣ m := by
  have hle := short_le m s
  rw [dvd_rest (s := s) (by omega), short_num]
  obtain ⟨a, d, had, hd⟩ := strip_last (l := partL m s) (by intro e; unfold shortS at h; rw [e] at h; exact absurd h (by decide))
  have hdig : isDig d = true := by
    have h1 := (part_facts m s).2.2.2
    rw [strip_app (partL m s), had] at h1
    simp only [List.all_append, Bool.and_eq_true, List.all_cons] at h1
    exact h1.1.2.1
  rw [had, numL_snoc]
  have h2 := (dig_iff d).1 hdig
  have h3 : d.toNat ≠ 48 := fun e => hd (UInt8.toNat_inj.1 (by show d.toNat = 48; exact e))
  rw [Nat.pow_succ, Nat.mul_comm (10 ^ _) 10]
  intro h4
  have h5 := Nat.dvd_of_mul_dvd_mul_right (Nat.pow_pos (by decide)) h4
  omega
/-- The least scale that tells the number just. -/
theorem short_least {m s j : Nat} : (10 ^ s ∣ m * 10 ^ j ∧ j ≤ s) ↔ (shortS m s ≤ j ∧ j ≤ s) := by
  have hle := short_le m s
  constructor
  · rintro ⟨h, hj⟩
    refine ⟨?_, hj⟩
    rcases Nat.lt_or_ge j (shortS m s) with h1 | h1
    · exfalso
      refine short_ndvd (m := m) (s := s) (by omega) ?_
      have e : 10 ^ s = 10 ^ (s - j) * 10 ^ j := by rw [← Nat.pow_add]; congr 1; omega
      rw [e] at h
      have h2 := Nat.dvd_of_mul_dvd_mul_right (Nat.pow_pos (by decide)) h
      exact Nat.dvd_trans (Nat.pow_dvd_pow 10 (by omega)) h2
    · exact h1
  · rintro ⟨h1, hj⟩
    refine ⟨?_, hj⟩
    have e : 10 ^ s = 10 ^ (s - j) * 10 ^ j := by rw [← Nat.pow_add]; congr 1; omega
    rw [e]
    exact Nat.mul_dvd_mul (Nat.dvd_trans (Nat.pow_dvd_pow 10 (by omega)) (short_dvd m s)) (Nat.dvd_refl _)
end Go.Proofs.YtfcamfkimnlfgaaGreatDoor
end

section
/- Package dec: isZero, power, Good, counted. Conditions: at most 100000 words. -/
open Go.RowKit
set_option maxRecDepth 100000
namespace Go.Proofs.YtfcamfkimnlfgaaGreatDoor
theorem nowD {b : Bool} {A : Option Addr} {n c : Nat} {s : Int} : NoW [.bool b, .slice A n c, .int .i64 s] := by
  intro u hu x
  simp at hu
  rcases hu with rfl | rfl | rfl <;> (intro e; cases e)
theorem Nm.putD {W : World} {p : Nat} {v0 v1 v2 : Value} {A : Option Addr} {n c m : Nat} (h : Nm W A n c m) (hp : At W p [v0, v1, v2]) (hw : NoW [v0, v1, v2]) {b : Bool} {B : Option Addr} {k d : Nat} {s : Int} :
    Nm (((W.setCell ⟨p, 0, none⟩ (.bool b)).setCell ⟨p, 1, none⟩ (.slice B k d)).setCell ⟨p, 2, none⟩ (.int .i64 s)) A n c m := by
  have h1 := hp.put (i := 0) (by simp) (.bool b)
  have h2 := h1.put (i := 1) (by simp) (.slice B k d)
  have w1 : NoW [.bool b, v1, v2] := by
    intro u hu x; simp at hu
    rcases hu with rfl | rfl | rfl
    · intro e; cases e
    · exact hw _ (by simp) x
    · exact hw _ (by simp) x
  have w2 : NoW [.bool b, .slice B k d, v2] := by
    intro u hu x; simp at hu
    rcases hu with rfl | rfl | rfl
    · intro e; cases e
    · intro e; cases e
    · exact hw _ (by simp) x
  exact ((h.put hp (by simp) hw _).put h1 (by simp) w1 _).put h2 (by simp) w2 _
theorem At.put1 {W : World} {p : Nat} {v : Value} (h : At W p [v]) (u : Value) : At (W.setCell ⟨p, 0, none⟩ u) p [u] := h.put (i := 0) (by simp) u
theorem Bel.put {w W : World} (h : Bel w W) {p i : Nat} (hp : w.heap.size ≤ p) (u : Value) : Bel w (W.setCell ⟨p, i, none⟩ u) := Below.setCell h hp u
theorem Nm.putx {W : World} {A : Option Addr} {n c m : Nat} {p : Addr} (h : Nm W A n c m) (hv : ∃ v, W.cell? p = some v ∧ ∀ x : Nat, v ≠ U32 x) (u : Value) : Nm (W.setCell p u) A n c m := by
  obtain ⟨v, h1, h2⟩ := hv
  exact h.setn h1 h2 u
theorem not_u32 {A : Option Addr} {n c : Nat} : ∀ x : Nat, Value.slice A n c ≠ U32 x := fun x h => by cases h
/-- The world at a walk's end, by a name. -/
theorem name_end {P : Program} {f : Func} {R : Ending → World → Prop} {x : Exit} {a : Act} {X : World} (h : ∀ W', W' = X → bodyPost P f R x a W') : bodyPost P f R x a X := h X rfl
/-- What a call leaves that returns a number by its own box. -/
theorem ret_n {W w2 : World} {B : Option Addr} {d p v : Nat} {v0 : Value} (hW : Bel W w2) (hp : W.heap.size ≤ p) (hR : At w2 p [v0]) (hw : NoW [v0]) (hn : Nm w2 B (dl v) d v) :
    NumR W v (.returned (.agg #[.slice B (dl v) d])) (w2.setCell ⟨p, 0, none⟩ (.slice B (dl v) d)) :=
  ⟨B, d, rfl, hn.put (i := 0) hR (by simp) hw _, Below.setCell hW hp _⟩
section
variable {W w : World} {b b' : Bool} {A A' : Option Addr} {n n' c c' m m' : Nat} {s s' : Int}
theorem dzero_h (h : Nm W A n c m) : Calls Tryz.prog 107 #[.agg #[.slice A n c]] W (RetB W (decide (m = 0))) := by
  obtain ⟨u, hu⟩ : ∃ u, u = cmpI m 0 := ⟨_, rfl⟩
  have CC : Hid (∀ o, Calls Tryz.prog 125 #[.agg #[.slice A n c], .agg #[.slice none 0 0]] (W.alloc o) (IntPost (W.alloc o) u)) := fun o => by rw [hu]; exact cmp_u (h.al o) (nm_nil _ none 0)
  have HU : Hid ((u == 0) = decide (m = 0)) := by rw [hu]; exact cmpI_beq m 0
  clear h hu
  go_enter Tryz.func107, Tryz.ntmps107
  go_wp2_with (go_at_call 125; (with_reducible refine (CC.out _).mono ?_); rintro e w1 ⟨rfl, hbk⟩)
  go_ret
  exact ⟨bool_ret (by first | exact HU.out | (have := HU.out; simpa using this)), (bx1 hbk).2.2⟩
theorem ten_le {k : Nat} (hk : k ≤ 60) : dl (10 ^ k) ≤ 60 := dl_le (k := 60) (Nat.lt_of_le_of_lt (Nat.pow_le_pow_right (by decide) hk) (Nat.pow_lt_pow_left (by decide) (by decide)))
theorem power_h {k : Nat} (hk : k ≤ 60) : Calls Tryz.prog 109 #[.int .i64 (k : Int)] W (NumR W (10 ^ k)) := by
  obtain ⟨u, hu⟩ : ∃ u, u = 10 ^ k := ⟨_, rfl⟩
  have CO : Hid (∀ W', Calls Tryz.prog 77 #[.int .u64 10] W' (NumR W' 10)) := fun W' => of_h (v := 10) (by omega)
  have CP : Hid (∀ W' B e, Nm W' B (dl 10) e 10 → Calls Tryz.prog 138 #[.agg #[.slice B (dl 10) e], .int .i64 (k : Int)] W' (NumR W' u)) := fun W' B e h => pow_h h (by omega) (fun i hi => Nat.le_trans (ten_le (k := i) (by omega)) (by decide)) hu.symm
  have HU := hide hu
  clear hu
  have HB := Bel.refl W
  clear hk
  go_enter Tryz.func109, Tryz.ntmps109
  go_wp2_with (first | (go_at_call 77; (with_reducible refine (CO.out _).mono ?_); rintro e w1 ⟨B, e1, rfl, nb, hbk⟩; have HR := At.up (at_new0 _ _ _) hbk; replace HB := (HB.al _).up hbk) | (go_at_call 138; (with_reducible refine (CP.out _ _ _ nb).mono ?_); rintro e w2 ⟨B2, e2, rfl, nb2, hbk⟩; replace HB := HB.up hbk; replace HR := HR.up hbk; have hr_0 := HR.c0; have hr_l := HR.lt; have hr_f0 := HR.f0) | fail)
  refine bodyPost_ret (v := .agg #[.slice B2 (dl u) e2]) (by simp [results, Tryz.results109, go_sem, hr_0]) rfl ?_
  rw [HU.out]
  exact ret_n HB (Nat.le_refl _) HR now1 (by rw [← HU.out]; exact nb2)
set_option maxHeartbeats 1000000 in
theorem dgood_1 (h1 : ∀ W', Bel W W' → Calls Tryz.prog 114 #[.agg #[.slice A n c]] W' (RetB W' false)) : Calls Tryz.prog 66 #[.agg #[.bool b, .slice A n c, .int .i64 s]] W (RetB W false) := by
  have C1 := hide h1
  clear h1
  have HB := Bel.refl W
  go_enter Tryz.func66, Tryz.ntmps66
  go_wp2_with (first | (go_at_call 114; (with_reducible refine (C1.out _ (HB.al _)).mono ?_); rintro e w1 ⟨rfl, hbk⟩; have HA := At.up (at_new0 _ _ _) hbk; replace HB := (HB.al _).up hbk; have ha_0 := HA.c0; have ha_1 := HA.c1; have ha_2 := HA.c2; have ha_l := HA.lt) | fail)
  go_ret
  exact ⟨rfl, HB⟩
set_option maxHeartbeats 1000000 in
theorem dgood_2 (h1 : ∀ W', Bel W W' → Calls Tryz.prog 114 #[.agg #[.slice A n c]] W' (RetB W' true)) (hs : ¬ 0 ≤ s) : Calls Tryz.prog 66 #[.agg #[.bool b, .slice A n c, .int .i64 s]] W (RetB W false) := by
  have C1 := hide h1
  clear h1
  have HB := Bel.refl W
  go_enter Tryz.func66, Tryz.ntmps66
  go_wp2_with (first | (go_at_call 114; (with_reducible refine (C1.out _ (HB.al _)).mono ?_); rintro e w1 ⟨rfl, hbk⟩; have HA := At.up (at_new0 _ _ _) hbk; replace HB := (HB.al _).up hbk; have ha_0 := HA.c0; have ha_1 := HA.c1; have ha_2 := HA.c2; have ha_l := HA.lt) | fail)
  go_ret
  exact ⟨rfl, HB⟩
set_option maxHeartbeats 1000000 in
theorem dgood_3 (h1 : ∀ W', Bel W W' → Calls Tryz.prog 114 #[.agg #[.slice A n c]] W' (RetB W' true)) (hs : 0 ≤ s) (hs2 : ¬ s ≤ 60) : Calls Tryz.prog 66 #[.agg #[.bool b, .slice A n c, .int .i64 s]] W (RetB W false) := by
  have C1 := hide h1
  clear h1
  have HB := Bel.refl W
  go_enter Tryz.func66, Tryz.ntmps66
  go_wp2_with (first | (go_at_call 114; (with_reducible refine (C1.out _ (HB.al _)).mono ?_); rintro e w1 ⟨rfl, hbk⟩; have HA := At.up (at_new0 _ _ _) hbk; replace HB := (HB.al _).up hbk; have ha_0 := HA.c0; have ha_1 := HA.c1; have ha_2 := HA.c2; have ha_l := HA.lt) | fail)
  go_ret
  exact ⟨rfl, HB⟩
set_option maxHeartbeats 1000000 in
theorem dgood_4 (h1 : ∀ W', Bel W W' → Calls Tryz.prog 114 #[.agg #[.slice A n c]] W' (RetB W' true)) (hs : 0 ≤ s) (hs2 : s ≤ 60) : Calls Tryz.prog 66 #[.agg #[.bool false, .slice A n c, .int .i64 s]] W (RetB W true) := by
  have C1 := hide h1
  clear h1
  have HB := Bel.refl W
  go_enter Tryz.func66, Tryz.ntmps66
  go_wp2_with (first | (go_at_call 114; (with_reducible refine (C1.out _ (HB.al _)).mono ?_); rintro e w1 ⟨rfl, hbk⟩; have HA := At.up (at_new0 _ _ _) hbk; replace HB := (HB.al _).up hbk; have ha_0 := HA.c0; have ha_1 := HA.c1; have ha_2 := HA.c2; have ha_l := HA.lt) | fail)
  go_ret
  exact ⟨rfl, HB⟩
set_option maxHeartbeats 1000000 in
theorem dgood_5 (h1 : ∀ W', Bel W W' → Calls Tryz.prog 114 #[.agg #[.slice A n c]] W' (RetB W' true))(h2 : ∀ W', Bel W W' → Calls Tryz.prog 107 #[.agg #[.slice A n c]] W' (RetB W' false)) (hs : 0 ≤ s) (hs2 : s ≤ 60) : Calls Tryz.prog 66 #[.agg #[.bool true, .slice A n c, .int .i64 s]] W (RetB W true) := by
  have C1 := hide h1
  have C2 := hide h2
  clear h2
  clear h1
  have HB := Bel.refl W
  go_enter Tryz.func66, Tryz.ntmps66
  go_wp2_with (first | (go_at_call 114; (with_reducible refine (C1.out _ (HB.al _)).mono ?_); rintro e w1 ⟨rfl, hbk⟩; have HA := At.up (at_new0 _ _ _) hbk; replace HB := (HB.al _).up hbk; have ha_0 := HA.c0; have ha_1 := HA.c1; have ha_2 := HA.c2; have ha_l := HA.lt) | (go_at_call 107; (with_reducible refine (C2.out _ HB).mono ?_); rintro e w2 ⟨rfl, hbk⟩; replace HB := HB.up hbk) | fail)
  go_ret
  exact ⟨rfl, HB⟩
set_option maxHeartbeats 1000000 in
theorem dgood_6 (h1 : ∀ W', Bel W W' → Calls Tryz.prog 114 #[.agg #[.slice A n c]] W' (RetB W' true))(h2 : ∀ W', Bel W W' → Calls Tryz.prog 107 #[.agg #[.slice A n c]] W' (RetB W' true)) (hs : 0 ≤ s) (hs2 : s ≤ 60) : Calls Tryz.prog 66 #[.agg #[.bool true, .slice A n c, .int .i64 s]] W (RetB W false) := by
  have C1 := hide h1
  have C2 := hide h2
  clear h2
  clear h1
  have HB := Bel.refl W
  go_enter Tryz.func66, Tryz.ntmps66
  go_wp2_with (first | (go_at_call 114; (with_reducible refine (C1.out _ (HB.al _)).mono ?_); rintro e w1 ⟨rfl, hbk⟩; have HA := At.up (at_new0 _ _ _) hbk; replace HB := (HB.al _).up hbk; have ha_0 := HA.c0; have ha_1 := HA.c1; have ha_2 := HA.c2; have ha_l := HA.lt) | (go_at_call 107; (with_reducible refine (C2.out _ HB).mono ?_); rintro e w2 ⟨rfl, hbk⟩; replace HB := HB.up hbk) | fail)
  go_ret
  exact ⟨rfl, HB⟩

/-- Whether a numeral is valid: one answer in every later world. -/
theorem dgood_e (h : Nm w A n c m) (s : Int) : ∃ u, (u = true → 0 ≤ s ∧ s ≤ 60 ∧ (b = true → 0 < m)) ∧ ∀ W', Bel w W' → Calls Tryz.prog 66 #[.agg #[.bool b, .slice A n c, .int .i64 s]] W' (RetB W' u) := by
  obtain ⟨g, hg⟩ := ngood_e h
  have e1 : ∀ W', Bel w W' → ∀ W2, Bel W' W2 → Calls Tryz.prog 114 #[.agg #[.slice A n c]] W2 (RetB W2 g) := fun W' hb W2 hb2 => hg W2 (Bel.up hb hb2)
  have e2 : ∀ W', Bel w W' → ∀ W2, Bel W' W2 → Calls Tryz.prog 107 #[.agg #[.slice A n c]] W2 (RetB W2 (decide (m = 0))) := fun W' hb W2 hb2 => dzero_h (h.up (Bel.up hb hb2))
  cases g
  · exact ⟨false, (fun h => by cases h), fun W' hb => dgood_1 (e1 W' hb)⟩
  · by_cases h0 : 0 ≤ s
    · by_cases h6 : s ≤ 60
      · cases b
        · exact ⟨true, fun _ => ⟨h0, h6, fun h => by cases h⟩, fun W' hb => dgood_4 (e1 W' hb) h0 h6⟩
        · by_cases hm : m = 0
          · rw [decide_eq_true hm] at e2
            exact ⟨false, (fun h => by cases h), fun W' hb => dgood_6 (e1 W' hb) (e2 W' hb) h0 h6⟩
          · rw [decide_eq_false hm] at e2
            exact ⟨true, fun _ => ⟨h0, h6, fun _ => by omega⟩, fun W' hb => dgood_5 (e1 W' hb) (e2 W' hb) h0 h6⟩
      · exact ⟨false, (fun h => by cases h), fun W' hb => dgood_3 (e1 W' hb) h0 h6⟩
    · exact ⟨false, (fun h => by cases h), fun W' hb => dgood_2 (e1 W' hb) h0⟩
/-- A valid numeral: m is what its digits make, s how many are behind the point. -/
structure DX (W : World) (b : Bool) (A : Option Addr) (n c : Nat) (m s : Nat) : Prop where
  nm : Nm W A n c m
  sc : s ≤ 60
  ng : b = true → 0 < m
  gd : ∀ W', Bel W W' → Calls Tryz.prog 66 #[.agg #[.bool b, .slice A n c, .int .i64 (s : Int)]] W' (RetB W' true)
theorem DX.bel {W W' : World} {s : Nat} (h : DX W b A n c m s) (hb : Bel W W') : DX W' b A n c m s := ⟨h.nm.up hb.hid, h.sc, h.ng, fun W2 h2 => h.gd W2 (hb.up h2.hid)⟩
theorem DX.up {W W' : World} {s : Nat} (h : DX W b A n c m s) (hb : Hid (Below W.heap.size W W')) : DX W' b A n c m s := h.bel (Bel.of hb)
theorem DX.al {s : Nat} (h : DX W b A n c m s) (o : Obj) : DX (W.alloc o) b A n c m s := h.bel ((Bel.refl W).al o)
theorem DX.dr {s : Nat} (h : DX W b A n c m s) : DX W.drew b A n c m s := h.bel (Bel.refl W).dr
theorem dx_can {s : Nat} (h : Nm W A (dl m) c m) (hs : s ≤ 60) (hn : b = true → 0 < m) : DX W b A (dl m) c m s := by
  refine ⟨h, hs, hn, fun W' hb => ?_⟩
  cases b
  · exact dgood_4 (fun W2 hb2 => good_h (h.up (Bel.up hb hb2))) (by omega) (by omega)
  · refine dgood_5 (fun W2 hb2 => good_h (h.up (Bel.up hb hb2))) (fun W2 hb2 => ?_) (by omega) (by omega)
    have h1 := dzero_h (h.up (Bel.up hb hb2))
    rwa [decide_eq_false (by have := hn rfl; omega)] at h1
theorem dx_zero (W : World) : DX W false none 0 0 0 0 := by
  refine ⟨nm_nil _ _ _, by decide, (fun h => by cases h), fun W' hb => ?_⟩
  exact dgood_4 (fun W2 hb2 => good_nil.mono fun _ _ h => h) (by omega) (by omega)
/-- What counted returns. -/
def CnR (W : World) (b : Bool) (A : Option Addr) (n c : Nat) (s : Nat) (e : Ending) (w' : World) : Prop := e = .returned (.agg #[.bool b, .slice A n c, .int .i64 (s : Int)]) ∧ Hid (Below W.heap.size W w')
set_option maxHeartbeats 1000000 in
theorem counted_no (h : ∀ W', Bel W W' → Calls Tryz.prog 66 #[.agg #[.bool b, .slice A n c, .int .i64 s]] W' (RetB W' false)) : Calls Tryz.prog 111 #[.agg #[.bool b, .slice A n c, .int .i64 s]] W (fun e w' => e = .returned (.agg #[.bool false, .slice none 0 0, .int .i64 0]) ∧ Bel W w') := by
  have CG := hide h
  clear h
  have HB := Bel.refl W
  go_enter Tryz.func111, Tryz.ntmps111
  go_wp2_with (first | (go_at_call 66; (with_reducible refine (CG.out _ ((HB.al _).al _)).mono ?_); rintro e w1 ⟨rfl, hbk⟩; have HA := At.up ((at_new0 _ _ _).al _) hbk; have HR := At.up (at_new1 _ _ _ _) hbk; replace HB := ((HB.al _).al _).up hbk; have ha_0 := HA.c0; have ha_1 := HA.c1; have ha_2 := HA.c2; have ha_l := HA.lt; have hr_0 := HR.c0; have hr_1 := HR.c1; have hr_2 := HR.c2; have hr_l := HR.lt; have hr_f0 := HR.f0; have hr_f1 := HR.f1; have hr_f2 := HR.f2) | fail)
  refine bodyPost_ret (v := .agg #[.bool false, .slice none 0 0, .int .i64 0]) (by simp [results, Tryz.results111, go_sem, hr_0, hr_1, hr_2]) rfl ?_
  exact ⟨rfl, below3 HB (by omega) _ _ _⟩
set_option maxHeartbeats 1000000 in
theorem counted_yes (h : ∀ W', Bel W W' → Calls Tryz.prog 66 #[.agg #[.bool b, .slice A n c, .int .i64 s]] W' (RetB W' true)) : Calls Tryz.prog 111 #[.agg #[.bool b, .slice A n c, .int .i64 s]] W (fun e w' => e = .returned (.agg #[.bool b, .slice A n c, .int .i64 s]) ∧ Bel W w') := by
  have CG := hide h
  clear h
  have HB := Bel.refl W
  go_enter Tryz.func111, Tryz.ntmps111
  go_wp2_with (first | (go_at_call 66; (with_reducible refine (CG.out _ ((HB.al _).al _)).mono ?_); rintro e w1 ⟨rfl, hbk⟩; have HA := At.up ((at_new0 _ _ _).al _) hbk; have HR := At.up (at_new1 _ _ _ _) hbk; replace HB := ((HB.al _).al _).up hbk; have ha_0 := HA.c0; have ha_1 := HA.c1; have ha_2 := HA.c2; have ha_l := HA.lt; have hr_0 := HR.c0; have hr_1 := HR.c1; have hr_2 := HR.c2; have hr_l := HR.lt; have hr_f0 := HR.f0; have hr_f1 := HR.f1; have hr_f2 := HR.f2) | fail)
  refine bodyPost_ret (v := .agg #[.bool b, .slice A n c, .int .i64 s]) (by simp [results, Tryz.results111, go_sem, hr_0, hr_1, hr_2]) rfl ?_
  exact ⟨rfl, below3 HB (by omega) _ _ _⟩

theorem dx_counted {s : Nat} (h : DX W b A n c m s) : Calls Tryz.prog 111 #[.agg #[.bool b, .slice A n c, .int .i64 (s : Int)]] W (CnR W b A n c s) := (counted_yes h.gd).mono fun _ _ h => h
/-- Any numeral as an argument: what it counts as. -/
def DY (W : World) (x : Value) (b : Bool) (A : Option Addr) (n c : Nat) (m s : Nat) : Prop := DX W b A n c m s ∧ Hid (∀ W', Bel W W' → Calls Tryz.prog 111 #[x] W' (CnR W' b A n c s))
theorem DX.y {s : Nat} (h : DX W b A n c m s) : DY W (.agg #[.bool b, .slice A n c, .int .i64 (s : Int)]) b A n c m s := ⟨h, fun W' hb => dx_counted (h.bel hb)⟩
theorem DY.bel {x : Value} {s : Nat} {W' : World} (h : DY W x b A n c m s) (hb : Bel W W') : DY W' x b A n c m s := ⟨h.1.bel hb, fun W2 h2 => h.2.out W2 (hb.up h2.hid)⟩
theorem dy_no {s : Int} (h : ∀ W', Bel W W' → Calls Tryz.prog 66 #[.agg #[.bool b, .slice A n c, .int .i64 s]] W' (RetB W' false)) : DY W (.agg #[.bool b, .slice A n c, .int .i64 s]) false none 0 0 0 0 :=
  ⟨dx_zero W, fun W' hb => (counted_no (fun W2 h2 => h W2 (hb.up h2.hid))).mono fun _ _ h => h⟩
end
end Go.Proofs.YtfcamfkimnlfgaaGreatDoor
end

section
/- Package dec: Rat. Conditions: numbers of at most 99999 words. -/
open Go.RowKit
set_option maxRecDepth 100000
namespace Go.Proofs.YtfcamfkimnlfgaaGreatDoor
theorem At.sput3 {W : World} {p : Nat} {v0 v1 v2 : Value} (h : At W p [v0, v1, v2]) (x y z : Value) : At (((W.setCell ⟨p, 0, none⟩ x).setCell ⟨p, 1, none⟩ y).setCell ⟨p, 2, none⟩ z) p [x, y, z] := h.put3 x y z
/-- As QR, the sign by a name of its own. -/
def QRw (W : World) (sg : Bool) (r : Rat) (e : Ending) (w' : World) : Prop := ∃ A c A' c', e = .returned (.agg #[.bool sg, .slice A (dl r.num.natAbs) c, .slice A' (dl r.den) c']) ∧ ZA w' sg A (dl r.num.natAbs) c r.num ∧ Nm w' A' (dl r.den) c' r.den ∧ Hid (Below W.heap.size W w')
def OfYw (W : World) (sg : Bool) (r : Rat) (e : Ending) (w' : World) : Prop := ∃ A c A' c', e = .returned (.tuple #[.agg #[.bool sg, .slice A (dl r.num.natAbs) c, .slice A' (dl r.den) c'], .bool true]) ∧ ZA w' sg A (dl r.num.natAbs) c r.num ∧ Nm w' A' (dl r.den) c' r.den ∧ Hid (Below W.heap.size W w')
theorem noQ : ∀ x : Nat, Value.bool false ≠ U32 x := fun x h => by cases h
theorem Nm.putq {W : World} {p : Nat} {A : Option Addr} {n c m : Nat} (h : Nm W A n c m) (hp : At W p [.bool false, .slice none 0 0, .slice none 0 0]) (b : Bool) (B : Option Addr) (k d : Nat) (B' : Option Addr) (k' d' : Nat) :
    Nm (((W.setCell ⟨p, 0, none⟩ (.bool b)).setCell ⟨p, 1, none⟩ (.slice B k d)).setCell ⟨p, 2, none⟩ (.slice B' k' d')) A n c m := h.put3 hp now3
theorem Bel.put3 {w W : World} (h : Bel w W) {p : Nat} (hp : w.heap.size ≤ p) (x y z : Value) : Bel w (((W.setCell ⟨p, 0, none⟩ x).setCell ⟨p, 1, none⟩ y).setCell ⟨p, 2, none⟩ z) := below3 h hp x y z
section
variable {W : World} {b b0 : Bool} {A A0 : Option Addr} {n c m s n0 c0 : Nat} {s0 : Int} {r : Rat}
set_option maxHeartbeats 4000000 in
theorem drat_h (h : DY W (.agg #[.bool b0, .slice A0 n0 c0, .int .i64 s0]) b A n c m s) (hd : dl m ≤ 99999) (hr : mkRat (zi b m) (10 ^ s) = r) : Calls Tryz.prog 45 #[.agg #[.bool b0, .slice A0 n0 c0, .int .i64 s0]] W (QR W r) := by
  obtain ⟨p, hp⟩ : ∃ p, p = 10 ^ s := ⟨_, rfl⟩
  obtain ⟨sg, hsg⟩ : ∃ sg, sg = decide (r.num < 0) := ⟨_, rfl⟩
  have CC : Hid (∀ W', Bel W W' → Calls Tryz.prog 111 #[.agg #[.bool b0, .slice A0 n0 c0, .int .i64 s0]] W' (CnR W' b A n c s)) := h.2
  have CP : Hid (∀ W', Calls Tryz.prog 109 #[.int .i64 (s : Int)] W' (NumR W' p)) := fun W' => by rw [hp]; exact power_h h.1.sc
  have CO : Hid (∀ W' B e, Bel W W' → Nm W' B (dl p) e p → Calls Tryz.prog 17 #[.agg #[.bool b, .slice A n c], .agg #[.slice B (dl p) e]] W' (OfYw W' sg r)) := fun W' B e hb hn => by
    rw [hsg]
    exact of_yes (za_of (b := b) (h.1.nm.up hb)) hn (by rw [hp]; exact Nat.pow_pos (by decide)) (by rw [hp]; exact hr) (by rw [zi_abs]; exact hd) (by rw [hp]; exact Nat.le_trans (ten_le h.1.sc) (by decide))
  have HS := hide hsg
  clear h hd hp hr hsg
  have HB := Bel.refl W
  go_enter Tryz.func45, Tryz.ntmps45
  go_wp2_with (first | (go_at_call 111; (with_reducible refine (CC.out _ ((HB.al _).al _)).mono ?_); rintro e w1 ⟨rfl, hbk⟩; have HA := At.up ((at_new0 _ _ _).al _) hbk; have HR := At.up (at_new1 _ _ _ _) hbk; replace HB := ((HB.al _).al _).up hbk; have ha_0 := HA.c0; have ha_1 := HA.c1; have ha_2 := HA.c2; have ha_l := HA.lt; have ha_f0 := HA.f0; have ha_f1 := HA.f1; have ha_f2 := HA.f2) | fail)
  obtain ⟨W1, hW1⟩ : ∃ W1, W1 = ((w1.setCell ⟨W.heap.size, 0, none⟩ (.bool b)).setCell ⟨W.heap.size, 1, none⟩ (.slice A n c)).setCell ⟨W.heap.size, 2, none⟩ (.int .i64 (s : Int)) := ⟨_, rfl⟩
  rw [← hW1]
  replace HB : Bel W W1 := (by rw [hW1]; exact below3 HB (Nat.le_refl _) _ _ _)
  replace HR : At W1 (W.heap.size + 1) [.bool false, .slice none 0 0, .slice none 0 0] := (by rw [hW1]; exact HR.far3 (show W.heap.size ≠ _ by omega) _ _ _)
  replace HA : At W1 W.heap.size [.bool b, .slice A n c, .int .i64 (s : Int)] := (by rw [hW1]; exact HA.put3 _ _ _)
  clear hW1 ha_0 ha_1 ha_2 ha_l ha_f0 ha_f1 ha_f2
  have lb0 := HA.lt
  have lb1 := HR.lt
  go_region_held3 (fun w' => w'.cell? ⟨W.heap.size, 0, none⟩ = some (.bool b) ∧ w'.cell? ⟨W.heap.size, 1, none⟩ = some (.slice A n c) ∧ w'.cell? ⟨W.heap.size, 2, none⟩ = some (.int .i64 (s : Int)))
    (refine ⟨(?_ : At _ W.heap.size [.bool b, .slice A n c, .int .i64 (s : Int)]).c0, (?_ : At _ W.heap.size [.bool b, .slice A n c, .int .i64 (s : Int)]).c1, (?_ : At _ W.heap.size [.bool b, .slice A n c, .int .i64 (s : Int)]).c2⟩ <;> (repeat (first | with_reducible exact HA | (with_reducible refine At.dr ?_) | (with_reducible refine At.al ?_ _) | (with_reducible refine At.far ?_ (by omega) _))))
    (first | (go_at_call 109; (with_reducible refine (CP.out _).mono ?_); rintro e w2 ⟨Bp, ep, rfl, np, hbk⟩; (with_reducible (replace HB := HB.dr.up hbk; replace HA := HA.dr.up hbk; replace HR := HR.dr.up hbk)); have lz := HR.lt; have lz0 := HA.lt; (try have lz2 := HP0.lt)) | (go_at_call 109; (with_reducible refine (CP.out _).mono ?_); rintro e w2 ⟨Bp, ep, rfl, np, hbk⟩; (with_reducible (have HP0 := At.up (at_new0 _ [.bool false, .slice none 0 0, .slice none 0 0] _).dr hbk; replace HB := (HB.al _).dr.up hbk; replace HA := (HA.al _).dr.up hbk; replace HR := (HR.al _).dr.up hbk)); have lz := HR.lt; have lz0 := HA.lt; (try have lz2 := HP0.lt)) | (go_at_call 17; (with_reducible refine (CO.out _ _ _ HB np).mono ?_); rintro e w3 ⟨Aq, cq, Ar, cr, rfl, nq, nr, hbk⟩; (with_reducible (replace HB := HB.up hbk; replace HA := HA.up hbk; replace HR := HR.up hbk)); (try (with_reducible replace HP0 := HP0.up hbk)); (try have hp0_0 := HP0.c0); (try have hp0_1 := HP0.c1); (try have hp0_2 := HP0.c2); (try have hq0_0 := HQ0.c0); (try have hq0_1 := HQ0.c1); (try have hq0_2 := HQ0.c2); (try have fhp0_0 := HP0.f0); (try have fhp0_1 := HP0.f1); (try have fhp0_2 := HP0.f2); (try have fhq0_0 := HQ0.f0); (try have fhq0_1 := HQ0.f1); (try have fhq0_2 := HQ0.f2); (try have lp0 := HP0.lt); (try have lq0 := HQ0.lt); (try have hr_0 := HR.c0); (try have hr_1 := HR.c1); (try have hr_2 := HR.c2); (try have hr_l := HR.lt); (try have hr_f0 := HR.f0); (try have hr_f1 := HR.f1); (try have hr_f2 := HR.f2); have lz1 := HA.lt) | (go_at_call 17; (with_reducible refine (CO.out _ _ _ (HB.al _) (np.al _)).mono ?_); rintro e w3 ⟨Aq, cq, Ar, cr, rfl, nq, nr, hbk⟩; (with_reducible (have HQ0 := At.up (at_new0 _ [.bool false, .slice none 0 0, .slice none 0 0] _) hbk; replace HB := (HB.al _).up hbk; replace HA := (HA.al _).up hbk; replace HR := (HR.al _).up hbk)); (try (with_reducible replace HP0 := (HP0.al _).up hbk)); (try have hp0_0 := HP0.c0); (try have hp0_1 := HP0.c1); (try have hp0_2 := HP0.c2); (try have hq0_0 := HQ0.c0); (try have hq0_1 := HQ0.c1); (try have hq0_2 := HQ0.c2); (try have fhp0_0 := HP0.f0); (try have fhp0_1 := HP0.f1); (try have fhp0_2 := HP0.f2); (try have fhq0_0 := HQ0.f0); (try have fhq0_1 := HQ0.f1); (try have fhq0_2 := HQ0.f2); (try have lp0 := HP0.lt); (try have lq0 := HQ0.lt); (try have hr_0 := HR.c0); (try have hr_1 := HR.c1); (try have hr_2 := HR.c2); (try have hr_l := HR.lt); (try have hr_f0 := HR.f0); (try have hr_f1 := HR.f1); (try have hr_f2 := HR.f2); have lz1 := HA.lt) | fail)
  all_goals go_wp2_with fail
  all_goals
    have nq1 := nq.1
    refine name_end ?_
    intro W4 hW4
    have HF : At W4 (W.heap.size + 1) [.bool sg, .slice Aq (dl r.num.natAbs) cq, .slice Ar (dl r.den) cr] := by rw [hW4]; (repeat (first | with_reducible exact HR | (with_reducible refine At.dr ?_) | (with_reducible refine At.sput3 (v0 := .bool false) (v1 := .slice none 0 0) (v2 := .slice none 0 0) ?_ _ _ _) | (with_reducible refine At.al ?_ _) | (with_reducible refine At.far3 ?_ (by omega) _ _ _)))
    have NF : Nm W4 Aq (dl r.num.natAbs) cq r.num.natAbs := by rw [hW4]; (repeat (first | with_reducible exact nq1 | (with_reducible refine Nm.dr ?_) | (with_reducible refine Nm.al ?_ _) | (with_reducible refine Nm.putq ?_ ?_ _ _ _ _ _ _ _) | with_reducible exact HR | with_reducible exact HP0 | with_reducible exact HQ0 | (with_reducible refine At.dr ?_) | (with_reducible refine At.sput3 (v0 := .bool false) (v1 := .slice none 0 0) (v2 := .slice none 0 0) ?_ _ _ _) | (with_reducible refine At.al ?_ _) | (with_reducible refine At.far3 ?_ (by omega) _ _ _)))
    have DF : Nm W4 Ar (dl r.den) cr r.den := by rw [hW4]; (repeat (first | with_reducible exact nr | (with_reducible refine Nm.dr ?_) | (with_reducible refine Nm.al ?_ _) | (with_reducible refine Nm.putq ?_ ?_ _ _ _ _ _ _ _) | with_reducible exact HR | with_reducible exact HP0 | with_reducible exact HQ0 | (with_reducible refine At.dr ?_) | (with_reducible refine At.sput3 (v0 := .bool false) (v1 := .slice none 0 0) (v2 := .slice none 0 0) ?_ _ _ _) | (with_reducible refine At.al ?_ _) | (with_reducible refine At.far3 ?_ (by omega) _ _ _)))
    have BF : Bel W W4 := by rw [hW4]; (repeat (first | with_reducible exact HB | (with_reducible refine Bel.dr ?_) | (with_reducible refine Bel.al ?_ _) | (with_reducible refine Bel.put3 ?_ (by omega) _ _ _)))
    clear hW4
    refine bodyPost_ret (v := .agg #[.bool sg, .slice Aq (dl r.num.natAbs) cq, .slice Ar (dl r.den) cr]) (by simp [results, Tryz.results45, go_sem, HF.c0, HF.c1, HF.c2]) rfl ?_
    exact ⟨Aq, cq, Ar, cr, by rw [HS.out], zr_of NF, DF, BF⟩
end
end Go.Proofs.YtfcamfkimnlfgaaGreatDoor
end
