/- Several texts in one, each with its own sentence and conditions. -/
import Derived.Test.YthdpojkeceoiiaaDoorGJwc0
import Derived.Test.YthdpojkeceoiiaaDoorProg
import Derived.WalkSpells
import Derived.Lib.Strings
import Derived.Deep.Draws
import Derived.Shelf.Abstract
import Derived.Below
import Derived.WalkKit
import Derived.Deep.RegionHeld
import Derived.Shelf.Strings.OnBuilder
import Derived.Shelf.Strings.Split
import Derived.Shelf.Strings.Builder1
import Derived.Shelf.Strings.Builder2
import Derived.Shelf.LaysM
import Derived.Shelf.Strconv.Itoa3
import Derived.Shelf.Strconv.Itoa4
import Derived.Shelf.Strings.Prefix
import Derived.Shelf.Strings.SlTrimAscii
import Derived.Shelf.Small.Wraps
import Derived.Ground.NamesProg
import Derived.Deep.RegionHeld3
import Derived.Deep.CutRange
import Derived.Maps.OwnSet
import Derived.Maps.OwnOps
import Derived.StringKeys
section
/- Words: isDigit, isLetterOrDigit, consists, Good, Number. No conditions. -/
open Go.RowKit
set_option maxRecDepth 100000
namespace Go.Proofs.YthdpojkeceoiiaaDoor
theorem yhide {p : Prop} (h : p) : Hid p := h
theorem ybool {a b : Bool} (h : a = b) : Ending.returned (.bool a) = .returned (.bool b) := by rw [h]
theorem u8le (a b : UInt8) : (a ≤ b) ↔ a.toNat ≤ b.toNat := UInt8.le_iff_toNat_le
theorem isDigit_any (c : UInt8) (w : World) : Calls Tryd.prog 56 #[.int .u8 (c.toNat : Int)] w fun e w' => e = .returned (.bool (wdig c)) ∧ w = w' := by
  by_cases h1 : (48 : Int) ≤ (c.toNat : Int)
  · by_cases h2 : (c.toNat : Int) ≤ 57
    · have d1 : decide ((48 : Int) ≤ (c.toNat : Int)) = true := decide_eq_true h1
      have d2 : decide ((c.toNat : Int) ≤ 57) = true := decide_eq_true h2
      go_enter Tryd.func56, Tryd.ntmps56
      go_wp2
      go_ret
      exact ⟨ybool (by unfold wdig; simp only [u8le]; simp; omega), rfl⟩
    · have d1 : decide ((48 : Int) ≤ (c.toNat : Int)) = true := decide_eq_true h1
      have d2 : decide ((c.toNat : Int) ≤ 57) = false := decide_eq_false h2
      go_enter Tryd.func56, Tryd.ntmps56
      go_wp2
      go_ret
      exact ⟨ybool (by unfold wdig; simp only [u8le]; simp; omega), rfl⟩
  · have d1 : decide ((48 : Int) ≤ (c.toNat : Int)) = false := decide_eq_false h1
    go_enter Tryd.func56, Tryd.ntmps56
    go_wp2
    go_ret
    exact ⟨ybool (by unfold wdig; simp only [u8le]; simp; omega), rfl⟩
theorem isLetter_any (c : UInt8) (w : World) : Calls Tryd.prog 41 #[.int .u8 (c.toNat : Int)] w fun e w' => e = .returned (.bool (wchar c)) ∧ w = w' := by
  obtain ⟨d, hd⟩ : ∃ d, wdig c = d := ⟨_, rfl⟩
  have CD := yhide (fun W => isDigit_any c W)
  rw [hd] at CD
  have HD := yhide hd
  clear hd
  by_cases h1 : (97 : Int) ≤ (c.toNat : Int)
  · by_cases h2 : (c.toNat : Int) ≤ 122
    · have d1 : decide ((97 : Int) ≤ (c.toNat : Int)) = true := decide_eq_true h1
      have d2 : decide ((c.toNat : Int) ≤ 122) = true := decide_eq_true h2
      go_enter Tryd.func41, Tryd.ntmps41
      go_wp2_with (first | (go_at_call 56; (with_reducible refine (CD.out _).mono ?_); rintro e w1 ⟨rfl, rfl⟩) | fail)
      go_ret
      exact ⟨ybool (by unfold wchar; rw [HD.out]; simp only [u8le]; simp; omega), rfl⟩
    · have d1 : decide ((97 : Int) ≤ (c.toNat : Int)) = true := decide_eq_true h1
      have d2 : decide ((c.toNat : Int) ≤ 122) = false := decide_eq_false h2
      go_enter Tryd.func41, Tryd.ntmps41
      go_wp2_with (first | (go_at_call 56; (with_reducible refine (CD.out _).mono ?_); rintro e w1 ⟨rfl, rfl⟩) | fail)
      go_ret
      exact ⟨ybool (by unfold wchar; rw [HD.out]; simp only [u8le]; simp; omega), rfl⟩
  · have d1 : decide ((97 : Int) ≤ (c.toNat : Int)) = false := decide_eq_false h1
    go_enter Tryd.func41, Tryd.ntmps41
    go_wp2_with (first | (go_at_call 56; (with_reducible refine (CD.out _).mono ?_); rintro e w1 ⟨rfl, rfl⟩) | fail)
    go_ret
    exact ⟨ybool (by unfold wchar; rw [HD.out]; simp only [u8le]; simp; omega), rfl⟩
/-- As long as a word, and of bytes of one kind only. -/
def consB (p : UInt8 → Bool) (l : List UInt8) : Bool := decide (1 ≤ l.length) && (decide (l.length ≤ 20) && l.all p)
theorem all_take {p : UInt8 → Bool} {s : ByteArray} {k : Nat} (h : k < s.size) : (s.data.toList.take (k + 1)).all p = ((s.data.toList.take k).all p && p s[k]) := by
  have e : s.data.toList.take (k + 1) = s.data.toList.take k ++ [s[k]] := by
    rw [List.take_succ_eq_append_getElem (by simpa using h)]; rfl
  rw [e, List.all_append]; simp
theorem all_false {p : UInt8 → Bool} {s : ByteArray} {k : Nat} (h : k < s.size) (hp : p s[k] = false) : s.data.toList.all p = false := by
  rw [List.all_eq_false]
  refine ⟨s[k], ?_, by rw [hp]; simp⟩
  exact List.getElem_mem (l := s.data.toList) (n := k) (by simpa using h)
set_option maxHeartbeats 400000 in
theorem consists_any {p : UInt8 → Bool} {g : Nat} (hk : ∀ (c : UInt8) (W : World), Calls Tryd.prog g #[.int .u8 (c.toNat : Int)] W fun e w' => e = .returned (.bool (p c)) ∧ W = w')
    (hg : ∀ args W, (callFunc g args).run Tryd.prog W = .ok (.enter g args) W) (s : ByteArray) (w : World) :
    Calls Tryd.prog 40 #[.string s, .func (.func g) #[] #[]] w fun e w' => e = .returned (.bool (consB p s.data.toList)) ∧ w = w' := by
  have CK := yhide hk
  clear hk
  by_cases h0 : s.size = 0
  · have hl : s.toList = [] := by rw [Lib.toList_data]; exact List.eq_nil_of_length_eq_zero h0
    have HL : Hid (s.data.toList = []) := List.eq_nil_of_length_eq_zero h0
    clear h0
    go_enter Tryd.func40, Tryd.ntmps40
    go_wp2
    go_ret
    exact ⟨ybool (by rw [HL.out]; rfl), rfl⟩
  · have hl : s.toList.isEmpty = false := by
      rw [Lib.toList_data]
      cases h : s.data.toList with
      | nil => exact absurd (show s.size = 0 by rw [Lib.size_eq, h]; rfl) h0
      | cons a l => rfl
    by_cases h2 : 20 < s.size
    · clear h0
      have d2 : decide ((20 : Int) < (s.size : Int)) = true := decide_eq_true (by omega)
      have HB : Hid (20 < s.size) := h2
      go_enter Tryd.func40, Tryd.ntmps40
      go_wp2
      go_ret
      refine ⟨ybool ?_, rfl⟩
      have := HB.out
      rw [Lib.size_eq] at this
      unfold consB
      rw [decide_eq_false (show ¬ s.data.toList.length ≤ 20 by omega)]
      simp
    · have d2 : decide ((20 : Int) < (s.size : Int)) = false := decide_eq_false (by omega)
      have hs : s.size ≤ 20 := by omega
      have hs1 : 1 ≤ s.size := by omega
      clear h0 h2
      go_enter Tryd.func40, Tryd.ntmps40
      go_wp2
      go_loop [15] (fun iv => ∃ k : Nat, k ≤ s.size ∧ iv = .int .i64 (k : Int) ∧ Hid ((s.data.toList.take k).all p = true)) (fun iv => s.size - (intOf iv).toNat)
      case atStart => exact ⟨0, Nat.zero_le _, rfl, rfl⟩
      case round =>
        obtain ⟨k, hk, rfl, hall⟩ := hrel
        by_cases hlt : k < s.size
        · obtain ⟨b, hb⟩ : ∃ b, p s[k] = b := ⟨_, rfl⟩
          have HP := yhide hb
          clear hb
          have CC : Hid (∀ W : World, Calls Tryd.prog g #[.int .u8 (s[k].toNat : Int)] W fun e w' => e = .returned (.bool b) ∧ W = w') := fun W => by
            have := CK.out s[k] W
            rwa [HP.out] at this
          cases b
          · go_wp2_with (first | ((with_reducible refine (CC.out _).mono ?_); rintro e w1 ⟨rfl, rfl⟩) | fail)
            go_ret
            exact ⟨ybool (by unfold consB; rw [all_false hlt HP.out]; simp), rfl⟩
          · go_wp2_with (first | ((with_reducible refine (CC.out _).mono ?_); rintro e w1 ⟨rfl, rfl⟩) | fail)
            go_round
            case rel => exact ⟨k + 1, by omega, by go_num, by unfold Hid; rw [all_take hlt, hall.out, HP.out]; rfl⟩
            case measure => simp [intOf]; omega
        · obtain rfl : k = s.size := by omega
          go_wp2
          go_ret
          refine ⟨ybool ?_, rfl⟩
          have h3 := hall.out
          rw [List.take_of_length_le (by rw [Lib.size_eq]; exact Nat.le_refl _)] at h3
          rw [Lib.size_eq] at hs hs1
          unfold consB
          rw [h3, decide_eq_true hs, decide_eq_true hs1]; rfl
end Go.Proofs.YthdpojkeceoiiaaDoor
end

section
/- Words: Good, Number; are two rows of texts alike (texts). Conditions: rows that fit. -/
open Go.RowKit
set_option maxRecDepth 100000
namespace Go.Proofs.YthdpojkeceoiiaaDoor
theorem good_cons (l : List UInt8) : goodW l = consB wchar l := rfl
theorem wgood_any (s : ByteArray) (w : World) : Calls Tryd.prog 24 #[.string s] w fun e w' => e = .returned (.bool (goodW s.data.toList)) ∧ w = w' := by
  have CC := yhide (fun W => consists_any (g := 41) isLetter_any (enters_of Tryd.func41 (by kernel_rfl) rfl) s W)
  go_enter Tryd.func24, Tryd.ntmps24
  go_wp2_with (first | (go_at_call 40; (with_reducible refine (CC.out _).mono ?_); rintro e w1 ⟨rfl, rfl⟩) | fail)
  go_ret
  exact ⟨rfl, rfl⟩
theorem num_head {s : ByteArray} (h : 0 < s.size) : decide (s.data.toList.head? ≠ some 48) = !((s[0].toNat : Int) == 48) := by
  obtain ⟨⟨l⟩⟩ := s
  cases l with
  | nil => simp [ByteArray.size] at h
  | cons c l =>
    have e : (⟨⟨c :: l⟩⟩ : ByteArray)[0] = c := rfl
    rw [e]
    by_cases hc : c = 48
    · subst hc; rfl
    · have h2 : ((c.toNat : Int) == 48) = false := by
        rw [beq_eq_false_iff_ne]
        intro e2
        exact hc (UInt8.toNat_inj.1 (by simpa using (show c.toNat = 48 by omega)))
      rw [h2]
      simp [hc]
theorem wnumber_any (s : ByteArray) (w : World) : Calls Tryd.prog 43 #[.string s] w fun e w' => e = .returned (.bool (numW s.data.toList)) ∧ w = w' := by
  obtain ⟨b, hb⟩ : ∃ b, consB wdig s.data.toList = b := ⟨_, rfl⟩
  have CC := yhide (fun W => consists_any (g := 56) isDigit_any (enters_of Tryd.func56 (by kernel_rfl) rfl) s W)
  rw [hb] at CC
  have HB := yhide hb
  clear hb
  cases b
  · go_enter Tryd.func43, Tryd.ntmps43
    go_wp2_with (first | (go_at_call 40; (with_reducible refine (CC.out _).mono ?_); rintro e w1 ⟨rfl, rfl⟩) | fail)
    go_ret
    refine ⟨ybool ?_, rfl⟩
    have h := HB.out
    unfold consB at h
    unfold numW
    rw [← Bool.and_assoc, ← Bool.and_assoc, Bool.and_assoc (decide _) (decide _) (List.all _ _), h]; rfl
  · have hs : 0 < s.size := by
      have h := HB.out
      unfold consB at h
      simp only [Bool.and_eq_true, decide_eq_true_eq] at h
      rw [Lib.size_eq]; omega
    have HN : Hid (numW s.data.toList = !((s[0].toNat : Int) == 48)) := by
      unfold Hid
      rw [← num_head hs]
      have h := HB.out
      unfold consB at h
      simp only [Bool.and_eq_true] at h
      unfold numW
      rw [h.1, h.2.1, h.2.2]; rfl
    cases hc : ((s[0].toNat : Int) == 48)
    · rw [hc] at HN
      go_enter Tryd.func43, Tryd.ntmps43
      go_wp2_with (first | (go_at_call 40; (with_reducible refine (CC.out _).mono ?_); rintro e w1 ⟨rfl, rfl⟩) | fail)
      go_ret
      exact ⟨ybool (by rw [HN.out, bne, hc]), rfl⟩
    · rw [hc] at HN
      go_enter Tryd.func43, Tryd.ntmps43
      go_wp2_with (first | (go_at_call 40; (with_reducible refine (CC.out _).mono ?_); rintro e w1 ⟨rfl, rfl⟩) | fail)
      go_ret
      exact ⟨ybool (by rw [HN.out, bne, hc]), rfl⟩
theorem ydrew_cell {W W2 : World} {nq : Nat} (h : W2 = W.drewN nq) {p : Addr} {v : Value} (hc : W.cell? p = some v) : W2.cell? p = some v := by rw [h]; exact hc
theorem ydrew_more {w W : World} {q k : Nat} (h : Hid (W = w.drewN q)) : ∃ q2, W.drewN k = w.drewN q2 := by
  rw [h.out]; exact ⟨q + k, by simp [World.drewN, Nat.add_assoc]⟩
theorem take_eq {xs ys : List ByteArray} {k : Nat} (h : k < xs.length) (h' : k < ys.length) (ht : xs.take k = ys.take k) (he : xs[k] = ys[k]) : xs.take (k + 1) = ys.take (k + 1) := by
  rw [List.take_succ_eq_append_getElem h, List.take_succ_eq_append_getElem h', ht, he]
def TextsR (W : World) (b : Bool) (e : Ending) (w' : World) : Prop := e = .returned (.bool b) ∧ Hid (Below W.heap.size W w')
/-- As it is drawn: nothing but draws. -/
def TextsQ (W : World) (b : Bool) (e : Ending) (w' : World) : Prop := e = .returned (.bool b) ∧ ∃ n, w' = W.drewN n
end Go.Proofs.YthdpojkeceoiiaaDoor
end

section
/- Facts that go on through calls: a box known whole, a world above another. No conditions. -/
open Go.RowKit
set_option maxRecDepth 100000
namespace Go.Proofs.YthdpojkeceoiiaaDoor
/-- Block p holds the values, and may be written. -/
structure At (W : World) (p : Nat) (vs : List Value) : Prop where
  lt : p < W.heap.size
  all : ∀ i v, vs[i]? = some v → W.cell? ⟨p, i, none⟩ = some v ∧ W.frozen? ⟨p, i, none⟩ = false
def Bel (w W : World) : Prop := Below w.heap.size w W
theorem Bel.refl (w : World) : Bel w w := Below.refl _ _
theorem Bel.up {w W W' : World} (h : Bel w W) (hb : Hid (Below W.heap.size W W')) : Bel w W' := Below.trans h (hb.out.mono (Below.size h))
theorem Bel.al {w W : World} (h : Bel w W) (o : Obj) : Bel w (W.alloc o) := Below.alloc h (Below.size h) o
theorem Bel.dr {w W : World} (h : Bel w W) : Bel w W.drew := Below.drew h
theorem Bel.hid {w W : World} (h : Bel w W) : Hid (Below w.heap.size w W) := h
theorem Bel.of {w W : World} (h : Hid (Below w.heap.size w W)) : Bel w W := h
section
variable {W W' : World} {p : Nat} {u v x : Value} {vs : List Value}
theorem At.up (h : At W p vs) (hb : Hid (Below W.heap.size W W')) : At W' p vs :=
  ⟨Nat.lt_of_lt_of_le h.lt hb.out.size, fun i v hv => ⟨(hb.out.cell h.lt).trans (h.all i v hv).1, (hb.out.frozen h.lt).trans (h.all i v hv).2⟩⟩
theorem At.al (h : At W p vs) (o : Obj) : At (W.alloc o) p vs := h.up ((Below.refl _ _).alloc (Nat.le_refl _) o)
theorem At.dr (h : At W p vs) : At W.drew p vs := ⟨h.lt, h.all⟩
theorem At.c0 (h : At W p (v :: vs)) : W.cell? ⟨p, 0, none⟩ = some v := (h.all 0 v rfl).1
theorem At.c1 (h : At W p (u :: v :: vs)) : W.cell? ⟨p, 1, none⟩ = some v := (h.all 1 v rfl).1
theorem At.c2 (h : At W p (x :: u :: v :: vs)) : W.cell? ⟨p, 2, none⟩ = some v := (h.all 2 v rfl).1
theorem At.f0 (h : At W p (v :: vs)) : W.frozen? ⟨p, 0, none⟩ = false := (h.all 0 v rfl).2
theorem At.f1 (h : At W p (u :: v :: vs)) : W.frozen? ⟨p, 1, none⟩ = false := (h.all 1 v rfl).2
theorem At.f2 (h : At W p (x :: u :: v :: vs)) : W.frozen? ⟨p, 2, none⟩ = false := (h.all 2 v rfl).2
theorem at_new0 (W : World) (vs : List Value) (t : TypeId) : At (W.alloc (.cells vs.toArray t)) W.heap.size vs := by
  have h : (W.alloc (.cells vs.toArray t)).heap[W.heap.size]? = some (.cells vs.toArray t (0, 0)) := heap_alloc_new W _
  refine ⟨by simp, fun i v hv => ⟨?_, by unfold World.frozen?; rw [h]; simp⟩⟩
  rw [cell_of_row _ _ i _ t (0, 0) h]
  simpa using hv
theorem at_size {W X : World} {p : Nat} {vs : List Value} (h : At X W.heap.size vs) (e : W.heap.size = p) : At X p vs := e ▸ h
theorem at_new1 (W : World) (o : Obj) (vs : List Value) (t : TypeId) : At ((W.alloc o).alloc (.cells vs.toArray t)) (W.heap.size + 1) vs := at_size (at_new0 (W.alloc o) vs t) (by simp)
theorem at_new2 (W : World) (o o1 : Obj) (vs : List Value) (t : TypeId) : At (((W.alloc o).alloc o1).alloc (.cells vs.toArray t)) (W.heap.size + 1 + 1) vs := at_size (at_new0 ((W.alloc o).alloc o1) vs t) (by simp)
theorem at_new3 (W : World) (o o1 o2 : Obj) (vs : List Value) (t : TypeId) : At ((((W.alloc o).alloc o1).alloc o2).alloc (.cells vs.toArray t)) (W.heap.size + 1 + 1 + 1) vs := at_size (at_new0 (((W.alloc o).alloc o1).alloc o2) vs t) (by simp)
theorem at_new4 (W : World) (o o1 o2 o3 : Obj) (vs : List Value) (t : TypeId) : At (((((W.alloc o).alloc o1).alloc o2).alloc o3).alloc (.cells vs.toArray t)) (W.heap.size + 1 + 1 + 1 + 1) vs := at_size (at_new0 ((((W.alloc o).alloc o1).alloc o2).alloc o3) vs t) (by simp)
/-- A write into another block. -/
theorem At.far {q i : Nat} (h : At W p vs) (hq : q ≠ p) (u : Value) : At (W.setCell ⟨q, i, none⟩ u) p vs :=
  ⟨by have := h.lt; simpa [World.setCell] using this, fun j v hv => ⟨(World.cell?_setCell_far _ _ _ _ hq).trans (h.all j v hv).1, by rw [World.frozen?_setCell]; exact (h.all j v hv).2⟩⟩
/-- A write into this one. -/
theorem At.put {i : Nat} (h : At W p vs) (hi : i < vs.length) (u : Value) : At (W.setCell ⟨p, i, none⟩ u) p (vs.set i u) := by
  refine ⟨by have := h.lt; simpa [World.setCell] using this, fun j v hv => ?_⟩
  by_cases e : i = j
  · subst e
    rw [List.getElem?_set_self hi] at hv
    injection hv with hv
    obtain ⟨h1, h2⟩ := h.all i _ (List.getElem?_eq_getElem hi)
    exact ⟨by rw [← hv]; exact World.cell?_setCell_same _ _ _ h1, by rw [World.frozen?_setCell]; exact h2⟩
  · rw [List.getElem?_set_ne e] at hv
    exact ⟨(World.cell?_setCell_other _ _ _ _ (by intro h3; injection h3 with _ h4; exact e h4)).trans (h.all j v hv).1, by rw [World.frozen?_setCell]; exact (h.all j v hv).2⟩
theorem At.ci (h : At W p vs) {i : Nat} (hi : vs[i]? = some v) : W.cell? ⟨p, i, none⟩ = some v := (h.all i v hi).1
theorem At.fi (h : At W p vs) {i : Nat} (hi : vs[i]? = some v) : W.frozen? ⟨p, i, none⟩ = false := (h.all i v hi).2
end
def RetB (W : World) (b : Bool) (e : Ending) (w' : World) : Prop := e = .returned (.bool b) ∧ Bel W w'
end Go.Proofs.YthdpojkeceoiiaaDoor
end

section
/- Contracts of strings.Join, Index, Count and genSplit at this dump, laid by the shelf's command in plain words. Conditions: as each says. -/
namespace Go.Proofs
open Go.Shelf
def Tryd.lays156_ren : Go.Shelf.Ren := ⟨fun | 156 => 15 | 165 => 31 | 166 => 32 | 169 => 33 | 240 => 47 | 241 => 48 | 276 => 65 | 277 => 66 | n => n, fun | 31 => 29 | 9 => 9 | 3 => 3 | 4 => 4 | 0 => 0 | 20 => 20 | 72 => 77 | 76 => 81 | 70 => 75 | 37 => 59 | 75 => 80 | 127 => 105 | 164 => 121 | 5 => 5 | 80 => 83 | n => n, fun | n => n⟩
theorem Tryd.lays156 : Go.Proofs.Lays.n156 Tryd.prog Tryd.lays156_ren := {
  mixed := by kernel_rfl
  f156 := Tryd.func15.trans (congrArg some (by kernel_rfl))
  f165 := Tryd.func31.trans (congrArg some (by kernel_rfl))
  f166 := Tryd.func32.trans (congrArg some (by kernel_rfl))
  f169 := Tryd.func33.trans (congrArg some (by kernel_rfl))
  f240 := Tryd.func47.trans (congrArg some (by kernel_rfl))
  f241 := Tryd.func48.trans (congrArg some (by kernel_rfl))
  f276 := Tryd.func65.trans (congrArg some (by kernel_rfl))
  f277 := Tryd.func66.trans (congrArg some (by kernel_rfl))
  t0 := Tryd.underlying0
  a0 := Tryd.isAgg0
  z0 := Tryd.sizeOf0
  v0 := Tryd.zeroValue0
  t3 := Tryd.underlying3
  a3 := Tryd.isAgg3
  z3 := Tryd.sizeOf3
  v3 := Tryd.zeroValue3
  t4 := Tryd.underlying4
  a4 := Tryd.isAgg4
  z4 := Tryd.sizeOf4
  v4 := Tryd.zeroValue4
  t9 := Tryd.underlying9
  a9 := Tryd.isAgg9
  z9 := Tryd.sizeOf9
  v9 := Tryd.zeroValue9
  t20 := Tryd.underlying20
  a20 := Tryd.isAgg20
  z20 := Tryd.sizeOf20
  v20 := Tryd.zeroValue20
  t31 := Tryd.underlying29
  a31 := Tryd.isAgg29
  z31 := Tryd.sizeOf29
  v31 := Tryd.zeroValue29
  t37 := Tryd.underlying59
  a37 := Tryd.isAgg59
  z37 := Tryd.sizeOf59
  v37 := Tryd.zeroValue59
  t70 := Tryd.underlying75
  a70 := Tryd.isAgg75
  z70 := Tryd.sizeOf75
  v70 := Tryd.zeroValue75
  t72 := Tryd.underlying77
  a72 := Tryd.isAgg77
  z72 := Tryd.sizeOf77
  v72 := Tryd.zeroValue77
  t75 := Tryd.underlying80
  a75 := Tryd.isAgg80
  z75 := Tryd.sizeOf80
  v75 := Tryd.zeroValue80
  t76 := Tryd.underlying81
  a76 := Tryd.isAgg81
  z76 := Tryd.sizeOf81
  v76 := Tryd.zeroValue81
  t127 := Tryd.underlying105
  a127 := Tryd.isAgg105
  z127 := Tryd.sizeOf105
  v127 := Tryd.zeroValue105
  t164 := Tryd.underlying121
  a164 := Tryd.isAgg121
  z164 := Tryd.sizeOf121
  v164 := Tryd.zeroValue121 }
theorem Tryd.Builder_Extra_156 : Builder.Extra Tryd.prog Tryd.lays156_ren := {
  sizeBuilder := by kernel_rfl
  liesBuilder := by kernel_rfl
  t5 := Tryd.underlying5
  a5 := Tryd.isAgg5
  z5 := Tryd.sizeOf5
  v5 := Tryd.zeroValue5
  infoByte := by kernel_rfl
  cellsByte := by kernel_rfl
  sizeByte := by kernel_rfl
  neB5 := by decide }
open Go.RowKit in
theorem Tryd.strings_Join_none (a : Option Addr) (c : Nat) (sep : ByteArray) (w : World) :
    Calls Tryd.prog 15 #[.slice a 0 c, .string sep] w fun e w' => e = .returned (.string ⟨#[]⟩) ∧ w' = w := Any.strings_Join_none Tryd.lays156 Tryd.Builder_Extra_156 a c sep w
open Go.RowKit in
theorem Tryd.strings_Join (bk o c : Nat) (xs : List ByteArray) (sep : ByteArray) (w : World) (hcells : ∀ (j : Nat) x, xs[j]? = some x → w.cell? ⟨bk, o + j, none⟩ = some (.string x)) (hbk : bk < w.heap.size) (hN : xs.length ≤ 140737488355328) (hcap : xs.length ≤ c) (hlen : (Lib.join (xs.map (·.data.toList)) sep.data.toList).length ≤ 140737488355328) :
    Calls Tryd.prog 15 #[.slice (some ⟨bk, o, none⟩) xs.length c, .string sep] w fun e w' => e = .returned (.string ⟨(Lib.join (xs.map (·.data.toList)) sep.data.toList).toArray⟩) ∧ Below w.heap.size w w' := Any.strings_Join Tryd.lays156 Tryd.Builder_Extra_156 bk o c xs sep w hcells hbk hN hcap hlen
def Tryd.lays215_ren : Go.Shelf.Ren := ⟨fun | 215 => 75 | n => n, fun | 3 => 3 | 4 => 4 | n => n, fun | n => n⟩
theorem Tryd.lays215 : Go.Proofs.Lays.n215 Tryd.prog Tryd.lays215_ren := {
  mixed := by kernel_rfl
  f215 := Tryd.func75.trans (congrArg some (by kernel_rfl))
  t3 := Tryd.underlying3
  a3 := Tryd.isAgg3
  z3 := Tryd.sizeOf3
  v3 := Tryd.zeroValue3
  t4 := Tryd.underlying4
  a4 := Tryd.isAgg4
  z4 := Tryd.sizeOf4
  v4 := Tryd.zeroValue4 }
def Tryd.lays122_ren : Go.Shelf.Ren := ⟨fun | 122 => 63 | 215 => 75 | n => n, fun | 3 => 3 | 4 => 4 | n => n, fun | n => n⟩
theorem Tryd.lays122 : Go.Proofs.Lays.n122 Tryd.prog Tryd.lays122_ren := {
  mixed := by kernel_rfl
  f122 := Tryd.func63.trans (congrArg some (by kernel_rfl))
  f215 := Tryd.func75.trans (congrArg some (by kernel_rfl))
  t3 := Tryd.underlying3
  a3 := Tryd.isAgg3
  z3 := Tryd.sizeOf3
  v3 := Tryd.zeroValue3
  t4 := Tryd.underlying4
  a4 := Tryd.isAgg4
  z4 := Tryd.sizeOf4
  v4 := Tryd.zeroValue4 }
open Go.RowKit in
theorem Tryd.cmp_Compare_int (x y : Int) (w : World) :
    Calls Tryd.prog 63 #[.int .i64 x, .int .i64 y] w fun e w' => e = .returned (.int .i64 (Lib.compareInt x y)) ∧ w' = w := Any.cmp_Compare_int Tryd.lays122 x y w
def Tryd.lays171_ren : Go.Shelf.Ren := ⟨fun | 171 => 74 | 243 => 85 | 246 => 88 | 283 => 89 | 284 => 90 | 285 => 91 | 286 => 92 | 129 => 94 | 317 => 93 | 318 => 95 | 319 => 96 | 320 => 97 | 337 => 98 | 338 => 99 | n => n, fun | 3 => 3 | 9 => 9 | 2 => 2 | 4 => 4 | 171 => 139 | 0 => 0 | 53 => 69 | 37 => 59 | 5 => 5 | 173 => 142 | 212 => 145 | 51 => 60 | 20 => 20 | 213 => 146 | 46 => 87 | 232 => 149 | 233 => 150 | n => n, fun | 17 => 3 | 18 => 4 | 19 => 5 | n => n⟩
theorem Tryd.lays171 : Go.Proofs.Lays.n171 Tryd.prog Tryd.lays171_ren := {
  mixed := by kernel_rfl
  f129 := Tryd.func94.trans (congrArg some (by kernel_rfl))
  f171 := Tryd.func74.trans (congrArg some (by kernel_rfl))
  f243 := Tryd.func85.trans (congrArg some (by kernel_rfl))
  f246 := Tryd.func88.trans (congrArg some (by kernel_rfl))
  f283 := Tryd.func89.trans (congrArg some (by kernel_rfl))
  f284 := Tryd.func90.trans (congrArg some (by kernel_rfl))
  f285 := Tryd.func91.trans (congrArg some (by kernel_rfl))
  f286 := Tryd.func92.trans (congrArg some (by kernel_rfl))
  f317 := Tryd.func93.trans (congrArg some (by kernel_rfl))
  f318 := Tryd.func95.trans (congrArg some (by kernel_rfl))
  f319 := Tryd.func96.trans (congrArg some (by kernel_rfl))
  f320 := Tryd.func97.trans (congrArg some (by kernel_rfl))
  f337 := Tryd.func98.trans (congrArg some (by kernel_rfl))
  f338 := Tryd.func99.trans (congrArg some (by kernel_rfl))
  t0 := Tryd.underlying0
  a0 := Tryd.isAgg0
  z0 := Tryd.sizeOf0
  v0 := Tryd.zeroValue0
  t2 := Tryd.underlying2
  a2 := Tryd.isAgg2
  z2 := Tryd.sizeOf2
  v2 := Tryd.zeroValue2
  t3 := Tryd.underlying3
  a3 := Tryd.isAgg3
  z3 := Tryd.sizeOf3
  v3 := Tryd.zeroValue3
  t4 := Tryd.underlying4
  a4 := Tryd.isAgg4
  z4 := Tryd.sizeOf4
  v4 := Tryd.zeroValue4
  t5 := Tryd.underlying5
  a5 := Tryd.isAgg5
  z5 := Tryd.sizeOf5
  v5 := Tryd.zeroValue5
  t9 := Tryd.underlying9
  a9 := Tryd.isAgg9
  z9 := Tryd.sizeOf9
  v9 := Tryd.zeroValue9
  t20 := Tryd.underlying20
  a20 := Tryd.isAgg20
  z20 := Tryd.sizeOf20
  v20 := Tryd.zeroValue20
  t37 := Tryd.underlying59
  a37 := Tryd.isAgg59
  z37 := Tryd.sizeOf59
  v37 := Tryd.zeroValue59
  t46 := Tryd.underlying87
  a46 := Tryd.isAgg87
  z46 := Tryd.sizeOf87
  v46 := Tryd.zeroValue87
  t51 := Tryd.underlying60
  a51 := Tryd.isAgg60
  z51 := Tryd.sizeOf60
  v51 := Tryd.zeroValue60
  t53 := Tryd.underlying69
  a53 := Tryd.isAgg69
  z53 := Tryd.sizeOf69
  v53 := Tryd.zeroValue69
  t171 := Tryd.underlying139
  a171 := Tryd.isAgg139
  z171 := Tryd.sizeOf139
  v171 := Tryd.zeroValue139
  t173 := Tryd.underlying142
  a173 := Tryd.isAgg142
  z173 := Tryd.sizeOf142
  v173 := Tryd.zeroValue142
  t212 := Tryd.underlying145
  a212 := Tryd.isAgg145
  z212 := Tryd.sizeOf145
  v212 := Tryd.zeroValue145
  t213 := Tryd.underlying146
  a213 := Tryd.isAgg146
  z213 := Tryd.sizeOf146
  t232 := Tryd.underlying149
  a232 := Tryd.isAgg149
  z232 := Tryd.sizeOf149
  v232 := Tryd.zeroValue149
  t233 := Tryd.underlying150
  a233 := Tryd.isAgg150
  z233 := Tryd.sizeOf150
  v233 := Tryd.zeroValue150
  g17 := by kernel_rfl
  g18 := by kernel_rfl
  g19 := by kernel_rfl }
open Go.RowKit Go.Sort Go.Lib in
theorem Tryd.strconv_Itoa_small (i : Nat) (hi : i < 100) (w : World) :
    Calls Tryd.prog 74 #[.int .i64 i] w fun e w' => e = .returned (.string ⟨(Lib.decDigits i).toArray⟩) ∧ w' = w := Any.strconv_Itoa_small Tryd.lays171 i hi w
def Tryd.lays143_ren : Go.Shelf.Ren := ⟨fun | 143 => 55 | 219 => 71 | 217 => 81 | 225 => 80 | 224 => 79 | 267 => 82 | 266 => 86 | 314 => 87 | n => n, fun | 9 => 9 | 3 => 3 | 4 => 4 | 5 => 5 | 46 => 87 | 146 => 136 | 51 => 60 | n => n, fun | 1 => 0 | n => n⟩
theorem Tryd.lays143 : Go.Proofs.Lays.n143 Tryd.prog Tryd.lays143_ren := {
  mixed := by kernel_rfl
  f143 := Tryd.func55.trans (congrArg some (by kernel_rfl))
  f217 := Tryd.func81.trans (congrArg some (by kernel_rfl))
  f219 := Tryd.func71.trans (congrArg some (by kernel_rfl))
  f224 := Tryd.func79.trans (congrArg some (by kernel_rfl))
  f225 := Tryd.func80.trans (congrArg some (by kernel_rfl))
  f266 := Tryd.func86.trans (congrArg some (by kernel_rfl))
  f267 := Tryd.func82.trans (congrArg some (by kernel_rfl))
  f314 := Tryd.func87.trans (congrArg some (by kernel_rfl))
  t3 := Tryd.underlying3
  a3 := Tryd.isAgg3
  z3 := Tryd.sizeOf3
  v3 := Tryd.zeroValue3
  t4 := Tryd.underlying4
  a4 := Tryd.isAgg4
  z4 := Tryd.sizeOf4
  v4 := Tryd.zeroValue4
  t5 := Tryd.underlying5
  a5 := Tryd.isAgg5
  z5 := Tryd.sizeOf5
  v5 := Tryd.zeroValue5
  t9 := Tryd.underlying9
  a9 := Tryd.isAgg9
  z9 := Tryd.sizeOf9
  v9 := Tryd.zeroValue9
  t46 := Tryd.underlying87
  a46 := Tryd.isAgg87
  z46 := Tryd.sizeOf87
  v46 := Tryd.zeroValue87
  t51 := Tryd.underlying60
  a51 := Tryd.isAgg60
  z51 := Tryd.sizeOf60
  v51 := Tryd.zeroValue60
  t146 := Tryd.underlying136
  a146 := Tryd.isAgg136
  z146 := Tryd.sizeOf136
  v146 := Tryd.zeroValue136
  g1 := by kernel_rfl }
open Go.RowKit Go.Lib in
theorem Tryd.strings_Index_one (s : ByteArray) (c : UInt8) (w : World) :
    Calls Tryd.prog 55 #[.string s, .string ⟨#[c]⟩] w fun e w' => e = .returned (.int .i64 (Lib.indexByte s.data.toList c)) ∧ w' = w := Any.strings_Index_one Tryd.lays143 s c w
def Tryd.lays138_ren : Go.Shelf.Ren := ⟨fun | 138 => 54 | 195 => 69 | 218 => 70 | 143 => 55 | 219 => 71 | 217 => 81 | 225 => 80 | 224 => 79 | 267 => 82 | 266 => 86 | 314 => 87 | n => n, fun | 9 => 9 | 3 => 3 | 4 => 4 | 5 => 5 | 0 => 0 | 46 => 87 | 146 => 136 | 51 => 60 | n => n, fun | 1 => 0 | n => n⟩
theorem Tryd.lays138 : Go.Proofs.Lays.n138 Tryd.prog Tryd.lays138_ren := {
  mixed := by kernel_rfl
  f138 := Tryd.func54.trans (congrArg some (by kernel_rfl))
  f143 := Tryd.func55.trans (congrArg some (by kernel_rfl))
  f195 := Tryd.func69.trans (congrArg some (by kernel_rfl))
  f217 := Tryd.func81.trans (congrArg some (by kernel_rfl))
  f218 := Tryd.func70.trans (congrArg some (by kernel_rfl))
  f219 := Tryd.func71.trans (congrArg some (by kernel_rfl))
  f224 := Tryd.func79.trans (congrArg some (by kernel_rfl))
  f225 := Tryd.func80.trans (congrArg some (by kernel_rfl))
  f266 := Tryd.func86.trans (congrArg some (by kernel_rfl))
  f267 := Tryd.func82.trans (congrArg some (by kernel_rfl))
  f314 := Tryd.func87.trans (congrArg some (by kernel_rfl))
  t0 := Tryd.underlying0
  a0 := Tryd.isAgg0
  z0 := Tryd.sizeOf0
  v0 := Tryd.zeroValue0
  t3 := Tryd.underlying3
  a3 := Tryd.isAgg3
  z3 := Tryd.sizeOf3
  v3 := Tryd.zeroValue3
  t4 := Tryd.underlying4
  a4 := Tryd.isAgg4
  z4 := Tryd.sizeOf4
  v4 := Tryd.zeroValue4
  t5 := Tryd.underlying5
  a5 := Tryd.isAgg5
  z5 := Tryd.sizeOf5
  v5 := Tryd.zeroValue5
  t9 := Tryd.underlying9
  a9 := Tryd.isAgg9
  z9 := Tryd.sizeOf9
  v9 := Tryd.zeroValue9
  t46 := Tryd.underlying87
  a46 := Tryd.isAgg87
  z46 := Tryd.sizeOf87
  v46 := Tryd.zeroValue87
  t51 := Tryd.underlying60
  a51 := Tryd.isAgg60
  z51 := Tryd.sizeOf60
  v51 := Tryd.zeroValue60
  t146 := Tryd.underlying136
  a146 := Tryd.isAgg136
  z146 := Tryd.sizeOf136
  v146 := Tryd.zeroValue136
  g1 := by kernel_rfl }
open Go.RowKit Go.Lib in
theorem Tryd.strings_Count_one (s : ByteArray) (c : UInt8) (w : World) :
    Calls Tryd.prog 54 #[.string s, .string ⟨#[c]⟩] w fun e w' => e = .returned (.int .i64 (Lib.countByte s.data.toList c)) ∧ w' = w := Any.strings_Count_one Tryd.lays138 s c w
def Tryd.lays99_ren : Go.Shelf.Ren := ⟨fun | 99 => 73 | 206 => 84 | n => n, fun | 9 => 9 | 4 => 4 | 3 => 3 | n => n, fun | n => n⟩
theorem Tryd.lays99 : Go.Proofs.Lays.n99 Tryd.prog Tryd.lays99_ren := {
  mixed := by kernel_rfl
  f99 := Tryd.func73.trans (congrArg some (by kernel_rfl))
  f206 := Tryd.func84.trans (congrArg some (by kernel_rfl))
  t3 := Tryd.underlying3
  a3 := Tryd.isAgg3
  z3 := Tryd.sizeOf3
  v3 := Tryd.zeroValue3
  t4 := Tryd.underlying4
  a4 := Tryd.isAgg4
  z4 := Tryd.sizeOf4
  v4 := Tryd.zeroValue4
  t9 := Tryd.underlying9
  a9 := Tryd.isAgg9
  z9 := Tryd.sizeOf9
  v9 := Tryd.zeroValue9 }
open Go.RowKit Go.Lib in
theorem Tryd.strings_HasPrefix (s p : ByteArray) (w : World) :
    Calls Tryd.prog 73 #[.string s, .string p] w fun e w' => e = .returned (.bool (Lib.hasPrefix s.data.toList p.data.toList)) ∧ w' = w := Any.strings_HasPrefix Tryd.lays99 s p w
def Tryd.lays100_ren : Go.Shelf.Ren := ⟨fun | 100 => 72 | 207 => 83 | n => n, fun | 9 => 9 | 4 => 4 | 3 => 3 | n => n, fun | n => n⟩
theorem Tryd.lays100 : Go.Proofs.Lays.n100 Tryd.prog Tryd.lays100_ren := {
  mixed := by kernel_rfl
  f100 := Tryd.func72.trans (congrArg some (by kernel_rfl))
  f207 := Tryd.func83.trans (congrArg some (by kernel_rfl))
  t3 := Tryd.underlying3
  a3 := Tryd.isAgg3
  z3 := Tryd.sizeOf3
  v3 := Tryd.zeroValue3
  t4 := Tryd.underlying4
  a4 := Tryd.isAgg4
  z4 := Tryd.sizeOf4
  v4 := Tryd.zeroValue4
  t9 := Tryd.underlying9
  a9 := Tryd.isAgg9
  z9 := Tryd.sizeOf9
  v9 := Tryd.zeroValue9 }
open Go.RowKit Go.Lib in
theorem Tryd.strings_HasSuffix (s p : ByteArray) (w : World) (hs : s.size ≤ 9223372036854775807) :
    Calls Tryd.prog 72 #[.string s, .string p] w fun e w' => e = .returned (.bool (Lib.hasSuffix s.data.toList p.data.toList)) ∧ w' = w := Any.strings_HasSuffix Tryd.lays100 s p w hs
def Tryd.lays221_ren : Go.Shelf.Ren := ⟨fun | 221 => 39 | 268 => 53 | 138 => 54 | 143 => 55 | 195 => 69 | 197 => 51 | 218 => 70 | 219 => 71 | 260 => 67 | 217 => 81 | 225 => 80 | 224 => 79 | 267 => 82 | 266 => 86 | 314 => 87 | n => n, fun | 9 => 9 | 3 => 3 | 31 => 29 | 4 => 4 | 0 => 0 | 105 => 107 | 21 => 21 | 5 => 5 | 46 => 87 | 119 => 130 | 139 => 133 | 138 => 132 | 146 => 136 | 51 => 60 | n => n, fun | 1 => 0 | 3 => 1 | 4 => 2 | n => n⟩
theorem Tryd.lays221 : Go.Proofs.Lays.n221 Tryd.prog Tryd.lays221_ren := {
  mixed := by kernel_rfl
  f138 := Tryd.func54.trans (congrArg some (by kernel_rfl))
  f143 := Tryd.func55.trans (congrArg some (by kernel_rfl))
  f195 := Tryd.func69.trans (congrArg some (by kernel_rfl))
  f197 := Tryd.func51.trans (congrArg some (by kernel_rfl))
  f217 := Tryd.func81.trans (congrArg some (by kernel_rfl))
  f218 := Tryd.func70.trans (congrArg some (by kernel_rfl))
  f219 := Tryd.func71.trans (congrArg some (by kernel_rfl))
  f221 := Tryd.func39.trans (congrArg some (by kernel_rfl))
  f224 := Tryd.func79.trans (congrArg some (by kernel_rfl))
  f225 := Tryd.func80.trans (congrArg some (by kernel_rfl))
  f260 := Tryd.func67.trans (congrArg some (by kernel_rfl))
  f266 := Tryd.func86.trans (congrArg some (by kernel_rfl))
  f267 := Tryd.func82.trans (congrArg some (by kernel_rfl))
  f268 := Tryd.func53.trans (congrArg some (by kernel_rfl))
  f314 := Tryd.func87.trans (congrArg some (by kernel_rfl))
  t0 := Tryd.underlying0
  a0 := Tryd.isAgg0
  z0 := Tryd.sizeOf0
  v0 := Tryd.zeroValue0
  t3 := Tryd.underlying3
  a3 := Tryd.isAgg3
  z3 := Tryd.sizeOf3
  v3 := Tryd.zeroValue3
  t4 := Tryd.underlying4
  a4 := Tryd.isAgg4
  z4 := Tryd.sizeOf4
  v4 := Tryd.zeroValue4
  t5 := Tryd.underlying5
  a5 := Tryd.isAgg5
  z5 := Tryd.sizeOf5
  v5 := Tryd.zeroValue5
  t9 := Tryd.underlying9
  a9 := Tryd.isAgg9
  z9 := Tryd.sizeOf9
  v9 := Tryd.zeroValue9
  t21 := Tryd.underlying21
  a21 := Tryd.isAgg21
  z21 := Tryd.sizeOf21
  v21 := Tryd.zeroValue21
  t31 := Tryd.underlying29
  a31 := Tryd.isAgg29
  z31 := Tryd.sizeOf29
  v31 := Tryd.zeroValue29
  t46 := Tryd.underlying87
  a46 := Tryd.isAgg87
  z46 := Tryd.sizeOf87
  v46 := Tryd.zeroValue87
  t51 := Tryd.underlying60
  a51 := Tryd.isAgg60
  z51 := Tryd.sizeOf60
  v51 := Tryd.zeroValue60
  t105 := Tryd.underlying107
  a105 := Tryd.isAgg107
  z105 := Tryd.sizeOf107
  v105 := Tryd.zeroValue107
  t119 := Tryd.underlying130
  a119 := Tryd.isAgg130
  z119 := Tryd.sizeOf130
  t138 := Tryd.underlying132
  a138 := Tryd.isAgg132
  z138 := Tryd.sizeOf132
  v138 := Tryd.zeroValue132
  t139 := Tryd.underlying133
  a139 := Tryd.isAgg133
  z139 := Tryd.sizeOf133
  v139 := Tryd.zeroValue133
  t146 := Tryd.underlying136
  a146 := Tryd.isAgg136
  z146 := Tryd.sizeOf136
  v146 := Tryd.zeroValue136
  g1 := by kernel_rfl
  g3 := by kernel_rfl
  g4 := by kernel_rfl }
end Go.Proofs
end

section
/- cmp.Compare of strings, cmp.Or of three; package atom: Less. No conditions. -/
open Go.RowKit
set_option maxRecDepth 100000
namespace Go.Proofs.YthdpojkeceoiiaaDoor
theorem kwp_named {P : Program} {c : Code} {Q : Exit → Act → World → Prop} {a : Act} {X : World} (h : ∀ W', W' = X → Code.wp P c Q a W') : Code.wp P c Q a X := h X rfl
theorem binOp_string_gtr (t : TypeId) (a b : ByteArray) : binOp .gtr t (.string a) (.string b) = pure (.bool (!(Op.bytesLess a.toList b.toList || (a.toList == b.toList)))) := by simp [binOp, Op.stringOp]
attribute [local go_sem] binOp_string_gtr
/-- The order of two strings, by bytes. -/
def ltS (a b : ByteArray) : Bool := Op.bytesLess a.toList b.toList
def cmpS (a b : ByteArray) : Int := if ltS a b then -1 else if a.toList == b.toList then 0 else 1
def or3 (x y z : Int) : Int := if x ≠ 0 then x else if y ≠ 0 then y else z
def lessB (p n : ByteArray) (k : Int) (p' n' : ByteArray) (k' : Int) : Bool := decide (or3 (cmpS n n') (cmpS p p') (Lib.compareInt k k') < 0)
end Go.Proofs.YthdpojkeceoiiaaDoor
end

section
/- The document's own GoodWord, figures, Number. Conditions: at most 2000000 bytes. -/
open Go.RowKit
set_option maxRecDepth 100000
namespace Go.Proofs.YthdpojkeceoiiaaDoor
theorem wdig_bool (c : UInt8) : wdig c = !(decide ((c.toNat : Int) < 48) || decide ((57 : Int) < (c.toNat : Int))) := by
  unfold wdig
  rw [Bool.eq_iff_iff]
  simp only [u8le]
  simp; omega
theorem wchar_bool (c : UInt8) : wchar c = !((decide ((c.toNat : Int) < 97) || decide ((122 : Int) < (c.toNat : Int))) && (decide ((c.toNat : Int) < 48) || decide ((57 : Int) < (c.toNat : Int)))) := by
  unfold wchar wdig
  rw [Bool.eq_iff_iff]
  simp only [u8le]
  simp; omega
theorem all_step {p : UInt8 → Bool} {s : ByteArray} {k : Nat} {b : Bool} (h : k < s.size) (hall : (s.data.toList.take k).all p = true) (hb : p s[k] = b) : (s.data.toList.take (k + 1)).all p = b := by
  rw [all_take h, hall, hb]; rfl
def figW (l : List UInt8) : Bool := !l.isEmpty && l.all wdig
end Go.Proofs.YthdpojkeceoiiaaDoor
end

section
/- Package atom: powerWord, leadingPower. Conditions: a power from 2 to 15. -/
open Go.RowKit
set_option maxRecDepth 100000
namespace Go.Proofs.YthdpojkeceoiiaaDoor
theorem khide {p : Prop} (h : p) : Hid p := h
theorem numB_size (n : Nat) : (numB n).size ≤ 2 := by unfold numB; split <;> exact of_decide_eq_true rfl
theorem powerWord_any {n : Nat} (h2 : 2 ≤ n) (h15 : n < 16) (w : World) : Calls Tryd.prog 62 #[.int .i64 (n : Int)] w fun e w' => e = .returned (.string (pwB n)) ∧ w = w' := by
  by_cases e2 : n = 2
  · subst e2
    go_enter Tryd.func62, Tryd.ntmps62
    go_wp2
    go_ret
    exact ⟨rfl, rfl⟩
  by_cases e3 : n = 3
  · subst e3
    go_enter Tryd.func62, Tryd.ntmps62
    go_wp2
    go_ret
    exact ⟨rfl, rfl⟩
  · have d2 : ((n : Int) == 2) = false := by rw [beq_eq_false_iff_ne]; omega
    have d3 : ((n : Int) == 3) = false := by rw [beq_eq_false_iff_ne]; omega
    obtain ⟨t, ht⟩ : ∃ t, t = numB n := ⟨_, rfl⟩
    have CI : Hid (∀ W : World, Calls Tryd.prog 74 #[.int .i64 (n : Int)] W fun e w' => e = .returned (.string t) ∧ W = w') := fun W => (Tryd.strconv_Itoa_small n (by omega) W).mono fun e w' ⟨h1, h3⟩ => ⟨by rw [h1, decDigits_num (by omega), ht], h3.symm⟩
    have hs : t.size ≤ 2 := by rw [ht]; exact numB_size n
    have HV : Hid (pwB n = powB ++ t) := by unfold Hid pwB; rw [if_neg e2, if_neg e3, ht]
    clear ht e2 e3 h2 h15
    go_enter Tryd.func62, Tryd.ntmps62
    go_wp2_with (first | (go_at_call 74; (with_reducible refine (CI.out _).mono ?_); rintro e w1 ⟨rfl, rfl⟩) | fail)
    go_ret
    exact ⟨by rw [HV.out]; rfl, rfl⟩
def RetII (W : World) (a b : Int) (e : Ending) (w' : World) : Prop := e = .returned (.tuple #[.int .i64 a, .int .i64 b]) ∧ Bel W w'
def leadP : List ByteArray → Nat × Nat
  | [] => (1, 0)
  | s :: _ => if powOf s = 0 then (1, 0) else (powOf s, 1)
theorem bel_drewN {w W : World} {q : Nat} (h : Hid (W = w.drewN q)) : Bel w W := by rw [h.out]; exact ybelow_drewN (Below.refl _ _) q
set_option maxHeartbeats 2000000 in
theorem lead_any {A : Option Addr} {n c : Nat} {xs : List ByteArray} {w : World} (h : Ss w A xs) (hn : n = xs.length) : Calls Tryd.prog 57 #[.slice A n c] w (RetII w ((leadP xs).1 : Int) ((leadP xs).2 : Int)) := by
  have CP : Hid (∀ (n : Nat) (W : World), 2 ≤ n → n < 16 → Calls Tryd.prog 62 #[.int .i64 (n : Int)] W fun e w' => e = .returned (.string (pwB n)) ∧ W = w') := fun n W h2 h15 => powerWord_any h2 h15 W
  cases xs with
  | nil =>
    subst hn
    clear h
    go_enter Tryd.func57, Tryd.ntmps57
    go_wp2
    go_ret2
    exact ⟨rfl, Bel.refl _⟩
  | cons s ys =>
    obtain ⟨ad, rfl, hb, hcell0⟩ := h.out.at_ (k := 0) (by simp)
    rw [show (s :: ys)[0] = s from rfl, show ad.add 0 = ad by simp [Addr.add]] at hcell0
    have hn0 : 0 < n := by rw [hn]; simp
    have d1 : ((n : Int) == 0) = false := by rw [beq_eq_false_iff_ne]; omega
    have d2 : (0 : Int) < (n : Int) := by omega
    clear hn h
    go_enter Tryd.func57, Tryd.ntmps57
    go_wp2
    go_loopw [4] (fun iv wr => ∃ k q : Nat, 2 ≤ k ∧ k ≤ 16 ∧ iv = .int .i64 (k : Int) ∧ Hid (wr = w.drewN q) ∧ Hid (∀ m, m < k → 2 ≤ m → s ≠ pwB m)) (fun iv _ => 16 - (intOf iv).toNat)
    case atStart => exact ⟨2, 0, by omega, by omega, rfl, rfl, fun m h1 h2 => by omega⟩
    case round =>
      obtain ⟨k, q, hk2, hk, rfl, HQ, HM⟩ := hrel
      by_cases hlt : k < 16
      · have hcell : wr.cell? ad = some (.string s) := by rw [HQ.out]; exact hcell0
        have d3 : decide ((k : Int) ≤ 15) = true := decide_eq_true (by omega)
        obtain ⟨t, ht⟩ : ∃ t, t = pwB k := ⟨_, rfl⟩
        have CQ : Hid (∀ W : World, Calls Tryd.prog 62 #[.int .i64 (k : Int)] W fun e w' => e = .returned (.string t) ∧ w' = W) := fun W => (ht ▸ CP.out k W hk2 hlt).mono fun e w' ⟨h1, h3⟩ => ⟨h1, h3.symm⟩
        have HT := khide ht
        clear ht
        by_cases he : s = t
        · have HE : Hid (powOf s = k) := by unfold Hid; rw [he, HT.out]; exact powOf_pw k hlt hk2
          have e2 : (s.toList == t.toList) = true := by rw [he]; simp
          have HK2 := khide hk2
          clear he
          go_wp2_with fail
          go_quiet (first | (go_at_call 62; exact Calls.quiet_of_same (CQ.out _)) | fail)
          go_wp2
          go_ret2
          obtain ⟨q2, hq2⟩ := ydrew_more HQ
          refine ⟨?_, bel_drewN hq2⟩
          have hne : ¬ powOf s = 0 := by rw [HE.out]; have := HK2.out; omega
          simp only [leadP]
          rw [if_neg hne, HE.out]; rfl
        · have e2 : (s.toList == t.toList) = false := by
            rw [beq_eq_false_iff_ne]; intro e3; rw [Lib.toList_data, Lib.toList_data] at e3
            exact he (ByteArray.ext (Array.ext' e3))
          have HE := khide he
          clear he
          go_wp2_with fail
          go_quiet (first | (go_at_call 62; exact Calls.quiet_of_same (CQ.out _)) | fail)
          go_wp2
          go_roundw
          case rel =>
            obtain ⟨q2, hq2⟩ := ydrew_more HQ
            refine ⟨k + 1, q2, by omega, by omega, by go_num, hq2, fun m h1 h2 => ?_⟩
            rcases Nat.lt_or_ge m k with h3 | h3
            · exact HM.out m h3 h2
            · obtain rfl : m = k := by omega
              rw [← HT.out]; exact HE.out
          case measure => simp [intOf]; omega
      · obtain rfl : k = 16 := by omega
        go_wp2
        go_ret2
        refine ⟨?_, bel_drewN HQ⟩
        simp only [leadP]
        rw [if_pos (powOf_no HM.out)]; rfl
end Go.Proofs.YthdpojkeceoiiaaDoor
end

section
/- Package atom: isDigits, isReserved. Conditions: a text that fits. -/
open Go.RowKit
set_option maxRecDepth 100000
namespace Go.Proofs.YthdpojkeceoiiaaDoor
theorem toList_inj {a b : ByteArray} (h : a.toList = b.toList) : a = b := by
  rw [Lib.toList_data, Lib.toList_data] at h
  exact ByteArray.ext (Array.ext' h)
theorem str_ne {a b : ByteArray} (h : a ≠ b) : (a.toList == b.toList) = false := by
  rw [beq_eq_false_iff_ne]; exact fun e => h (toList_inj e)
theorem str_lit {a b : ByteArray} {l : List UInt8} (h : a ≠ b) (hl : b.data.toList = l) : (a.toList == l) = false := by
  rw [← hl, ← Lib.toList_data]; exact str_ne h
theorem resB_lit {s : ByteArray} (h : s = perB ∨ s = andB ∨ s = sqB ∨ s = cuB) : resB s = true := by
  rcases h with rfl | rfl | rfl | rfl <;> decide +kernel
end Go.Proofs.YthdpojkeceoiiaaDoor
end

section
/- A set of strings as a map; package atom: isGoodList, Good. Conditions: texts and lists that fit. -/
open Go.RowKit
set_option maxRecDepth 100000
namespace Go.Proofs.YthdpojkeceoiiaaDoor
theorem skeyed : Go.Maps.Keyed Tryd.prog 9 := Go.Maps.string_keyed Tryd.underlying9
def slit (s : ByteArray) : Lit := .string s.data.toList
theorem skeyOf {s : ByteArray} (h : s.size ≤ 2000000) : keyOf Tryd.prog 9 (.string s) = some (slit s) := Go.WideMaps.keyOf_string_mk Tryd.underlying9 (by unfold maxLen; omega)
theorem slit_inj {a b : ByteArray} (h : slit a = slit b) : a = b := by
  unfold slit at h
  injection h with h
  exact ByteArray.ext (Array.ext' h)
/-- Block b is the set of the strings xs. -/
def SetIs (w : World) (b : Nat) (xs : List ByteArray) : Prop := ∃ D : DataW Unit, w.ownsMap Tryd.prog 9 unitElem b xs.length D ∧ Maps.IsMap D ∧ ∀ s : ByteArray, Maps.has D (slit s) = hasB xs s
theorem setIs_new (w : World) : SetIs (w.alloc (.map #[] 0)) w.heap.size [] :=
  ⟨.map [], World.ownsMap_made _ _ _ _, Maps.isMap_empty, fun _ => rfl⟩
theorem hasB_snoc (xs : List ByteArray) (x y : ByteArray) : hasB (xs ++ [x]) y = (hasB xs y || decide (x = y)) := by
  unfold hasB; rw [List.any_append]; simp
theorem SetIs.lt {w : World} {b : Nat} {xs : List ByteArray} (h : SetIs w b xs) : b < w.heap.size := by
  obtain ⟨D, h1, _⟩ := h; exact h1.lt
theorem SetIs.up {w w' : World} {b : Nat} {xs : List ByteArray} (h : SetIs w b xs) (hb : Hid (Below w.heap.size w w')) : SetIs w' b xs := by
  have e := hb.out.block b h.lt
  obtain ⟨D, ⟨es, clock, h1, F, hs, hD⟩, h2, h3⟩ := h
  exact ⟨D, ⟨es, clock, e.trans h1, F, hs, hD⟩, h2, h3⟩
theorem SetIs.al {w : World} {b : Nat} {xs : List ByteArray} (h : SetIs w b xs) (o : Obj) : SetIs (w.alloc o) b xs := h.up ((Below.refl _ _).alloc (Nat.le_refl _) o)
end Go.Proofs.YthdpojkeceoiiaaDoor
end

section
/- Package atom: Good. Conditions: texts and lists that fit. -/
open Go.RowKit
set_option maxRecDepth 100000
namespace Go.Proofs.YthdpojkeceoiiaaDoor
end Go.Proofs.YthdpojkeceoiiaaDoor
end
