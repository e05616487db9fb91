/- Several texts in one, each with its own sentence and conditions. -/
import Derived.Test.YthdpojkeceoiiaaGreatDoorGOmc0
import Derived.Test.YthdpojkeceoiiaaGreatDoorProg
import Derived.WalkSpells
import Derived.Lib.Strings
import Derived.Deep.Draws
import Derived.Shelf.Abstract
import Derived.Below
import Derived.WalkKit
import Derived.Deep.RegionHeld
import Derived.Shelf.Strings.OnBuilder
import Derived.Shelf.Strings.Split
import Derived.Shelf.Strings.Builder1
import Derived.Shelf.Strings.Builder2
import Derived.Shelf.LaysM
import Derived.Shelf.Strconv.Itoa3
import Derived.Shelf.Strconv.Itoa4
import Derived.Shelf.Strings.Prefix
import Derived.Shelf.Strings.SlTrimAscii
import Derived.Shelf.Small.Wraps
import Derived.Ground.NamesProg
import Derived.Deep.RegionHeld3
import Derived.Deep.CutRange
section
/- Words: isDigit, isLetterOrDigit, consists, Good, Number. No conditions. -/
open Go.RowKit
set_option maxRecDepth 100000
namespace Go.Proofs.YthdpojkeceoiiaaGreatDoor
theorem yhide {p : Prop} (h : p) : Hid p := h
theorem ybool {a b : Bool} (h : a = b) : Ending.returned (.bool a) = .returned (.bool b) := by rw [h]
theorem u8le (a b : UInt8) : (a ≤ b) ↔ a.toNat ≤ b.toNat := UInt8.le_iff_toNat_le
theorem isDigit_any (c : UInt8) (w : World) : Calls Tryz.prog 103 #[.int .u8 (c.toNat : Int)] w fun e w' => e = .returned (.bool (wdig c)) ∧ w = w' := by
  by_cases h1 : (48 : Int) ≤ (c.toNat : Int)
  · by_cases h2 : (c.toNat : Int) ≤ 57
    · have d1 : decide ((48 : Int) ≤ (c.toNat : Int)) = true := decide_eq_true h1
      have d2 : decide ((c.toNat : Int) ≤ 57) = true := decide_eq_true h2
      go_enter Tryz.func103, Tryz.ntmps103
      go_wp2
      go_ret
      exact ⟨ybool (by unfold wdig; simp only [u8le]; simp; omega), rfl⟩
    · have d1 : decide ((48 : Int) ≤ (c.toNat : Int)) = true := decide_eq_true h1
      have d2 : decide ((c.toNat : Int) ≤ 57) = false := decide_eq_false h2
      go_enter Tryz.func103, Tryz.ntmps103
      go_wp2
      go_ret
      exact ⟨ybool (by unfold wdig; simp only [u8le]; simp; omega), rfl⟩
  · have d1 : decide ((48 : Int) ≤ (c.toNat : Int)) = false := decide_eq_false h1
    go_enter Tryz.func103, Tryz.ntmps103
    go_wp2
    go_ret
    exact ⟨ybool (by unfold wdig; simp only [u8le]; simp; omega), rfl⟩
theorem isLetter_any (c : UInt8) (w : World) : Calls Tryz.prog 76 #[.int .u8 (c.toNat : Int)] w fun e w' => e = .returned (.bool (wchar c)) ∧ w = w' := by
  obtain ⟨d, hd⟩ : ∃ d, wdig c = d := ⟨_, rfl⟩
  have CD := yhide (fun W => isDigit_any c W)
  rw [hd] at CD
  have HD := yhide hd
  clear hd
  by_cases h1 : (97 : Int) ≤ (c.toNat : Int)
  · by_cases h2 : (c.toNat : Int) ≤ 122
    · have d1 : decide ((97 : Int) ≤ (c.toNat : Int)) = true := decide_eq_true h1
      have d2 : decide ((c.toNat : Int) ≤ 122) = true := decide_eq_true h2
      go_enter Tryz.func76, Tryz.ntmps76
      go_wp2_with (first | (go_at_call 103; (with_reducible refine (CD.out _).mono ?_); rintro e w1 ⟨rfl, rfl⟩) | fail)
      go_ret
      exact ⟨ybool (by unfold wchar; rw [HD.out]; simp only [u8le]; simp; omega), rfl⟩
    · have d1 : decide ((97 : Int) ≤ (c.toNat : Int)) = true := decide_eq_true h1
      have d2 : decide ((c.toNat : Int) ≤ 122) = false := decide_eq_false h2
      go_enter Tryz.func76, Tryz.ntmps76
      go_wp2_with (first | (go_at_call 103; (with_reducible refine (CD.out _).mono ?_); rintro e w1 ⟨rfl, rfl⟩) | fail)
      go_ret
      exact ⟨ybool (by unfold wchar; rw [HD.out]; simp only [u8le]; simp; omega), rfl⟩
  · have d1 : decide ((97 : Int) ≤ (c.toNat : Int)) = false := decide_eq_false h1
    go_enter Tryz.func76, Tryz.ntmps76
    go_wp2_with (first | (go_at_call 103; (with_reducible refine (CD.out _).mono ?_); rintro e w1 ⟨rfl, rfl⟩) | fail)
    go_ret
    exact ⟨ybool (by unfold wchar; rw [HD.out]; simp only [u8le]; simp; omega), rfl⟩
/-- As long as a word, and of bytes of one kind only. -/
def consB (p : UInt8 → Bool) (l : List UInt8) : Bool := decide (1 ≤ l.length) && (decide (l.length ≤ 20) && l.all p)
theorem all_take {p : UInt8 → Bool} {s : ByteArray} {k : Nat} (h : k < s.size) : (s.data.toList.take (k + 1)).all p = ((s.data.toList.take k).all p && p s[k]) := by
  have e : s.data.toList.take (k + 1) = s.data.toList.take k ++ [s[k]] := by
    rw [List.take_succ_eq_append_getElem (by simpa using h)]; rfl
  rw [e, List.all_append]; simp
theorem all_false {p : UInt8 → Bool} {s : ByteArray} {k : Nat} (h : k < s.size) (hp : p s[k] = false) : s.data.toList.all p = false := by
  rw [List.all_eq_false]
  refine ⟨s[k], ?_, by rw [hp]; simp⟩
  exact List.getElem_mem (l := s.data.toList) (n := k) (by simpa using h)
set_option maxHeartbeats 400000 in
theorem consists_any {p : UInt8 → Bool} {g : Nat} (hk : ∀ (c : UInt8) (W : World), Calls Tryz.prog g #[.int .u8 (c.toNat : Int)] W fun e w' => e = .returned (.bool (p c)) ∧ W = w')
    (hg : ∀ args W, (callFunc g args).run Tryz.prog W = .ok (.enter g args) W) (s : ByteArray) (w : World) :
    Calls Tryz.prog 75 #[.string s, .func (.func g) #[] #[]] w fun e w' => e = .returned (.bool (consB p s.data.toList)) ∧ w = w' := by
  have CK := yhide hk
  clear hk
  by_cases h0 : s.size = 0
  · have hl : s.toList = [] := by rw [Lib.toList_data]; exact List.eq_nil_of_length_eq_zero h0
    have HL : Hid (s.data.toList = []) := List.eq_nil_of_length_eq_zero h0
    clear h0
    go_enter Tryz.func75, Tryz.ntmps75
    go_wp2
    go_ret
    exact ⟨ybool (by rw [HL.out]; rfl), rfl⟩
  · have hl : s.toList.isEmpty = false := by
      rw [Lib.toList_data]
      cases h : s.data.toList with
      | nil => exact absurd (show s.size = 0 by rw [Lib.size_eq, h]; rfl) h0
      | cons a l => rfl
    by_cases h2 : 20 < s.size
    · clear h0
      have d2 : decide ((20 : Int) < (s.size : Int)) = true := decide_eq_true (by omega)
      have HB : Hid (20 < s.size) := h2
      go_enter Tryz.func75, Tryz.ntmps75
      go_wp2
      go_ret
      refine ⟨ybool ?_, rfl⟩
      have := HB.out
      rw [Lib.size_eq] at this
      unfold consB
      rw [decide_eq_false (show ¬ s.data.toList.length ≤ 20 by omega)]
      simp
    · have d2 : decide ((20 : Int) < (s.size : Int)) = false := decide_eq_false (by omega)
      have hs : s.size ≤ 20 := by omega
      have hs1 : 1 ≤ s.size := by omega
      clear h0 h2
      go_enter Tryz.func75, Tryz.ntmps75
      go_wp2
      go_loop [15] (fun iv => ∃ k : Nat, k ≤ s.size ∧ iv = .int .i64 (k : Int) ∧ Hid ((s.data.toList.take k).all p = true)) (fun iv => s.size - (intOf iv).toNat)
      case atStart => exact ⟨0, Nat.zero_le _, rfl, rfl⟩
      case round =>
        obtain ⟨k, hk, rfl, hall⟩ := hrel
        by_cases hlt : k < s.size
        · obtain ⟨b, hb⟩ : ∃ b, p s[k] = b := ⟨_, rfl⟩
          have HP := yhide hb
          clear hb
          have CC : Hid (∀ W : World, Calls Tryz.prog g #[.int .u8 (s[k].toNat : Int)] W fun e w' => e = .returned (.bool b) ∧ W = w') := fun W => by
            have := CK.out s[k] W
            rwa [HP.out] at this
          cases b
          · go_wp2_with (first | ((with_reducible refine (CC.out _).mono ?_); rintro e w1 ⟨rfl, rfl⟩) | fail)
            go_ret
            exact ⟨ybool (by unfold consB; rw [all_false hlt HP.out]; simp), rfl⟩
          · go_wp2_with (first | ((with_reducible refine (CC.out _).mono ?_); rintro e w1 ⟨rfl, rfl⟩) | fail)
            go_round
            case rel => exact ⟨k + 1, by omega, by go_num, by unfold Hid; rw [all_take hlt, hall.out, HP.out]; rfl⟩
            case measure => simp [intOf]; omega
        · obtain rfl : k = s.size := by omega
          go_wp2
          go_ret
          refine ⟨ybool ?_, rfl⟩
          have h3 := hall.out
          rw [List.take_of_length_le (by rw [Lib.size_eq]; exact Nat.le_refl _)] at h3
          rw [Lib.size_eq] at hs hs1
          unfold consB
          rw [h3, decide_eq_true hs, decide_eq_true hs1]; rfl
end Go.Proofs.YthdpojkeceoiiaaGreatDoor
end

section
/- Words: Good, Number; are two rows of texts alike (texts). Conditions: rows that fit. -/
open Go.RowKit
set_option maxRecDepth 100000
namespace Go.Proofs.YthdpojkeceoiiaaGreatDoor
theorem good_cons (l : List UInt8) : goodW l = consB wchar l := rfl
theorem wgood_any (s : ByteArray) (w : World) : Calls Tryz.prog 48 #[.string s] w fun e w' => e = .returned (.bool (goodW s.data.toList)) ∧ w = w' := by
  have CC := yhide (fun W => consists_any (g := 76) isLetter_any (enters_of Tryz.func76 (by kernel_rfl) rfl) s W)
  go_enter Tryz.func48, Tryz.ntmps48
  go_wp2_with (first | (go_at_call 75; (with_reducible refine (CC.out _).mono ?_); rintro e w1 ⟨rfl, rfl⟩) | fail)
  go_ret
  exact ⟨rfl, rfl⟩
theorem num_head {s : ByteArray} (h : 0 < s.size) : decide (s.data.toList.head? ≠ some 48) = !((s[0].toNat : Int) == 48) := by
  obtain ⟨⟨l⟩⟩ := s
  cases l with
  | nil => simp [ByteArray.size] at h
  | cons c l =>
    have e : (⟨⟨c :: l⟩⟩ : ByteArray)[0] = c := rfl
    rw [e]
    by_cases hc : c = 48
    · subst hc; rfl
    · have h2 : ((c.toNat : Int) == 48) = false := by
        rw [beq_eq_false_iff_ne]
        intro e2
        exact hc (UInt8.toNat_inj.1 (by simpa using (show c.toNat = 48 by omega)))
      rw [h2]
      simp [hc]
theorem wnumber_any (s : ByteArray) (w : World) : Calls Tryz.prog 78 #[.string s] w fun e w' => e = .returned (.bool (numW s.data.toList)) ∧ w = w' := by
  obtain ⟨b, hb⟩ : ∃ b, consB wdig s.data.toList = b := ⟨_, rfl⟩
  have CC := yhide (fun W => consists_any (g := 103) isDigit_any (enters_of Tryz.func103 (by kernel_rfl) rfl) s W)
  rw [hb] at CC
  have HB := yhide hb
  clear hb
  cases b
  · go_enter Tryz.func78, Tryz.ntmps78
    go_wp2_with (first | (go_at_call 75; (with_reducible refine (CC.out _).mono ?_); rintro e w1 ⟨rfl, rfl⟩) | fail)
    go_ret
    refine ⟨ybool ?_, rfl⟩
    have h := HB.out
    unfold consB at h
    unfold numW
    rw [← Bool.and_assoc, ← Bool.and_assoc, Bool.and_assoc (decide _) (decide _) (List.all _ _), h]; rfl
  · have hs : 0 < s.size := by
      have h := HB.out
      unfold consB at h
      simp only [Bool.and_eq_true, decide_eq_true_eq] at h
      rw [Lib.size_eq]; omega
    have HN : Hid (numW s.data.toList = !((s[0].toNat : Int) == 48)) := by
      unfold Hid
      rw [← num_head hs]
      have h := HB.out
      unfold consB at h
      simp only [Bool.and_eq_true] at h
      unfold numW
      rw [h.1, h.2.1, h.2.2]; rfl
    cases hc : ((s[0].toNat : Int) == 48)
    · rw [hc] at HN
      go_enter Tryz.func78, Tryz.ntmps78
      go_wp2_with (first | (go_at_call 75; (with_reducible refine (CC.out _).mono ?_); rintro e w1 ⟨rfl, rfl⟩) | fail)
      go_ret
      exact ⟨ybool (by rw [HN.out, bne, hc]), rfl⟩
    · rw [hc] at HN
      go_enter Tryz.func78, Tryz.ntmps78
      go_wp2_with (first | (go_at_call 75; (with_reducible refine (CC.out _).mono ?_); rintro e w1 ⟨rfl, rfl⟩) | fail)
      go_ret
      exact ⟨ybool (by rw [HN.out, bne, hc]), rfl⟩
theorem ydrew_cell {W W2 : World} {nq : Nat} (h : W2 = W.drewN nq) {p : Addr} {v : Value} (hc : W.cell? p = some v) : W2.cell? p = some v := by rw [h]; exact hc
theorem ydrew_more {w W : World} {q k : Nat} (h : Hid (W = w.drewN q)) : ∃ q2, W.drewN k = w.drewN q2 := by
  rw [h.out]; exact ⟨q + k, by simp [World.drewN, Nat.add_assoc]⟩
theorem take_eq {xs ys : List ByteArray} {k : Nat} (h : k < xs.length) (h' : k < ys.length) (ht : xs.take k = ys.take k) (he : xs[k] = ys[k]) : xs.take (k + 1) = ys.take (k + 1) := by
  rw [List.take_succ_eq_append_getElem h, List.take_succ_eq_append_getElem h', ht, he]
def TextsR (W : World) (b : Bool) (e : Ending) (w' : World) : Prop := e = .returned (.bool b) ∧ Hid (Below W.heap.size W w')
/-- As it is drawn: nothing but draws. -/
def TextsQ (W : World) (b : Bool) (e : Ending) (w' : World) : Prop := e = .returned (.bool b) ∧ ∃ n, w' = W.drewN n
end Go.Proofs.YthdpojkeceoiiaaGreatDoor
end

section
/- Facts that go on through calls: a box known whole, a world above another. No conditions. -/
open Go.RowKit
set_option maxRecDepth 100000
namespace Go.Proofs.YthdpojkeceoiiaaGreatDoor
/-- Block p holds the values, and may be written. -/
structure At (W : World) (p : Nat) (vs : List Value) : Prop where
  lt : p < W.heap.size
  all : ∀ i v, vs[i]? = some v → W.cell? ⟨p, i, none⟩ = some v ∧ W.frozen? ⟨p, i, none⟩ = false
def Bel (w W : World) : Prop := Below w.heap.size w W
theorem Bel.refl (w : World) : Bel w w := Below.refl _ _
theorem Bel.up {w W W' : World} (h : Bel w W) (hb : Hid (Below W.heap.size W W')) : Bel w W' := Below.trans h (hb.out.mono (Below.size h))
theorem Bel.al {w W : World} (h : Bel w W) (o : Obj) : Bel w (W.alloc o) := Below.alloc h (Below.size h) o
theorem Bel.dr {w W : World} (h : Bel w W) : Bel w W.drew := Below.drew h
theorem Bel.hid {w W : World} (h : Bel w W) : Hid (Below w.heap.size w W) := h
theorem Bel.of {w W : World} (h : Hid (Below w.heap.size w W)) : Bel w W := h
section
variable {W W' : World} {p : Nat} {u v x : Value} {vs : List Value}
theorem At.up (h : At W p vs) (hb : Hid (Below W.heap.size W W')) : At W' p vs :=
  ⟨Nat.lt_of_lt_of_le h.lt hb.out.size, fun i v hv => ⟨(hb.out.cell h.lt).trans (h.all i v hv).1, (hb.out.frozen h.lt).trans (h.all i v hv).2⟩⟩
theorem At.al (h : At W p vs) (o : Obj) : At (W.alloc o) p vs := h.up ((Below.refl _ _).alloc (Nat.le_refl _) o)
theorem At.dr (h : At W p vs) : At W.drew p vs := ⟨h.lt, h.all⟩
theorem At.c0 (h : At W p (v :: vs)) : W.cell? ⟨p, 0, none⟩ = some v := (h.all 0 v rfl).1
theorem At.c1 (h : At W p (u :: v :: vs)) : W.cell? ⟨p, 1, none⟩ = some v := (h.all 1 v rfl).1
theorem At.c2 (h : At W p (x :: u :: v :: vs)) : W.cell? ⟨p, 2, none⟩ = some v := (h.all 2 v rfl).1
theorem At.f0 (h : At W p (v :: vs)) : W.frozen? ⟨p, 0, none⟩ = false := (h.all 0 v rfl).2
theorem At.f1 (h : At W p (u :: v :: vs)) : W.frozen? ⟨p, 1, none⟩ = false := (h.all 1 v rfl).2
theorem At.f2 (h : At W p (x :: u :: v :: vs)) : W.frozen? ⟨p, 2, none⟩ = false := (h.all 2 v rfl).2
theorem at_new0 (W : World) (vs : List Value) (t : TypeId) : At (W.alloc (.cells vs.toArray t)) W.heap.size vs := by
  have h : (W.alloc (.cells vs.toArray t)).heap[W.heap.size]? = some (.cells vs.toArray t (0, 0)) := heap_alloc_new W _
  refine ⟨by simp, fun i v hv => ⟨?_, by unfold World.frozen?; rw [h]; simp⟩⟩
  rw [cell_of_row _ _ i _ t (0, 0) h]
  simpa using hv
theorem at_size {W X : World} {p : Nat} {vs : List Value} (h : At X W.heap.size vs) (e : W.heap.size = p) : At X p vs := e ▸ h
theorem at_new1 (W : World) (o : Obj) (vs : List Value) (t : TypeId) : At ((W.alloc o).alloc (.cells vs.toArray t)) (W.heap.size + 1) vs := at_size (at_new0 (W.alloc o) vs t) (by simp)
theorem at_new2 (W : World) (o o1 : Obj) (vs : List Value) (t : TypeId) : At (((W.alloc o).alloc o1).alloc (.cells vs.toArray t)) (W.heap.size + 1 + 1) vs := at_size (at_new0 ((W.alloc o).alloc o1) vs t) (by simp)
theorem at_new3 (W : World) (o o1 o2 : Obj) (vs : List Value) (t : TypeId) : At ((((W.alloc o).alloc o1).alloc o2).alloc (.cells vs.toArray t)) (W.heap.size + 1 + 1 + 1) vs := at_size (at_new0 (((W.alloc o).alloc o1).alloc o2) vs t) (by simp)
theorem at_new4 (W : World) (o o1 o2 o3 : Obj) (vs : List Value) (t : TypeId) : At (((((W.alloc o).alloc o1).alloc o2).alloc o3).alloc (.cells vs.toArray t)) (W.heap.size + 1 + 1 + 1 + 1) vs := at_size (at_new0 ((((W.alloc o).alloc o1).alloc o2).alloc o3) vs t) (by simp)
/-- A write into another block. -/
theorem At.far {q i : Nat} (h : At W p vs) (hq : q ≠ p) (u : Value) : At (W.setCell ⟨q, i, none⟩ u) p vs :=
  ⟨by have := h.lt; simpa [World.setCell] using this, fun j v hv => ⟨(World.cell?_setCell_far _ _ _ _ hq).trans (h.all j v hv).1, by rw [World.frozen?_setCell]; exact (h.all j v hv).2⟩⟩
/-- A write into this one. -/
theorem At.put {i : Nat} (h : At W p vs) (hi : i < vs.length) (u : Value) : At (W.setCell ⟨p, i, none⟩ u) p (vs.set i u) := by
  refine ⟨by have := h.lt; simpa [World.setCell] using this, fun j v hv => ?_⟩
  by_cases e : i = j
  · subst e
    rw [List.getElem?_set_self hi] at hv
    injection hv with hv
    obtain ⟨h1, h2⟩ := h.all i _ (List.getElem?_eq_getElem hi)
    exact ⟨by rw [← hv]; exact World.cell?_setCell_same _ _ _ h1, by rw [World.frozen?_setCell]; exact h2⟩
  · rw [List.getElem?_set_ne e] at hv
    exact ⟨(World.cell?_setCell_other _ _ _ _ (by intro h3; injection h3 with _ h4; exact e h4)).trans (h.all j v hv).1, by rw [World.frozen?_setCell]; exact (h.all j v hv).2⟩
theorem At.ci (h : At W p vs) {i : Nat} (hi : vs[i]? = some v) : W.cell? ⟨p, i, none⟩ = some v := (h.all i v hi).1
theorem At.fi (h : At W p vs) {i : Nat} (hi : vs[i]? = some v) : W.frozen? ⟨p, i, none⟩ = false := (h.all i v hi).2
end
def RetB (W : World) (b : Bool) (e : Ending) (w' : World) : Prop := e = .returned (.bool b) ∧ Bel W w'
end Go.Proofs.YthdpojkeceoiiaaGreatDoor
end

section
/- Contracts of strings.Join, Index, Count and genSplit at this dump, laid by the shelf's command in plain words. Conditions: as each says. -/
namespace Go.Proofs
open Go.Shelf
def Tryz.lays156_ren : Go.Shelf.Ren := ⟨fun | 156 => 28 | 165 => 55 | 166 => 56 | 169 => 57 | 240 => 88 | 241 => 89 | 276 => 130 | 277 => 131 | n => n, fun | 31 => 23 | 9 => 9 | 3 => 3 | 4 => 4 | 0 => 0 | 20 => 20 | 72 => 103 | 76 => 107 | 70 => 101 | 37 => 72 | 75 => 106 | 127 => 150 | 164 => 135 | 5 => 5 | 80 => 109 | n => n, fun | n => n⟩
theorem Tryz.lays156 : Go.Proofs.Lays.n156 Tryz.prog Tryz.lays156_ren := {
  mixed := by kernel_rfl
  f156 := Tryz.func28.trans (congrArg some (by kernel_rfl))
  f165 := Tryz.func55.trans (congrArg some (by kernel_rfl))
  f166 := Tryz.func56.trans (congrArg some (by kernel_rfl))
  f169 := Tryz.func57.trans (congrArg some (by kernel_rfl))
  f240 := Tryz.func88.trans (congrArg some (by kernel_rfl))
  f241 := Tryz.func89.trans (congrArg some (by kernel_rfl))
  f276 := Tryz.func130.trans (congrArg some (by kernel_rfl))
  f277 := Tryz.func131.trans (congrArg some (by kernel_rfl))
  t0 := Tryz.underlying0
  a0 := Tryz.isAgg0
  z0 := Tryz.sizeOf0
  v0 := Tryz.zeroValue0
  t3 := Tryz.underlying3
  a3 := Tryz.isAgg3
  z3 := Tryz.sizeOf3
  v3 := Tryz.zeroValue3
  t4 := Tryz.underlying4
  a4 := Tryz.isAgg4
  z4 := Tryz.sizeOf4
  v4 := Tryz.zeroValue4
  t9 := Tryz.underlying9
  a9 := Tryz.isAgg9
  z9 := Tryz.sizeOf9
  v9 := Tryz.zeroValue9
  t20 := Tryz.underlying20
  a20 := Tryz.isAgg20
  z20 := Tryz.sizeOf20
  v20 := Tryz.zeroValue20
  t31 := Tryz.underlying23
  a31 := Tryz.isAgg23
  z31 := Tryz.sizeOf23
  v31 := Tryz.zeroValue23
  t37 := Tryz.underlying72
  a37 := Tryz.isAgg72
  z37 := Tryz.sizeOf72
  v37 := Tryz.zeroValue72
  t70 := Tryz.underlying101
  a70 := Tryz.isAgg101
  z70 := Tryz.sizeOf101
  v70 := Tryz.zeroValue101
  t72 := Tryz.underlying103
  a72 := Tryz.isAgg103
  z72 := Tryz.sizeOf103
  v72 := Tryz.zeroValue103
  t75 := Tryz.underlying106
  a75 := Tryz.isAgg106
  z75 := Tryz.sizeOf106
  v75 := Tryz.zeroValue106
  t76 := Tryz.underlying107
  a76 := Tryz.isAgg107
  z76 := Tryz.sizeOf107
  v76 := Tryz.zeroValue107
  t127 := Tryz.underlying150
  a127 := Tryz.isAgg150
  z127 := Tryz.sizeOf150
  v127 := Tryz.zeroValue150
  t164 := Tryz.underlying135
  a164 := Tryz.isAgg135
  z164 := Tryz.sizeOf135
  v164 := Tryz.zeroValue135 }
theorem Tryz.Builder_Extra_156 : Builder.Extra Tryz.prog Tryz.lays156_ren := {
  sizeBuilder := by kernel_rfl
  liesBuilder := by kernel_rfl
  t5 := Tryz.underlying5
  a5 := Tryz.isAgg5
  z5 := Tryz.sizeOf5
  v5 := Tryz.zeroValue5
  infoByte := by kernel_rfl
  cellsByte := by kernel_rfl
  sizeByte := by kernel_rfl
  neB5 := by decide }
open Go.RowKit in
theorem Tryz.strings_Join_none (a : Option Addr) (c : Nat) (sep : ByteArray) (w : World) :
    Calls Tryz.prog 28 #[.slice a 0 c, .string sep] w fun e w' => e = .returned (.string ⟨#[]⟩) ∧ w' = w := Any.strings_Join_none Tryz.lays156 Tryz.Builder_Extra_156 a c sep w
open Go.RowKit in
theorem Tryz.strings_Join (bk o c : Nat) (xs : List ByteArray) (sep : ByteArray) (w : World) (hcells : ∀ (j : Nat) x, xs[j]? = some x → w.cell? ⟨bk, o + j, none⟩ = some (.string x)) (hbk : bk < w.heap.size) (hN : xs.length ≤ 140737488355328) (hcap : xs.length ≤ c) (hlen : (Lib.join (xs.map (·.data.toList)) sep.data.toList).length ≤ 140737488355328) :
    Calls Tryz.prog 28 #[.slice (some ⟨bk, o, none⟩) xs.length c, .string sep] w fun e w' => e = .returned (.string ⟨(Lib.join (xs.map (·.data.toList)) sep.data.toList).toArray⟩) ∧ Below w.heap.size w w' := Any.strings_Join Tryz.lays156 Tryz.Builder_Extra_156 bk o c xs sep w hcells hbk hN hcap hlen
def Tryz.lays215_ren : Go.Shelf.Ren := ⟨fun | 215 => 129 | n => n, fun | 3 => 3 | 4 => 4 | n => n, fun | n => n⟩
theorem Tryz.lays215 : Go.Proofs.Lays.n215 Tryz.prog Tryz.lays215_ren := {
  mixed := by kernel_rfl
  f215 := Tryz.func129.trans (congrArg some (by kernel_rfl))
  t3 := Tryz.underlying3
  a3 := Tryz.isAgg3
  z3 := Tryz.sizeOf3
  v3 := Tryz.zeroValue3
  t4 := Tryz.underlying4
  a4 := Tryz.isAgg4
  z4 := Tryz.sizeOf4
  v4 := Tryz.zeroValue4 }
def Tryz.lays122_ren : Go.Shelf.Ren := ⟨fun | 122 => 87 | 215 => 129 | n => n, fun | 3 => 3 | 4 => 4 | n => n, fun | n => n⟩
theorem Tryz.lays122 : Go.Proofs.Lays.n122 Tryz.prog Tryz.lays122_ren := {
  mixed := by kernel_rfl
  f122 := Tryz.func87.trans (congrArg some (by kernel_rfl))
  f215 := Tryz.func129.trans (congrArg some (by kernel_rfl))
  t3 := Tryz.underlying3
  a3 := Tryz.isAgg3
  z3 := Tryz.sizeOf3
  v3 := Tryz.zeroValue3
  t4 := Tryz.underlying4
  a4 := Tryz.isAgg4
  z4 := Tryz.sizeOf4
  v4 := Tryz.zeroValue4 }
open Go.RowKit in
theorem Tryz.cmp_Compare_int (x y : Int) (w : World) :
    Calls Tryz.prog 87 #[.int .i64 x, .int .i64 y] w fun e w' => e = .returned (.int .i64 (Lib.compareInt x y)) ∧ w' = w := Any.cmp_Compare_int Tryz.lays122 x y w
def Tryz.lays171_ren : Go.Shelf.Ren := ⟨fun | 171 => 134 | 243 => 153 | 246 => 161 | 283 => 165 | 284 => 166 | 285 => 167 | 286 => 168 | 129 => 119 | 317 => 169 | 318 => 170 | 319 => 171 | 320 => 172 | 337 => 173 | 338 => 174 | n => n, fun | 3 => 3 | 9 => 9 | 2 => 2 | 4 => 4 | 171 => 212 | 0 => 0 | 53 => 57 | 37 => 72 | 5 => 5 | 173 => 214 | 212 => 217 | 51 => 73 | 20 => 20 | 213 => 218 | 46 => 92 | 232 => 219 | 233 => 220 | n => n, fun | 17 => 3 | 18 => 4 | 19 => 5 | n => n⟩
theorem Tryz.lays171 : Go.Proofs.Lays.n171 Tryz.prog Tryz.lays171_ren := {
  mixed := by kernel_rfl
  f129 := Tryz.func119.trans (congrArg some (by kernel_rfl))
  f171 := Tryz.func134.trans (congrArg some (by kernel_rfl))
  f243 := Tryz.func153.trans (congrArg some (by kernel_rfl))
  f246 := Tryz.func161.trans (congrArg some (by kernel_rfl))
  f283 := Tryz.func165.trans (congrArg some (by kernel_rfl))
  f284 := Tryz.func166.trans (congrArg some (by kernel_rfl))
  f285 := Tryz.func167.trans (congrArg some (by kernel_rfl))
  f286 := Tryz.func168.trans (congrArg some (by kernel_rfl))
  f317 := Tryz.func169.trans (congrArg some (by kernel_rfl))
  f318 := Tryz.func170.trans (congrArg some (by kernel_rfl))
  f319 := Tryz.func171.trans (congrArg some (by kernel_rfl))
  f320 := Tryz.func172.trans (congrArg some (by kernel_rfl))
  f337 := Tryz.func173.trans (congrArg some (by kernel_rfl))
  f338 := Tryz.func174.trans (congrArg some (by kernel_rfl))
  t0 := Tryz.underlying0
  a0 := Tryz.isAgg0
  z0 := Tryz.sizeOf0
  v0 := Tryz.zeroValue0
  t2 := Tryz.underlying2
  a2 := Tryz.isAgg2
  z2 := Tryz.sizeOf2
  v2 := Tryz.zeroValue2
  t3 := Tryz.underlying3
  a3 := Tryz.isAgg3
  z3 := Tryz.sizeOf3
  v3 := Tryz.zeroValue3
  t4 := Tryz.underlying4
  a4 := Tryz.isAgg4
  z4 := Tryz.sizeOf4
  v4 := Tryz.zeroValue4
  t5 := Tryz.underlying5
  a5 := Tryz.isAgg5
  z5 := Tryz.sizeOf5
  v5 := Tryz.zeroValue5
  t9 := Tryz.underlying9
  a9 := Tryz.isAgg9
  z9 := Tryz.sizeOf9
  v9 := Tryz.zeroValue9
  t20 := Tryz.underlying20
  a20 := Tryz.isAgg20
  z20 := Tryz.sizeOf20
  v20 := Tryz.zeroValue20
  t37 := Tryz.underlying72
  a37 := Tryz.isAgg72
  z37 := Tryz.sizeOf72
  v37 := Tryz.zeroValue72
  t46 := Tryz.underlying92
  a46 := Tryz.isAgg92
  z46 := Tryz.sizeOf92
  v46 := Tryz.zeroValue92
  t51 := Tryz.underlying73
  a51 := Tryz.isAgg73
  z51 := Tryz.sizeOf73
  v51 := Tryz.zeroValue73
  t53 := Tryz.underlying57
  a53 := Tryz.isAgg57
  z53 := Tryz.sizeOf57
  v53 := Tryz.zeroValue57
  t171 := Tryz.underlying212
  a171 := Tryz.isAgg212
  z171 := Tryz.sizeOf212
  v171 := Tryz.zeroValue212
  t173 := Tryz.underlying214
  a173 := Tryz.isAgg214
  z173 := Tryz.sizeOf214
  v173 := Tryz.zeroValue214
  t212 := Tryz.underlying217
  a212 := Tryz.isAgg217
  z212 := Tryz.sizeOf217
  v212 := Tryz.zeroValue217
  t213 := Tryz.underlying218
  a213 := Tryz.isAgg218
  z213 := Tryz.sizeOf218
  t232 := Tryz.underlying219
  a232 := Tryz.isAgg219
  z232 := Tryz.sizeOf219
  v232 := Tryz.zeroValue219
  t233 := Tryz.underlying220
  a233 := Tryz.isAgg220
  z233 := Tryz.sizeOf220
  v233 := Tryz.zeroValue220
  g17 := by kernel_rfl
  g18 := by kernel_rfl
  g19 := by kernel_rfl }
open Go.RowKit Go.Sort Go.Lib in
theorem Tryz.strconv_Itoa_small (i : Nat) (hi : i < 100) (w : World) :
    Calls Tryz.prog 134 #[.int .i64 i] w fun e w' => e = .returned (.string ⟨(Lib.decDigits i).toArray⟩) ∧ w' = w := Any.strconv_Itoa_small Tryz.lays171 i hi w
def Tryz.lays143_ren : Go.Shelf.Ren := ⟨fun | 143 => 102 | 219 => 141 | 217 => 156 | 225 => 152 | 224 => 151 | 267 => 157 | 266 => 163 | 314 => 164 | n => n, fun | 9 => 9 | 3 => 3 | 4 => 4 | 5 => 5 | 46 => 92 | 146 => 210 | 51 => 73 | n => n, fun | 1 => 0 | n => n⟩
theorem Tryz.lays143 : Go.Proofs.Lays.n143 Tryz.prog Tryz.lays143_ren := {
  mixed := by kernel_rfl
  f143 := Tryz.func102.trans (congrArg some (by kernel_rfl))
  f217 := Tryz.func156.trans (congrArg some (by kernel_rfl))
  f219 := Tryz.func141.trans (congrArg some (by kernel_rfl))
  f224 := Tryz.func151.trans (congrArg some (by kernel_rfl))
  f225 := Tryz.func152.trans (congrArg some (by kernel_rfl))
  f266 := Tryz.func163.trans (congrArg some (by kernel_rfl))
  f267 := Tryz.func157.trans (congrArg some (by kernel_rfl))
  f314 := Tryz.func164.trans (congrArg some (by kernel_rfl))
  t3 := Tryz.underlying3
  a3 := Tryz.isAgg3
  z3 := Tryz.sizeOf3
  v3 := Tryz.zeroValue3
  t4 := Tryz.underlying4
  a4 := Tryz.isAgg4
  z4 := Tryz.sizeOf4
  v4 := Tryz.zeroValue4
  t5 := Tryz.underlying5
  a5 := Tryz.isAgg5
  z5 := Tryz.sizeOf5
  v5 := Tryz.zeroValue5
  t9 := Tryz.underlying9
  a9 := Tryz.isAgg9
  z9 := Tryz.sizeOf9
  v9 := Tryz.zeroValue9
  t46 := Tryz.underlying92
  a46 := Tryz.isAgg92
  z46 := Tryz.sizeOf92
  v46 := Tryz.zeroValue92
  t51 := Tryz.underlying73
  a51 := Tryz.isAgg73
  z51 := Tryz.sizeOf73
  v51 := Tryz.zeroValue73
  t146 := Tryz.underlying210
  a146 := Tryz.isAgg210
  z146 := Tryz.sizeOf210
  v146 := Tryz.zeroValue210
  g1 := by kernel_rfl }
open Go.RowKit Go.Lib in
theorem Tryz.strings_Index_one (s : ByteArray) (c : UInt8) (w : World) :
    Calls Tryz.prog 102 #[.string s, .string ⟨#[c]⟩] w fun e w' => e = .returned (.int .i64 (Lib.indexByte s.data.toList c)) ∧ w' = w := Any.strings_Index_one Tryz.lays143 s c w
def Tryz.lays138_ren : Go.Shelf.Ren := ⟨fun | 138 => 101 | 195 => 139 | 218 => 140 | 143 => 102 | 219 => 141 | 217 => 156 | 225 => 152 | 224 => 151 | 267 => 157 | 266 => 163 | 314 => 164 | n => n, fun | 9 => 9 | 3 => 3 | 4 => 4 | 5 => 5 | 0 => 0 | 46 => 92 | 146 => 210 | 51 => 73 | n => n, fun | 1 => 0 | n => n⟩
theorem Tryz.lays138 : Go.Proofs.Lays.n138 Tryz.prog Tryz.lays138_ren := {
  mixed := by kernel_rfl
  f138 := Tryz.func101.trans (congrArg some (by kernel_rfl))
  f143 := Tryz.func102.trans (congrArg some (by kernel_rfl))
  f195 := Tryz.func139.trans (congrArg some (by kernel_rfl))
  f217 := Tryz.func156.trans (congrArg some (by kernel_rfl))
  f218 := Tryz.func140.trans (congrArg some (by kernel_rfl))
  f219 := Tryz.func141.trans (congrArg some (by kernel_rfl))
  f224 := Tryz.func151.trans (congrArg some (by kernel_rfl))
  f225 := Tryz.func152.trans (congrArg some (by kernel_rfl))
  f266 := Tryz.func163.trans (congrArg some (by kernel_rfl))
  f267 := Tryz.func157.trans (congrArg some (by kernel_rfl))
  f314 := Tryz.func164.trans (congrArg some (by kernel_rfl))
  t0 := Tryz.underlying0
  a0 := Tryz.isAgg0
  z0 := Tryz.sizeOf0
  v0 := Tryz.zeroValue0
  t3 := Tryz.underlying3
  a3 := Tryz.isAgg3
  z3 := Tryz.sizeOf3
  v3 := Tryz.zeroValue3
  t4 := Tryz.underlying4
  a4 := Tryz.isAgg4
  z4 := Tryz.sizeOf4
  v4 := Tryz.zeroValue4
  t5 := Tryz.underlying5
  a5 := Tryz.isAgg5
  z5 := Tryz.sizeOf5
  v5 := Tryz.zeroValue5
  t9 := Tryz.underlying9
  a9 := Tryz.isAgg9
  z9 := Tryz.sizeOf9
  v9 := Tryz.zeroValue9
  t46 := Tryz.underlying92
  a46 := Tryz.isAgg92
  z46 := Tryz.sizeOf92
  v46 := Tryz.zeroValue92
  t51 := Tryz.underlying73
  a51 := Tryz.isAgg73
  z51 := Tryz.sizeOf73
  v51 := Tryz.zeroValue73
  t146 := Tryz.underlying210
  a146 := Tryz.isAgg210
  z146 := Tryz.sizeOf210
  v146 := Tryz.zeroValue210
  g1 := by kernel_rfl }
open Go.RowKit Go.Lib in
theorem Tryz.strings_Count_one (s : ByteArray) (c : UInt8) (w : World) :
    Calls Tryz.prog 101 #[.string s, .string ⟨#[c]⟩] w fun e w' => e = .returned (.int .i64 (Lib.countByte s.data.toList c)) ∧ w' = w := Any.strings_Count_one Tryz.lays138 s c w
def Tryz.lays99_ren : Go.Shelf.Ren := ⟨fun | 99 => 143 | 206 => 159 | n => n, fun | 9 => 9 | 4 => 4 | 3 => 3 | n => n, fun | n => n⟩
theorem Tryz.lays99 : Go.Proofs.Lays.n99 Tryz.prog Tryz.lays99_ren := {
  mixed := by kernel_rfl
  f99 := Tryz.func143.trans (congrArg some (by kernel_rfl))
  f206 := Tryz.func159.trans (congrArg some (by kernel_rfl))
  t3 := Tryz.underlying3
  a3 := Tryz.isAgg3
  z3 := Tryz.sizeOf3
  v3 := Tryz.zeroValue3
  t4 := Tryz.underlying4
  a4 := Tryz.isAgg4
  z4 := Tryz.sizeOf4
  v4 := Tryz.zeroValue4
  t9 := Tryz.underlying9
  a9 := Tryz.isAgg9
  z9 := Tryz.sizeOf9
  v9 := Tryz.zeroValue9 }
open Go.RowKit Go.Lib in
theorem Tryz.strings_HasPrefix (s p : ByteArray) (w : World) :
    Calls Tryz.prog 143 #[.string s, .string p] w fun e w' => e = .returned (.bool (Lib.hasPrefix s.data.toList p.data.toList)) ∧ w' = w := Any.strings_HasPrefix Tryz.lays99 s p w
def Tryz.lays100_ren : Go.Shelf.Ren := ⟨fun | 100 => 142 | 207 => 158 | n => n, fun | 9 => 9 | 4 => 4 | 3 => 3 | n => n, fun | n => n⟩
theorem Tryz.lays100 : Go.Proofs.Lays.n100 Tryz.prog Tryz.lays100_ren := {
  mixed := by kernel_rfl
  f100 := Tryz.func142.trans (congrArg some (by kernel_rfl))
  f207 := Tryz.func158.trans (congrArg some (by kernel_rfl))
  t3 := Tryz.underlying3
  a3 := Tryz.isAgg3
  z3 := Tryz.sizeOf3
  v3 := Tryz.zeroValue3
  t4 := Tryz.underlying4
  a4 := Tryz.isAgg4
  z4 := Tryz.sizeOf4
  v4 := Tryz.zeroValue4
  t9 := Tryz.underlying9
  a9 := Tryz.isAgg9
  z9 := Tryz.sizeOf9
  v9 := Tryz.zeroValue9 }
open Go.RowKit Go.Lib in
theorem Tryz.strings_HasSuffix (s p : ByteArray) (w : World) (hs : s.size ≤ 9223372036854775807) :
    Calls Tryz.prog 142 #[.string s, .string p] w fun e w' => e = .returned (.bool (Lib.hasSuffix s.data.toList p.data.toList)) ∧ w' = w := Any.strings_HasSuffix Tryz.lays100 s p w hs
def Tryz.lays221_ren : Go.Shelf.Ren := ⟨fun | 221 => 74 | 268 => 100 | 138 => 101 | 143 => 102 | 195 => 139 | 197 => 91 | 218 => 140 | 219 => 141 | 260 => 132 | 217 => 156 | 225 => 152 | 224 => 151 | 267 => 157 | 266 => 163 | 314 => 164 | n => n, fun | 9 => 9 | 3 => 3 | 31 => 23 | 4 => 4 | 0 => 0 | 105 => 151 | 21 => 21 | 5 => 5 | 46 => 92 | 119 => 197 | 139 => 200 | 138 => 199 | 146 => 210 | 51 => 73 | n => n, fun | 1 => 0 | 3 => 1 | 4 => 2 | n => n⟩
theorem Tryz.lays221 : Go.Proofs.Lays.n221 Tryz.prog Tryz.lays221_ren := {
  mixed := by kernel_rfl
  f138 := Tryz.func101.trans (congrArg some (by kernel_rfl))
  f143 := Tryz.func102.trans (congrArg some (by kernel_rfl))
  f195 := Tryz.func139.trans (congrArg some (by kernel_rfl))
  f197 := Tryz.func91.trans (congrArg some (by kernel_rfl))
  f217 := Tryz.func156.trans (congrArg some (by kernel_rfl))
  f218 := Tryz.func140.trans (congrArg some (by kernel_rfl))
  f219 := Tryz.func141.trans (congrArg some (by kernel_rfl))
  f221 := Tryz.func74.trans (congrArg some (by kernel_rfl))
  f224 := Tryz.func151.trans (congrArg some (by kernel_rfl))
  f225 := Tryz.func152.trans (congrArg some (by kernel_rfl))
  f260 := Tryz.func132.trans (congrArg some (by kernel_rfl))
  f266 := Tryz.func163.trans (congrArg some (by kernel_rfl))
  f267 := Tryz.func157.trans (congrArg some (by kernel_rfl))
  f268 := Tryz.func100.trans (congrArg some (by kernel_rfl))
  f314 := Tryz.func164.trans (congrArg some (by kernel_rfl))
  t0 := Tryz.underlying0
  a0 := Tryz.isAgg0
  z0 := Tryz.sizeOf0
  v0 := Tryz.zeroValue0
  t3 := Tryz.underlying3
  a3 := Tryz.isAgg3
  z3 := Tryz.sizeOf3
  v3 := Tryz.zeroValue3
  t4 := Tryz.underlying4
  a4 := Tryz.isAgg4
  z4 := Tryz.sizeOf4
  v4 := Tryz.zeroValue4
  t5 := Tryz.underlying5
  a5 := Tryz.isAgg5
  z5 := Tryz.sizeOf5
  v5 := Tryz.zeroValue5
  t9 := Tryz.underlying9
  a9 := Tryz.isAgg9
  z9 := Tryz.sizeOf9
  v9 := Tryz.zeroValue9
  t21 := Tryz.underlying21
  a21 := Tryz.isAgg21
  z21 := Tryz.sizeOf21
  v21 := Tryz.zeroValue21
  t31 := Tryz.underlying23
  a31 := Tryz.isAgg23
  z31 := Tryz.sizeOf23
  v31 := Tryz.zeroValue23
  t46 := Tryz.underlying92
  a46 := Tryz.isAgg92
  z46 := Tryz.sizeOf92
  v46 := Tryz.zeroValue92
  t51 := Tryz.underlying73
  a51 := Tryz.isAgg73
  z51 := Tryz.sizeOf73
  v51 := Tryz.zeroValue73
  t105 := Tryz.underlying151
  a105 := Tryz.isAgg151
  z105 := Tryz.sizeOf151
  v105 := Tryz.zeroValue151
  t119 := Tryz.underlying197
  a119 := Tryz.isAgg197
  z119 := Tryz.sizeOf197
  t138 := Tryz.underlying199
  a138 := Tryz.isAgg199
  z138 := Tryz.sizeOf199
  v138 := Tryz.zeroValue199
  t139 := Tryz.underlying200
  a139 := Tryz.isAgg200
  z139 := Tryz.sizeOf200
  v139 := Tryz.zeroValue200
  t146 := Tryz.underlying210
  a146 := Tryz.isAgg210
  z146 := Tryz.sizeOf210
  v146 := Tryz.zeroValue210
  g1 := by kernel_rfl
  g3 := by kernel_rfl
  g4 := by kernel_rfl }
end Go.Proofs
end

section
/- cmp.Compare of strings, cmp.Or of three; package atom: Less. No conditions. -/
open Go.RowKit
set_option maxRecDepth 100000
namespace Go.Proofs.YthdpojkeceoiiaaGreatDoor
theorem kwp_named {P : Program} {c : Code} {Q : Exit → Act → World → Prop} {a : Act} {X : World} (h : ∀ W', W' = X → Code.wp P c Q a W') : Code.wp P c Q a X := h X rfl
theorem nanS_any (s : ByteArray) (w : World) : Calls Tryz.prog 128 #[.string s] w fun e w' => e = .returned (.bool false) ∧ w = w' := by
  go_enter Tryz.func128, Tryz.ntmps128
  go_wp2
  go_ret
  exact ⟨by simp, rfl⟩
theorem binOp_string_gtr (t : TypeId) (a b : ByteArray) : binOp .gtr t (.string a) (.string b) = pure (.bool (!(Op.bytesLess a.toList b.toList || (a.toList == b.toList)))) := by simp [binOp, Op.stringOp]
attribute [local go_sem] binOp_string_gtr
/-- The order of two strings, by bytes. -/
def ltS (a b : ByteArray) : Bool := Op.bytesLess a.toList b.toList
def cmpS (a b : ByteArray) : Int := if ltS a b then -1 else if a.toList == b.toList then 0 else 1
theorem cmpS_any (a b : ByteArray) (w : World) : Calls Tryz.prog 86 #[.string a, .string b] w fun e w' => e = .returned (.int .i64 (cmpS a b)) ∧ w = w' := by
  have CN := yhide nanS_any
  obtain ⟨x, hx⟩ : ∃ x, Op.bytesLess a.toList b.toList = x := ⟨_, rfl⟩
  obtain ⟨y, hy⟩ : ∃ y, (a.toList == b.toList) = y := ⟨_, rfl⟩
  have HV : Hid (cmpS a b = if x then -1 else if y then 0 else 1) := by unfold Hid cmpS ltS; rw [hx, hy]
  cases x <;> cases y
  all_goals
    go_enter Tryz.func86, Tryz.ntmps86
    go_wp2_with (first | (go_at_call 128; (with_reducible refine (CN.out _ _).mono ?_); rintro e w1 ⟨rfl, rfl⟩) | fail)
    go_ret
    exact ⟨by rw [HV.out]; rfl, rfl⟩
def or3 (x y z : Int) : Int := if x ≠ 0 then x else if y ≠ 0 then y else z
set_option maxHeartbeats 2000000 in
theorem or3_any {p : Nat} {x y z : Int} {w : World} (h : At w p [.int .i64 x, .int .i64 y, .int .i64 z]) : Calls Tryz.prog 85 #[.slice (some ⟨p, 0, none⟩) 3 3] w fun e w' => e = .returned (.int .i64 (or3 x y z)) ∧ w = w' := by
  have c0 := h.c0; have c1 := h.c1; have c2 := h.c2
  clear h
  obtain ⟨bx, hbx⟩ : ∃ b, (x == 0) = b := ⟨_, rfl⟩
  obtain ⟨byy, hby⟩ : ∃ b, (y == 0) = b := ⟨_, rfl⟩
  obtain ⟨bz, hbz⟩ : ∃ b, (z == 0) = b := ⟨_, rfl⟩
  have HV : Hid (or3 x y z = if bx then (if byy then z else y) else x) := by
    unfold Hid or3; rw [← hbx, ← hby]
    by_cases h1 : x = 0 <;> by_cases h2 : y = 0 <;> simp [h1, h2]
  have HZ : Hid (bz = true → z = 0) := fun h => by rw [h] at hbz; simpa using hbz
  go_enter Tryz.func85, Tryz.ntmps85
  go_wp2
  go_loop [8] (fun iv => iv = .int .i64 0 ∨ (iv = .int .i64 1 ∧ Hid (bx = true)) ∨ (iv = .int .i64 2 ∧ Hid (bx = true ∧ byy = true)) ∨ (iv = .int .i64 3 ∧ Hid (bx = true ∧ byy = true ∧ bz = true))) (fun iv => 3 - (intOf iv).toNat)
  case atStart => exact .inl rfl
  case round =>
    rcases hrel with rfl | ⟨rfl, h0⟩ | ⟨rfl, h0⟩ | ⟨rfl, h0⟩
    · cases bx
      · go_wp2
        go_ret
        exact ⟨by rw [HV.out]; rfl, rfl⟩
      · go_wp2
        go_round
        case rel => exact .inr (.inl ⟨rfl, by simp [Hid]⟩)
        case measure => simp [intOf]
    · obtain rfl : bx = true := h0.out
      cases byy
      · go_wp2
        go_ret
        exact ⟨by rw [HV.out]; rfl, rfl⟩
      · go_wp2
        go_round
        case rel => exact .inr (.inr (.inl ⟨rfl, by simp [Hid]⟩))
        case measure => simp [intOf]
    · obtain ⟨rfl, rfl⟩ : bx = true ∧ byy = true := h0.out
      cases bz
      · go_wp2
        go_ret
        exact ⟨by rw [HV.out]; rfl, rfl⟩
      · go_wp2
        go_round
        case rel => exact .inr (.inr (.inr ⟨rfl, by simp [Hid]⟩))
        case measure => simp [intOf]
    · obtain ⟨rfl, rfl, rfl⟩ : bx = true ∧ byy = true ∧ bz = true := h0.out
      go_wp2
      go_ret
      exact ⟨by rw [HV.out, HZ.out (by trivial)]; rfl, rfl⟩
def lessB (p n : ByteArray) (k : Int) (p' n' : ByteArray) (k' : Int) : Bool := decide (or3 (cmpS n n') (cmpS p p') (Lib.compareInt k k') < 0)
set_option maxHeartbeats 4000000 in
theorem less_any (p n : ByteArray) (k : Int) (p' n' : ByteArray) (k' : Int) (w : World) : Calls Tryz.prog 54 #[.agg #[.string p, .string n, .int .i64 k], .agg #[.string p', .string n', .int .i64 k']] w (RetB w (lessB p n k p' n' k')) := by
  have CS := yhide cmpS_any
  have CI : Hid (∀ (x y : Int) (W : World), Calls Tryz.prog 87 #[.int .i64 x, .int .i64 y] W fun e w' => e = .returned (.int .i64 (Lib.compareInt x y)) ∧ W = w') := fun x y W => (Tryz.cmp_Compare_int x y W).mono fun e w' ⟨h1, h2⟩ => ⟨h1, h2.symm⟩
  obtain ⟨x, hx⟩ : ∃ x, cmpS n n' = x := ⟨_, rfl⟩
  obtain ⟨y, hy⟩ : ∃ x, cmpS p p' = x := ⟨_, rfl⟩
  obtain ⟨z, hz⟩ : ∃ x, Lib.compareInt k k' = x := ⟨_, rfl⟩
  obtain ⟨v, hv⟩ : ∃ v, or3 x y z = v := ⟨_, rfl⟩
  have HV : Hid (lessB p n k p' n' k' = decide (v < 0)) := by unfold Hid lessB; rw [hx, hy, hz, hv]
  have CO : Hid (∀ {q : Nat} {W : World}, At W q [.int .i64 x, .int .i64 y, .int .i64 z] → Calls Tryz.prog 85 #[.slice (some ⟨q, 0, none⟩) 3 3] W fun e w' => e = .returned (.int .i64 v) ∧ W = w') := fun h => hv ▸ or3_any h
  have C1 : Hid (∀ W : World, Calls Tryz.prog 86 #[.string n, .string n'] W fun e w' => e = .returned (.int .i64 x) ∧ W = w') := fun W => hx ▸ CS.out _ _ _
  have C2 : Hid (∀ W : World, Calls Tryz.prog 86 #[.string p, .string p'] W fun e w' => e = .returned (.int .i64 y) ∧ W = w') := fun W => hy ▸ CS.out _ _ _
  have C3 : Hid (∀ W : World, Calls Tryz.prog 87 #[.int .i64 k, .int .i64 k'] W fun e w' => e = .returned (.int .i64 z) ∧ W = w') := fun W => hz ▸ CI.out _ _ _
  clear hx hy hz hv CS CI
  go_enter Tryz.func54, Tryz.ntmps54
  go_upto_region 1 with fail
  refine kwp_named ?_
  intro W2 hW2
  have HA : At W2 w.heap.size [.string p, .string n, .int .i64 k] := by rw [hW2]; exact (at_new0 _ _ _).al _
  have HC : At W2 (w.heap.size + 1) [.string p', .string n', .int .i64 k'] := by rw [hW2]; exact at_new1 _ _ _ _
  have HB : Bel w W2 := by rw [hW2]; exact ((Bel.refl w).al _).al _
  obtain ⟨q2, hq2⟩ : ∃ q, q = w.heap.size + 1 := ⟨_, rfl⟩
  obtain ⟨q1, hq1⟩ : ∃ q, q = w.heap.size := ⟨_, rfl⟩
  rw [← hq2] at HC
  rw [← hq1] at HA
  rw [← hq2, ← hq1]
  clear hW2 hq1 hq2
  go_region_held3 (fun w' => w'.cell? ⟨q1, 0, none⟩ = some (.string p) ∧ w'.cell? ⟨q1, 1, none⟩ = some (.string n) ∧ w'.cell? ⟨q1, 2, none⟩ = some (.int .i64 k) ∧ w'.cell? ⟨q2, 0, none⟩ = some (.string p') ∧ w'.cell? ⟨q2, 1, none⟩ = some (.string n') ∧ w'.cell? ⟨q2, 2, none⟩ = some (.int .i64 k'))
    (first | (with_reducible exact ⟨HA.dr.c0, HA.dr.c1, HA.dr.c2, HC.dr.c0, HC.dr.c1, HC.dr.c2⟩) | (with_reducible exact ⟨(HA.dr.al _).c0, (HA.dr.al _).c1, (HA.dr.al _).c2, (HC.dr.al _).c0, (HC.dr.al _).c1, (HC.dr.al _).c2⟩) | (with_reducible exact ⟨(HA.al _).dr.c0, (HA.al _).dr.c1, (HA.al _).dr.c2, (HC.al _).dr.c0, (HC.al _).dr.c1, (HC.al _).dr.c2⟩) | fail)
    (first | (go_at_call 86; (with_reducible refine (C1.out _).mono ?_); rintro e w1 ⟨rfl, rfl⟩) | (go_at_call 86; (with_reducible refine (C2.out _).mono ?_); rintro e w1 ⟨rfl, rfl⟩) | (go_at_call 87; (with_reducible refine (C3.out _).mono ?_); rintro e w1 ⟨rfl, rfl⟩) | (go_at_call 85; (with_reducible refine (CO.out (at_new0 _ [.int .i64 x, .int .i64 y, .int .i64 z] _)).mono ?_); rintro e w1 ⟨rfl, rfl⟩) | (go_at_call 85; (with_reducible refine (CO.out (at_new0 W2 [.int .i64 x, .int .i64 y, .int .i64 z] 3).dr).mono ?_); rintro e w1 ⟨rfl, rfl⟩) | fail)
  all_goals go_wp2_with fail
  all_goals go_ret
  all_goals exact ⟨ybool (HV.out.symm), (by first | exact (HB.al _).dr | exact HB.dr.al _)⟩
end Go.Proofs.YthdpojkeceoiiaaGreatDoor
end
