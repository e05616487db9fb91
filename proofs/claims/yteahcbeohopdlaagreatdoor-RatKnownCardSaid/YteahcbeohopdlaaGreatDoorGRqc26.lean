/- Several texts in one, each with its own sentence and conditions. -/
import Derived.Test.YteahcbeohopdlaaGreatDoorGRqc8
import Derived.Test.YteahcbeohopdlaaGreatDoorGRqc7
import Derived.Deep.LoopGhost
import Derived.Test.YteahcbeohopdlaaGreatDoorGRqc25
import Derived.Test.YteahcbeohopdlaaGreatDoorKp
import Derived.Test.YteahcbeohopdlaaGreatDoorGRqc17
import Derived.Test.YteahcbeohopdlaaGreatDoorGRqc9
section
/- The document's own numbers: Pow. Conditions: every power up to the last has at most 100000 fours of digits. -/
open Go.RowKit
set_option maxRecDepth 100000
namespace Go.Proofs.YteahcbeohopdlaaGreatDoor
set_option maxHeartbeats 1000000 in
theorem rPow_any {A : Option Addr} {c m k : Nat} {w : World} (h : RN w w.heap.size A c m) (hk : k ≤ 1000000) (hb : ∀ i, i ≤ k → dq (m ^ i) ≤ 100000) (hm : dq m ≤ 100000) :
    Calls Tryz.prog 155 #[.slice A (dq m) c, .int .i64 (k : Int)] w (RefPost w (m ^ k)) := by
  have H := hide h
  have HB := hide hb
  have CO : Hid (∀ W, Calls Tryz.prog 77 #[.int .u64 1] W (RefPost W 1)) := fun W => Small_any (n := 1) (w := W) (by decide)
  clear h hb
  go_enter Tryz.func155, Tryz.ntmps155
  go_wp2_with (first | (go_at_call 77; go_must (refine (CO.out _).mono ?_); rintro e w1 ⟨A1, c1, rfl, hr1, hb1⟩))
  go_loopw [5, 6] (fun rv iv wr => ∃ (i : Nat) (B : Option Addr) (d : Nat), i ≤ k ∧ iv = .int .i64 (i : Int) ∧ rv = .slice B (dq (m ^ i)) d ∧ Hid (RN wr wr.heap.size B d (m ^ i)) ∧ Hid (Below w.heap.size w wr))
    (fun _ iv _ => k - (intOf iv).toNat)
  case atStart => exact ⟨0, A1, c1, Nat.zero_le _, rfl, by rw [Nat.pow_zero], by rw [Nat.pow_zero]; exact hr1, hb1⟩
  case round =>
    obtain ⟨i, B, d, hi, rfl, rfl, hr, hbel⟩ := hrel
    by_cases hlt : i < k
    · have CM : Hid (Calls Tryz.prog 101 #[.slice B (dq (m ^ i)) d, .slice A (dq m) c] wr (RefPost wr (m ^ (i + 1)))) := by
        unfold Hid
        rw [Nat.pow_succ]
        exact rMul_any hr.out ((H.out.below hbel.out).more hbel.out.size) (HB.out i hi) hm
      go_wp2_with (first | (go_at_call 101; go_must (refine CM.out.mono ?_); rintro e w2 ⟨B2, d2, rfl, hr2, hb2⟩))
      go_roundw
      case rel => exact ⟨i + 1, B2, d2, by omega, by go_num, rfl, hr2, hbel.out.trans (hb2.out.mono hbel.out.size)⟩
      case measure => simp [intOf]; omega
    · obtain rfl : i = k := by omega
      go_wp2
      go_ret
      exact ⟨B, d, rfl, hr, hbel⟩
set_option maxHeartbeats 1000000 in
/-- Of a power below 1: 1. -/
theorem rPow_low {A : Option Addr} {n c : Nat} {k : Int} {w : World} (hk : k ≤ 0) (hk2 : -9223372036854775808 ≤ k) : Calls Tryz.prog 155 #[.slice A n c, .int .i64 k] w (RefPost w 1) := by
  have CO : Hid (∀ W, Calls Tryz.prog 77 #[.int .u64 1] W (RefPost W 1)) := fun W => Small_any (n := 1) (w := W) (by decide)
  go_enter Tryz.func155, Tryz.ntmps155
  go_wp2_with (first | (go_at_call 77; go_must (refine (CO.out _).mono ?_); rintro e w1 ⟨A1, c1, rfl, hr1, hb1⟩))
  refine wp_loop_rounds 1 ?_; rw [rounds_succ]
  go_wp2
  go_ret
  exact ⟨A1, c1, rfl, hr1, hb1⟩
end Go.Proofs.YteahcbeohopdlaaGreatDoor
end

section
/- The document's own Ten: a power of ten of at most 400000 digits. -/
open Go.RowKit
set_option maxRecDepth 100000
namespace Go.Proofs.YteahcbeohopdlaaGreatDoor
theorem ten_lt (k : Nat) : 10 ^ k < D4 ^ (k + 1) := by
  have : 10 ^ k ≤ D4 ^ k := Nat.pow_le_pow_left (by decide) k
  have h2 : D4 ^ k < D4 ^ (k + 1) := Nat.pow_lt_pow_right (by decide) (by omega)
  omega
theorem rTen_any {k : Nat} {w : World} (hk : k ≤ 90000) :
    Calls Tryz.prog 117 #[.int .i64 (k : Int)] w (RefPost w (10 ^ k)) := by
  have HK := hide hk
  clear hk
  have CO : Hid (∀ W, Calls Tryz.prog 77 #[.int .u64 10] W (RefPost W 10)) := fun W => Small_any (n := 10) (w := W) (by decide)
  have CP : Hid (∀ (W : World) (A : Option Addr) (c : Nat), RN W W.heap.size A c 10 → Calls Tryz.prog 155 #[.slice A (dq 10) c, .int .i64 (k : Int)] W (RefPost W (10 ^ k))) := fun W A c h => rPow_any h (by have := HK.out; omega) (fun i hi => by have := HK.out; exact Nat.le_trans (dq_le (ten_lt i)) (by omega)) (Nat.le_trans (dq_le (show 10 < D4 ^ 1 by decide)) (by decide))
  go_enter Tryz.func117, Tryz.ntmps117
  go_wp2_with (first | (go_at_call 77; go_must (refine (CO.out _).mono ?_); rintro e w1 ⟨A1, c1, rfl, hr1, hb1⟩) | (go_at_call 155; go_must (refine (CP.out _ _ _ hr1.out).mono ?_); rintro e w2 ⟨A2, c2, rfl, hr2, hb2⟩))
  go_ret
  exact ⟨A2, c2, rfl, hr2, hb1.out.trans (hb2.out.mono hb1.out.size)⟩
end Go.Proofs.YteahcbeohopdlaaGreatDoor
end

section
/- Pow. Conditions: every power up to the last has at most 100000 words. -/
open Go.RowKit
set_option maxRecDepth 100000
namespace Go.Proofs.YteahcbeohopdlaaGreatDoor
def box (A : Option Addr) (n c : Nat) : Obj := .cells #[.slice A n c] 25 (0, 0)
theorem Can.setBox {w : World} {A : Option Addr} {c m : Nat} (h : Can w w.heap.size A c m) {p : Addr} {a : Option Addr} {l k : Nat} (hc : w.cell? p = some (.slice a l k)) (u : Value) : Can (w.setCell p u) (w.setCell p u).heap.size A c m := by
  refine ⟨h.1, ?_⟩
  have := h.2.setBox hc u
  simpa [World.setCell] using this
theorem Arg.setBox {w : World} {A : Option Addr} {n c m : Nat} (h : Arg w w.heap.size A n c m) {p : Addr} {a : Option Addr} {l k : Nat} (hc : w.cell? p = some (.slice a l k)) (u : Value) : Arg (w.setCell p u) (w.setCell p u).heap.size A n c m := by
  obtain ⟨ws, h1, h2, h3, h4, h5⟩ := h
  refine ⟨ws, h1, h2, h3, ?_, h5⟩
  have := h4.setBox hc u
  simpa [World.setCell] using this
/-- The two variables' boxes, and what they tell. -/
def PowInv (w wr : World) (p i j m : Nat) (A1 : Option Addr) (c1 : Nat) (A2 : Option Addr) (n2 c2 : Nat) : Prop :=
  wr.heap[p]? = some (box A1 (dl (m ^ i)) c1) ∧ wr.heap[p + 1]? = some (box A2 n2 c2) ∧ wr.heap[w.heap.size + 1]? = some (box none 0 0) ∧ Can wr wr.heap.size A1 c1 (m ^ i) ∧ Arg wr wr.heap.size A2 n2 c2 (m ^ j) ∧ Below w.heap.size w wr ∧ w.heap.size + 2 ≤ p
theorem lt_of_heap {w : World} {g : Nat} {o : Obj} (h : w.heap[g]? = some o) : g < w.heap.size := by
  rcases Nat.lt_or_ge g w.heap.size with hlt | hge
  · exact hlt
  · rw [Array.getElem?_eq_none hge] at h; cases h
section
variable {w wr w2 : World} {p i j m c1 n2 c2 : Nat} {A1 A2 : Option Addr}
theorem PowInv.below (h : PowInv w wr p i j m A1 c1 A2 n2 c2) (hb : Below wr.heap.size wr w2) : PowInv w w2 p i j m A1 c1 A2 n2 c2 := by
  obtain ⟨h1, h2, h3, h4, h5, h6, h7⟩ := h
  exact ⟨(hb.block _ (lt_of_heap h1)).trans h1, (hb.block _ (lt_of_heap h2)).trans h2, (hb.block _ (lt_of_heap h3)).trans h3, (h4.below hb).more hb.size, (h5.below hb).more hb.size, h6.trans (hb.mono h6.size), h7⟩
theorem set_heap {w : World} {g : Nat} {A : Option Addr} {n c : Nat} (h : w.heap[g]? = some (box A n c)) (B : Option Addr) (k d : Nat) : (w.setCell ⟨g, 0, none⟩ (.slice B k d)).heap[g]? = some (box B k d) := by
  unfold box at h ⊢
  rw [heap_setCell_same w g 0 _ _ _ h]; rfl
theorem PowInv.setP (h : PowInv w wr p i j m A1 c1 A2 n2 c2) {i' : Nat} {B : Option Addr} {d : Nat} (hc : Can wr wr.heap.size B d (m ^ i')) : PowInv w (wr.setCell ⟨p, 0, none⟩ (.slice B (dl (m ^ i')) d)) p i' j m B d A2 n2 c2 := by
  obtain ⟨h1, h2, h3, h4, h5, h6, h7⟩ := h
  have e := (one_cell h1).1
  exact ⟨set_heap h1 _ _ _, (Below.heap_setCell _ _ _ _ (by simp)).trans h2, (Below.heap_setCell _ _ _ _ (by simp; omega)).trans h3, hc.setBox e _, h5.setBox e _, h6.setCell (by simp; omega) _, h7⟩
theorem PowInv.setS (h : PowInv w wr p i j m A1 c1 A2 n2 c2) {j' : Nat} {B : Option Addr} {d : Nat} (hc : Can wr wr.heap.size B d (m ^ j')) (hl : dl (m ^ j') ≤ 100000) : PowInv w (wr.setCell ⟨p + 1, 0, none⟩ (.slice B (dl (m ^ j')) d)) p i j' m A1 c1 B (dl (m ^ j')) d := by
  obtain ⟨h1, h2, h3, h4, h5, h6, h7⟩ := h
  have e := (one_cell h2).1
  exact ⟨(Below.heap_setCell _ _ _ _ (by simp)).trans h1, set_heap h2 _ _ _, (Below.heap_setCell _ _ _ _ (by simp; omega)).trans h3, h4.setBox e _, (hc.arg hl).setBox e _, h6.setCell (by simp; omega) _, h7⟩
end
theorem start2' (wa : World) (v0 v1 : Value) (t : TypeId) :
    ((wa.alloc (.cells #[v0] t)).alloc (.cells #[v1] t)).cell? ⟨wa.heap.size, 0, none⟩ = some v0 ∧ ((wa.alloc (.cells #[v0] t)).alloc (.cells #[v1] t)).heap[wa.heap.size + 1]? = some (.cells #[v1] t (0, 0)) ∧
    Below wa.heap.size wa ((wa.alloc (.cells #[v0] t)).alloc (.cells #[v1] t)) ∧ wa.heap.size + 2 ≤ ((wa.alloc (.cells #[v0] t)).alloc (.cells #[v1] t)).heap.size := by
  have b1 : (wa.alloc (.cells #[v0] t)).heap[wa.heap.size]? = some (.cells #[v0] t (0, 0)) := heap_alloc_new wa _
  have b2 : ((wa.alloc (.cells #[v0] t)).alloc (.cells #[v1] t)).heap[wa.heap.size + 1]? = some (.cells #[v1] t (0, 0)) := by simpa using heap_alloc_new (wa.alloc (.cells #[v0] t)) (.cells #[v1] t)
  have c1 : ((wa.alloc (.cells #[v0] t)).alloc (.cells #[v1] t)).heap[wa.heap.size]? = some (.cells #[v0] t (0, 0)) := (Below.heap_alloc _ _ _ (by simp)).trans b1
  exact ⟨(one_cell c1).1, b2, ((Below.refl _ _).alloc (Nat.le_refl _) _).alloc (by simp) _, by simp⟩
theorem pow_start {w w1 : World} {A : Option Addr} {n c : Nat} (hb : Hid (Below ((w.alloc (.cells #[.slice A n c] 25)).alloc (.cells #[.slice none 0 0] 25)).heap.size ((w.alloc (.cells #[.slice A n c] 25)).alloc (.cells #[.slice none 0 0] 25)) w1)) :
    Hid (w1.heap[w.heap.size + 1]? = some (box none 0 0) ∧ Below w.heap.size w w1 ∧ w.heap.size + 2 ≤ w1.heap.size) ∧ ∀ o, (w1.alloc o).cell? ⟨w.heap.size, 0, none⟩ = some (.slice A n c) := by
  obtain ⟨s1, s2, s3, s4⟩ := start2' w (.slice A n c) (.slice none 0 0) 25
  have hs := hb.out.size
  exact ⟨⟨(hb.out.block _ (by omega)).trans s2, s3.trans (hb.out.mono s3.size), by omega⟩, fun o => (World.cell?_alloc_lt w1 o _ (show w.heap.size < w1.heap.size by omega)).trans ((hb.out.cell (show w.heap.size < _ by omega)).trans s1)⟩
def NumH (W : World) (v : Nat) (e : Ending) (w' : World) : Prop := ∃ A c, e = .returned (.agg #[.slice A (dl v) c]) ∧ Hid (Can w' w'.heap.size A c v) ∧ Hid (Below W.heap.size W w')
theorem mul_inv1 {w W : World} {p i j m c1 n2 c2 : Nat} {A1 A2 : Option Addr} (P : PowInv w W p i j m A1 c1 A2 n2 c2) (hl : dl (m ^ i) ≤ 100000) : Calls Tryz.prog 105 #[.agg #[.slice A1 (dl (m ^ i)) c1], .agg #[.slice A2 n2 c2]] W (NumH W (m ^ (i + j))) := by
  rw [Nat.pow_add]
  exact (Mul_any (P.2.2.2.1.arg hl) P.2.2.2.2.1).mono fun _ _ h => h
theorem mul_inv2 {w W : World} {p i j m c1 n2 c2 : Nat} {A1 A2 : Option Addr} (P : PowInv w W p i j m A1 c1 A2 n2 c2) : Calls Tryz.prog 105 #[.agg #[.slice A2 n2 c2], .agg #[.slice A2 n2 c2]] W (NumH W (m ^ (j + j))) := by
  rw [Nat.pow_add]
  exact (Mul_any P.2.2.2.2.1 P.2.2.2.2.1).mono fun _ _ h => h
theorem pow_odd {i j kk k : Nat} (h : i + j * kk = k) (ho : kk % 2 = 1) : (i + j) + (j + j) * (kk / 2) = k := by
  obtain ⟨t, ht⟩ : ∃ t, kk = 2 * t + 1 := ⟨kk / 2, by omega⟩
  subst ht
  rw [show (2 * t + 1) / 2 = t by omega, Nat.add_mul]
  rw [Nat.mul_add, Nat.mul_one, Nat.mul_left_comm] at h
  omega
theorem pow_even {i j kk k : Nat} (h : i + j * kk = k) (ho : kk % 2 = 0) : i + (j + j) * (kk / 2) = k := by
  obtain ⟨t, ht⟩ : ∃ t, kk = 2 * t := ⟨kk / 2, by omega⟩
  subst ht
  rw [show (2 * t) / 2 = t by omega, Nat.add_mul]
  rw [Nat.mul_left_comm] at h
  omega
theorem two_le {i j kk k : Nat} (h : i + j * kk = k) (ht : 2 ≤ kk) : j + j ≤ k := by
  have h2 : j * 2 ≤ j * kk := Nat.mul_le_mul_left _ ht
  omega
set_option maxHeartbeats 4000000 in
theorem Pow_any {A : Option Addr} {n c m k : Nat} {w : World} (h : Arg w w.heap.size A n c m) (hk : k ≤ 1000000) (hb : ∀ i, i ≤ k → dl (m ^ i) ≤ 100000) :
    Calls Tryz.prog 135 #[.agg #[.slice A n c], .int .i64 (k : Int)] w (NumH w (m ^ k)) := by
  have H := hide (fun W (hbb : Below w.heap.size w W) => (h.below hbb).more hbb.size)
  have HB := hide hb
  have CO : Hid (∀ W, Calls Tryz.prog 10 #[.int .u64 1] W (NumH W 1)) := fun W => (Of_any (n := 1) (w := W) (by decide)).mono fun _ _ h => h
  clear h hb
  go_enter Tryz.func135, Tryz.ntmps135
  go_wp2_with (first | (go_at_call 10; go_must (refine (CO.out _).mono ?_); rintro e w1 ⟨A1, c1, rfl, hc1, hbk⟩; obtain ⟨HBX, e2⟩ := pow_start (A := A) (n := n) (c := c) hbk))
  obtain ⟨hr0, hw1, hw2⟩ := HBX.out
  have HP0 : Hid (PowInv w ((w1.alloc (.cells #[.slice A1 (dl 1) c1] 25)).alloc (.cells #[.slice A n c] 25)) w1.heap.size 0 1 m A1 c1 A n c) := by
    obtain ⟨_, s2, s3, s4⟩ := start2' w1 (.slice A1 (dl 1) c1) (.slice A n c) 25
    have s1 : ((w1.alloc (.cells #[.slice A1 (dl 1) c1] 25)).alloc (.cells #[.slice A n c] 25)).heap[w1.heap.size]? = some (.cells #[.slice A1 (dl 1) c1] 25 (0, 0)) := (Below.heap_alloc _ _ _ (by simp)).trans (heap_alloc_new w1 _)
    exact ⟨by rw [Nat.pow_zero]; exact s1, s2, (s3.block _ (by omega)).trans hr0, by rw [Nat.pow_zero]; exact (hc1.out.below s3).more s3.size, by rw [Nat.pow_one]; exact H.out _ (hw1.trans (s3.mono hw1.size)), hw1.trans (s3.mono hw1.size), hw2⟩
  clear hr0 hw1 hw2 HBX e2 hc1 hbk
  go_loopw [1] (fun kv wr => ∃ (kk i j : Nat) (B1 : Option Addr) (d1 : Nat) (B2 : Option Addr) (n2 d2 : Nat), kv = .int .i64 (kk : Int) ∧ kk ≤ k ∧ Hid (i + j * kk = k) ∧ Hid (PowInv w wr w1.heap.size i j m B1 d1 B2 n2 d2))
    (fun kv _ => (intOf kv).toNat)
  case atStart => exact ⟨k, 0, 1, _, _, _, _, _, rfl, Nat.le_refl _, by simp [Hid], HP0⟩
  case round =>
    obtain ⟨kk, i, j, B1, d1, B2, n2, d2, rfl, hkk, hexp, P⟩ := hrel
    have r1 := (one_cell P.out.1).1
    have f1 := (one_cell P.out.1).2
    have r2 := (one_cell P.out.2.1).1
    have f2 := (one_cell P.out.2.1).2
    have r3 := (one_cell P.out.2.2.1).1
    have f3 := (one_cell P.out.2.2.1).2
    by_cases h0 : kk = 0
    · subst h0
      have HI : Hid (i = k) := by have := hexp.out; rw [Nat.mul_zero] at this; exact this
      go_wp2
      refine bodyPost_ret (v := .agg #[.slice B1 (dl (m ^ i)) d1]) (by simp [results, Tryz.results135, go_sem, r3]) rfl ?_
      rw [← HI.out]
      exact ⟨B1, d1, rfl, P.out.2.2.2.1.setBox r3 _, P.out.2.2.2.2.2.1.setCell (by simp) _⟩
    · have hk1 : 0 < kk := by omega
      have HIK : Hid (i + j ≤ k ∧ j ≤ k ∧ i ≤ k) := by
        have h1 := hexp.out
        have h2 : j * 1 ≤ j * kk := Nat.mul_le_mul_left _ hk1
        unfold Hid; omega
      clear h0
      by_cases hodd : kk % 2 = 1
      · have HO := hide (pow_odd hexp.out hodd)
        have hod : (((kk : Int) % 2) == 1) = true := by rw [beq_iff_eq]; omega
        by_cases ht : kk / 2 = 0
        · have HT := hide ht
          have hti : ¬ (0 : Int) < (kk : Int) / 2 := by omega
          clear hodd ht
          go_wp2_with (first | (go_at_call 105; go_must (refine (mul_inv1 P.out (HB.out _ HIK.out.2.2)).mono ?_); rintro e w2 ⟨B3, d3, rfl, hc3, hbk⟩; have P2 := hide (P.out.below hbk.out); have r1 := (one_cell P2.out.1).1; have f1 := (one_cell P2.out.1).2))
          go_roundw
          case rel => exact ⟨kk / 2, i + j, j, B3, d3, B2, n2, d2, rfl, by omega, by have := HO.out; rw [HT.out, Nat.mul_zero] at this; unfold Hid; rw [HT.out, Nat.mul_zero]; exact this, P2.out.setP hc3.out⟩
          case measure => simp [intOf]; omega
        · have hti : (0 : Int) < (kk : Int) / 2 := by omega
          have HJJ := hide (two_le hexp.out (show 2 ≤ kk by omega))
          clear hodd ht
          go_wp2_with (first | (go_at_call 105; ((with_reducible refine (mul_inv1 P.out (HB.out _ HIK.out.2.2)).mono ?_)); rintro e w2 ⟨B3, d3, rfl, hc3, hbk⟩; have P2 := hide (P.out.below hbk.out); have r1 := (one_cell P2.out.1).1; have f1 := (one_cell P2.out.1).2; have P3 := hide (P2.out.setP hc3.out); have r2 := (one_cell P3.out.2.1).1) | (go_at_call 105; (refine (mul_inv2 P3.out).mono ?_); rintro e w4 ⟨B4, d4, rfl, hc4, hbk⟩; have P4 := hide (P3.out.below hbk.out); have r2 := (one_cell P4.out.2.1).1; have f2 := (one_cell P4.out.2.1).2))
          go_roundw
          case rel => exact ⟨kk / 2, i + j, j + j, B3, d3, B4, _, d4, rfl, by omega, HO, P4.out.setS hc4.out (HB.out _ HJJ.out)⟩
          case measure => simp [intOf]; omega
      · have HE := hide (pow_even hexp.out (by omega))
        have hod : (((kk : Int) % 2) == 1) = false := by rw [beq_eq_false_iff_ne]; omega
        have hti : (0 : Int) < (kk : Int) / 2 := by omega
        have HJJ := hide (two_le hexp.out (show 2 ≤ kk by omega))
        clear hodd
        go_wp2_with (first | (go_at_call 105; (refine (mul_inv2 P.out).mono ?_); rintro e w4 ⟨B4, d4, rfl, hc4, hbk⟩; have P4 := hide (P.out.below hbk.out); have r2 := (one_cell P4.out.2.1).1; have f2 := (one_cell P4.out.2.1).2))
        go_roundw
        case rel => exact ⟨kk / 2, i, j + j, B1, d1, B4, _, d4, rfl, by omega, HE, P4.out.setS hc4.out (HB.out _ HJJ.out)⟩
        case measure => simp [intOf]; omega
end Go.Proofs.YteahcbeohopdlaaGreatDoor
end

section
/- Pow where the power is below 1: it is 1. No conditions on sizes. -/
open Go.RowKit
set_option maxRecDepth 100000
namespace Go.Proofs.YteahcbeohopdlaaGreatDoor
set_option maxHeartbeats 1000000 in
theorem Pow_low {A : Option Addr} {n c : Nat} {k : Int} {w : World} (hk : k ≤ 0) (hk2 : -9223372036854775808 ≤ k) : Calls Tryz.prog 135 #[.agg #[.slice A n c], .int .i64 k] w (NumH w 1) := by
  have CO : Hid (∀ W, Calls Tryz.prog 10 #[.int .u64 1] W (NumH W 1)) := fun W => (Of_any (n := 1) (w := W) (by decide)).mono fun _ _ h => h
  go_enter Tryz.func135, Tryz.ntmps135
  go_wp2_with (first | (go_at_call 10; go_must (refine (CO.out _).mono ?_); rintro e w1 ⟨A1, c1, rfl, hc1, hbk⟩; obtain ⟨HBX, e2⟩ := pow_start (A := A) (n := n) (c := c) hbk; have HBX := hide HBX))
  obtain ⟨hr0, hw1, hw2⟩ := HBX.out.out
  have HP0 : Hid (((w1.alloc (.cells #[.slice A1 (dl 1) c1] 25)).alloc (.cells #[.slice A n c] 25)).heap[w1.heap.size]? = some (box A1 (dl 1) c1) ∧ ((w1.alloc (.cells #[.slice A1 (dl 1) c1] 25)).alloc (.cells #[.slice A n c] 25)).heap[w.heap.size + 1]? = some (box none 0 0) ∧
      Can ((w1.alloc (.cells #[.slice A1 (dl 1) c1] 25)).alloc (.cells #[.slice A n c] 25)) ((w1.alloc (.cells #[.slice A1 (dl 1) c1] 25)).alloc (.cells #[.slice A n c] 25)).heap.size A1 c1 1 ∧ Below w.heap.size w ((w1.alloc (.cells #[.slice A1 (dl 1) c1] 25)).alloc (.cells #[.slice A n c] 25))) := by
    obtain ⟨_, s2, s3, s4⟩ := start2' w1 (.slice A1 (dl 1) c1) (.slice A n c) 25
    have s1 : ((w1.alloc (.cells #[.slice A1 (dl 1) c1] 25)).alloc (.cells #[.slice A n c] 25)).heap[w1.heap.size]? = some (.cells #[.slice A1 (dl 1) c1] 25 (0, 0)) := (Below.heap_alloc _ _ _ (by simp)).trans (heap_alloc_new w1 _)
    exact ⟨s1, (s3.block _ (by omega)).trans hr0, (hc1.out.below s3).more s3.size, hw1.trans (s3.mono hw1.size)⟩
  have r1 := (one_cell HP0.out.1).1
  have r3 := (one_cell HP0.out.2.1).1
  have f3 := (one_cell HP0.out.2.1).2
  refine wp_loop_rounds 1 ?_; rw [rounds_succ]
  go_wp2
  refine bodyPost_ret (v := .agg #[.slice A1 (dl 1) c1]) (by simp [results, Tryz.results135, go_sem, r3]) rfl ?_
  exact ⟨A1, c1, rfl, HP0.out.2.2.1.setBox r3 _, HP0.out.2.2.2.setCell (by simp) _⟩
end Go.Proofs.YteahcbeohopdlaaGreatDoor
end

section
/- NatKnown's calls, each in the form that the walk wants: Low, Parse, Text, Good, Pow, and slices written out. No conditions. -/
open Go.RowKit
set_option maxRecDepth 100000
namespace Go.Proofs.YteahcbeohopdlaaGreatDoor
/-- A slice written out: the words need not be trimmed. -/
theorem nm_lit {W : World} {g n m : Nat} {ws : List Nat} (h : Blk U32 109 W g ws) (hn : n = ws.length) (h1 : n ≤ 100000) (hg : Good32 ws) (hv : val W32 ws = m) : Nm W (some ⟨g, 0, none⟩) n n m :=
  ⟨ws, hn, Nat.le_refl _, h1, h.rd0 h.lt, hg, hv⟩
def LowR (W : World) (v : Int) (b : Bool) (e : Ending) (w' : World) : Prop := e = .returned (.tuple #[.int .u64 v, .bool b]) ∧ Hid (Below W.heap.size W w')
section
variable {W : World} {A : Option Addr} {n c m : Nat}
def ParNo (W : World) (e : Ending) (w' : World) : Prop := e = .returned (.tuple #[.agg #[.slice none 0 0], .bool false]) ∧ Hid (Below W.heap.size W w')
def ParYes (W : World) (v : Nat) (e : Ending) (w' : World) : Prop := ∃ A c, e = .returned (.tuple #[.agg #[.slice A (dl v) c], .bool true]) ∧ Nm w' A (dl v) c v ∧ Hid (Below W.heap.size W w')
theorem parse_no {s : ByteArray} (hs : s.size ≤ 100000) (hd : digB s.data.toList = false) : Calls Tryz.prog 85 #[.string s] W (ParNo W) := by
  refine (Parse_any s W hs).mono fun e w' h1 => ?_
  unfold ParsePost at h1
  rw [if_neg (by rw [hd]; simp)] at h1
  exact h1
theorem parse_yes {s : ByteArray} {v : Nat} (hs : s.size ≤ 100000) (hd : digB s.data.toList = true) (hv : numL s.data.toList = v) (hl : dl v ≤ 100000) : Calls Tryz.prog 85 #[.string s] W (ParYes W v) := by
  subst hv
  refine (Parse_any s W hs).mono fun e w' h1 => ?_
  unfold ParsePost at h1
  rw [if_pos hd] at h1
  obtain ⟨A2, c2, he, hc, hb⟩ := h1
  exact ⟨A2, c2, he, nm_can hc hl, hb⟩
def TextR (W : World) (s : ByteArray) (e : Ending) (w' : World) : Prop := e = .returned (.string s) ∧ Hid (Below W.heap.size W w')
theorem text_r {s : ByteArray} (h : Nm W A n c m) (hs : s.data.toList = decL m) : Calls Tryz.prog 89 #[.agg #[.slice A n c]] W (TextR W s) := by
  refine (Text_any h.out).mono fun e w' ⟨t, he, ht, hb⟩ => ⟨?_, hb⟩
  rw [he, show t = s from ByteArray.ext (Array.ext' (ht.trans hs.symm))]
theorem good_no {g : Nat} {ws : List Nat} (h : Blk U32 109 W g ws) (hn : n = ws.length) (h1 : n ≤ 100000) (hg : goodB ws = false) : Calls Tryz.prog 91 #[.agg #[.slice (some ⟨g, 0, none⟩) n c]] W (BoolR W false) := by
  refine (Good_any hn (h.rd0 h.lt) (by omega)).mono fun e w' ⟨he, hb⟩ => ⟨?_, hb⟩
  rw [he, hg]
theorem good_nil : Calls Tryz.prog 91 #[.agg #[.slice none 0 0]] W (BoolR W true) := by
  refine (Good_any (n := 0) (c := 0) (A := none) (ws := []) rfl (fun h => absurd h (by decide)) (by omega)).mono fun e w' ⟨he, hb⟩ => ⟨?_, hb⟩
  rw [he]; rfl
theorem pow_h {k : Nat} {v : Nat} (h : Nm W A n c m) (hk : k ≤ 1000000) (hb : ∀ i, i ≤ k → dl (m ^ i) ≤ 100000) (hv : m ^ k = v) : Calls Tryz.prog 135 #[.agg #[.slice A n c], .int .i64 (k : Int)] W (NumR W v) := by
  subst hv
  exact (Pow_any h.out hk hb).mono fun _ _ ⟨A2, c2, he, hc, hbk⟩ => ⟨A2, c2, he, nm_can hc.out (hb k (Nat.le_refl _)), hbk⟩
theorem pow_low_h {k : Int} (hk : k ≤ 0) (hk2 : -9223372036854775808 ≤ k) : Calls Tryz.prog 135 #[.agg #[.slice A n c], .int .i64 k] W (NumR W 1) :=
  (Pow_low hk hk2).mono fun _ _ ⟨A2, c2, he, hc, hbk⟩ => ⟨A2, c2, he, nm_can hc.out (Nat.le_trans (dl_le (k := 1) (by decide)) (by decide)), hbk⟩
theorem pow_ten20 (h : Nm W A n c 10) : Calls Tryz.prog 135 #[.agg #[.slice A n c], .int .i64 20] W (NumR W (10 ^ 20)) :=
  pow_h (k := 20) h (by decide) (fun i hi => Nat.le_trans (dl_le (k := 20) (Nat.lt_of_le_of_lt (Nat.pow_le_pow_right (by decide) hi) (Nat.pow_lt_pow_left (by decide) (by decide)))) (by decide)) rfl
end
theorem lit3 (W : World) (a b c : Nat) : Blk U32 109 (W.alloc (.cells #[.int .u32 (a : Int), .int .u32 (b : Int), .int .u32 (c : Int)] 109)) W.heap.size [a, b, c] := heap_alloc_new W _
theorem good32_3 {a b c : Nat} (ha : a < W32) (hb : b < W32) (hc : c < W32) : Good32 [a, b, c] := by
  intro x hx; simp at hx; rcases hx with rfl | rfl | rfl <;> assumption
end Go.Proofs.YteahcbeohopdlaaGreatDoor
end

section
/- Numerals: the digits behind the point, and those that are not noughts at the end. No conditions. -/
open Go.RowKit
set_option maxRecDepth 100000
namespace Go.Proofs.YteahcbeohopdlaaGreatDoor
/-- The digits behind the point. -/
def partL (m s : Nat) : List UInt8 := (decL (10 ^ s + m % 10 ^ s)).drop 1
theorem decL_all (m : Nat) : (decL m).all isDig = true := by
  have h := (numL_decL m).2
  unfold digB at h
  rw [Bool.and_eq_true] at h
  exact h.2
theorem decL_ne (m : Nat) : decL m ≠ [] := by
  have h := (numL_decL m).2
  unfold digB at h
  rw [Bool.and_eq_true] at h
  intro e
  rw [e] at h
  exact absurd h.1 (by simp)
theorem numL_one (c : UInt8) (t : List UInt8) : numL (c :: t) = (c.toNat - 48) * 10 ^ t.length + numL t := by
  have h := numL_append [c] t
  rw [List.singleton_append] at h
  rw [h]
  congr 2
  simp [numL]
theorem one_rest {s r : Nat} (hr : r < 10 ^ s) : ∃ t, decL (10 ^ s + r) = 49 :: t ∧ t.length = s ∧ numL t = r ∧ t.all isDig = true := by
  obtain ⟨c, t, hct⟩ : ∃ c t, decL (10 ^ s + r) = c :: t := by
    cases h : decL (10 ^ s + r) with
    | nil => exact absurd h (decL_ne _)
    | cons c t => exact ⟨c, t, rfl⟩
  have hp : 10 ^ (s + 1) = 10 ^ s * 10 := Nat.pow_succ ..
  have hall := decL_all (10 ^ s + r)
  have hnum := (numL_decL (10 ^ s + r)).1
  have hle := dt_le (m := 10 ^ s + r) (k := s + 1) (by omega) (by omega)
  have hlt := numL_lt _ hall
  rw [hnum] at hlt
  have hge : s < (decL (10 ^ s + r)).length := by
    rcases Nat.lt_or_ge s (decL (10 ^ s + r)).length with h | h
    · exact h
    · have := Nat.pow_le_pow_right (n := 10) (by decide) h
      omega
  rw [hct] at hall hnum hle hge
  rw [List.length_cons] at hle hge
  have hl : t.length = s := by omega
  rw [numL_one, hl] at hnum
  rw [List.all_cons, Bool.and_eq_true] at hall
  have ht := numL_lt t hall.2
  rw [hl] at ht
  have h0 : 0 < 10 ^ s := Nat.pow_pos (by decide)
  have h1 : c.toNat - 48 = 1 := by
    have e1 : ((c.toNat - 48) * 10 ^ s + numL t) / 10 ^ s = c.toNat - 48 := by
      rw [Nat.mul_comm, Nat.mul_add_div h0, Nat.div_eq_of_lt ht, Nat.add_zero]
    have e2 : (10 ^ s + r) / 10 ^ s = 1 := by
      rw [Nat.add_div_left _ h0, Nat.div_eq_of_lt hr]
    rw [← e1, hnum, e2]
  rw [h1, Nat.one_mul] at hnum
  have hc : c = 49 := UInt8.toNat_inj.1 (by show c.toNat = 49; omega)
  exact ⟨t, by rw [hct, hc], hl, by omega, hall.2⟩
theorem part_facts (m s : Nat) : decL (10 ^ s + m % 10 ^ s) = 49 :: partL m s ∧ (partL m s).length = s ∧ numL (partL m s) = m % 10 ^ s ∧ (partL m s).all isDig = true := by
  obtain ⟨t, h1, h2, h3, h4⟩ := one_rest (Nat.mod_lt m (Nat.pow_pos (n := s) (show 0 < 10 by decide)))
  have e : partL m s = t := by unfold partL; rw [h1]; rfl
  rw [e]
  exact ⟨h1, h2, h3, h4⟩
theorem back_num (m s : Nat) : numL (decL (m / 10 ^ s) ++ partL m s) = m := by
  obtain ⟨_, h2, h3, _⟩ := part_facts m s
  rw [numL_append, (numL_decL _).1, h2, h3, Nat.mul_comm]
  exact Nat.div_add_mod m (10 ^ s)
theorem digB_app {a b : List UInt8} (ha : digB a = true) (hb : b.all isDig = true) : digB (a ++ b) = true := by
  unfold digB at ha ⊢
  rw [Bool.and_eq_true] at ha ⊢
  refine ⟨?_, by rw [List.all_append, ha.2, hb]; rfl⟩
  cases a with
  | nil => simp at ha
  | cons x xs => rfl
theorem back_dig (m s : Nat) : digB (decL (m / 10 ^ s) ++ partL m s) = true := digB_app (numL_decL _).2 (part_facts m s).2.2.2
/-- A text without the noughts at its end. -/
def strip (l : List UInt8) : List UInt8 := (l.reverse.dropWhile (· == 48)).reverse
theorem rev_strip (l : List UInt8) : ∃ k, l.reverse = List.replicate k 48 ++ l.reverse.dropWhile (· == 48) := by
  generalize l.reverse = r
  induction r with
  | nil => exact ⟨0, rfl⟩
  | cons x xs ih =>
    by_cases h : x = 48
    · obtain ⟨k, hk⟩ := ih
      subst h
      refine ⟨k + 1, ?_⟩
      rw [List.dropWhile_cons, if_pos (by rfl), List.replicate_succ, List.cons_append, ← hk]
    · refine ⟨0, ?_⟩
      rw [List.dropWhile_cons, if_neg (by simpa using h)]
      rfl
theorem strip_app (l : List UInt8) : l = strip l ++ List.replicate (l.length - (strip l).length) 48 := by
  obtain ⟨k, hk⟩ := rev_strip l
  have h1 : l = strip l ++ List.replicate k 48 := by
    have := congrArg List.reverse hk
    rw [List.reverse_reverse, List.reverse_append, List.reverse_replicate] at this
    exact this
  have h2 : l.length = (strip l).length + k := by
    have := congrArg List.length h1
    rwa [List.length_append, List.length_replicate] at this
  rw [show l.length - (strip l).length = k by omega]
  exact h1
theorem strip_last {l : List UInt8} (h : strip l ≠ []) : ∃ a d, strip l = a ++ [d] ∧ d ≠ 48 := by
  unfold strip at h ⊢
  cases hr : l.reverse.dropWhile (· == 48) with
  | nil => rw [hr] at h; exact absurd rfl h
  | cons x xs =>
    refine ⟨xs.reverse, x, by simp, ?_⟩
    have h1 := List.head?_dropWhile_not (p := (· == 48)) l.reverse
    rw [hr] at h1
    simpa using h1
theorem numL_noughts (k : Nat) : numL (List.replicate k 48) = 0 := by
  induction k with
  | zero => rfl
  | succ k ih => rw [List.replicate_succ, numL_one, ih]; simp
/-- How many digits behind the point are left. -/
def shortS (m s : Nat) : Nat := (strip (partL m s)).length
theorem short_le (m s : Nat) : shortS m s ≤ s := by
  have h := congrArg List.length (strip_app (partL m s))
  rw [List.length_append, (part_facts m s).2.1] at h
  unfold shortS
  omega
theorem dvd_rest {m s k : Nat} (hk : k ≤ s) : 10 ^ k ∣ m ↔ 10 ^ k ∣ m % 10 ^ s := by
  have h1 : 10 ^ k ∣ 10 ^ s := Nat.pow_dvd_pow 10 hk
  have h2 := Nat.div_add_mod m (10 ^ s)
  constructor
  · intro h
    exact (Nat.dvd_add_right (Nat.dvd_trans h1 (Nat.dvd_mul_right _ (m / 10 ^ s)))).1 (by rw [h2]; exact h)
  · intro h
    rw [← h2]
    exact (Nat.dvd_add_right (Nat.dvd_trans h1 (Nat.dvd_mul_right _ (m / 10 ^ s)))).2 h
theorem short_num (m s : Nat) : m % 10 ^ s = numL (strip (partL m s)) * 10 ^ (s - shortS m s) := by
  have h := strip_app (partL m s)
  have h1 := (part_facts m s).2.2.1
  rw [h, numL_append, numL_noughts, List.length_replicate, (part_facts m s).2.1] at h1
  unfold shortS
  omega
theorem short_dvd (m s : Nat) : 10 ^ (s - shortS m s) ∣ m := by
  rw [dvd_rest (s := s) (by omega), short_num]
  exact Nat.dvd_mul_left _ _
theorem short_ndvd {m s : Nat} (h : 0 < shortS m s) : ¬ 10 ^ (s - shortS m s + 1) ∣ m := by
  have hle := short_le m s
  rw [dvd_rest (s := s) (by omega), short_num]
  obtain ⟨a, d, had, hd⟩ := strip_last (l := partL m s) (by intro e; unfold shortS at h; rw [e] at h; exact absurd h (by decide))
  have hdig : isDig d = true := by
    have h1 := (part_facts m s).2.2.2
    rw [strip_app (partL m s), had] at h1
    simp only [List.all_append, Bool.and_eq_true, List.all_cons] at h1
    exact h1.1.2.1
  rw [had, numL_snoc]
  have h2 := (dig_iff d).1 hdig
  have h3 : d.toNat ≠ 48 := fun e => hd (UInt8.toNat_inj.1 (by show d.toNat = 48; exact e))
  rw [Nat.pow_succ, Nat.mul_comm (10 ^ _) 10]
  intro h4
  have h5 := Nat.dvd_of_mul_dvd_mul_right (Nat.pow_pos (by decide)) h4
  omega
/-- The least scale that tells the number just. -/
theorem short_least {m s j : Nat} : (10 ^ s ∣ m * 10 ^ j ∧ j ≤ s) ↔ (shortS m s ≤ j ∧ j ≤ s) := by
  have hle := short_le m s
  constructor
  · rintro ⟨h, hj⟩
    refine ⟨?_, hj⟩
    rcases Nat.lt_or_ge j (shortS m s) with h1 | h1
    · exfalso
      refine short_ndvd (m := m) (s := s) (by omega) ?_
      have e : 10 ^ s = 10 ^ (s - j) * 10 ^ j := by rw [← Nat.pow_add]; congr 1; omega
      rw [e] at h
      have h2 := Nat.dvd_of_mul_dvd_mul_right (Nat.pow_pos (by decide)) h
      exact Nat.dvd_trans (Nat.pow_dvd_pow 10 (by omega)) h2
    · exact h1
  · rintro ⟨h1, hj⟩
    refine ⟨?_, hj⟩
    have e : 10 ^ s = 10 ^ (s - j) * 10 ^ j := by rw [← Nat.pow_add]; congr 1; omega
    rw [e]
    exact Nat.mul_dvd_mul (Nat.dvd_trans (Nat.pow_dvd_pow 10 (by omega)) (short_dvd m s)) (Nat.dvd_refl _)
end Go.Proofs.YteahcbeohopdlaaGreatDoor
end
