/- Pow. Conditions: every power up to the last has at most 100000 words. -/
import Derived.Test.YtcidclajfbnfoaaDoorDvo
import Derived.Deep.LoopGhost
open Go.RowKit
set_option maxRecDepth 100000
namespace Go.Proofs.YtcidclajfbnfoaaDoor
def box (A : Option Addr) (n c : Nat) : Obj := .cells #[.slice A n c] 25 (0, 0)
theorem Can.setBox {w : World} {A : Option Addr} {c m : Nat} (h : Can w w.heap.size A c m) {p : Addr} {a : Option Addr} {l k : Nat} (hc : w.cell? p = some (.slice a l k)) (u : Value) : Can (w.setCell p u) (w.setCell p u).heap.size A c m := by
  refine ⟨h.1, ?_⟩
  have := h.2.setBox hc u
  simpa [World.setCell] using this
theorem Arg.setBox {w : World} {A : Option Addr} {n c m : Nat} (h : Arg w w.heap.size A n c m) {p : Addr} {a : Option Addr} {l k : Nat} (hc : w.cell? p = some (.slice a l k)) (u : Value) : Arg (w.setCell p u) (w.setCell p u).heap.size A n c m := by
  obtain ⟨ws, h1, h2, h3, h4, h5⟩ := h
  refine ⟨ws, h1, h2, h3, ?_, h5⟩
  have := h4.setBox hc u
  simpa [World.setCell] using this
/-- The two variables' boxes, and what they tell. -/
def PowInv (w wr : World) (p i j m : Nat) (A1 : Option Addr) (c1 : Nat) (A2 : Option Addr) (n2 c2 : Nat) : Prop :=
  wr.heap[p]? = some (box A1 (dl (m ^ i)) c1) ∧ wr.heap[p + 1]? = some (box A2 n2 c2) ∧ wr.heap[w.heap.size + 1]? = some (box none 0 0) ∧ Can wr wr.heap.size A1 c1 (m ^ i) ∧ Arg wr wr.heap.size A2 n2 c2 (m ^ j) ∧ Below w.heap.size w wr ∧ w.heap.size + 2 ≤ p
theorem lt_of_heap {w : World} {g : Nat} {o : Obj} (h : w.heap[g]? = some o) : g < w.heap.size := by
  rcases Nat.lt_or_ge g w.heap.size with hlt | hge
  · exact hlt
  · rw [Array.getElem?_eq_none hge] at h; cases h
section
variable {w wr w2 : World} {p i j m c1 n2 c2 : Nat} {A1 A2 : Option Addr}
theorem PowInv.below (h : PowInv w wr p i j m A1 c1 A2 n2 c2) (hb : Below wr.heap.size wr w2) : PowInv w w2 p i j m A1 c1 A2 n2 c2 := by
  obtain ⟨h1, h2, h3, h4, h5, h6, h7⟩ := h
  exact ⟨(hb.block _ (lt_of_heap h1)).trans h1, (hb.block _ (lt_of_heap h2)).trans h2, (hb.block _ (lt_of_heap h3)).trans h3, (h4.below hb).more hb.size, (h5.below hb).more hb.size, h6.trans (hb.mono h6.size), h7⟩
theorem set_heap {w : World} {g : Nat} {A : Option Addr} {n c : Nat} (h : w.heap[g]? = some (box A n c)) (B : Option Addr) (k d : Nat) : (w.setCell ⟨g, 0, none⟩ (.slice B k d)).heap[g]? = some (box B k d) := by
  unfold box at h ⊢
  rw [heap_setCell_same w g 0 _ _ _ h]; rfl
theorem PowInv.setP (h : PowInv w wr p i j m A1 c1 A2 n2 c2) {i' : Nat} {B : Option Addr} {d : Nat} (hc : Can wr wr.heap.size B d (m ^ i')) : PowInv w (wr.setCell ⟨p, 0, none⟩ (.slice B (dl (m ^ i')) d)) p i' j m B d A2 n2 c2 := by
  obtain ⟨h1, h2, h3, h4, h5, h6, h7⟩ := h
  have e := (one_cell h1).1
  exact ⟨set_heap h1 _ _ _, (Below.heap_setCell _ _ _ _ (by simp)).trans h2, (Below.heap_setCell _ _ _ _ (by simp; omega)).trans h3, hc.setBox e _, h5.setBox e _, h6.setCell (by simp; omega) _, h7⟩
theorem PowInv.setS (h : PowInv w wr p i j m A1 c1 A2 n2 c2) {j' : Nat} {B : Option Addr} {d : Nat} (hc : Can wr wr.heap.size B d (m ^ j')) (hl : dl (m ^ j') ≤ 100000) : PowInv w (wr.setCell ⟨p + 1, 0, none⟩ (.slice B (dl (m ^ j')) d)) p i j' m A1 c1 B (dl (m ^ j')) d := by
  obtain ⟨h1, h2, h3, h4, h5, h6, h7⟩ := h
  have e := (one_cell h2).1
  exact ⟨(Below.heap_setCell _ _ _ _ (by simp)).trans h1, set_heap h2 _ _ _, (Below.heap_setCell _ _ _ _ (by simp; omega)).trans h3, h4.setBox e _, (hc.arg hl).setBox e _, h6.setCell (by simp; omega) _, h7⟩
end
theorem start2' (wa : World) (v0 v1 : Value) (t : TypeId) :
    ((wa.alloc (.cells #[v0] t)).alloc (.cells #[v1] t)).cell? ⟨wa.heap.size, 0, none⟩ = some v0 ∧ ((wa.alloc (.cells #[v0] t)).alloc (.cells #[v1] t)).heap[wa.heap.size + 1]? = some (.cells #[v1] t (0, 0)) ∧
    Below wa.heap.size wa ((wa.alloc (.cells #[v0] t)).alloc (.cells #[v1] t)) ∧ wa.heap.size + 2 ≤ ((wa.alloc (.cells #[v0] t)).alloc (.cells #[v1] t)).heap.size := by
  have b1 : (wa.alloc (.cells #[v0] t)).heap[wa.heap.size]? = some (.cells #[v0] t (0, 0)) := heap_alloc_new wa _
  have b2 : ((wa.alloc (.cells #[v0] t)).alloc (.cells #[v1] t)).heap[wa.heap.size + 1]? = some (.cells #[v1] t (0, 0)) := by simpa using heap_alloc_new (wa.alloc (.cells #[v0] t)) (.cells #[v1] t)
  have c1 : ((wa.alloc (.cells #[v0] t)).alloc (.cells #[v1] t)).heap[wa.heap.size]? = some (.cells #[v0] t (0, 0)) := (Below.heap_alloc _ _ _ (by simp)).trans b1
  exact ⟨(one_cell c1).1, b2, ((Below.refl _ _).alloc (Nat.le_refl _) _).alloc (by simp) _, by simp⟩
theorem pow_start {w w1 : World} {A : Option Addr} {n c : Nat} (hb : Hid (Below ((w.alloc (.cells #[.slice A n c] 25)).alloc (.cells #[.slice none 0 0] 25)).heap.size ((w.alloc (.cells #[.slice A n c] 25)).alloc (.cells #[.slice none 0 0] 25)) w1)) :
    Hid (w1.heap[w.heap.size + 1]? = some (box none 0 0) ∧ Below w.heap.size w w1 ∧ w.heap.size + 2 ≤ w1.heap.size) ∧ ∀ o, (w1.alloc o).cell? ⟨w.heap.size, 0, none⟩ = some (.slice A n c) := by
  obtain ⟨s1, s2, s3, s4⟩ := start2' w (.slice A n c) (.slice none 0 0) 25
  have hs := hb.out.size
  exact ⟨⟨(hb.out.block _ (by omega)).trans s2, s3.trans (hb.out.mono s3.size), by omega⟩, fun o => (World.cell?_alloc_lt w1 o _ (show w.heap.size < w1.heap.size by omega)).trans ((hb.out.cell (show w.heap.size < _ by omega)).trans s1)⟩
def NumH (W : World) (v : Nat) (e : Ending) (w' : World) : Prop := ∃ A c, e = .returned (.agg #[.slice A (dl v) c]) ∧ Hid (Can w' w'.heap.size A c v) ∧ Hid (Below W.heap.size W w')
theorem mul_inv1 {w W : World} {p i j m c1 n2 c2 : Nat} {A1 A2 : Option Addr} (P : PowInv w W p i j m A1 c1 A2 n2 c2) (hl : dl (m ^ i) ≤ 100000) : Calls Tryd.prog 32 #[.agg #[.slice A1 (dl (m ^ i)) c1], .agg #[.slice A2 n2 c2]] W (NumH W (m ^ (i + j))) := by
  rw [Nat.pow_add]
  exact (Mul_any (P.2.2.2.1.arg hl) P.2.2.2.2.1).mono fun _ _ h => h
theorem mul_inv2 {w W : World} {p i j m c1 n2 c2 : Nat} {A1 A2 : Option Addr} (P : PowInv w W p i j m A1 c1 A2 n2 c2) : Calls Tryd.prog 32 #[.agg #[.slice A2 n2 c2], .agg #[.slice A2 n2 c2]] W (NumH W (m ^ (j + j))) := by
  rw [Nat.pow_add]
  exact (Mul_any P.2.2.2.2.1 P.2.2.2.2.1).mono fun _ _ h => h
theorem pow_odd {i j kk k : Nat} (h : i + j * kk = k) (ho : kk % 2 = 1) : (i + j) + (j + j) * (kk / 2) = k := by
  obtain ⟨t, ht⟩ : ∃ t, kk = 2 * t + 1 := ⟨kk / 2, by omega⟩
  subst ht
  rw [show (2 * t + 1) / 2 = t by omega, Nat.add_mul]
  rw [Nat.mul_add, Nat.mul_one, Nat.mul_left_comm] at h
  omega
theorem pow_even {i j kk k : Nat} (h : i + j * kk = k) (ho : kk % 2 = 0) : i + (j + j) * (kk / 2) = k := by
  obtain ⟨t, ht⟩ : ∃ t, kk = 2 * t := ⟨kk / 2, by omega⟩
  subst ht
  rw [show (2 * t) / 2 = t by omega, Nat.add_mul]
  rw [Nat.mul_left_comm] at h
  omega
theorem two_le {i j kk k : Nat} (h : i + j * kk = k) (ht : 2 ≤ kk) : j + j ≤ k := by
  have h2 : j * 2 ≤ j * kk := Nat.mul_le_mul_left _ ht
  omega
set_option maxHeartbeats 4000000 in
theorem Pow_any {A : Option Addr} {n c m k : Nat} {w : World} (h : Arg w w.heap.size A n c m) (hk : k ≤ 1000000) (hb : ∀ i, i ≤ k → dl (m ^ i) ≤ 100000) :
    Calls Tryd.prog 23 #[.agg #[.slice A n c], .int .i64 (k : Int)] w (NumH w (m ^ k)) := by
  have H := hide (fun W (hbb : Below w.heap.size w W) => (h.below hbb).more hbb.size)
  have HB := hide hb
  have CO : Hid (∀ W, Calls Tryd.prog 13 #[.int .u64 1] W (NumH W 1)) := fun W => (Of_any (n := 1) (w := W) (by decide)).mono fun _ _ h => h
  clear h hb
  go_enter Tryd.func23, Tryd.ntmps23
  go_wp2_with (first | (go_at_call 13; go_must (refine (CO.out _).mono ?_); rintro e w1 ⟨A1, c1, rfl, hc1, hbk⟩; obtain ⟨HBX, e2⟩ := pow_start (A := A) (n := n) (c := c) hbk))
  obtain ⟨hr0, hw1, hw2⟩ := HBX.out
  have HP0 : Hid (PowInv w ((w1.alloc (.cells #[.slice A1 (dl 1) c1] 25)).alloc (.cells #[.slice A n c] 25)) w1.heap.size 0 1 m A1 c1 A n c) := by
    obtain ⟨_, s2, s3, s4⟩ := start2' w1 (.slice A1 (dl 1) c1) (.slice A n c) 25
    have s1 : ((w1.alloc (.cells #[.slice A1 (dl 1) c1] 25)).alloc (.cells #[.slice A n c] 25)).heap[w1.heap.size]? = some (.cells #[.slice A1 (dl 1) c1] 25 (0, 0)) := (Below.heap_alloc _ _ _ (by simp)).trans (heap_alloc_new w1 _)
    exact ⟨by rw [Nat.pow_zero]; exact s1, s2, (s3.block _ (by omega)).trans hr0, by rw [Nat.pow_zero]; exact (hc1.out.below s3).more s3.size, by rw [Nat.pow_one]; exact H.out _ (hw1.trans (s3.mono hw1.size)), hw1.trans (s3.mono hw1.size), hw2⟩
  clear hr0 hw1 hw2 HBX e2 hc1 hbk
  go_loopw [1] (fun kv wr => ∃ (kk i j : Nat) (B1 : Option Addr) (d1 : Nat) (B2 : Option Addr) (n2 d2 : Nat), kv = .int .i64 (kk : Int) ∧ kk ≤ k ∧ Hid (i + j * kk = k) ∧ Hid (PowInv w wr w1.heap.size i j m B1 d1 B2 n2 d2))
    (fun kv _ => (intOf kv).toNat)
  case atStart => exact ⟨k, 0, 1, _, _, _, _, _, rfl, Nat.le_refl _, by simp [Hid], HP0⟩
  case round =>
    obtain ⟨kk, i, j, B1, d1, B2, n2, d2, rfl, hkk, hexp, P⟩ := hrel
    have r1 := (one_cell P.out.1).1
    have f1 := (one_cell P.out.1).2
    have r2 := (one_cell P.out.2.1).1
    have f2 := (one_cell P.out.2.1).2
    have r3 := (one_cell P.out.2.2.1).1
    have f3 := (one_cell P.out.2.2.1).2
    by_cases h0 : kk = 0
    · subst h0
      have HI : Hid (i = k) := by have := hexp.out; rw [Nat.mul_zero] at this; exact this
      go_wp2
      refine bodyPost_ret (v := .agg #[.slice B1 (dl (m ^ i)) d1]) (by simp [results, Tryd.results23, go_sem, r3]) rfl ?_
      rw [← HI.out]
      exact ⟨B1, d1, rfl, P.out.2.2.2.1.setBox r3 _, P.out.2.2.2.2.2.1.setCell (by simp) _⟩
    · have hk1 : 0 < kk := by omega
      have HIK : Hid (i + j ≤ k ∧ j ≤ k ∧ i ≤ k) := by
        have h1 := hexp.out
        have h2 : j * 1 ≤ j * kk := Nat.mul_le_mul_left _ hk1
        unfold Hid; omega
      clear h0
      by_cases hodd : kk % 2 = 1
      · have HO := hide (pow_odd hexp.out hodd)
        have hod : (((kk : Int) % 2) == 1) = true := by rw [beq_iff_eq]; omega
        by_cases ht : kk / 2 = 0
        · have HT := hide ht
          have hti : ¬ (0 : Int) < (kk : Int) / 2 := by omega
          clear hodd ht
          go_wp2_with (first | (go_at_call 32; go_must (refine (mul_inv1 P.out (HB.out _ HIK.out.2.2)).mono ?_); rintro e w2 ⟨B3, d3, rfl, hc3, hbk⟩; have P2 := hide (P.out.below hbk.out); have r1 := (one_cell P2.out.1).1; have f1 := (one_cell P2.out.1).2))
          go_roundw
          case rel => exact ⟨kk / 2, i + j, j, B3, d3, B2, n2, d2, rfl, by omega, by have := HO.out; rw [HT.out, Nat.mul_zero] at this; unfold Hid; rw [HT.out, Nat.mul_zero]; exact this, P2.out.setP hc3.out⟩
          case measure => simp [intOf]; omega
        · have hti : (0 : Int) < (kk : Int) / 2 := by omega
          have HJJ := hide (two_le hexp.out (show 2 ≤ kk by omega))
          clear hodd ht
          go_wp2_with (first | (go_at_call 32; ((with_reducible refine (mul_inv1 P.out (HB.out _ HIK.out.2.2)).mono ?_)); rintro e w2 ⟨B3, d3, rfl, hc3, hbk⟩; have P2 := hide (P.out.below hbk.out); have r1 := (one_cell P2.out.1).1; have f1 := (one_cell P2.out.1).2; have P3 := hide (P2.out.setP hc3.out); have r2 := (one_cell P3.out.2.1).1) | (go_at_call 32; (refine (mul_inv2 P3.out).mono ?_); rintro e w4 ⟨B4, d4, rfl, hc4, hbk⟩; have P4 := hide (P3.out.below hbk.out); have r2 := (one_cell P4.out.2.1).1; have f2 := (one_cell P4.out.2.1).2))
          go_roundw
          case rel => exact ⟨kk / 2, i + j, j + j, B3, d3, B4, _, d4, rfl, by omega, HO, P4.out.setS hc4.out (HB.out _ HJJ.out)⟩
          case measure => simp [intOf]; omega
      · have HE := hide (pow_even hexp.out (by omega))
        have hod : (((kk : Int) % 2) == 1) = false := by rw [beq_eq_false_iff_ne]; omega
        have hti : (0 : Int) < (kk : Int) / 2 := by omega
        have HJJ := hide (two_le hexp.out (show 2 ≤ kk by omega))
        clear hodd
        go_wp2_with (first | (go_at_call 32; (refine (mul_inv2 P.out).mono ?_); rintro e w4 ⟨B4, d4, rfl, hc4, hbk⟩; have P4 := hide (P.out.below hbk.out); have r2 := (one_cell P4.out.2.1).1; have f2 := (one_cell P4.out.2.1).2))
        go_roundw
        case rel => exact ⟨kk / 2, i, j + j, B1, d1, B4, _, d4, rfl, by omega, HE, P4.out.setS hc4.out (HB.out _ HJJ.out)⟩
        case measure => simp [intOf]; omega
end Go.Proofs.YtcidclajfbnfoaaDoor
