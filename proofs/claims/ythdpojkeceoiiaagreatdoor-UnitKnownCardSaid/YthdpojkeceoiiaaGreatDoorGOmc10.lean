/- Several texts in one, each with its own sentence and conditions. -/
import Derived.Test.YthdpojkeceoiiaaGreatDoorGOmc7
import Derived.Test.YthdpojkeceoiiaaGreatDoorLdn
import Derived.Test.YthdpojkeceoiiaaGreatDoorGOmc4
import Derived.WalkSpells
import Derived.Lib.Strings
section
/- divideLong: the quotient's words and the rest's. Conditions: at most 100000 words, a divisor of two words or more, not greater than what is divided. -/
open Go.RowKit
set_option maxRecDepth 100000
namespace Go.Proofs.YthdpojkeceoiiaaGreatDoor
def LongPost (w : World) (m m' : Nat) (e : Ending) (w' : World) : Prop :=
  ∃ (gq gr nq nr : Nat) (Q R : List Nat), e = .returned (.tuple #[.slice (some ⟨gq, 0, none⟩) nq nq, .slice (some ⟨gr, 0, none⟩) nr nr]) ∧ Hid (Blk U32 73 w' gq Q) ∧ Hid (nq = Q.length ∧ Good32 Q ∧ nq ≤ 100000 ∧ val W32 Q = m / m') ∧
    Hid (Blk U32 73 w' gr R) ∧ Hid (nr = R.length ∧ Good32 R ∧ nr ≤ 100000 ∧ val W32 R = m % m') ∧ Hid (w.heap.size ≤ gq ∧ w.heap.size ≤ gr) ∧ Hid (Below w.heap.size w w')
/-- What the loop keeps. -/
structure LongInv (X V n z j g2 g3 : Nat) (wb wr : World) (l H : List Nat) : Prop where
  ll : l.length = n + z + 1
  lg : Good32 l
  hl : H.length = z + 1 - j
  hg : Good32 H
  hx : X = V * (W32 ^ j * val W32 H) + val W32 (l.take (n + j))
  hv : val W32 (l.take (n + j)) < V * W32 ^ j
  b2 : Blk U32 73 wr g2 l
  b3 : Blk U32 73 wr g3 (List.replicate j 0 ++ H)
  bl : Below g2 wb wr
theorem long_zero {X V n z : Nat} {L : List Nat} (hl : L.length = n + z + 1) (hv : val W32 L = X) (hs : X < V * W32 ^ (z + 1)) :
    X = V * (W32 ^ (z + 1) * val W32 []) + val W32 (L.take (n + (z + 1))) ∧ val W32 (L.take (n + (z + 1))) < V * W32 ^ (z + 1) := by
  have e : L.take (n + (z + 1)) = L := List.take_of_length_le (by clear hs; omega)
  rw [e, hv]
  generalize W32 ^ (z + 1) = P at hs ⊢
  exact ⟨by show X = V * (P * 0) + X; rw [Nat.mul_zero, Nat.mul_zero, Nat.zero_add], hs⟩
theorem long_idx (z : Nat) : Value.int .i64 (z : Int) = Value.int .i64 (((z + 1 : Nat) : Int) - 1) := by go_num
end Go.Proofs.YthdpojkeceoiiaaGreatDoor
end

section
/- Mul: the product. Conditions: at most 100000 words each. -/
open Go.RowKit
set_option maxRecDepth 100000
namespace Go.Proofs.YthdpojkeceoiiaaGreatDoor
end Go.Proofs.YthdpojkeceoiiaaGreatDoor
end

section
/- Add: the sum. Conditions: at most 100000 words each. -/
open Go.RowKit
set_option maxRecDepth 100000
namespace Go.Proofs.YthdpojkeceoiiaaGreatDoor

set_option maxHeartbeats 2000000 in
theorem Add_core {A A' : Option Addr} {n n' c c' m m' : Nat} {w : World} (h : Arg w w.heap.size A n c m) (h' : Arg w w.heap.size A' n' c' m') (hle : dl m' ≤ dl m) :
    (Calls Tryz.prog 27 #[.agg #[.slice A n c], .agg #[.slice A' n' c']] w (NumPost w (m + m'))) ∧
    (dl m' < dl m → Calls Tryz.prog 27 #[.agg #[.slice A' n' c'], .agg #[.slice A n c]] w (NumPost w (m + m'))) := by
  have H : Hid (∀ o1 o2 v t k, Arg ((((w.alloc o1).alloc o2).alloc (.cells #[v] t)).drewN k) w.heap.size A n c m) := fun o1 o2 v t k => h.below (pre3 w o1 o2 v t k).1
  have H' : Hid (∀ o1 o2 v t k, Arg ((((w.alloc o1).alloc o2).alloc (.cells #[v] t)).drewN k) w.heap.size A' n' c' m') := fun o1 o2 v t k => h'.below (pre3 w o1 o2 v t k).1
  have hl : dl m ≤ 100000 := by have := h.digs.2; obtain ⟨_, _, _, h3, _⟩ := h; omega
  have HX := hide h.digs.1
  have HY := hide h'.digs.1
  clear h h'
  refine ⟨?_, fun hlt => ?_⟩
  all_goals
    go_enter Tryz.func27, Tryz.ntmps27
    go_wp2_with fail
    go_quiet ((go_at_call 30; first | exact quiet_left (trim_arg (H.out _ _ _ _ _)) | exact quiet_left (trim_arg (H'.out _ _ _ _ _))))
    go_wp2_with (first | (at_make; go_must (refine wpList_words rfl _ _ rfl (dl m + 1) rfl rfl (by omega) ?_; intro g w1 hg hb1 hbel)))
    have HG : Hid (g = w.heap.size + 3) := by unfold Hid; rw [hg.out]; exact (pre3 w _ _ _ _ _).2.1
    have hB : w.heap.size ≤ g := by have := HG.out; omega
    obtain ⟨hw1, hres, hsz1⟩ := after3 hbel
    have HRES := hide hres
    have HW1 := hide hw1
    clear hbel hres hg hw1 H H'
    go_loopw [8, 30] (fun cv iv wr => ∃ i cr : Nat, ∃ seg : List Nat, i ≤ dl m ∧ cr ≤ 1 ∧ cv = .int .u64 (cr : Int) ∧ iv = .int .i64 (i : Int) ∧ Hid (seg.length = i) ∧ Hid (Good32 seg) ∧ Hid (val W32 seg + W32 ^ i * cr = val W32 ((digs W32 m).take i) + val W32 ((digs W32 m').take i)) ∧
        Hid (Blk U32 73 wr g (seg ++ List.replicate (dl m + 1 - i) 0)) ∧ Hid (w1.grownBy wr (some g)))
      (fun _ iv _ => dl m - (intOf iv).toNat)
    case atStart => exact ⟨0, 0, [], Nat.zero_le _, by omega, rfl, rfl, rfl, by intro x hx; simp at hx, by simp [Hid, val], hb1, World.grownBy.refl _ _⟩
    case round =>
      obtain ⟨i, cr, seg, hi, hcr, rfl, rfl, hsl, hsg, hval, hblk, hgr⟩ := hrel
      by_cases hlt : i < dl m
      · have hix : i < (digs W32 m).length := hlt
        have HXR := hide ((HX.out.below HW1.out).2.grown hgr.out hB)
        have HYR := hide ((HY.out.below HW1.out).2.grown hgr.out hB)
        obtain ⟨ad, rfl, hab, hcx⟩ := HXR.out.at_ hix
        obtain ⟨x, hxe⟩ : ∃ x, x = (digs W32 m)[i] := ⟨_, rfl⟩
        rw [← hxe] at hcx
        have RX := hide (val_take_succ W32 (L := digs W32 m) (i := i) (x := x) (by rw [hxe]; exact List.getElem?_eq_getElem hix))
        have hxW : x ≤ 4294967295 := word_le (by rw [hxe]; exact good_digs m _ (List.getElem_mem _))
        obtain ⟨z, hz⟩ : ∃ z, dl m + 1 - i = z + 1 := ⟨dl m - i, by omega⟩
        rw [hz] at hblk
        have HZ := hide hz
        have hcs : wr.cell? ⟨g, i, none⟩ = some (.int .u32 0) := hblk.out.cell (get_zeros hsl.out)
        have hfz := hblk.out.frozen i
        unfold U32 at hcx
        clear hxe hix hz
        by_cases hs : i < dl m'
        · have hiy : i < (digs W32 m').length := hs
          obtain ⟨ad', rfl, hab', hcy⟩ := HYR.out.at_ hiy
          obtain ⟨y, hye⟩ : ∃ x, x = (digs W32 m')[i] := ⟨_, rfl⟩
          rw [← hye] at hcy
          have RY := hide (val_take_succ W32 (L := digs W32 m') (i := i) (x := y) (by rw [hye]; exact List.getElem?_eq_getElem hiy))
          have hyW : y ≤ 4294967295 := word_le (by rw [hye]; exact good_digs m' _ (List.getElem_mem _))
          unfold U32 at hcy
          clear hye hiy
          have RM := hide (add_math (W := W32) hval.out rfl (lohi (cr + (x + y))))
          go_wp2
          go_roundw
          case rel =>
            refine ⟨i + 1, (cr + x + y) / W32, seg ++ [(cr + x + y) % W32], by omega, by rw [W32_eq]; omega, rfl, by go_num, by unfold Hid; simp [hsl.out], good_snoc hsg.out (lo_lt _), ?_, ?_, ?_⟩
            · unfold Hid
              rw [val_snoc, hsl.out, Nat.pow_succ, RX.out, RY.out, Nat.add_assoc cr x y, RM.out, Nat.mul_add]
              omega
            · have hb := hblk.out.set_ i ((cr + x + y) % W32)
              rw [set_zeros hsl.out] at hb
              rw [show dl m + 1 - (i + 1) = z by have := HZ.out; omega]
              exact hb
            · exact grown_set hgr.out _ _
          case measure => simp [intOf]; omega
        · have RY := hide (val_take_more W32 (L := digs W32 m') (i := i) (show dl m' ≤ i by omega))
          have RM := hide (add_math (W := W32) hval.out rfl (lohi (cr + x)))
          go_wp2
          go_roundw
          case rel =>
            refine ⟨i + 1, (cr + x) / W32, seg ++ [(cr + x) % W32], by omega, by rw [W32_eq]; omega, rfl, by go_num, by unfold Hid; simp [hsl.out], good_snoc hsg.out (lo_lt _), ?_, ?_, ?_⟩
            · unfold Hid
              rw [val_snoc, hsl.out, Nat.pow_succ, RX.out, RY.out, RM.out]
              omega
            · have hb := hblk.out.set_ i ((cr + x) % W32)
              rw [set_zeros hsl.out] at hb
              rw [show dl m + 1 - (i + 1) = z by have := HZ.out; omega]
              exact hb
            · exact grown_set hgr.out _ _
          case measure => simp [intOf]; omega
      · obtain rfl : i = dl m := by omega
        obtain ⟨hr3, hr4⟩ := one_cell ((hgr.out.block _ (by omega) (by intro e; injection e with e; have := HG.out; omega)).trans HRES.out)
        have hlz : seg ++ List.replicate (dl m + 1 - dl m) 0 = seg ++ List.replicate (0 + 1) 0 := by rw [show dl m + 1 - dl m = 0 + 1 by omega]
        rw [hlz] at hblk
        have hcs : wr.cell? ⟨g, dl m, none⟩ = some (.int .u32 0) := hblk.out.cell (get_zeros hsl.out)
        have hfz := hblk.out.frozen (dl m)
        have hb : Blk U32 73 (wr.setCell ⟨g, dl m, none⟩ (.int .u32 (cr : Int))) g _ := hblk.out.set_ (dl m) cr
        rw [set_zeros hsl.out, List.replicate_zero, List.append_nil] at hb
        have HB := hide hb
        have hne : w.heap.size + 2 ≠ g := by have := HG.out; omega
        have hr5 : (wr.setCell ⟨g, dl m, none⟩ (.int .u32 (cr : Int))).cell? ⟨w.heap.size + 2, 0, none⟩ = some (.slice none 0 0) := (World.cell?_setCell_other wr _ _ _ (by intro e; injection e with e; exact hne e.symm)).trans hr3
        have hr6 : (wr.setCell ⟨g, dl m, none⟩ (.int .u32 (cr : Int))).frozen? ⟨w.heap.size + 2, 0, none⟩ = false := by rw [World.frozen?_setCell]; exact hr4
        have HL : Hid (dl m + 1 = (seg ++ [cr]).length) := by unfold Hid; simp [hsl.out]
        have HGD := hide (good_snoc hsg.out (show cr < W32 by rw [W32_eq]; omega))
        have HV : Hid (val W32 (seg ++ [cr]) = m + m') := by
          unfold Hid
          rw [val_snoc, hsl.out, hval.out, List.take_of_length_le (show (digs W32 m).length ≤ dl m from Nat.le_refl _), List.take_of_length_le (show (digs W32 m').length ≤ dl m from hle), val_digs32, val_digs32]
        clear hlz hb
        go_wp2_with (first | (go_at_call 30; go_must (refine (trim_own HB.out HL.out HGD.out (by omega) (by omega) HV.out).mono ?_); rintro e w2 ⟨rfl, rfl⟩))
        refine bodyPost_ret (v := .agg #[.slice (some ⟨g, 0, none⟩) (dl (m + m')) (dl m + 1)]) (by simp [results, Tryz.results27, go_sem, hr5]) rfl ?_
        exact ⟨_, _, rfl, can_own (HB.out.far (p := ⟨w.heap.size + 1 + 1, 0, none⟩) (by simp; omega) _) HL.out HGD.out (Nat.le_refl _) HV.out, ((HW1.out.trans (grown_below hgr.out hB hb1.out.lt)).setCell (p := ⟨g, dl m, none⟩) hB _).setCell (by simp; omega) _⟩
theorem Add_any {A A' : Option Addr} {n n' c c' m m' : Nat} {w : World} (h : Arg w w.heap.size A n c m) (h' : Arg w w.heap.size A' n' c' m') :
    Calls Tryz.prog 27 #[.agg #[.slice A n c], .agg #[.slice A' n' c']] w (NumPost w (m + m')) := by
  rcases Nat.lt_or_ge (dl m) (dl m') with hlt | hge
  · have := (Add_core h' h (by omega)).2 hlt
    rwa [Nat.add_comm] at this
  · exact (Add_core h h' hge).1
end Go.Proofs.YthdpojkeceoiiaaGreatDoor
end

section
/- Of, Good, Low. Conditions: lengths that fit int. -/
open Go.RowKit
set_option maxRecDepth 100000
namespace Go.Proofs.YthdpojkeceoiiaaGreatDoor
theorem Of_any {n : Nat} {w : World} (hn : n ≤ 18446744073709551615) :
    Calls Tryz.prog 22 #[.int .u64 (n : Int)] w (NumPost w n) := by
  have HN := hide hn
  clear hn
  go_enter Tryz.func22, Tryz.ntmps22
  have hblk : Hid (∀ W : World, Blk U32 73 (W.alloc (.cells #[.int .u32 ((n : Int) % 4294967296), .int .u32 ((n : Int) / 4294967296 % 4294967296)] 73)) W.heap.size [n % W32, n / W32 % W32]) := fun W => heap_alloc_new W _
  have HV : Hid (val W32 [n % W32, n / W32 % W32] = n) := by unfold Hid; have := HN.out; simp only [val]; rw [W32_eq]; omega
  have HG : Hid (Good32 [n % W32, n / W32 % W32]) := by
    intro x hx; simp at hx; rcases hx with rfl | rfl <;> exact Nat.mod_lt _ (by decide)
  go_wp2_with (first | (go_at_call 30; go_must (refine (trim_own (n := 2) (by simpa using hblk.out (w.alloc (.cells #[.slice none 0 0] 39))) rfl HG.out (by omega) (by omega) HV.out).mono ?_); rintro e w2 ⟨rfl, rfl⟩))
  refine bodyPost_ret (v := .agg #[.slice (some ⟨w.heap.size + 1, 0, none⟩) (dl n) 2]) (by simp [results, Tryz.results22, go_sem]) rfl ?_
  exact ⟨_, _, rfl, can_own (n := 2) (by simpa using hblk.out (w.alloc (.cells #[.slice (some ⟨w.heap.size + 1, 0, none⟩) (dl n) 2] 39))) rfl HG.out (by omega) HV.out, ((Below.refl _ _).alloc (Nat.le_refl _) _).alloc (by simp) _⟩
/-- Whether the last word isn't 0. -/
def goodB (ws : List Nat) : Bool := ws.getLast? != some 0
theorem Good_any {A : Option Addr} {n c : Nat} {ws : List Nat} {w : World} (hn : n = ws.length) (h : Rd U32 w w.heap.size A ws) (hl : n ≤ 1000000) :
    Calls Tryz.prog 21 #[.agg #[.slice A n c]] w fun e w' => e = .returned (.bool (goodB ws)) ∧ Below w.heap.size w w' := by
  have HN := hide hn
  have HR : Hid (∀ o, Rd U32 (w.alloc o) w.heap.size A ws) := fun o => h.alloc (Nat.le_refl _) o
  clear hn h
  by_cases h0 : n = 0
  · subst h0
    have HG : Hid (goodB ws = true) := by have := HN.out; unfold Hid; rw [List.eq_nil_of_length_eq_zero this.symm]; rfl
    go_enter Tryz.func21, Tryz.ntmps21
    go_wp2
    go_ret
    exact ⟨by rw [HG.out]; rfl, (Below.refl _ _).alloc (Nat.le_refl _) _⟩
  · obtain ⟨k, rfl⟩ : ∃ k, n = k + 1 := ⟨n - 1, by omega⟩
    have hk : k < ws.length := by have := HN.out; omega
    obtain ⟨x, hx⟩ : ∃ x, x = ws[k] := ⟨_, rfl⟩
    obtain ⟨ad, rfl, hab, hc⟩ := (HR.out (.cells #[.slice A (k + 1) c] 39)).at_ hk
    rw [← hx] at hc
    unfold U32 at hc
    have HG : Hid (goodB ws = ((x : Int) != 0)) := by
      unfold Hid goodB
      rw [List.getLast?_eq_getElem?, ← HN.out, Nat.add_sub_cancel, List.getElem?_eq_getElem hk, ← hx]
      by_cases h : x = 0
      · subst h; rfl
      · have h1 : (some x != some 0) = true := by simpa using h
        have h2 : ((x : Int) != 0) = true := by simp; exact h
        rw [h1, h2]
    clear hx hk
    go_enter Tryz.func21, Tryz.ntmps21
    go_wp2
    go_ret
    exact ⟨by rw [HG.out]; rfl, (Below.refl _ _).alloc (Nat.le_refl _) _⟩
theorem dl_zero {m : Nat} (h : dl m = 0) : m = 0 := (digs_len_pos (by decide)).1 h
theorem digs_one {m : Nat} (h : dl m = 1) : digs W32 m = [m] ∧ m < W32 := by
  have h0 : 0 < m := by
    rcases Nat.eq_zero_or_pos m with rfl | h1
    · unfold dl at h; rw [digs_zero] at h; simp at h
    · exact h1
  have h2 : m < W32 := by have := lt_pow_digs (b := W32) (by decide) m; unfold dl at h; rw [h] at this; simpa using this
  refine ⟨?_, h2⟩
  rw [digs_pos (by decide) h0, Nat.div_eq_of_lt h2, digs_zero, Nat.mod_eq_of_lt h2]
theorem digs_two {m : Nat} (h : dl m = 2) : digs W32 m = [m % W32, m / W32] ∧ m / W32 < W32 := by
  have h0 : 0 < m := by
    rcases Nat.eq_zero_or_pos m with rfl | h1
    · unfold dl at h; rw [digs_zero] at h; simp at h
    · exact h1
  have e := digs_pos (b := W32) (by decide) h0
  have h1 : dl (m / W32) = 1 := by unfold dl at h ⊢; rw [e] at h; simpa using h
  obtain ⟨e2, h2⟩ := digs_one h1
  exact ⟨by rw [e, e2], h2⟩
theorem dl_three {m : Nat} (h : 3 ≤ dl m) : 18446744073709551616 ≤ m := by
  have h0 : 0 < m := by
    rcases Nat.eq_zero_or_pos m with rfl | h1
    · unfold dl at h; rw [digs_zero] at h; simp at h
    · exact h1
  have h1 := pow_le_of_digs (b := W32) (by decide) h0
  have h2 : W32 ^ 2 ≤ W32 ^ (dl m - 1) := Nat.pow_le_pow_right (by decide) (by omega)
  have h3 : W32 ^ 2 = 18446744073709551616 := by rw [W32_eq]
  unfold dl at h2; omega
end Go.Proofs.YthdpojkeceoiiaaGreatDoor
end

section
/- divideByWord: words in place, by one word. Conditions: at most 1000000 words. -/
open Go.RowKit
set_option maxRecDepth 100000
namespace Go.Proofs.YthdpojkeceoiiaaGreatDoor
def DivWordPost (w : World) (g k d : Nat) (L : List Nat) (e : Ending) (w' : World) : Prop :=
  ∃ (q : List Nat) (rest : Nat), e = .returned (.int .u32 (rest : Int)) ∧ Hid (q.length = k) ∧ Hid (Good32 q) ∧ rest < d ∧ Hid (val W32 (L.take k) = val W32 q * d + rest) ∧ Hid (Blk U32 73 w' g (q ++ L.drop k)) ∧ w.grownBy w' (some g)
theorem divw_math {vq d rest t q r x v W : Nat} (h : v = vq * d + rest) (ht : t = rest * W + x) (hq : r + d * q = t) : x + W * v = (q + W * vq) * d + r := by
  rw [h, Nat.mul_add, Nat.add_mul, Nat.mul_assoc W vq d]
  have : W * rest = rest * W := Nat.mul_comm _ _
  have : d * q = q * d := Nat.mul_comm _ _
  omega
theorem divw_lt {d rest t x W : Nat} (hr : rest < d) (ht : t = rest * W + x) (hx : x < W) : t / d < W := by
  rw [Nat.div_lt_iff_lt_mul (by omega), ht]
  have h1 : (rest + 1) * W ≤ d * W := Nat.mul_le_mul_right _ hr
  rw [Nat.add_mul, Nat.one_mul] at h1
  rw [Nat.mul_comm W d]; omega
theorem down_list {L D : List Nat} {i x v : Nat} (h : L[i]? = some x) : (L.take (i + 1) ++ D).set i v = L.take i ++ (v :: D) := by
  have hi : i < L.length := by
    rcases Nat.lt_or_ge i L.length with h1 | h1
    · exact h1
    · rw [List.getElem?_eq_none h1] at h; cases h
  have hl : (L.take i).length = i := by rw [List.length_take]; omega
  rw [List.take_succ_eq_append_getElem hi, List.append_assoc, List.set_append, if_neg (by omega), hl, Nat.sub_self]
  rfl
theorem down_drop {L : List Nat} {i k x : Nat} (h : L[i]? = some x) (hk : i < k) : (L.take k).drop i = x :: (L.take k).drop (i + 1) := by
  have hi : i < L.length := by
    rcases Nat.lt_or_ge i L.length with h1 | h1
    · exact h1
    · rw [List.getElem?_eq_none h1] at h; cases h
  rw [List.getElem?_eq_getElem hi] at h
  injection h with h
  rw [List.drop_eq_getElem_cons (by rw [List.length_take]; omega), List.getElem_take, h]
theorem quo_word {t d : Nat} (h : t / d < W32) : IntKind.u64.wrap ((t : Int) / (d : Int)) % 4294967296 = ((t / d : Nat) : Int) := by
  rw [W32_eq] at h
  rw [← Int.natCast_ediv]
  generalize t / d = q at h ⊢
  rw [u64_nat (by omega)]; omega
set_option maxHeartbeats 1000000 in
theorem divideByWord_any {g k c d : Nat} {L : List Nat} {w : World} (hb : Blk U32 73 w g L) (hk : k ≤ L.length) (hL : Good32 L) (hlim : k ≤ 1000000) (hd : d ≤ 4294967295) (hd0 : 1 ≤ d) :
    Calls Tryz.prog 31 #[.slice (some ⟨g, 0, none⟩) k c, .int .u32 (d : Int)] w (DivWordPost w g k d L) := by
  have HB := hide hb; have HK := hide hk; have HL := hide hL
  clear hb hk hL
  go_enter Tryz.func31, Tryz.ntmps31
  go_wp2
  go_loopw [5, 6] (fun rv iv wr => ∃ j rest : Nat, ∃ qs : List Nat, j ≤ k ∧ rest < d ∧ rv = .int .u64 (rest : Int) ∧ iv = .int .i64 ((j : Int) - 1) ∧ Hid (qs.length = k - j) ∧ Hid (Good32 qs) ∧ Hid (val W32 ((L.take k).drop j) = val W32 qs * d + rest) ∧
      Hid (Blk U32 73 wr g (L.take j ++ (qs ++ L.drop k))) ∧ Hid (w.grownBy wr (some g)))
    (fun _ iv _ => (intOf iv + 1).toNat)
  case atStart => exact ⟨k, 0, [], Nat.le_refl _, by omega, rfl, rfl, by simp [Hid], by intro x hx; simp at hx, by unfold Hid; rw [List.drop_of_length_le (by rw [List.length_take]; omega)]; simp [val], by unfold Hid; rw [List.nil_append, List.take_append_drop]; exact HB.out, World.grownBy.refl _ _⟩
  case round =>
    obtain ⟨j, rest, qs, hj, hrest, rfl, rfl, hsl, hsg, hval, hblk, hgr⟩ := hrel
    by_cases h0 : j = 0
    · subst h0
      go_wp2
      go_ret
      exact ⟨qs, rest, rfl, hsl.out, hsg.out, hrest, hval.out, hblk.out, hgr.out⟩
    · obtain ⟨i, rfl⟩ : ∃ i, j = i + 1 := ⟨j - 1, by omega⟩
      have hil : i < L.length := by have := HK.out; omega
      obtain ⟨x, hxe⟩ : ∃ x, x = L[i] := ⟨_, rfl⟩
      have hxL : L[i]? = some x := by rw [hxe]; exact List.getElem?_eq_getElem hil
      have hcx : wr.cell? ⟨g, i, none⟩ = some (.int .u32 (x : Int)) := hblk.out.cell (by rw [List.getElem?_append_left (by rw [List.length_take]; omega), List.getElem?_take, if_pos (by omega), hxL])
      have hfz := hblk.out.frozen i
      have hxW : x ≤ 4294967295 := word_le (by rw [hxe]; exact HL.out _ (List.getElem_mem _))
      have hrl : rest ≤ 4294967295 := by omega
      obtain ⟨t, ht⟩ : ∃ t, t = rest * 4294967296 + x := ⟨_, rfl⟩
      have hor : bits .or .u64 ((rest : Int) * 4294967296) (x : Int) = (t : Int) := by rw [ht]; exact or64 hrl hxW
      have HT := hide ht
      have hd1 := hide (Nat.mod_add_div t d)
      clear hxe ht hil
      have ha := hide (divw_math (W := W32) (x := x) hval.out (show t = rest * W32 + x from HT.out) hd1.out)
      have hb := hide (divw_lt (W := W32) hrest (show t = rest * W32 + x from HT.out) (by rw [W32_eq]; omega))
      have HI := hide (down_list (D := qs ++ L.drop k) (v := t / d) hxL)
      have HD := hide (down_drop (k := k) hxL (by omega))
      clear hxL
      go_wp2
      go_roundw
      case rel =>
        refine ⟨i, t % d, t / d :: qs, by omega, Nat.mod_lt _ (by omega), rfl, by go_num, by unfold Hid; rw [List.length_cons, hsl.out]; omega, ?_, ?_, ?_, grown_set hgr.out _ _⟩
        · intro y hy
          rcases List.mem_cons.1 hy with rfl | hy
          · exact hb.out
          · exact hsg.out y hy
        · unfold Hid
          rw [HD.out, val, val]
          exact ha.out
        · have h1 := hblk.out.set_ i (t / d)
          rw [HI.out] at h1
          rw [quo_word hb.out]
          exact h1
      case measure => simp [intOf]
end Go.Proofs.YthdpojkeceoiiaaGreatDoor
end

section
/- Div by a number of at most one word. Conditions: at most 100000 words. -/
open Go.RowKit
set_option maxRecDepth 100000
namespace Go.Proofs.YthdpojkeceoiiaaGreatDoor
theorem pre4 (w : World) (o1 o2 : Obj) (v u : Value) (t : TypeId) (k : Nat) :
    Below w.heap.size w (((((w.alloc o1).alloc o2).alloc (.cells #[v] t)).alloc (.cells #[u] t)).drewN k) ∧ (((((w.alloc o1).alloc o2).alloc (.cells #[v] t)).alloc (.cells #[u] t)).drewN k).heap.size = w.heap.size + 4 ∧
    (((((w.alloc o1).alloc o2).alloc (.cells #[v] t)).alloc (.cells #[u] t)).drewN k).heap[w.heap.size + 2]? = some (.cells #[v] t (0, 0)) ∧
    (((((w.alloc o1).alloc o2).alloc (.cells #[v] t)).alloc (.cells #[u] t)).drewN k).heap[w.heap.size + 3]? = some (.cells #[u] t (0, 0)) := by
  obtain ⟨p1, p2, p3⟩ := pre3 w o1 o2 v t 0
  refine ⟨below_drewN (((((Below.refl _ _).alloc (Nat.le_refl _) _).alloc (by simp) _).alloc (by simp; omega) _).alloc (by simp; omega) _) k, by simp, ?_, ?_⟩
  · exact (Below.heap_alloc _ _ _ (by simp)).trans p3
  · have := heap_alloc_new (((w.alloc o1).alloc o2).alloc (.cells #[v] t)) (.cells #[u] t)
    simpa using this
theorem dl0 : dl 0 = 0 := by unfold dl; rw [digs_zero]; rfl
theorem after4 {w w1 : World} {o1 o2 : Obj} {v u : Value} {t : TypeId} {k : Nat} (h : Below (((((w.alloc o1).alloc o2).alloc (.cells #[v] t)).alloc (.cells #[u] t)).drewN k).heap.size (((((w.alloc o1).alloc o2).alloc (.cells #[v] t)).alloc (.cells #[u] t)).drewN k) w1) :
    Below w.heap.size w w1 ∧ w1.heap[w.heap.size + 2]? = some (.cells #[v] t (0, 0)) ∧ w1.heap[w.heap.size + 3]? = some (.cells #[u] t (0, 0)) ∧ w.heap.size + 4 ≤ w1.heap.size := by
  obtain ⟨p1, p2, p3, p4⟩ := pre4 w o1 o2 v u t k
  exact ⟨p1.trans (h.mono p1.size), (h.block _ (by omega)).trans p3, (h.block _ (by omega)).trans p4, by have := h.size; omega⟩
/-- What Div leaves where b isn't 0. -/
def DivPost (w : World) (m n : Nat) (e : Ending) (w' : World) : Prop :=
  ∃ A c A' c', e = .returned (.tuple #[.agg #[.slice A (dl (m / n)) c], .agg #[.slice A' (dl (m % n)) c'], .bool true]) ∧ Hid (Can w' w'.heap.size A c (m / n)) ∧ Hid (Can w' w'.heap.size A' c' (m % n)) ∧ Hid (Below w.heap.size w w')
def DivNone (w : World) (e : Ending) (w' : World) : Prop := e = .returned (.tuple #[.agg #[.slice none 0 0], .agg #[.slice none 0 0], .bool false]) ∧ Hid (Below w.heap.size w w')
theorem Rd.setBox {w : World} {B : Nat} {A : Option Addr} {xs : List Nat} (h : Rd U32 w B A xs) {p : Addr} {a : Option Addr} {l c : Nat} (hc : w.cell? p = some (.slice a l c)) (u : Value) : Rd U32 (w.setCell p u) B A xs := fun hn => by
  obtain ⟨ad, e, hb, hx⟩ := h hn
  refine ⟨ad, e, hb, fun j x hj => ?_⟩
  have h1 := hx j x hj
  rw [World.cell?_setCell_other w p _ u (by intro e; rw [← e, hc] at h1; cases h1)]
  exact h1
theorem div_parts {w : World} {g m d rest : Nat} {q : List Nat} {w2 : World} (_h : Hid (Blk U32 73 w g (digs W32 m))) (_hq1 : Hid (q.length = dl m)) (hq3 : Hid (val W32 ((digs W32 m).take (dl m)) = val W32 q * d + rest)) (hq4 : Hid (Blk U32 73 w2 g (q ++ (digs W32 m).drop (dl m)))) (hr : rest < d) :
    Hid (Blk U32 73 w2 g q) ∧ Hid (val W32 q = m / d) ∧ Hid (rest = m % d) := by
  have h1 := hq3.out
  rw [List.take_of_length_le (show (digs W32 m).length ≤ dl m from Nat.le_refl _), val_digs32] at h1
  have h2 := hq4.out
  rw [List.drop_of_length_le (show (digs W32 m).length ≤ dl m from Nat.le_refl _), List.append_nil] at h2
  refine ⟨h2, ?_, ?_⟩
  · unfold Hid
    rw [h1, Nat.mul_comm, Nat.mul_add_div (by omega), Nat.div_eq_of_lt hr, Nat.add_zero]
  · unfold Hid
    rw [h1, Nat.mul_comm, Nat.mul_add_mod, Nat.mod_eq_of_lt hr]
end Go.Proofs.YthdpojkeceoiiaaGreatDoor
end

section
/- Div whole: the quotient and the rest of any two numbers. Conditions: less than 100000 words. -/
open Go.RowKit
set_option maxRecDepth 100000
namespace Go.Proofs.YthdpojkeceoiiaaGreatDoor
end Go.Proofs.YthdpojkeceoiiaaGreatDoor
end

section
/- Strings of digits: trimLeftByte, TrimLeft, isDigits, valueOf. Conditions: lengths within the model's own bound. -/
open Go.RowKit
set_option maxRecDepth 100000
namespace Go.Proofs.YthdpojkeceoiiaaGreatDoor
theorem toList_drop1 (t : ByteArray) : (t.extract 1 t.size).data.toList = t.data.toList.drop 1 := by
  rw [Lib.extract_data, List.take_of_length_le]
  rw [List.length_drop]; exact Nat.le_refl _
theorem size_list (t : ByteArray) : t.size = t.data.toList.length := rfl
theorem str_ret {t u : ByteArray} (h : t = u) : Ending.returned (.string t) = .returned (.string u) := by rw [h]
def TrimPost (l : List UInt8) (w : World) (e : Ending) (w' : World) : Prop := ∃ t : ByteArray, e = .returned (.string t) ∧ t.data.toList = l.dropWhile (· == 48) ∧ w = w'
theorem drop_yes {t : ByteArray} {h : 0 < t.size} (hx : t[0] = 48) : t.data.toList.dropWhile (· == 48) = (t.data.toList.drop 1).dropWhile (· == 48) := by
  obtain ⟨⟨l⟩⟩ := t
  cases l with
  | nil => simp [ByteArray.size] at h
  | cons a l =>
    have : a = 48 := hx
    subst this
    rfl
theorem drop_no {t : ByteArray} {h : 0 < t.size} (hx : t[0] ≠ 48) : t.data.toList.dropWhile (· == 48) = t.data.toList := by
  obtain ⟨⟨l⟩⟩ := t
  cases l with
  | nil => simp [ByteArray.size] at h
  | cons a l =>
    have : (a == 48) = false := by
      have : a ≠ 48 := hx
      simpa using this
    rw [List.dropWhile_cons, this]; rfl
set_option maxHeartbeats 400000 in
theorem trimByte_any (s : ByteArray) (w : World) :
    Calls Tryz.prog 58 #[.string s, .int .u8 48] w (TrimPost s.data.toList w) := by
  go_enter Tryz.func58, Tryz.ntmps58
  go_wp2
  go_loop [0] (fun sv => ∃ t : ByteArray, sv = .string t ∧ Hid (s.data.toList.dropWhile (· == 48) = t.data.toList.dropWhile (· == 48)) ∧ t.size ≤ s.size) (fun sv => match sv with | .string t => t.size | _ => 0)
  case atStart => exact ⟨s, rfl, rfl, Nat.le_refl _⟩
  case round =>
    obtain ⟨t, rfl, ht, hts⟩ := hrel
    by_cases h0 : t.size = 0
    · have HZ := hide h0
      have h1 : ¬ 0 < t.size := by omega
      clear h0
      go_wp2
      go_ret
      exact ⟨t, rfl, by rw [ht.out, List.eq_nil_of_length_eq_zero (show t.data.toList.length = 0 from HZ.out)]; rfl, rfl⟩
    · have h1 : 0 < t.size := by omega
      by_cases hx : t[0] = 48
      · have HX := hide hx
        have hxt : ((t[0].toNat : Int) == 48) = true := by rw [hx]; rfl
        clear hx
        go_wp2
        go_round
        case rel => exact ⟨_, rfl, by unfold Hid; rw [ht.out, toList_drop1, drop_yes HX.out], by simp; omega⟩
        case measure => simp; omega
      · have HX := hide hx
        have hxt : ((t[0].toNat : Int) == 48) = false := by
          rw [beq_eq_false_iff_ne]
          intro e
          exact hx (UInt8.toNat_inj.1 (by simpa using (show t[0].toNat = 48 by omega)))
        clear hx
        go_wp2
        go_ret
        exact ⟨t, rfl, by rw [ht.out, drop_no HX.out], rfl⟩
set_option maxHeartbeats 400000 in
theorem TrimLeft_any (s : ByteArray) (w : World) :
    Calls Tryz.prog 33 #[.string s, .string ⟨#[48]⟩] w (TrimPost s.data.toList w) := by
  by_cases h0 : s.size = 0
  · have hl : s.toList = [] := by rw [Lib.toList_data]; exact List.eq_nil_of_length_eq_zero h0
    have HL : Hid (s.data.toList = []) := List.eq_nil_of_length_eq_zero h0
    clear h0
    go_enter Tryz.func33, Tryz.ntmps33
    go_wp2
    go_ret
    exact ⟨s, rfl, by rw [HL.out]; rfl, rfl⟩
  · have hl : s.toList.isEmpty = false := by
      rw [Lib.toList_data]
      cases h : s.data.toList with
      | nil => exact absurd (show s.size = 0 by rw [size_list, h]; rfl) h0
      | cons a l => rfl
    clear h0
    go_enter Tryz.func33, Tryz.ntmps33
    go_wp2_with (first | (go_at_call 58; go_must (refine (trimByte_any s _).mono ?_); rintro e w' ⟨t, rfl, ht, rfl⟩))
    go_ret
    exact ⟨t, rfl, ht, rfl⟩
/-- Is it a digit? -/
def isDig (c : UInt8) : Bool := decide (48 ≤ c.toNat) && decide (c.toNat ≤ 57)
/-- One or more digits. -/
def digB (l : List UInt8) : Bool := !l.isEmpty && l.all isDig
def numL (l : List UInt8) : Nat := l.foldl (fun a c => a * 10 + (c.toNat - 48)) 0
theorem numL_snoc (l : List UInt8) (c : UInt8) : numL (l ++ [c]) = numL l * 10 + (c.toNat - 48) := by simp [numL]
theorem take_snoc {s : ByteArray} {k : Nat} (h : k < s.size) : s.data.toList.take (k + 1) = s.data.toList.take k ++ [s[k]] := by
  rw [List.take_succ_eq_append_getElem (by simpa using h)]; rfl
theorem bool_ret {a b : Bool} (h : a = b) : Ending.returned (.bool a) = .returned (.bool b) := by rw [h]
theorem dig_iff (c : UInt8) : isDig c = true ↔ 48 ≤ (c.toNat : Int) ∧ (c.toNat : Int) ≤ 57 := by unfold isDig; simp; omega
set_option maxHeartbeats 400000 in
theorem isDigits_any (s : ByteArray) (w : World) (hs : s.size ≤ maxLen) :
    Calls Tryz.prog 106 #[.string s] w fun e w' => e = .returned (.bool (digB s.data.toList)) ∧ w = w' := by
  unfold maxLen at hs
  by_cases h0 : s.size = 0
  · have hl : s.toList = [] := by rw [Lib.toList_data]; exact List.eq_nil_of_length_eq_zero h0
    have HL : Hid (s.data.toList = []) := List.eq_nil_of_length_eq_zero h0
    have HZ := hide h0
    have h1 : ¬ 0 < s.size := by omega
    clear h0
    go_enter Tryz.func106, Tryz.ntmps106
    go_wp2
    refine wp_loop_rounds 1 ?_; rw [rounds_succ]
    go_wp2
    go_ret
    exact ⟨by rw [HL.out]; rfl, rfl⟩
  · have hl : s.toList.isEmpty = false := by
      rw [Lib.toList_data]
      cases h : s.data.toList with
      | nil => exact absurd (show s.size = 0 by rw [size_list, h]; rfl) h0
      | cons a l => rfl
    have HE : Hid (s.data.toList.isEmpty = false) := by have := hl; rw [Lib.toList_data] at this; exact this
    clear h0
    go_enter Tryz.func106, Tryz.ntmps106
    go_wp2
    go_loop [6] (fun iv => ∃ k : Nat, k ≤ s.size ∧ iv = .int .i64 (k : Int) ∧ Hid ((s.data.toList.take k).all isDig = true)) (fun iv => s.size - (intOf iv).toNat)
    case atStart => exact ⟨0, Nat.zero_le _, rfl, rfl⟩
    case round =>
      obtain ⟨k, hk, rfl, hall⟩ := hrel
      by_cases hlt : k < s.size
      · have HT := hide (take_snoc hlt)
        by_cases hd : isDig s[k] = true
        · obtain ⟨hd1, hd2⟩ := (dig_iff _).1 hd
          have HD := hide hd
          clear hd
          go_wp2
          go_round
          case rel => exact ⟨k + 1, by omega, by go_num, by unfold Hid; rw [HT.out, List.all_append, hall.out]; simp [HD.out]⟩
          case measure => simp [intOf]; omega
        · have hd' : ¬ (48 ≤ (s[k].toNat : Int) ∧ (s[k].toNat : Int) ≤ 57) := fun h => hd ((dig_iff _).2 h)
          have HB : Hid (digB s.data.toList = false) := by
            unfold Hid digB
            have : s.data.toList.all isDig = false := by
              rw [List.all_eq_false]
              exact ⟨s[k], List.getElem_mem (l := s.data.toList) hlt, hd⟩
            rw [this]; simp
          clear hd
          by_cases h48 : 48 ≤ (s[k].toNat : Int)
          · have h57 : ¬ (s[k].toNat : Int) ≤ 57 := fun h => hd' ⟨h48, h⟩
            clear hd'
            go_wp2
            go_ret
            exact ⟨bool_ret HB.out.symm, rfl⟩
          · clear hd'
            go_wp2
            go_ret
            exact ⟨bool_ret HB.out.symm, rfl⟩
      · obtain rfl : k = s.size := by omega
        have HB : Hid (digB s.data.toList = true) := by
          unfold Hid digB
          have h := hall.out
          rw [List.take_of_length_le (Nat.le_of_eq (size_list s).symm)] at h
          rw [h, HE.out]; rfl
        go_wp2
        go_ret
        exact ⟨bool_ret HB.out.symm, rfl⟩
/-- The digits' numbers, the least significant first. -/
def dvs (l : List UInt8) : List Nat := l.reverse.map fun c => c.toNat - 48
theorem fold_val (l : List UInt8) : ∀ a : Nat, l.foldl (fun a c => a * 10 + (c.toNat - 48)) a = a * 10 ^ l.length + val 10 (dvs l) := by
  induction l with
  | nil => intro a; simp [dvs, val]
  | cons c l ih =>
    intro a
    rw [List.foldl_cons, ih]
    unfold dvs
    rw [List.reverse_cons, List.map_append, val_append, List.length_cons, Nat.pow_succ]
    simp only [List.map_cons, List.map_nil, val, List.length_map, List.length_reverse, Nat.mul_zero, Nat.add_zero]
    rw [Nat.add_mul, Nat.mul_assoc, Nat.mul_comm 10, Nat.mul_comm (10 ^ l.length) (c.toNat - 48)]
    omega
theorem numL_val (l : List UInt8) : numL l = val 10 (dvs l) := by unfold numL; rw [fold_val]; simp
theorem dvs_len (l : List UInt8) : (dvs l).length = l.length := by simp [dvs]
theorem dvs_lt {l : List UInt8} (h : l.all isDig = true) : ∀ x ∈ dvs l, x < 10 := by
  intro x hx
  unfold dvs at hx
  obtain ⟨c, hc, rfl⟩ := List.mem_map.1 hx
  have := (dig_iff c).1 (List.all_eq_true.1 h c (List.mem_reverse.1 hc))
  omega
theorem numL_lt (l : List UInt8) (h : l.all isDig = true) : numL l < 10 ^ l.length := by
  rw [numL_val, ← dvs_len]
  exact val_lt _ (dvs_lt h)
set_option maxHeartbeats 400000 in
theorem valueOf_any (s : ByteArray) (w : World) (hs : s.size ≤ 9) (hd : s.data.toList.all isDig = true) :
    Calls Tryz.prog 108 #[.string s] w fun e w' => e = .returned (.int .u32 (numL s.data.toList : Int)) ∧ w = w' := by
  have HD := hide hd
  clear hd
  go_enter Tryz.func108, Tryz.ntmps108
  go_wp2
  go_loop [3, 7] (fun sv iv => ∃ k v : Nat, k ≤ s.size ∧ iv = .int .i64 (k : Int) ∧ sv = .int .u32 (v : Int) ∧ Hid (v = numL (s.data.toList.take k))) (fun _ iv => s.size - (intOf iv).toNat)
  case atStart => exact ⟨0, 0, Nat.zero_le _, rfl, rfl, rfl⟩
  case round =>
    obtain ⟨k, v, hk, rfl, rfl, hv⟩ := hrel
    by_cases hlt : k < s.size
    · have HT := hide (take_snoc hlt)
      have hdk : isDig s[k] = true := List.all_eq_true.1 HD.out _ (List.getElem_mem (l := s.data.toList) hlt)
      obtain ⟨hd1, hd2⟩ := (dig_iff _).1 hdk
      have hvl : v < 100000000 := by
        have h1 := numL_lt (s.data.toList.take k) (by
          rw [List.all_eq_true]; exact fun c hc => List.all_eq_true.1 HD.out c (List.mem_of_mem_take hc))
        rw [← hv.out, List.length_take] at h1
        have h2 : 10 ^ min k s.data.toList.length ≤ 10 ^ 8 := Nat.pow_le_pow_right (by omega) (by have := size_list s; omega)
        omega
      clear hdk
      go_wp2
      go_round
      case rel => exact ⟨k + 1, _, by omega, by go_num, congrArg (Value.int .u32) (show _ = (((v * 10 + (s[k].toNat - 48) : Nat)) : Int) by omega), by unfold Hid; rw [HT.out, numL_snoc, ← hv.out]⟩
      case measure => simp [intOf]; omega
    · obtain rfl : k = s.size := by omega
      have hvl : v < 1000000000 := by
        have h1 := numL_lt (s.data.toList.take s.size) (by
          rw [List.all_eq_true]; exact fun c hc => List.all_eq_true.1 HD.out c (List.mem_of_mem_take hc))
        rw [← hv.out, List.length_take] at h1
        have h2 : 10 ^ min s.size s.data.toList.length ≤ 10 ^ 9 := Nat.pow_le_pow_right (by omega) (by omega)
        omega
      go_wp2
      go_ret
      exact ⟨by rw [hv.out, List.take_of_length_le (Nat.le_of_eq (size_list s).symm)]; rfl, rfl⟩
end Go.Proofs.YthdpojkeceoiiaaGreatDoor
end
