/- Several texts in one, each with its own sentence and conditions. -/
import Derived.Test.YtfknclimoihfdaaDoorGFlc4
import Derived.Test.YtfknclimoihfdaaDoorGFlc1
section
/- Add: the sum. Conditions: at most 100000 words each. -/
open Go.RowKit
set_option maxRecDepth 100000
namespace Go.Proofs.YtfknclimoihfdaaDoor

set_option maxHeartbeats 2000000 in
theorem Add_core {A A' : Option Addr} {n n' c c' m m' : Nat} {w : World} (h : Arg w w.heap.size A n c m) (h' : Arg w w.heap.size A' n' c' m') (hle : dl m' ≤ dl m) :
    (Calls Tryd.prog 28 #[.agg #[.slice A n c], .agg #[.slice A' n' c']] w (NumPost w (m + m'))) ∧
    (dl m' < dl m → Calls Tryd.prog 28 #[.agg #[.slice A' n' c'], .agg #[.slice A n c]] w (NumPost w (m + m'))) := by
  have H : Hid (∀ o1 o2 v t k, Arg ((((w.alloc o1).alloc o2).alloc (.cells #[v] t)).drewN k) w.heap.size A n c m) := fun o1 o2 v t k => h.below (pre3 w o1 o2 v t k).1
  have H' : Hid (∀ o1 o2 v t k, Arg ((((w.alloc o1).alloc o2).alloc (.cells #[v] t)).drewN k) w.heap.size A' n' c' m') := fun o1 o2 v t k => h'.below (pre3 w o1 o2 v t k).1
  have hl : dl m ≤ 100000 := by have := h.digs.2; obtain ⟨_, _, _, h3, _⟩ := h; omega
  have HX := hide h.digs.1
  have HY := hide h'.digs.1
  clear h h'
  refine ⟨?_, fun hlt => ?_⟩
  all_goals
    go_enter Tryd.func28, Tryd.ntmps28
    go_wp2_with fail
    go_quiet ((go_at_call 69; first | exact quiet_left (trim_arg (H.out _ _ _ _ _)) | exact quiet_left (trim_arg (H'.out _ _ _ _ _))))
    go_wp2_with (first | (at_make; go_must (refine wpList_words rfl _ _ rfl (dl m + 1) rfl rfl (by omega) ?_; intro g w1 hg hb1 hbel)))
    have HG : Hid (g = w.heap.size + 3) := by unfold Hid; rw [hg.out]; exact (pre3 w _ _ _ _ _).2.1
    have hB : w.heap.size ≤ g := by have := HG.out; omega
    obtain ⟨hw1, hres, hsz1⟩ := after3 hbel
    have HRES := hide hres
    have HW1 := hide hw1
    clear hbel hres hg hw1 H H'
    go_loopw [8, 30] (fun cv iv wr => ∃ i cr : Nat, ∃ seg : List Nat, i ≤ dl m ∧ cr ≤ 1 ∧ cv = .int .u64 (cr : Int) ∧ iv = .int .i64 (i : Int) ∧ Hid (seg.length = i) ∧ Hid (Good32 seg) ∧ Hid (val W32 seg + W32 ^ i * cr = val W32 ((digs W32 m).take i) + val W32 ((digs W32 m').take i)) ∧
        Hid (Blk U32 30 wr g (seg ++ List.replicate (dl m + 1 - i) 0)) ∧ Hid (w1.grownBy wr (some g)))
      (fun _ iv _ => dl m - (intOf iv).toNat)
    case atStart => exact ⟨0, 0, [], Nat.zero_le _, by omega, rfl, rfl, rfl, by intro x hx; simp at hx, by simp [Hid, val], hb1, World.grownBy.refl _ _⟩
    case round =>
      obtain ⟨i, cr, seg, hi, hcr, rfl, rfl, hsl, hsg, hval, hblk, hgr⟩ := hrel
      by_cases hlt : i < dl m
      · have hix : i < (digs W32 m).length := hlt
        have HXR := hide ((HX.out.below HW1.out).2.grown hgr.out hB)
        have HYR := hide ((HY.out.below HW1.out).2.grown hgr.out hB)
        obtain ⟨ad, rfl, hab, hcx⟩ := HXR.out.at_ hix
        obtain ⟨x, hxe⟩ : ∃ x, x = (digs W32 m)[i] := ⟨_, rfl⟩
        rw [← hxe] at hcx
        have RX := hide (val_take_succ W32 (L := digs W32 m) (i := i) (x := x) (by rw [hxe]; exact List.getElem?_eq_getElem hix))
        have hxW : x ≤ 4294967295 := word_le (by rw [hxe]; exact good_digs m _ (List.getElem_mem _))
        obtain ⟨z, hz⟩ : ∃ z, dl m + 1 - i = z + 1 := ⟨dl m - i, by omega⟩
        rw [hz] at hblk
        have HZ := hide hz
        have hcs : wr.cell? ⟨g, i, none⟩ = some (.int .u32 0) := hblk.out.cell (get_zeros hsl.out)
        have hfz := hblk.out.frozen i
        unfold U32 at hcx
        clear hxe hix hz
        by_cases hs : i < dl m'
        · have hiy : i < (digs W32 m').length := hs
          obtain ⟨ad', rfl, hab', hcy⟩ := HYR.out.at_ hiy
          obtain ⟨y, hye⟩ : ∃ x, x = (digs W32 m')[i] := ⟨_, rfl⟩
          rw [← hye] at hcy
          have RY := hide (val_take_succ W32 (L := digs W32 m') (i := i) (x := y) (by rw [hye]; exact List.getElem?_eq_getElem hiy))
          have hyW : y ≤ 4294967295 := word_le (by rw [hye]; exact good_digs m' _ (List.getElem_mem _))
          unfold U32 at hcy
          clear hye hiy
          have RM := hide (add_math (W := W32) hval.out rfl (lohi (cr + (x + y))))
          go_wp2
          go_roundw
          case rel =>
            refine ⟨i + 1, (cr + x + y) / W32, seg ++ [(cr + x + y) % W32], by omega, by rw [W32_eq]; omega, rfl, by go_num, by unfold Hid; simp [hsl.out], good_snoc hsg.out (lo_lt _), ?_, ?_, ?_⟩
            · unfold Hid
              rw [val_snoc, hsl.out, Nat.pow_succ, RX.out, RY.out, Nat.add_assoc cr x y, RM.out, Nat.mul_add]
              omega
            · have hb := hblk.out.set_ i ((cr + x + y) % W32)
              rw [set_zeros hsl.out] at hb
              rw [show dl m + 1 - (i + 1) = z by have := HZ.out; omega]
              exact hb
            · exact grown_set hgr.out _ _
          case measure => simp [intOf]; omega
        · have RY := hide (val_take_more W32 (L := digs W32 m') (i := i) (show dl m' ≤ i by omega))
          have RM := hide (add_math (W := W32) hval.out rfl (lohi (cr + x)))
          go_wp2
          go_roundw
          case rel =>
            refine ⟨i + 1, (cr + x) / W32, seg ++ [(cr + x) % W32], by omega, by rw [W32_eq]; omega, rfl, by go_num, by unfold Hid; simp [hsl.out], good_snoc hsg.out (lo_lt _), ?_, ?_, ?_⟩
            · unfold Hid
              rw [val_snoc, hsl.out, Nat.pow_succ, RX.out, RY.out, RM.out]
              omega
            · have hb := hblk.out.set_ i ((cr + x) % W32)
              rw [set_zeros hsl.out] at hb
              rw [show dl m + 1 - (i + 1) = z by have := HZ.out; omega]
              exact hb
            · exact grown_set hgr.out _ _
          case measure => simp [intOf]; omega
      · obtain rfl : i = dl m := by omega
        obtain ⟨hr3, hr4⟩ := one_cell ((hgr.out.block _ (by omega) (by intro e; injection e with e; have := HG.out; omega)).trans HRES.out)
        have hlz : seg ++ List.replicate (dl m + 1 - dl m) 0 = seg ++ List.replicate (0 + 1) 0 := by rw [show dl m + 1 - dl m = 0 + 1 by omega]
        rw [hlz] at hblk
        have hcs : wr.cell? ⟨g, dl m, none⟩ = some (.int .u32 0) := hblk.out.cell (get_zeros hsl.out)
        have hfz := hblk.out.frozen (dl m)
        have hb : Blk U32 30 (wr.setCell ⟨g, dl m, none⟩ (.int .u32 (cr : Int))) g _ := hblk.out.set_ (dl m) cr
        rw [set_zeros hsl.out, List.replicate_zero, List.append_nil] at hb
        have HB := hide hb
        have hne : w.heap.size + 2 ≠ g := by have := HG.out; omega
        have hr5 : (wr.setCell ⟨g, dl m, none⟩ (.int .u32 (cr : Int))).cell? ⟨w.heap.size + 2, 0, none⟩ = some (.slice none 0 0) := (World.cell?_setCell_other wr _ _ _ (by intro e; injection e with e; exact hne e.symm)).trans hr3
        have hr6 : (wr.setCell ⟨g, dl m, none⟩ (.int .u32 (cr : Int))).frozen? ⟨w.heap.size + 2, 0, none⟩ = false := by rw [World.frozen?_setCell]; exact hr4
        have HL : Hid (dl m + 1 = (seg ++ [cr]).length) := by unfold Hid; simp [hsl.out]
        have HGD := hide (good_snoc hsg.out (show cr < W32 by rw [W32_eq]; omega))
        have HV : Hid (val W32 (seg ++ [cr]) = m + m') := by
          unfold Hid
          rw [val_snoc, hsl.out, hval.out, List.take_of_length_le (show (digs W32 m).length ≤ dl m from Nat.le_refl _), List.take_of_length_le (show (digs W32 m').length ≤ dl m from hle), val_digs32, val_digs32]
        clear hlz hb
        go_wp2_with (first | (go_at_call 69; go_must (refine (trim_own HB.out HL.out HGD.out (by omega) (by omega) HV.out).mono ?_); rintro e w2 ⟨rfl, rfl⟩))
        refine bodyPost_ret (v := .agg #[.slice (some ⟨g, 0, none⟩) (dl (m + m')) (dl m + 1)]) (by simp [results, Tryd.results28, go_sem, hr5]) rfl ?_
        exact ⟨_, _, rfl, can_own (HB.out.far (p := ⟨w.heap.size + 1 + 1, 0, none⟩) (by simp; omega) _) HL.out HGD.out (Nat.le_refl _) HV.out, ((HW1.out.trans (grown_below hgr.out hB hb1.out.lt)).setCell (p := ⟨g, dl m, none⟩) hB _).setCell (by simp; omega) _⟩
theorem Add_any {A A' : Option Addr} {n n' c c' m m' : Nat} {w : World} (h : Arg w w.heap.size A n c m) (h' : Arg w w.heap.size A' n' c' m') :
    Calls Tryd.prog 28 #[.agg #[.slice A n c], .agg #[.slice A' n' c']] w (NumPost w (m + m')) := by
  rcases Nat.lt_or_ge (dl m) (dl m') with hlt | hge
  · have := (Add_core h' h (by omega)).2 hlt
    rwa [Nat.add_comm] at this
  · exact (Add_core h h' hge).1
end Go.Proofs.YtfknclimoihfdaaDoor
end

section
/- Of, Good, Low. Conditions: lengths that fit int. -/
open Go.RowKit
set_option maxRecDepth 100000
namespace Go.Proofs.YtfknclimoihfdaaDoor
theorem Of_any {n : Nat} {w : World} (hn : n ≤ 18446744073709551615) :
    Calls Tryd.prog 11 #[.int .u64 (n : Int)] w (NumPost w n) := by
  have HN := hide hn
  clear hn
  go_enter Tryd.func11, Tryd.ntmps11
  have hblk : Hid (∀ W : World, Blk U32 30 (W.alloc (.cells #[.int .u32 ((n : Int) % 4294967296), .int .u32 ((n : Int) / 4294967296 % 4294967296)] 30)) W.heap.size [n % W32, n / W32 % W32]) := fun W => heap_alloc_new W _
  have HV : Hid (val W32 [n % W32, n / W32 % W32] = n) := by unfold Hid; have := HN.out; simp only [val]; rw [W32_eq]; omega
  have HG : Hid (Good32 [n % W32, n / W32 % W32]) := by
    intro x hx; simp at hx; rcases hx with rfl | rfl <;> exact Nat.mod_lt _ (by decide)
  go_wp2_with (first | (go_at_call 69; go_must (refine (trim_own (n := 2) (by simpa using hblk.out (w.alloc (.cells #[.slice none 0 0] 25))) rfl HG.out (by omega) (by omega) HV.out).mono ?_); rintro e w2 ⟨rfl, rfl⟩))
  refine bodyPost_ret (v := .agg #[.slice (some ⟨w.heap.size + 1, 0, none⟩) (dl n) 2]) (by simp [results, Tryd.results11, go_sem]) rfl ?_
  exact ⟨_, _, rfl, can_own (n := 2) (by simpa using hblk.out (w.alloc (.cells #[.slice (some ⟨w.heap.size + 1, 0, none⟩) (dl n) 2] 25))) rfl HG.out (by omega) HV.out, ((Below.refl _ _).alloc (Nat.le_refl _) _).alloc (by simp) _⟩
/-- Whether the last word isn't 0. -/
def goodB (ws : List Nat) : Bool := ws.getLast? != some 0
theorem Good_any {A : Option Addr} {n c : Nat} {ws : List Nat} {w : World} (hn : n = ws.length) (h : Rd U32 w w.heap.size A ws) (hl : n ≤ 1000000) :
    Calls Tryd.prog 19 #[.agg #[.slice A n c]] w fun e w' => e = .returned (.bool (goodB ws)) ∧ Below w.heap.size w w' := by
  have HN := hide hn
  have HR : Hid (∀ o, Rd U32 (w.alloc o) w.heap.size A ws) := fun o => h.alloc (Nat.le_refl _) o
  clear hn h
  by_cases h0 : n = 0
  · subst h0
    have HG : Hid (goodB ws = true) := by have := HN.out; unfold Hid; rw [List.eq_nil_of_length_eq_zero this.symm]; rfl
    go_enter Tryd.func19, Tryd.ntmps19
    go_wp2
    go_ret
    exact ⟨by rw [HG.out]; rfl, (Below.refl _ _).alloc (Nat.le_refl _) _⟩
  · obtain ⟨k, rfl⟩ : ∃ k, n = k + 1 := ⟨n - 1, by omega⟩
    have hk : k < ws.length := by have := HN.out; omega
    obtain ⟨x, hx⟩ : ∃ x, x = ws[k] := ⟨_, rfl⟩
    obtain ⟨ad, rfl, hab, hc⟩ := (HR.out (.cells #[.slice A (k + 1) c] 25)).at_ hk
    rw [← hx] at hc
    unfold U32 at hc
    have HG : Hid (goodB ws = ((x : Int) != 0)) := by
      unfold Hid goodB
      rw [List.getLast?_eq_getElem?, ← HN.out, Nat.add_sub_cancel, List.getElem?_eq_getElem hk, ← hx]
      by_cases h : x = 0
      · subst h; rfl
      · have h1 : (some x != some 0) = true := by simpa using h
        have h2 : ((x : Int) != 0) = true := by simp; exact h
        rw [h1, h2]
    clear hx hk
    go_enter Tryd.func19, Tryd.ntmps19
    go_wp2
    go_ret
    exact ⟨by rw [HG.out]; rfl, (Below.refl _ _).alloc (Nat.le_refl _) _⟩
theorem dl_zero {m : Nat} (h : dl m = 0) : m = 0 := (digs_len_pos (by decide)).1 h
theorem digs_one {m : Nat} (h : dl m = 1) : digs W32 m = [m] ∧ m < W32 := by
  have h0 : 0 < m := by
    rcases Nat.eq_zero_or_pos m with rfl | h1
    · unfold dl at h; rw [digs_zero] at h; simp at h
    · exact h1
  have h2 : m < W32 := by have := lt_pow_digs (b := W32) (by decide) m; unfold dl at h; rw [h] at this; simpa using this
  refine ⟨?_, h2⟩
  rw [digs_pos (by decide) h0, Nat.div_eq_of_lt h2, digs_zero, Nat.mod_eq_of_lt h2]
theorem digs_two {m : Nat} (h : dl m = 2) : digs W32 m = [m % W32, m / W32] ∧ m / W32 < W32 := by
  have h0 : 0 < m := by
    rcases Nat.eq_zero_or_pos m with rfl | h1
    · unfold dl at h; rw [digs_zero] at h; simp at h
    · exact h1
  have e := digs_pos (b := W32) (by decide) h0
  have h1 : dl (m / W32) = 1 := by unfold dl at h ⊢; rw [e] at h; simpa using h
  obtain ⟨e2, h2⟩ := digs_one h1
  exact ⟨by rw [e, e2], h2⟩
theorem dl_three {m : Nat} (h : 3 ≤ dl m) : 18446744073709551616 ≤ m := by
  have h0 : 0 < m := by
    rcases Nat.eq_zero_or_pos m with rfl | h1
    · unfold dl at h; rw [digs_zero] at h; simp at h
    · exact h1
  have h1 := pow_le_of_digs (b := W32) (by decide) h0
  have h2 : W32 ^ 2 ≤ W32 ^ (dl m - 1) := Nat.pow_le_pow_right (by decide) (by omega)
  have h3 : W32 ^ 2 = 18446744073709551616 := by rw [W32_eq]
  unfold dl at h2; omega
def LowPost (w : World) (m : Nat) (e : Ending) (w' : World) : Prop :=
  e = .returned (.tuple #[.int .u64 ((if m < 18446744073709551616 then m else 0 : Nat) : Int), .bool (decide (m < 18446744073709551616))]) ∧ Below w.heap.size w w'
theorem low_ret {v u : Int} {b b' : Bool} (h : v = u) (hb : b = b') : Ending.returned (.tuple #[.int .u64 v, .bool b]) = .returned (.tuple #[.int .u64 u, .bool b']) := by rw [h, hb]
set_option maxHeartbeats 1000000 in
theorem Low_any {A : Option Addr} {n c m : Nat} {w : World} (h : Arg w w.heap.size A n c m) : Calls Tryd.prog 12 #[.agg #[.slice A n c]] w (LowPost w m) := by
  have H : Hid (∀ o, Arg (w.alloc o) w.heap.size A n c m) := fun o => h.below ((Below.refl _ _).alloc (Nat.le_refl _) _)
  have HX : Hid (∀ o, Rd U32 (w.alloc o) w.heap.size A (digs W32 m)) := fun o => (h.digs.1.below ((Below.refl _ _).alloc (Nat.le_refl _) _)).2
  have HBW : Hid (∀ o, Below w.heap.size w (w.alloc o)) := fun o => (Below.refl _ _).alloc (Nat.le_refl _) _
  clear h
  rcases (show dl m = 0 ∨ dl m = 1 ∨ dl m = 2 ∨ 3 ≤ dl m by omega) with hd | hd | hd | hd
  · have hm := hide (dl_zero hd)
    go_enter Tryd.func12, Tryd.ntmps12
    go_wp2_with (first | (go_at_call 69; go_must (refine (trim_arg (H.out _)).mono ?_); rintro e w2 ⟨rfl, rfl⟩))
    go_ret2
    exact ⟨low_ret (by rw [hm.out]; rfl) (by rw [hm.out]; rfl), HBW.out _⟩
  · obtain ⟨e, hlt⟩ := digs_one hd
    rw [e] at HX
    have hm := hide (word_le hlt)
    obtain ⟨ad, rfl, hab, hc⟩ := (HX.out (.cells #[.slice A n c] 25)).at_ (k := 0) (by simp)
    have hc : (w.alloc (.cells #[.slice (some ad) n c] 25)).cell? ad = some (.int .u32 (m : Int)) := hc
    have hml := word_le hlt
    clear e hlt
    go_enter Tryd.func12, Tryd.ntmps12
    go_wp2_with (first | (go_at_call 69; go_must (refine (trim_arg (H.out _)).mono ?_); rintro e w2 ⟨rfl, rfl⟩))
    go_ret2
    exact ⟨low_ret (by rw [if_pos (by have := hm.out; omega)]) (by rw [decide_eq_true (by have := hm.out; omega)]), HBW.out _⟩
  · obtain ⟨e, hlt⟩ := digs_two hd
    rw [e] at HX
    have HM : Hid (m < 18446744073709551616) := by unfold Hid; rw [W32_eq] at hlt; omega
    obtain ⟨hi, hhi⟩ : ∃ hi, hi = m / W32 := ⟨_, rfl⟩
    obtain ⟨lo, hlo⟩ : ∃ lo, lo = m % W32 := ⟨_, rfl⟩
    rw [← hhi, ← hlo] at HX
    obtain ⟨ad, rfl, hab, hc⟩ := (HX.out (.cells #[.slice A n c] 25)).at_ (k := 0) (by simp)
    have hc : (w.alloc (.cells #[.slice (some ad) n c] 25)).cell? ad = some (.int .u32 (lo : Int)) := hc
    obtain ⟨ad', e', hab', hc'⟩ := (HX.out (.cells #[.slice (some ad) n c] 25)).at_ (k := 1) (by simp)
    cases e'
    have hc' : (w.alloc (.cells #[.slice (some ad) n c] 25)).cell? ⟨ad.block, ad.off + 1, none⟩ = some (.int .u32 (hi : Int)) := hc'
    have hl1 : lo ≤ 4294967295 := word_le (by rw [hlo]; exact lo_lt m)
    have hl2 : hi ≤ 4294967295 := word_le (by rw [hhi]; exact hlt)
    have HE : Hid (m = hi * 4294967296 + lo) := by unfold Hid; have := lohi m; rw [← hlo, ← hhi, W32_eq] at this; omega
    clear e hlt hhi hlo
    go_enter Tryd.func12, Tryd.ntmps12
    go_wp2_with (first | (go_at_call 69; go_must (refine (trim_arg (H.out _)).mono ?_); rintro e w2 ⟨rfl, rfl⟩))
    go_quiet (fail)
    go_wp2
    go_ret2
    exact ⟨low_ret (by rw [if_pos HM.out, HE.out]; exact or64 hl2 hl1) (by rw [decide_eq_true HM.out]), below_drewN (HBW.out _) _⟩
  · have hm := hide (dl_three hd)
    go_enter Tryd.func12, Tryd.ntmps12
    go_wp2_with (first | (go_at_call 69; go_must (refine (trim_arg (H.out _)).mono ?_); rintro e w2 ⟨rfl, rfl⟩))
    go_ret2
    exact ⟨low_ret (by rw [if_neg (by have := hm.out; omega)]; rfl) (by rw [decide_eq_false (by have := hm.out; omega)]), HBW.out _⟩
end Go.Proofs.YtfknclimoihfdaaDoor
end

section
/- divideByWord: words in place, by one word. Conditions: at most 1000000 words. -/
open Go.RowKit
set_option maxRecDepth 100000
namespace Go.Proofs.YtfknclimoihfdaaDoor
def DivWordPost (w : World) (g k d : Nat) (L : List Nat) (e : Ending) (w' : World) : Prop :=
  ∃ (q : List Nat) (rest : Nat), e = .returned (.int .u32 (rest : Int)) ∧ Hid (q.length = k) ∧ Hid (Good32 q) ∧ rest < d ∧ Hid (val W32 (L.take k) = val W32 q * d + rest) ∧ Hid (Blk U32 30 w' g (q ++ L.drop k)) ∧ w.grownBy w' (some g)
theorem divw_math {vq d rest t q r x v W : Nat} (h : v = vq * d + rest) (ht : t = rest * W + x) (hq : r + d * q = t) : x + W * v = (q + W * vq) * d + r := by
  rw [h, Nat.mul_add, Nat.add_mul, Nat.mul_assoc W vq d]
  have : W * rest = rest * W := Nat.mul_comm _ _
  have : d * q = q * d := Nat.mul_comm _ _
  omega
theorem divw_lt {d rest t x W : Nat} (hr : rest < d) (ht : t = rest * W + x) (hx : x < W) : t / d < W := by
  rw [Nat.div_lt_iff_lt_mul (by omega), ht]
  have h1 : (rest + 1) * W ≤ d * W := Nat.mul_le_mul_right _ hr
  rw [Nat.add_mul, Nat.one_mul] at h1
  rw [Nat.mul_comm W d]; omega
theorem down_list {L D : List Nat} {i x v : Nat} (h : L[i]? = some x) : (L.take (i + 1) ++ D).set i v = L.take i ++ (v :: D) := by
  have hi : i < L.length := by
    rcases Nat.lt_or_ge i L.length with h1 | h1
    · exact h1
    · rw [List.getElem?_eq_none h1] at h; cases h
  have hl : (L.take i).length = i := by rw [List.length_take]; omega
  rw [List.take_succ_eq_append_getElem hi, List.append_assoc, List.set_append, if_neg (by omega), hl, Nat.sub_self]
  rfl
theorem down_drop {L : List Nat} {i k x : Nat} (h : L[i]? = some x) (hk : i < k) : (L.take k).drop i = x :: (L.take k).drop (i + 1) := by
  have hi : i < L.length := by
    rcases Nat.lt_or_ge i L.length with h1 | h1
    · exact h1
    · rw [List.getElem?_eq_none h1] at h; cases h
  rw [List.getElem?_eq_getElem hi] at h
  injection h with h
  rw [List.drop_eq_getElem_cons (by rw [List.length_take]; omega), List.getElem_take, h]
theorem quo_word {t d : Nat} (h : t / d < W32) : IntKind.u64.wrap ((t : Int) / (d : Int)) % 4294967296 = ((t / d : Nat) : Int) := by
  rw [W32_eq] at h
  rw [← Int.natCast_ediv]
  generalize t / d = q at h ⊢
  rw [u64_nat (by omega)]; omega
set_option maxHeartbeats 1000000 in
theorem divideByWord_any {g k c d : Nat} {L : List Nat} {w : World} (hb : Blk U32 30 w g L) (hk : k ≤ L.length) (hL : Good32 L) (hlim : k ≤ 1000000) (hd : d ≤ 4294967295) (hd0 : 1 ≤ d) :
    Calls Tryd.prog 72 #[.slice (some ⟨g, 0, none⟩) k c, .int .u32 (d : Int)] w (DivWordPost w g k d L) := by
  have HB := hide hb; have HK := hide hk; have HL := hide hL
  clear hb hk hL
  go_enter Tryd.func72, Tryd.ntmps72
  go_wp2
  go_loopw [5, 6] (fun rv iv wr => ∃ j rest : Nat, ∃ qs : List Nat, j ≤ k ∧ rest < d ∧ rv = .int .u64 (rest : Int) ∧ iv = .int .i64 ((j : Int) - 1) ∧ Hid (qs.length = k - j) ∧ Hid (Good32 qs) ∧ Hid (val W32 ((L.take k).drop j) = val W32 qs * d + rest) ∧
      Hid (Blk U32 30 wr g (L.take j ++ (qs ++ L.drop k))) ∧ Hid (w.grownBy wr (some g)))
    (fun _ iv _ => (intOf iv + 1).toNat)
  case atStart => exact ⟨k, 0, [], Nat.le_refl _, by omega, rfl, rfl, by simp [Hid], by intro x hx; simp at hx, by unfold Hid; rw [List.drop_of_length_le (by rw [List.length_take]; omega)]; simp [val], by unfold Hid; rw [List.nil_append, List.take_append_drop]; exact HB.out, World.grownBy.refl _ _⟩
  case round =>
    obtain ⟨j, rest, qs, hj, hrest, rfl, rfl, hsl, hsg, hval, hblk, hgr⟩ := hrel
    by_cases h0 : j = 0
    · subst h0
      go_wp2
      go_ret
      exact ⟨qs, rest, rfl, hsl.out, hsg.out, hrest, hval.out, hblk.out, hgr.out⟩
    · obtain ⟨i, rfl⟩ : ∃ i, j = i + 1 := ⟨j - 1, by omega⟩
      have hil : i < L.length := by have := HK.out; omega
      obtain ⟨x, hxe⟩ : ∃ x, x = L[i] := ⟨_, rfl⟩
      have hxL : L[i]? = some x := by rw [hxe]; exact List.getElem?_eq_getElem hil
      have hcx : wr.cell? ⟨g, i, none⟩ = some (.int .u32 (x : Int)) := hblk.out.cell (by rw [List.getElem?_append_left (by rw [List.length_take]; omega), List.getElem?_take, if_pos (by omega), hxL])
      have hfz := hblk.out.frozen i
      have hxW : x ≤ 4294967295 := word_le (by rw [hxe]; exact HL.out _ (List.getElem_mem _))
      have hrl : rest ≤ 4294967295 := by omega
      obtain ⟨t, ht⟩ : ∃ t, t = rest * 4294967296 + x := ⟨_, rfl⟩
      have hor : bits .or .u64 ((rest : Int) * 4294967296) (x : Int) = (t : Int) := by rw [ht]; exact or64 hrl hxW
      have HT := hide ht
      have hd1 := hide (Nat.mod_add_div t d)
      clear hxe ht hil
      have ha := hide (divw_math (W := W32) (x := x) hval.out (show t = rest * W32 + x from HT.out) hd1.out)
      have hb := hide (divw_lt (W := W32) hrest (show t = rest * W32 + x from HT.out) (by rw [W32_eq]; omega))
      have HI := hide (down_list (D := qs ++ L.drop k) (v := t / d) hxL)
      have HD := hide (down_drop (k := k) hxL (by omega))
      clear hxL
      go_wp2
      go_roundw
      case rel =>
        refine ⟨i, t % d, t / d :: qs, by omega, Nat.mod_lt _ (by omega), rfl, by go_num, by unfold Hid; rw [List.length_cons, hsl.out]; omega, ?_, ?_, ?_, grown_set hgr.out _ _⟩
        · intro y hy
          rcases List.mem_cons.1 hy with rfl | hy
          · exact hb.out
          · exact hsg.out y hy
        · unfold Hid
          rw [HD.out, val, val]
          exact ha.out
        · have h1 := hblk.out.set_ i (t / d)
          rw [HI.out] at h1
          rw [quo_word hb.out]
          exact h1
      case measure => simp [intOf]
end Go.Proofs.YtfknclimoihfdaaDoor
end

section
/- Div by a number of at most one word. Conditions: at most 100000 words. -/
open Go.RowKit
set_option maxRecDepth 100000
namespace Go.Proofs.YtfknclimoihfdaaDoor
theorem pre4 (w : World) (o1 o2 : Obj) (v u : Value) (t : TypeId) (k : Nat) :
    Below w.heap.size w (((((w.alloc o1).alloc o2).alloc (.cells #[v] t)).alloc (.cells #[u] t)).drewN k) ∧ (((((w.alloc o1).alloc o2).alloc (.cells #[v] t)).alloc (.cells #[u] t)).drewN k).heap.size = w.heap.size + 4 ∧
    (((((w.alloc o1).alloc o2).alloc (.cells #[v] t)).alloc (.cells #[u] t)).drewN k).heap[w.heap.size + 2]? = some (.cells #[v] t (0, 0)) ∧
    (((((w.alloc o1).alloc o2).alloc (.cells #[v] t)).alloc (.cells #[u] t)).drewN k).heap[w.heap.size + 3]? = some (.cells #[u] t (0, 0)) := by
  obtain ⟨p1, p2, p3⟩ := pre3 w o1 o2 v t 0
  refine ⟨below_drewN (((((Below.refl _ _).alloc (Nat.le_refl _) _).alloc (by simp) _).alloc (by simp; omega) _).alloc (by simp; omega) _) k, by simp, ?_, ?_⟩
  · exact (Below.heap_alloc _ _ _ (by simp)).trans p3
  · have := heap_alloc_new (((w.alloc o1).alloc o2).alloc (.cells #[v] t)) (.cells #[u] t)
    simpa using this
theorem dl0 : dl 0 = 0 := by unfold dl; rw [digs_zero]; rfl
theorem after4 {w w1 : World} {o1 o2 : Obj} {v u : Value} {t : TypeId} {k : Nat} (h : Below (((((w.alloc o1).alloc o2).alloc (.cells #[v] t)).alloc (.cells #[u] t)).drewN k).heap.size (((((w.alloc o1).alloc o2).alloc (.cells #[v] t)).alloc (.cells #[u] t)).drewN k) w1) :
    Below w.heap.size w w1 ∧ w1.heap[w.heap.size + 2]? = some (.cells #[v] t (0, 0)) ∧ w1.heap[w.heap.size + 3]? = some (.cells #[u] t (0, 0)) ∧ w.heap.size + 4 ≤ w1.heap.size := by
  obtain ⟨p1, p2, p3, p4⟩ := pre4 w o1 o2 v u t k
  exact ⟨p1.trans (h.mono p1.size), (h.block _ (by omega)).trans p3, (h.block _ (by omega)).trans p4, by have := h.size; omega⟩
/-- What Div leaves where b isn't 0. -/
def DivPost (w : World) (m n : Nat) (e : Ending) (w' : World) : Prop :=
  ∃ A c A' c', e = .returned (.tuple #[.agg #[.slice A (dl (m / n)) c], .agg #[.slice A' (dl (m % n)) c'], .bool true]) ∧ Hid (Can w' w'.heap.size A c (m / n)) ∧ Hid (Can w' w'.heap.size A' c' (m % n)) ∧ Hid (Below w.heap.size w w')
def DivNone (w : World) (e : Ending) (w' : World) : Prop := e = .returned (.tuple #[.agg #[.slice none 0 0], .agg #[.slice none 0 0], .bool false]) ∧ Hid (Below w.heap.size w w')
set_option maxHeartbeats 2000000 in
theorem Div_zero {A A' : Option Addr} {n n' c c' m m' : Nat} {w : World} (h : Arg w w.heap.size A n c m) (h' : Arg w w.heap.size A' n' c' m') (h0 : m' = 0) :
    Calls Tryd.prog 14 #[.agg #[.slice A n c], .agg #[.slice A' n' c']] w (DivNone w) := by
  have H : Hid (∀ o1 o2 v u t k, Arg (((((w.alloc o1).alloc o2).alloc (.cells #[v] t)).alloc (.cells #[u] t)).drewN k) w.heap.size A n c m) := fun o1 o2 v u t k => h.below (pre4 w o1 o2 v u t k).1
  have H' : Hid (∀ o1 o2 v u t k, Arg (((((w.alloc o1).alloc o2).alloc (.cells #[v] t)).alloc (.cells #[u] t)).drewN k) w.heap.size A' n' c' m') := fun o1 o2 v u t k => h'.below (pre4 w o1 o2 v u t k).1
  have hd : dl m' = 0 := by rw [h0]; unfold dl; rw [digs_zero]; rfl
  clear h h' h0
  go_enter Tryd.func14, Tryd.ntmps14
  go_wp2_with fail
  go_quiet ((go_at_call 69; first | exact quiet_left (trim_arg (H.out _ _ _ _ _ _)) | exact quiet_left (trim_arg (H'.out _ _ _ _ _ _))))
  go_wp2
  refine bodyPost_ret (v := .tuple #[.agg #[.slice none 0 0], .agg #[.slice none 0 0], .bool false]) (by simp [results, Tryd.results14, go_sem]) rfl ?_
  refine ⟨rfl, ?_⟩
  exact ((pre4 w _ _ _ _ _ _).1.setCell (by simp; omega) _).setCell (by simp; omega) _
set_option maxHeartbeats 2000000 in
theorem Div_less {A A' : Option Addr} {n n' c c' m m' : Nat} {w : World} (h : Arg w w.heap.size A n c m) (h' : Arg w w.heap.size A' n' c' m') (h0 : m < m') :
    Calls Tryd.prog 14 #[.agg #[.slice A n c], .agg #[.slice A' n' c']] w (DivPost w m m') := by
  have H : Hid (∀ o1 o2 v u t k, Arg (((((w.alloc o1).alloc o2).alloc (.cells #[v] t)).alloc (.cells #[u] t)).drewN k) w.heap.size A n c m) := fun o1 o2 v u t k => h.below (pre4 w o1 o2 v u t k).1
  have H' : Hid (∀ o1 o2 v u t k, Arg (((((w.alloc o1).alloc o2).alloc (.cells #[v] t)).alloc (.cells #[u] t)).drewN k) w.heap.size A' n' c' m') := fun o1 o2 v u t k => h'.below (pre4 w o1 o2 v u t k).1
  have hl : dl m ≤ 100000 := by have := h.digs.2; obtain ⟨_, _, _, h3, _⟩ := h; omega
  have hl' : dl m' ≤ 100000 := by have := h'.digs.2; obtain ⟨_, _, _, h3, _⟩ := h'; omega
  have hd : 0 < dl m' := by
    rcases Nat.eq_zero_or_pos (dl m') with h1 | h1
    · have := dl_zero h1; omega
    · exact h1
  have hdz : (((dl m' : Nat) : Int) == 0) = false := by rw [beq_eq_false_iff_ne]; omega
  have hcm : cmpI m m' < 0 := by rw [cmpI_lt h0]; omega
  have HX := hide h.digs.1
  have HLT := hide h0
  clear h h' h0
  go_enter Tryd.func14, Tryd.ntmps14
  go_wp2_with fail
  go_quiet ((go_at_call 69; first | exact quiet_left (trim_arg (H.out _ _ _ _ _ _)) | exact quiet_left (trim_arg (H'.out _ _ _ _ _ _))))
  go_wp2_with (first | (go_at_call 70; go_must (refine (compare_can (H.out _ _ _ _ _ _).digs.1 (H'.out _ _ _ _ _ _).digs.1 hl hl').mono ?_); rintro e w' ⟨rfl, q, rfl⟩) | (go_at_call 71; go_must (refine (fresh_can ((HX.out.below (pre4 w _ _ _ _ _ _).1).more (pre4 w _ _ _ _ _ _).1.size).2 (by omega)).mono ?_); rintro e w1 ⟨g, rfl, HGE, HBLK, HBEL⟩; obtain ⟨hw1, hq2, hq3, hsz⟩ := after4 HBEL.out; have HW1 := hide hw1; have r2 := (one_cell hq2).1; have f2 := (one_cell hq2).2; have r3 := (one_cell hq3).1; have f3 := (one_cell hq3).2; have HGB := hide (Nat.le_trans (Nat.le_of_eq (pre4 w _ _ _ _ _ _).2.1.symm) HGE.out); clear hq2 hq3 hw1 HGE HBEL))
  refine bodyPost_ret (v := .tuple #[.agg #[.slice none 0 0], .agg #[.slice (some ⟨g, 0, none⟩) (dl m) (dl m)], .bool true]) (by simp [results, Tryd.results14, go_sem, r2, r3]) rfl ?_
  have hgb := HGB.out
  refine ⟨none, 0, some ⟨g, 0, none⟩, dl m, by rw [Nat.div_eq_of_lt HLT.out, Nat.mod_eq_of_lt HLT.out, dl0], ?_, ?_, (HW1.out.setCell (by simp; omega) _).setCell (by simp; omega) _⟩
  · rw [Nat.div_eq_of_lt HLT.out]
    exact ⟨by rw [dl0]; exact Nat.le_refl _, by rw [digs_zero]; exact Rd.nil⟩
  · rw [Nat.mod_eq_of_lt HLT.out]
    exact can_own ((HBLK.out.far (p := ⟨w.heap.size + 1 + 1, 0, none⟩) (by simp; omega) _).far (p := ⟨w.heap.size + 1 + 1 + 1, 0, none⟩) (by simp; omega) _) (show dl m = (digs W32 m).length from rfl) (good_digs m) (Nat.le_refl _) (val_digs32 m)
theorem Rd.setBox {w : World} {B : Nat} {A : Option Addr} {xs : List Nat} (h : Rd U32 w B A xs) {p : Addr} {a : Option Addr} {l c : Nat} (hc : w.cell? p = some (.slice a l c)) (u : Value) : Rd U32 (w.setCell p u) B A xs := fun hn => by
  obtain ⟨ad, e, hb, hx⟩ := h hn
  refine ⟨ad, e, hb, fun j x hj => ?_⟩
  have h1 := hx j x hj
  rw [World.cell?_setCell_other w p _ u (by intro e; rw [← e, hc] at h1; cases h1)]
  exact h1
theorem div_parts {w : World} {g m d rest : Nat} {q : List Nat} {w2 : World} (_h : Hid (Blk U32 30 w g (digs W32 m))) (_hq1 : Hid (q.length = dl m)) (hq3 : Hid (val W32 ((digs W32 m).take (dl m)) = val W32 q * d + rest)) (hq4 : Hid (Blk U32 30 w2 g (q ++ (digs W32 m).drop (dl m)))) (hr : rest < d) :
    Hid (Blk U32 30 w2 g q) ∧ Hid (val W32 q = m / d) ∧ Hid (rest = m % d) := by
  have h1 := hq3.out
  rw [List.take_of_length_le (show (digs W32 m).length ≤ dl m from Nat.le_refl _), val_digs32] at h1
  have h2 := hq4.out
  rw [List.drop_of_length_le (show (digs W32 m).length ≤ dl m from Nat.le_refl _), List.append_nil] at h2
  refine ⟨h2, ?_, ?_⟩
  · unfold Hid
    rw [h1, Nat.mul_comm, Nat.mul_add_div (by omega), Nat.div_eq_of_lt hr, Nat.add_zero]
  · unfold Hid
    rw [h1, Nat.mul_comm, Nat.mul_add_mod, Nat.mod_eq_of_lt hr]
set_option maxHeartbeats 2000000 in
theorem Div_one {A A' : Option Addr} {n n' c c' m m' : Nat} {w : World} (h : Arg w w.heap.size A n c m) (h' : Arg w w.heap.size A' n' c' m') (h0 : m' ≤ m) (h1 : dl m' = 1) :
    Calls Tryd.prog 14 #[.agg #[.slice A n c], .agg #[.slice A' n' c']] w (DivPost w m m') := by
  have H : Hid (∀ o1 o2 v u t k, Arg (((((w.alloc o1).alloc o2).alloc (.cells #[v] t)).alloc (.cells #[u] t)).drewN k) w.heap.size A n c m) := fun o1 o2 v u t k => h.below (pre4 w o1 o2 v u t k).1
  have H' : Hid (∀ o1 o2 v u t k, Arg (((((w.alloc o1).alloc o2).alloc (.cells #[v] t)).alloc (.cells #[u] t)).drewN k) w.heap.size A' n' c' m') := fun o1 o2 v u t k => h'.below (pre4 w o1 o2 v u t k).1
  have hl : dl m ≤ 100000 := by have := h.digs.2; obtain ⟨_, _, _, h3, _⟩ := h; omega
  have hcm : ¬ cmpI m m' < 0 := by unfold cmpI; rw [if_neg (by omega)]; split <;> omega
  obtain ⟨hdg, hmw⟩ := digs_one h1
  have hm9 : m' ≤ 4294967295 := word_le hmw
  have hm0 : 1 ≤ m' := by
    rcases Nat.eq_zero_or_pos m' with rfl | h2
    · rw [dl0] at h1; omega
    · exact h2
  have HX := hide h.digs.1
  have hy2 := h'.digs.1.2
  rw [hdg] at hy2
  obtain ⟨ad, rfl, hab, hca⟩ := hy2.at_ (k := 0) (by simp)
  replace hca : w.cell? ad = some (.int .u32 (m' : Int)) := hca
  replace hab : ad.block < w.heap.size := hab
  have HH1 := hide h1
  have HDL := hide (show dl m' ≤ 100000 by omega)
  have HCA := hide hca
  have HAB := hide hab
  have T' : Hid (∀ o1 o2 v u t k, Calls Tryd.prog 69 #[.slice (some ad) n' c'] (((((w.alloc o1).alloc o2).alloc (.cells #[v] t)).alloc (.cells #[u] t)).drewN k) fun e w' => e = .returned (.slice (some ad) 1 c') ∧ (((((w.alloc o1).alloc o2).alloc (.cells #[v] t)).alloc (.cells #[u] t)).drewN k) = w') := fun o1 o2 v u t k => by
    have h5 := trim_arg (H'.out o1 o2 v u t k)
    rw [h1] at h5
    exact h5
  have CC : Hid (∀ o1 o2 v u t k, Calls Tryd.prog 70 #[.slice A (dl m) c, .slice (some ad) 1 c'] (((((w.alloc o1).alloc o2).alloc (.cells #[v] t)).alloc (.cells #[u] t)).drewN k) fun e w' => e = .returned (.int .i64 (cmpI m m')) ∧ ∃ q, w' = (((((w.alloc o1).alloc o2).alloc (.cells #[v] t)).alloc (.cells #[u] t)).drewN k).drewN q) := fun o1 o2 v u t k => by
    have h5 := compare_can (H.out o1 o2 v u t k).digs.1 (H'.out o1 o2 v u t k).digs.1 hl HDL.out
    rw [h1] at h5
    exact h5
  clear h h' h0 h1 hdg hmw hy2 hca hab
  go_enter Tryd.func14, Tryd.ntmps14
  go_wp2_with fail
  go_quiet ((go_at_call 69; first | exact quiet_left (trim_arg (H.out _ _ _ _ _ _)) | exact quiet_left (T'.out _ _ _ _ _ _)))
  go_wp2_with (first | (go_at_call 70; go_must (refine (CC.out _ _ _ _ _ _).mono ?_); rintro e w' ⟨rfl, q, rfl⟩) | (go_at_call 71; go_must (refine (fresh_can ((HX.out.below (pre4 w _ _ _ _ _ _).1).more (pre4 w _ _ _ _ _ _).1.size).2 (by omega)).mono ?_); rintro e w1 ⟨g, rfl, HGE, HBLK, HBEL⟩; obtain ⟨hw1, hq2, hq3, hsz⟩ := after4 HBEL.out; have HW1 := hide hw1; have HQ2 := hide hq2; have HQ3 := hide hq3; have HGB := hide (Nat.le_trans (Nat.le_of_eq (pre4 w _ _ _ _ _ _).2.1.symm) HGE.out); have hcy : w1.cell? ad = some (.int .u32 (m' : Int)) := (hw1.cell HAB.out).trans HCA.out; clear hq2 hq3 hw1 HGE HBEL) | (go_at_call 72; go_must (refine (divideByWord_any (k := dl m) (d := m') HBLK.out (Nat.le_refl _) (good_digs m) (by omega) hm9 hm0).mono ?_); rintro e w2 ⟨q2, rest, rfl, hq1, hq2, hrest, hq3, hq4, hq5⟩; have HQ5 := hide hq5; clear hq5; obtain ⟨HB2, HQV, HRV⟩ := div_parts HBLK hq1 hq3 hq4 hrest; have hz2 := HGB.out; have HR2 := hide ((HQ5.out.block _ (by omega) (by intro e; injection e with e; omega)).trans HQ2.out); have HR3 := hide ((HQ5.out.block _ (by omega) (by intro e; injection e with e; omega)).trans HQ3.out); have HS2 := hide HQ5.out.size) | (go_at_call 69; go_must (refine (trim_own HB2.out hq1.out.symm hq2.out (by omega) (Nat.le_refl _) HQV.out).mono ?_); rintro e w5 ⟨rfl, rfl⟩) | (go_at_call 11; go_must (refine (Of_any (n := rest) (by omega)).mono ?_); rintro e w3 ⟨A3, c3, rfl, hcn, hbl⟩; have HCN := hide hcn; have HBL := hide hbl; obtain ⟨r2, f2⟩ := one_cell ((hbl.block _ (by have := HS2.out; omega)).trans HR2.out); obtain ⟨r3, f3⟩ := one_cell ((hbl.block _ (by have := HS2.out; omega)).trans HR3.out); clear hcn hbl))
  refine bodyPost_ret (v := .tuple #[.agg #[.slice (some ⟨g, 0, none⟩) (dl (m / m')) (dl m)], .agg #[.slice A3 (dl rest) c3], .bool true]) (by simp [results, Tryd.results14, go_sem, r2, r3]) rfl ?_
  have hgb := HGB.out
  have hb2 : Blk U32 30 w3 g q2 := HB2.out.below HBL.out HB2.out.lt
  refine ⟨some ⟨g, 0, none⟩, dl m, A3, c3, by rw [HRV.out], ?_, ?_, ?_⟩
  · exact can_own ((hb2.far (p := ⟨w.heap.size + 1 + 1, 0, none⟩) (by simp; omega) _).far (p := ⟨w.heap.size + 1 + 1 + 1, 0, none⟩) (by simp; omega) _) hq1.out.symm hq2.out (Nat.le_refl _) HQV.out
  · rw [← HRV.out]
    have h23 : (w3.setCell ⟨w.heap.size + 1 + 1, 0, none⟩ (.slice (some ⟨g, 0, none⟩) (dl (m / m')) (dl m))).cell? ⟨w.heap.size + 1 + 1 + 1, 0, none⟩ = some (.slice none 0 0) :=
      (World.cell?_setCell_other w3 _ _ _ (by intro e; injection e with e; omega)).trans r3
    refine ⟨HCN.out.1, ?_⟩
    have h1 := Rd.setBox (Rd.setBox HCN.out.2 (p := ⟨w.heap.size + 1 + 1, 0, none⟩) r2 (.slice (some ⟨g, 0, none⟩) (dl (m / m')) (dl m))) h23 (.slice A3 (dl rest) c3)
    simpa [World.setCell] using h1
  · exact (((HW1.out.trans (grown_below HQ5.out (by omega) HBLK.out.lt)).trans (HBL.out.mono (Nat.le_trans HW1.out.size HS2.out))).setCell (by simp; omega) _).setCell (by simp; omega) _
end Go.Proofs.YtfknclimoihfdaaDoor
end

section
/- Div whole: the quotient and the rest of any two numbers. Conditions: less than 100000 words. -/
open Go.RowKit
set_option maxRecDepth 100000
namespace Go.Proofs.YtfknclimoihfdaaDoor
set_option maxHeartbeats 4000000 in
theorem Div_long {A A' : Option Addr} {n n' c c' m m' : Nat} {w : World} (h : Arg w w.heap.size A n c m) (h' : Arg w w.heap.size A' n' c' m') (h0 : m' ≤ m) (h1 : 2 ≤ dl m') (hl9 : dl m ≤ 99999) :
    Calls Tryd.prog 14 #[.agg #[.slice A n c], .agg #[.slice A' n' c']] w (DivPost w m m') := by
  have H : Hid (∀ o1 o2 v u t k, Arg (((((w.alloc o1).alloc o2).alloc (.cells #[v] t)).alloc (.cells #[u] t)).drewN k) w.heap.size A n c m) := fun o1 o2 v u t k => h.below (pre4 w o1 o2 v u t k).1
  have H' : Hid (∀ o1 o2 v u t k, Arg (((((w.alloc o1).alloc o2).alloc (.cells #[v] t)).alloc (.cells #[u] t)).drewN k) w.heap.size A' n' c' m') := fun o1 o2 v u t k => h'.below (pre4 w o1 o2 v u t k).1
  have hl : dl m ≤ 100000 := by omega
  have hmono : dl m' ≤ dl m := digs_len_mono (b := W32) (by decide) h0
  have hcm : ¬ cmpI m m' < 0 := by unfold cmpI; rw [if_neg (by omega)]; split <;> omega
  have H0 := hide h0
  have hd1 : (((dl m' : Nat) : Int) == 0) = false := by rw [beq_eq_false_iff_ne]; omega
  have hd2 : (((dl m' : Nat) : Int) == 1) = false := by rw [beq_eq_false_iff_ne]; omega
  have CC : Hid (∀ o1 o2 v u t k, Calls Tryd.prog 70 #[.slice A (dl m) c, .slice A' (dl m') c'] (((((w.alloc o1).alloc o2).alloc (.cells #[v] t)).alloc (.cells #[u] t)).drewN k) fun e w' => e = .returned (.int .i64 (cmpI m m')) ∧ ∃ q, w' = (((((w.alloc o1).alloc o2).alloc (.cells #[v] t)).alloc (.cells #[u] t)).drewN k).drewN q) := fun o1 o2 v u t k =>
    compare_can (H.out o1 o2 v u t k).digs.1 (H'.out o1 o2 v u t k).digs.1 hl (by omega)
  have CL : Hid (∀ o1 o2 v u t k, Calls Tryd.prog 73 #[.slice A (dl m) c, .slice A' (dl m') c'] (((((w.alloc o1).alloc o2).alloc (.cells #[v] t)).alloc (.cells #[u] t)).drewN k) (LongPost (((((w.alloc o1).alloc o2).alloc (.cells #[v] t)).alloc (.cells #[u] t)).drewN k) m m')) := fun o1 o2 v u t k => by
    have p := (pre4 w o1 o2 v u t k).1.size
    exact divideLong_any ((H.out o1 o2 v u t k).digs.1.more p) ((H'.out o1 o2 v u t k).digs.1.more p) H0.out h1 hl9
  clear h h' h0 h1 hl9
  go_enter Tryd.func14, Tryd.ntmps14
  go_wp2_with fail
  go_quiet ((go_at_call 69; first | exact quiet_left (trim_arg (H.out _ _ _ _ _ _)) | exact quiet_left (trim_arg (H'.out _ _ _ _ _ _))))
  go_wp2_with (first | (go_at_call 70; go_must (refine (CC.out _ _ _ _ _ _).mono ?_); rintro e w' ⟨rfl, q, rfl⟩) | (go_at_call 73; go_must (refine (CL.out _ _ _ _ _ _).mono ?_); rintro e w1 ⟨gq, gr, nq, nr, Q, R, rfl, hq, hqq, hr, hrr, hge, hbel⟩; obtain ⟨hw1, hq2, hq3, hsz⟩ := after4 hbel.out; have HW1 := hide hw1; have r2 := (one_cell hq2).1; have f2 := (one_cell hq2).2; have r3 := (one_cell hq3).1; have f3 := (one_cell hq3).2; clear hq2 hq3 hw1 hbel) | (go_at_call 69; (with_reducible refine (trim_own hq.out hqq.out.1 hqq.out.2.1 (by have := hqq.out.2.2.1; omega) (Nat.le_refl _) hqq.out.2.2.2).mono ?_); rintro e w5 ⟨rfl, rfl⟩) | (go_at_call 69; (with_reducible refine (trim_own hr.out hrr.out.1 hrr.out.2.1 (by have := hrr.out.2.2.1; omega) (Nat.le_refl _) hrr.out.2.2.2).mono ?_); rintro e w6 ⟨rfl, rfl⟩))
  refine bodyPost_ret (v := .tuple #[.agg #[.slice (some ⟨gq, 0, none⟩) (dl (m / m')) nq], .agg #[.slice (some ⟨gr, 0, none⟩) (dl (m % m')) nr], .bool true]) (by simp [results, Tryd.results14, go_sem, r2, r3]) rfl ?_
  obtain ⟨ha, hb⟩ := hge.out
  rw [(pre4 w _ _ _ _ _ _).2.1] at ha hb
  refine ⟨some ⟨gq, 0, none⟩, nq, some ⟨gr, 0, none⟩, nr, rfl, ?_, ?_, (HW1.out.setCell (by simp; omega) _).setCell (by simp; omega) _⟩
  · exact can_own ((hq.out.far (p := ⟨w.heap.size + 1 + 1, 0, none⟩) (by simp; omega) _).far (p := ⟨w.heap.size + 1 + 1 + 1, 0, none⟩) (by simp; omega) _) hqq.out.1 hqq.out.2.1 (Nat.le_refl _) hqq.out.2.2.2
  · exact can_own ((hr.out.far (p := ⟨w.heap.size + 1 + 1, 0, none⟩) (by simp; omega) _).far (p := ⟨w.heap.size + 1 + 1 + 1, 0, none⟩) (by simp; omega) _) hrr.out.1 hrr.out.2.1 (Nat.le_refl _) hrr.out.2.2.2
/-- Div of any two numbers, b not 0. -/
theorem Div_any {A A' : Option Addr} {n n' c c' m m' : Nat} {w : World} (h : Arg w w.heap.size A n c m) (h' : Arg w w.heap.size A' n' c' m') (h0 : 0 < m') (hl : dl m ≤ 99999) :
    Calls Tryd.prog 14 #[.agg #[.slice A n c], .agg #[.slice A' n' c']] w (DivPost w m m') := by
  rcases Nat.lt_or_ge m m' with h1 | h1
  · exact Div_less h h' h1
  · rcases Nat.lt_or_ge (dl m') 2 with h2 | h2
    · refine Div_one h h' h1 ?_
      rcases Nat.eq_zero_or_pos (dl m') with h3 | h3
      · have := dl_zero h3; omega
      · omega
    · exact Div_long h h' h1 h2 hl
end Go.Proofs.YtfknclimoihfdaaDoor
end
