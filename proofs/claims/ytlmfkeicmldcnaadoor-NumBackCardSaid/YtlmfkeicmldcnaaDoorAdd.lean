/- Add: the sum. Conditions: at most 100000 words each. -/
import Derived.Test.YtlmfkeicmldcnaaDoorMul
open Go.RowKit
set_option maxRecDepth 100000
namespace Go.Proofs.YtlmfkeicmldcnaaDoor

set_option maxHeartbeats 2000000 in
theorem Add_core {A A' : Option Addr} {n n' c c' m m' : Nat} {w : World} (h : Arg w w.heap.size A n c m) (h' : Arg w w.heap.size A' n' c' m') (hle : dl m' ≤ dl m) :
    (Calls Tryd.prog 31 #[.agg #[.slice A n c], .agg #[.slice A' n' c']] w (NumPost w (m + m'))) ∧
    (dl m' < dl m → Calls Tryd.prog 31 #[.agg #[.slice A' n' c'], .agg #[.slice A n c]] w (NumPost w (m + m'))) := by
  have H : Hid (∀ o1 o2 v t k, Arg ((((w.alloc o1).alloc o2).alloc (.cells #[v] t)).drewN k) w.heap.size A n c m) := fun o1 o2 v t k => h.below (pre3 w o1 o2 v t k).1
  have H' : Hid (∀ o1 o2 v t k, Arg ((((w.alloc o1).alloc o2).alloc (.cells #[v] t)).drewN k) w.heap.size A' n' c' m') := fun o1 o2 v t k => h'.below (pre3 w o1 o2 v t k).1
  have hl : dl m ≤ 100000 := by have := h.digs.2; obtain ⟨_, _, _, h3, _⟩ := h; omega
  have HX := hide h.digs.1
  have HY := hide h'.digs.1
  clear h h'
  refine ⟨?_, fun hlt => ?_⟩
  all_goals
    go_enter Tryd.func31, Tryd.ntmps31
    go_wp2_with fail
    go_quiet ((go_at_call 61; first | exact quiet_left (trim_arg (H.out _ _ _ _ _)) | exact quiet_left (trim_arg (H'.out _ _ _ _ _))))
    go_wp2_with (first | (at_make; go_must (refine wpList_words rfl _ _ rfl (dl m + 1) rfl rfl (by omega) ?_; intro g w1 hg hb1 hbel)))
    have HG : Hid (g = w.heap.size + 3) := by unfold Hid; rw [hg.out]; exact (pre3 w _ _ _ _ _).2.1
    have hB : w.heap.size ≤ g := by have := HG.out; omega
    obtain ⟨hw1, hres, hsz1⟩ := after3 hbel
    have HRES := hide hres
    have HW1 := hide hw1
    clear hbel hres hg hw1 H H'
    go_loopw [8, 30] (fun cv iv wr => ∃ i cr : Nat, ∃ seg : List Nat, i ≤ dl m ∧ cr ≤ 1 ∧ cv = .int .u64 (cr : Int) ∧ iv = .int .i64 (i : Int) ∧ Hid (seg.length = i) ∧ Hid (Good32 seg) ∧ Hid (val W32 seg + W32 ^ i * cr = val W32 ((digs W32 m).take i) + val W32 ((digs W32 m').take i)) ∧
        Hid (Blk U32 30 wr g (seg ++ List.replicate (dl m + 1 - i) 0)) ∧ Hid (w1.grownBy wr (some g)))
      (fun _ iv _ => dl m - (intOf iv).toNat)
    case atStart => exact ⟨0, 0, [], Nat.zero_le _, by omega, rfl, rfl, rfl, by intro x hx; simp at hx, by simp [Hid, val], hb1, World.grownBy.refl _ _⟩
    case round =>
      obtain ⟨i, cr, seg, hi, hcr, rfl, rfl, hsl, hsg, hval, hblk, hgr⟩ := hrel
      by_cases hlt : i < dl m
      · have hix : i < (digs W32 m).length := hlt
        have HXR := hide ((HX.out.below HW1.out).2.grown hgr.out hB)
        have HYR := hide ((HY.out.below HW1.out).2.grown hgr.out hB)
        obtain ⟨ad, rfl, hab, hcx⟩ := HXR.out.at_ hix
        obtain ⟨x, hxe⟩ : ∃ x, x = (digs W32 m)[i] := ⟨_, rfl⟩
        rw [← hxe] at hcx
        have RX := hide (val_take_succ W32 (L := digs W32 m) (i := i) (x := x) (by rw [hxe]; exact List.getElem?_eq_getElem hix))
        have hxW : x ≤ 4294967295 := word_le (by rw [hxe]; exact good_digs m _ (List.getElem_mem _))
        obtain ⟨z, hz⟩ : ∃ z, dl m + 1 - i = z + 1 := ⟨dl m - i, by omega⟩
        rw [hz] at hblk
        have HZ := hide hz
        have hcs : wr.cell? ⟨g, i, none⟩ = some (.int .u32 0) := hblk.out.cell (get_zeros hsl.out)
        have hfz := hblk.out.frozen i
        unfold U32 at hcx
        clear hxe hix hz
        by_cases hs : i < dl m'
        · have hiy : i < (digs W32 m').length := hs
          obtain ⟨ad', rfl, hab', hcy⟩ := HYR.out.at_ hiy
          obtain ⟨y, hye⟩ : ∃ x, x = (digs W32 m')[i] := ⟨_, rfl⟩
          rw [← hye] at hcy
          have RY := hide (val_take_succ W32 (L := digs W32 m') (i := i) (x := y) (by rw [hye]; exact List.getElem?_eq_getElem hiy))
          have hyW : y ≤ 4294967295 := word_le (by rw [hye]; exact good_digs m' _ (List.getElem_mem _))
          unfold U32 at hcy
          clear hye hiy
          have RM := hide (add_math (W := W32) hval.out rfl (lohi (cr + (x + y))))
          go_wp2
          go_roundw
          case rel =>
            refine ⟨i + 1, (cr + x + y) / W32, seg ++ [(cr + x + y) % W32], by omega, by rw [W32_eq]; omega, rfl, by go_num, by unfold Hid; simp [hsl.out], good_snoc hsg.out (lo_lt _), ?_, ?_, ?_⟩
            · unfold Hid
              rw [val_snoc, hsl.out, Nat.pow_succ, RX.out, RY.out, Nat.add_assoc cr x y, RM.out, Nat.mul_add]
              omega
            · have hb := hblk.out.set_ i ((cr + x + y) % W32)
              rw [set_zeros hsl.out] at hb
              rw [show dl m + 1 - (i + 1) = z by have := HZ.out; omega]
              exact hb
            · exact grown_set hgr.out _ _
          case measure => simp [intOf]; omega
        · have RY := hide (val_take_more W32 (L := digs W32 m') (i := i) (show dl m' ≤ i by omega))
          have RM := hide (add_math (W := W32) hval.out rfl (lohi (cr + x)))
          go_wp2
          go_roundw
          case rel =>
            refine ⟨i + 1, (cr + x) / W32, seg ++ [(cr + x) % W32], by omega, by rw [W32_eq]; omega, rfl, by go_num, by unfold Hid; simp [hsl.out], good_snoc hsg.out (lo_lt _), ?_, ?_, ?_⟩
            · unfold Hid
              rw [val_snoc, hsl.out, Nat.pow_succ, RX.out, RY.out, RM.out]
              omega
            · have hb := hblk.out.set_ i ((cr + x) % W32)
              rw [set_zeros hsl.out] at hb
              rw [show dl m + 1 - (i + 1) = z by have := HZ.out; omega]
              exact hb
            · exact grown_set hgr.out _ _
          case measure => simp [intOf]; omega
      · obtain rfl : i = dl m := by omega
        obtain ⟨hr3, hr4⟩ := one_cell ((hgr.out.block _ (by omega) (by intro e; injection e with e; have := HG.out; omega)).trans HRES.out)
        have hlz : seg ++ List.replicate (dl m + 1 - dl m) 0 = seg ++ List.replicate (0 + 1) 0 := by rw [show dl m + 1 - dl m = 0 + 1 by omega]
        rw [hlz] at hblk
        have hcs : wr.cell? ⟨g, dl m, none⟩ = some (.int .u32 0) := hblk.out.cell (get_zeros hsl.out)
        have hfz := hblk.out.frozen (dl m)
        have hb : Blk U32 30 (wr.setCell ⟨g, dl m, none⟩ (.int .u32 (cr : Int))) g _ := hblk.out.set_ (dl m) cr
        rw [set_zeros hsl.out, List.replicate_zero, List.append_nil] at hb
        have HB := hide hb
        have hne : w.heap.size + 2 ≠ g := by have := HG.out; omega
        have hr5 : (wr.setCell ⟨g, dl m, none⟩ (.int .u32 (cr : Int))).cell? ⟨w.heap.size + 2, 0, none⟩ = some (.slice none 0 0) := (World.cell?_setCell_other wr _ _ _ (by intro e; injection e with e; exact hne e.symm)).trans hr3
        have hr6 : (wr.setCell ⟨g, dl m, none⟩ (.int .u32 (cr : Int))).frozen? ⟨w.heap.size + 2, 0, none⟩ = false := by rw [World.frozen?_setCell]; exact hr4
        have HL : Hid (dl m + 1 = (seg ++ [cr]).length) := by unfold Hid; simp [hsl.out]
        have HGD := hide (good_snoc hsg.out (show cr < W32 by rw [W32_eq]; omega))
        have HV : Hid (val W32 (seg ++ [cr]) = m + m') := by
          unfold Hid
          rw [val_snoc, hsl.out, hval.out, List.take_of_length_le (show (digs W32 m).length ≤ dl m from Nat.le_refl _), List.take_of_length_le (show (digs W32 m').length ≤ dl m from hle), val_digs32, val_digs32]
        clear hlz hb
        go_wp2_with (first | (go_at_call 61; go_must (refine (trim_own HB.out HL.out HGD.out (by omega) (by omega) HV.out).mono ?_); rintro e w2 ⟨rfl, rfl⟩))
        refine bodyPost_ret (v := .agg #[.slice (some ⟨g, 0, none⟩) (dl (m + m')) (dl m + 1)]) (by simp [results, Tryd.results31, go_sem, hr5]) rfl ?_
        exact ⟨_, _, rfl, can_own (HB.out.far (p := ⟨w.heap.size + 1 + 1, 0, none⟩) (by simp; omega) _) HL.out HGD.out (Nat.le_refl _) HV.out, ((HW1.out.trans (grown_below hgr.out hB hb1.out.lt)).setCell (p := ⟨g, dl m, none⟩) hB _).setCell (by simp; omega) _⟩
theorem Add_any {A A' : Option Addr} {n n' c c' m m' : Nat} {w : World} (h : Arg w w.heap.size A n c m) (h' : Arg w w.heap.size A' n' c' m') :
    Calls Tryd.prog 31 #[.agg #[.slice A n c], .agg #[.slice A' n' c']] w (NumPost w (m + m')) := by
  rcases Nat.lt_or_ge (dl m) (dl m') with hlt | hge
  · have := (Add_core h' h (by omega)).2 hlt
    rwa [Nat.add_comm] at this
  · exact (Add_core h h' hge).1
end Go.Proofs.YtlmfkeicmldcnaaDoor
