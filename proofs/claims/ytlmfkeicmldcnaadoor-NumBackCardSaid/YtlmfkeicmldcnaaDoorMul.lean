/- Mul: the product. Conditions: at most 100000 words each. -/
import Derived.Test.YtlmfkeicmldcnaaDoorAddm
open Go.RowKit
set_option maxRecDepth 100000
namespace Go.Proofs.YtlmfkeicmldcnaaDoor
set_option maxHeartbeats 1000000 in
theorem Mul_any {A A' : Option Addr} {n n' c c' m m' : Nat} {w : World} (h : Arg w w.heap.size A n c m) (h' : Arg w w.heap.size A' n' c' m') :
    Calls Tryd.prog 33 #[.agg #[.slice A n c], .agg #[.slice A' n' c']] w (NumPost w (m * m')) := by
  have H : Hid (∀ o1 o2 v t k, Arg ((((w.alloc o1).alloc o2).alloc (.cells #[v] t)).drewN k) w.heap.size A n c m) := fun o1 o2 v t k => h.below (pre3 w o1 o2 v t k).1
  have H' : Hid (∀ o1 o2 v t k, Arg ((((w.alloc o1).alloc o2).alloc (.cells #[v] t)).drewN k) w.heap.size A' n' c' m') := fun o1 o2 v t k => h'.below (pre3 w o1 o2 v t k).1
  have hl : dl m ≤ 100000 := by have := h.digs.2; obtain ⟨_, _, _, h3, _⟩ := h; omega
  have hl' : dl m' ≤ 100000 := by have := h'.digs.2; obtain ⟨_, _, _, h3, _⟩ := h'; omega
  have HX := hide h.digs.1
  have HY := hide h'.digs.1
  clear h h'
  go_enter Tryd.func33, Tryd.ntmps33
  go_wp2_with fail
  go_quiet ((go_at_call 61; first | exact quiet_left (trim_arg (H.out _ _ _ _ _)) | exact quiet_left (trim_arg (H'.out _ _ _ _ _))))
  go_wp2_with (first | (at_make; go_must (refine wpList_words rfl _ _ rfl (dl m + dl m') rfl rfl (by omega) ?_; intro g w1 hg hb1 hbel)))
  have HG : Hid (g = w.heap.size + 3) := by unfold Hid; rw [hg.out]; exact (pre3 w _ _ _ _ _).2.1
  have hB : w.heap.size ≤ g := by have := HG.out; omega
  obtain ⟨hw1, hres, hsz1⟩ := after3 hbel
  have HRES := hide hres
  have HW1 := hide hw1
  clear hbel hres hg hw1 H H'
  go_loopw [24] (fun iv wr => ∃ i : Nat, ∃ seg : List Nat, i ≤ dl m ∧ iv = .int .i64 (i : Int) ∧ Hid (seg.length = i + dl m') ∧ Hid (Good32 seg) ∧ Hid (val W32 seg = val W32 ((digs W32 m).take i) * m') ∧
      Hid (Blk U32 30 wr g (seg ++ List.replicate (dl m - i) 0)) ∧ Hid (w1.grownBy wr (some g)))
    (fun iv _ => dl m - (intOf iv).toNat)
  case atStart => exact ⟨0, List.replicate (dl m') 0, Nat.zero_le _, rfl, by simp [Hid], good_zeros (l := []) (by intro x hx; simp at hx) _, by simp [Hid, val, val_zeros], by have := hb1.out; rw [Nat.add_comm, ← List.replicate_append_replicate] at this; exact this, World.grownBy.refl _ _⟩
  case round =>
    obtain ⟨i, seg, hi, rfl, hsl, hsg, hval, hblk, hgr⟩ := hrel
    by_cases hlt : i < dl m
    · have hix : i < (digs W32 m).length := hlt
      have HXR := hide ((HX.out.below HW1.out).2.grown hgr.out hB)
      have HYR := hide ((HY.out.below HW1.out).2.grown hgr.out hB)
      obtain ⟨ad, rfl, hab, hcx⟩ := HXR.out.at_ hix
      obtain ⟨x, hxe⟩ : ∃ x, x = (digs W32 m)[i] := ⟨_, rfl⟩
      rw [← hxe] at hcx
      have RX := hide (val_take_succ W32 (L := digs W32 m) (i := i) (x := x) (by rw [hxe]; exact List.getElem?_eq_getElem hix))
      have hxW : Hid (x < W32) := by unfold Hid; rw [hxe]; exact good_digs m _ (List.getElem_mem _)
      obtain ⟨z, hz⟩ : ∃ z, dl m - i = z + 1 := ⟨dl m - i - 1, by omega⟩
      rw [hz] at hblk
      have HZ := hide hz
      unfold U32 at hcx
      clear hxe hix hz
      by_cases hx0 : x = 0
      · subst hx0
        go_wp2
        go_roundw
        case rel =>
          refine ⟨i + 1, seg ++ [0], by omega, by go_num, by unfold Hid; rw [List.length_append, hsl.out]; simp; omega, good_snoc hsg.out (by decide), by unfold Hid; rw [val_snoc, hval.out, RX.out]; simp, ?_, hgr⟩
          have hb := hblk.out
          rw [List.replicate_succ] at hb
          rw [show dl m - (i + 1) = z by have := HZ.out; omega]
          simpa [Hid] using hb
        case measure => simp [intOf]; omega
      · have hx1 : ((x : Int) == 0) = false := by simp; omega
        clear hx0
        have hlen1 : i + dl m' ≤ (seg ++ List.replicate (z + 1) 0).length := by rw [List.length_append, hsl.out, List.length_replicate]; omega
        have hlen2 : (seg ++ List.replicate (z + 1) 0).length ≤ 1000000 := by rw [List.length_append, hsl.out, List.length_replicate]; have := HZ.out; omega
        go_wp2_with (first | (go_at_call 74; go_must (refine (addMultiple_any (k := dl m') hblk.out HYR.out hB rfl hlen1 (good_zeros hsg.out _) (good_digs m') hxW.out hlen2).mono ?_); rintro e w2 ⟨seg2, c2, rfl, hs2, hg2, hc2, hv2, hb2, hgr2⟩; have hc : w2.cell? ⟨g, i + dl m', none⟩ = some (.int .u32 0) := hb2.cell (mul_cell hsl.out hs2.out); have hf := hb2.frozen (i + dl m')))
        go_roundw
        case rel =>
          refine ⟨i + 1, seg.take i ++ (seg2 ++ [c2]), by omega, by go_num, by unfold Hid; rw [List.length_append, List.length_append, hs2.out, List.length_take, hsl.out]; simp; omega, good_app (good_take hsg.out _) (good_snoc hg2.out hc2.out), ?_, ?_, ?_⟩
          · unfold Hid
            rw [RX.out]
            exact mul_round hsl.out hs2.out hval.out (by rw [val_digs32] at hv2; exact hv2.out)
          · have hb := hb2.set_ (i + dl m') c2
            rw [mul_list hsl.out hs2.out] at hb
            rw [show dl m - (i + 1) = z by have := HZ.out; omega]
            exact hb
          · exact grown_set (grown_trans hgr.out hgr2) _ _
        case measure => simp [intOf]; omega
    · obtain rfl : i = dl m := by omega
      have hr2 := (one_cell ((hgr.out.block _ (by omega) (by intro e; injection e with e; have := HG.out; omega)).trans HRES.out))
      obtain ⟨hr3, hr4⟩ := hr2
      have hlz : seg ++ List.replicate (dl m - dl m) 0 = seg := by simp
      rw [hlz] at hblk
      have HV : Hid (val W32 seg = m * m') := by unfold Hid; rw [hval.out, List.take_of_length_le (show (digs W32 m).length ≤ dl m from Nat.le_refl _), val_digs32]
      clear hlz
      go_wp2_with (first | (go_at_call 61; go_must (refine (trim_own hblk.out hsl.out.symm hsg.out (by omega) (by omega) HV.out).mono ?_); rintro e w2 ⟨rfl, rfl⟩))
      refine bodyPost_ret (v := .agg #[.slice (some ⟨g, 0, none⟩) (dl (m * m')) (dl m + dl m')]) (by simp [results, Tryd.results33, go_sem, hr3]) rfl ?_
      have hne : g ≠ w.heap.size + 1 + 1 := by have := HG.out; omega
      exact ⟨_, _, rfl, can_own (hblk.out.far (p := ⟨w.heap.size + 1 + 1, 0, none⟩) hne _) hsl.out.symm hsg.out (Nat.le_refl _) HV.out, (HW1.out.trans (grown_below hgr.out hB hb1.out.lt)).setCell (by simp; omega) _⟩
end Go.Proofs.YtlmfkeicmldcnaaDoor
