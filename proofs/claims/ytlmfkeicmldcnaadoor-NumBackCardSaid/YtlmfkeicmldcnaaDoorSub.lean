/- Sub: the difference. Conditions: at most 100000 words each. -/
import Derived.Test.YtlmfkeicmldcnaaDoorAdd
open Go.RowKit
set_option maxRecDepth 100000
namespace Go.Proofs.YtlmfkeicmldcnaaDoor
/-- What Sub leaves. -/
def SubPost (w : World) (m m' : Nat) (e : Ending) (w' : World) : Prop :=
  if m' ≤ m then ∃ A c, e = .returned (.tuple #[.agg #[.slice A (dl (m - m')) c], .bool true]) ∧ Can w' w'.heap.size A c (m - m') ∧ Below w.heap.size w w'
  else e = .returned (.tuple #[.agg #[.slice none 0 0], .bool false]) ∧ Below w.heap.size w w'
set_option maxHeartbeats 2000000 in
theorem Sub_any {A A' : Option Addr} {n n' c c' m m' : Nat} {w : World} (h : Arg w w.heap.size A n c m) (h' : Arg w w.heap.size A' n' c' m') :
    Calls Tryd.prog 16 #[.agg #[.slice A n c], .agg #[.slice A' n' c']] w (SubPost w m m') := by
  have H : Hid (∀ o1 o2 v t k, Arg ((((w.alloc o1).alloc o2).alloc (.cells #[v] t)).drewN k) w.heap.size A n c m) := fun o1 o2 v t k => h.below (pre3 w o1 o2 v t k).1
  have H' : Hid (∀ o1 o2 v t k, Arg ((((w.alloc o1).alloc o2).alloc (.cells #[v] t)).drewN k) w.heap.size A' n' c' m') := fun o1 o2 v t k => h'.below (pre3 w o1 o2 v t k).1
  have hl : dl m ≤ 100000 := by have := h.digs.2; obtain ⟨_, _, _, h3, _⟩ := h; omega
  have hl' : dl m' ≤ 100000 := by have := h'.digs.2; obtain ⟨_, _, _, h3, _⟩ := h'; omega
  have HX := hide h.digs.1
  have HY := hide h'.digs.1
  clear h h'
  by_cases hmm : m' ≤ m
  · have HM := hide hmm
    have hcm : ¬ cmpI m m' < 0 := by unfold cmpI; rw [if_neg (by omega)]; split <;> omega
    clear hmm
    go_enter Tryd.func16, Tryd.ntmps16
    go_wp2_with fail
    go_quiet ((go_at_call 61; first | exact quiet_left (trim_arg (H.out _ _ _ _ _)) | exact quiet_left (trim_arg (H'.out _ _ _ _ _))))
    go_wp2_with (first | (go_at_call 62; go_must (refine (compare_can (H.out _ _ _ _ _).digs.1 (H'.out _ _ _ _ _).digs.1 hl hl').mono ?_); rintro e w' ⟨rfl, q, rfl⟩) | (at_make; go_must (refine wpList_words rfl _ _ rfl (dl m) rfl rfl (by omega) ?_; intro g w1 hg hb1 hbel)))
    have HG : Hid (g = w.heap.size + 3) := by unfold Hid; rw [hg.out]; exact (pre3 w _ _ _ _ _).2.1
    have hB : w.heap.size ≤ g := by have := HG.out; omega
    obtain ⟨hw1, hres, hsz1⟩ := after3 hbel
    have HRES := hide hres
    have HW1 := hide hw1
    have hlm : dl m' ≤ dl m := digs_len_mono (by decide) HM.out
    clear hbel hres hg hw1 H H' hcm
    go_loopw [9, 30] (fun cv iv wr => ∃ i cr : Nat, ∃ seg : List Nat, i ≤ dl m ∧ cr ≤ 1 ∧ cv = .int .u64 (cr : Int) ∧ iv = .int .i64 (i : Int) ∧ Hid (seg.length = i) ∧ Hid (Good32 seg) ∧ Hid (val W32 seg + val W32 ((digs W32 m').take i) = val W32 ((digs W32 m).take i) + W32 ^ i * cr) ∧
        Hid (Blk U32 30 wr g (seg ++ List.replicate (dl m - i) 0)) ∧ Hid (w1.grownBy wr (some g)))
      (fun _ iv _ => dl m - (intOf iv).toNat)
    case atStart => exact ⟨0, 0, [], Nat.zero_le _, by omega, rfl, rfl, rfl, by intro x hx; simp at hx, by simp [Hid, val], hb1, World.grownBy.refl _ _⟩
    case round =>
      obtain ⟨i, cr, seg, hi, hcr, rfl, rfl, hsl, hsg, hval, hblk, hgr⟩ := hrel
      by_cases hlt : i < dl m
      · have hix : i < (digs W32 m).length := hlt
        have HXR := hide ((HX.out.below HW1.out).2.grown hgr.out hB)
        have HYR := hide ((HY.out.below HW1.out).2.grown hgr.out hB)
        obtain ⟨ad, rfl, hab, hcx⟩ := HXR.out.at_ hix
        obtain ⟨x, hxe⟩ : ∃ x, x = (digs W32 m)[i] := ⟨_, rfl⟩
        rw [← hxe] at hcx
        have RX := hide (val_take_succ W32 (L := digs W32 m) (i := i) (x := x) (by rw [hxe]; exact List.getElem?_eq_getElem hix))
        have hxW : x ≤ 4294967295 := word_le (by rw [hxe]; exact good_digs m _ (List.getElem_mem _))
        obtain ⟨z, hz⟩ : ∃ z, dl m - i = z + 1 := ⟨dl m - i - 1, by omega⟩
        rw [hz] at hblk
        have HZ := hide hz
        have hcs : wr.cell? ⟨g, i, none⟩ = some (.int .u32 0) := hblk.out.cell (get_zeros hsl.out)
        have hfz := hblk.out.frozen i
        unfold U32 at hcx
        clear hxe hix hz
        have fin : ∀ (r q t y : Nat) (vy : Hid (val W32 ((digs W32 m').take (i + 1)) = val W32 ((digs W32 m').take i) + W32 ^ i * y)) (ht : t = cr + y) (hr : r < W32) (hq : q ≤ 1) (he : r + t = x + W32 * q), 
            Hid (val W32 (seg ++ [r]) + val W32 ((digs W32 m').take (i + 1)) = val W32 ((digs W32 m).take (i + 1)) + W32 ^ (i + 1) * q) ∧ Hid (Good32 (seg ++ [r])) ∧ Hid ((seg ++ [r]).length = i + 1) ∧
            Hid (Blk U32 30 (wr.setCell ⟨g, i, none⟩ (.int .u32 (r : Int))) g ((seg ++ [r]) ++ List.replicate (dl m - (i + 1)) 0)) ∧ Hid (w1.grownBy (wr.setCell ⟨g, i, none⟩ (.int .u32 (r : Int))) (some g)) := by
          intro r q t y vy ht hr hq he
          refine ⟨?_, good_snoc hsg.out hr, by unfold Hid; simp [hsl.out], ?_, grown_set hgr.out _ _⟩
          · unfold Hid
            rw [val_snoc, hsl.out, vy.out, RX.out, Nat.pow_succ]
            exact sub_math hval.out ht he
          · have hb : Blk U32 30 (wr.setCell ⟨g, i, none⟩ (.int .u32 (r : Int))) g _ := hblk.out.set_ i r
            rw [set_zeros hsl.out] at hb
            rw [show dl m - (i + 1) = z by have := HZ.out; omega]
            exact hb
        have FIN := hide fin
        clear fin
        by_cases hs : i < dl m'
        · have hiy : i < (digs W32 m').length := hs
          obtain ⟨ad', rfl, hab', hcy⟩ := HYR.out.at_ hiy
          obtain ⟨y, hye⟩ : ∃ x, x = (digs W32 m')[i] := ⟨_, rfl⟩
          rw [← hye] at hcy
          have RY := hide (val_take_succ W32 (L := digs W32 m') (i := i) (x := y) (by rw [hye]; exact List.getElem?_eq_getElem hiy))
          have hyW : y ≤ 4294967295 := word_le (by rw [hye]; exact good_digs m' _ (List.getElem_mem _))
          unfold U32 at hcy
          clear hye hiy
          by_cases hxt : cr + y ≤ x
          · go_wp2
            go_roundw
            case rel =>
              have e1 : ((x : Int) - ((cr : Int) + (y : Int))) / 9223372036854775808 = ((0 : Nat) : Int) := by omega
              have e2 : ((x : Int) - ((cr : Int) + (y : Int))) = ((x - (cr + y) : Nat) : Int) := by omega
              obtain ⟨f1, f2, f3, f4, f5⟩ := FIN.out (x - (cr + y)) 0 (cr + y) y RY rfl (by rw [W32_eq]; omega) (by omega) (by omega)
              rw [e1, e2]
              exact ⟨i + 1, 0, seg ++ [x - (cr + y)], by omega, by omega, rfl, by go_num, f3, f2, f1, f4, f5⟩
            case measure => simp [intOf]; omega
          · go_wp2
            go_roundw
            case rel =>
              obtain ⟨e2, e1⟩ := sub_wrap (x := x) (t := cr + y) (by rw [W32_eq]; omega) (by rw [W32_eq]; omega) (by omega)
              rw [Int.natCast_add] at e1 e2
              obtain ⟨f1, f2, f3, f4, f5⟩ := FIN.out (W32 + x - (cr + y)) 1 (cr + y) y RY rfl (by rw [W32_eq]; omega) (by omega) (by rw [W32_eq]; omega)
              rw [e1, e2]
              exact ⟨i + 1, 1, seg ++ [W32 + x - (cr + y)], by omega, by omega, rfl, by go_num, f3, f2, f1, f4, f5⟩
            case measure => simp [intOf]; omega
        · have RY : Hid (val W32 ((digs W32 m').take (i + 1)) = val W32 ((digs W32 m').take i) + W32 ^ i * 0) := val_take_more W32 (L := digs W32 m') (i := i) (show dl m' ≤ i by omega)
          by_cases hxt : cr ≤ x
          · go_wp2
            go_roundw
            case rel =>
              have e1 : ((x : Int) - (cr : Int)) / 9223372036854775808 = ((0 : Nat) : Int) := by omega
              have e2 : ((x : Int) - (cr : Int)) = ((x - cr : Nat) : Int) := by omega
              obtain ⟨f1, f2, f3, f4, f5⟩ := FIN.out (x - cr) 0 cr 0 RY rfl (by rw [W32_eq]; omega) (by omega) (by omega)
              rw [e1, e2]
              exact ⟨i + 1, 0, seg ++ [x - cr], by omega, by omega, rfl, by go_num, f3, f2, f1, f4, f5⟩
            case measure => simp [intOf]; omega
          · go_wp2
            go_roundw
            case rel =>
              obtain ⟨e2, e1⟩ := sub_wrap (x := x) (t := cr) (by rw [W32_eq]; omega) (by rw [W32_eq]; omega) (by omega)
              obtain ⟨f1, f2, f3, f4, f5⟩ := FIN.out (W32 + x - cr) 1 cr 0 RY rfl (by rw [W32_eq]; omega) (by omega) (by rw [W32_eq]; omega)
              rw [e1, e2]
              exact ⟨i + 1, 1, seg ++ [W32 + x - cr], by omega, by omega, rfl, by go_num, f3, f2, f1, f4, f5⟩
            case measure => simp [intOf]; omega
      · obtain rfl : i = dl m := by omega
        obtain ⟨hr3, hr4⟩ := one_cell ((hgr.out.block _ (by omega) (by intro e; injection e with e; have := HG.out; omega)).trans HRES.out)
        have hlz : seg ++ List.replicate (dl m - dl m) 0 = seg := by simp
        rw [hlz] at hblk
        have HV : Hid (val W32 seg = m - m') := by
          unfold Hid
          have h1 := hval.out
          rw [List.take_of_length_le (show (digs W32 m).length ≤ dl m from Nat.le_refl _), List.take_of_length_le (show (digs W32 m').length ≤ dl m from hlm), val_digs32, val_digs32] at h1
          have h2 := val_lt seg hsg.out
          rw [hsl.out] at h2
          have h3 := HM.out
          have h4 : cr = 0 ∨ cr = 1 := by omega
          rcases h4 with rfl | rfl <;> omega
        clear hlz
        go_wp2_with (first | (go_at_call 61; go_must (refine (trim_own hblk.out hsl.out.symm hsg.out (by omega) (by omega) HV.out).mono ?_); rintro e w2 ⟨rfl, rfl⟩))
        refine bodyPost_ret (v := .tuple #[.agg #[.slice (some ⟨g, 0, none⟩) (dl (m - m')) (dl m)], .bool true]) (by simp [results, Tryd.results16, go_sem, hr3]) rfl ?_
        unfold SubPost
        rw [if_pos HM.out]
        exact ⟨_, _, rfl, can_own (hblk.out.far (p := ⟨w.heap.size + 1 + 1, 0, none⟩) (by have := HG.out; simp; omega) _) hsl.out.symm hsg.out (Nat.le_refl _) HV.out, (HW1.out.trans (grown_below hgr.out hB hb1.out.lt)).setCell (by simp; omega) _⟩
  · have HM := hide hmm
    have hcm : cmpI m m' < 0 := by rw [cmpI_lt (by omega)]; omega
    clear hmm
    go_enter Tryd.func16, Tryd.ntmps16
    go_wp2_with fail
    go_quiet ((go_at_call 61; first | exact quiet_left (trim_arg (H.out _ _ _ _ _)) | exact quiet_left (trim_arg (H'.out _ _ _ _ _))))
    go_wp2_with (first | (go_at_call 62; go_must (refine (compare_can (H.out _ _ _ _ _).digs.1 (H'.out _ _ _ _ _).digs.1 hl hl').mono ?_); rintro e w' ⟨rfl, q, rfl⟩))
    refine bodyPost_ret (v := .tuple #[.agg #[.slice none 0 0], .bool false]) (by simp [results, Tryd.results16, go_sem]) rfl ?_
    unfold SubPost
    rw [if_neg HM.out]
    refine ⟨rfl, ?_⟩
    exact (pre3 w _ _ _ _ _).1.setCell (by simp; omega) _
end Go.Proofs.YtlmfkeicmldcnaaDoor
