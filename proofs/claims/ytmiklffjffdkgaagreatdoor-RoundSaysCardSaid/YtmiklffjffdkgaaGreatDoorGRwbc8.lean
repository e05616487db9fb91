/- Several texts in one, each with its own sentence and conditions. -/
import Derived.Test.YtmiklffjffdkgaaGreatDoorGRwbc5
import Derived.Test.YtmiklffjffdkgaaGreatDoorLdn
import Derived.Test.YtmiklffjffdkgaaGreatDoorGRwbc0
import Derived.WalkSpells
import Derived.Lib.Strings
import Derived.Laws.BytesArg
import Derived.Deep.LoopGhost
import Derived.Test.YtmiklffjffdkgaaGreatDoorGRwbc1
section
/- divideLong: the quotient's words and the rest's. Conditions: at most 100000 words, a divisor of two words or more, not greater than what is divided. -/
open Go.RowKit
set_option maxRecDepth 100000
namespace Go.Proofs.YtmiklffjffdkgaaGreatDoor
def LongPost (w : World) (m m' : Nat) (e : Ending) (w' : World) : Prop :=
  ∃ (gq gr nq nr : Nat) (Q R : List Nat), e = .returned (.tuple #[.slice (some ⟨gq, 0, none⟩) nq nq, .slice (some ⟨gr, 0, none⟩) nr nr]) ∧ Hid (Blk U32 92 w' gq Q) ∧ Hid (nq = Q.length ∧ Good32 Q ∧ nq ≤ 100000 ∧ val W32 Q = m / m') ∧
    Hid (Blk U32 92 w' gr R) ∧ Hid (nr = R.length ∧ Good32 R ∧ nr ≤ 100000 ∧ val W32 R = m % m') ∧ Hid (w.heap.size ≤ gq ∧ w.heap.size ≤ gr) ∧ Hid (Below w.heap.size w w')
/-- What the loop keeps. -/
structure LongInv (X V n z j g2 g3 : Nat) (wb wr : World) (l H : List Nat) : Prop where
  ll : l.length = n + z + 1
  lg : Good32 l
  hl : H.length = z + 1 - j
  hg : Good32 H
  hx : X = V * (W32 ^ j * val W32 H) + val W32 (l.take (n + j))
  hv : val W32 (l.take (n + j)) < V * W32 ^ j
  b2 : Blk U32 92 wr g2 l
  b3 : Blk U32 92 wr g3 (List.replicate j 0 ++ H)
  bl : Below g2 wb wr
theorem long_zero {X V n z : Nat} {L : List Nat} (hl : L.length = n + z + 1) (hv : val W32 L = X) (hs : X < V * W32 ^ (z + 1)) :
    X = V * (W32 ^ (z + 1) * val W32 []) + val W32 (L.take (n + (z + 1))) ∧ val W32 (L.take (n + (z + 1))) < V * W32 ^ (z + 1) := by
  have e : L.take (n + (z + 1)) = L := List.take_of_length_le (by clear hs; omega)
  rw [e, hv]
  generalize W32 ^ (z + 1) = P at hs ⊢
  exact ⟨by show X = V * (P * 0) + X; rw [Nat.mul_zero, Nat.mul_zero, Nat.zero_add], hs⟩
theorem long_idx (z : Nat) : Value.int .i64 (z : Int) = Value.int .i64 (((z + 1 : Nat) : Int) - 1) := by go_num
set_option maxHeartbeats 4000000 in
theorem divideLong_any {A A' : Option Addr} {c c' m m' : Nat} {w : World} (h : Can w w.heap.size A c m) (h' : Can w w.heap.size A' c' m') (hm : m' ≤ m) (h2 : 2 ≤ dl m') (hlim : dl m ≤ 99999) :
    Calls Tryz.prog 104 #[.slice A (dl m) c, .slice A' (dl m') c'] w (LongPost w m m') := by
  have hmono : dl m' ≤ dl m := digs_len_mono (b := W32) (by decide) hm
  obtain ⟨n, hn⟩ : ∃ n, n = dl m' := ⟨_, rfl⟩
  obtain ⟨N, hN⟩ : ∃ N, N = dl m := ⟨_, rfl⟩
  obtain ⟨i1, hi1⟩ : ∃ i1, i1 + 1 = n := ⟨n - 1, by omega⟩
  obtain ⟨i2, hi2⟩ : ∃ i2, i2 + 2 = n := ⟨n - 2, by omega⟩
  obtain ⟨z, hz⟩ : ∃ z, N = n + z := ⟨N - n, by omega⟩
  obtain ⟨t, ht, ht0, htW, hlo, hhi⟩ := top_word hn.symm hi1
  obtain ⟨ad, rfl, hab, hct⟩ := h'.2.at_ (k := i1) (show i1 < (digs W32 m').length by unfold dl at hn; omega)
  replace hct : w.cell? (ad.add i1) = some (.int .u32 (t : Int)) := by
    have e := List.getElem?_eq_getElem (show i1 < (digs W32 m').length by unfold dl at hn; omega)
    rw [ht] at e
    injection e with e
    rw [e]; exact hct
  have R1 := hide h'.2
  have R2 := hide h.2
  have C1 := hide h'.1
  rw [← hn] at C1
  rw [← hn] at h2
  rw [← hN] at hlim hmono ⊢
  rw [← hn] at hmono ⊢
  have CZ := hide (fun W => LeadingZeros32_any W ht0 htW)
  have CL1 : Hid (∀ s : Nat, s ≤ 31 → Calls Tryz.prog 114 #[.slice (some ad) n c', .int .i64 (s : Int)] w (ShlPost w n s m')) := fun s hs => by
    have := shiftLeft_any (c := c') (sh := s) (show n = (digs W32 m').length from hn) R1.out (good_digs m') (by omega) hs
    rwa [val_digs32] at this
  have CL2 : Hid (∀ (W : World) (s : Nat), Below w.heap.size w W → s ≤ 31 → Calls Tryz.prog 114 #[.slice A N c, .int .i64 (s : Int)] W (ShlPost W N s m)) := fun W s hb hs => by
    have := shiftLeft_any (c := c) (sh := s) (show N = (digs W32 m).length from hN) ((R2.out.below hb).more hb.size) (good_digs m) (by omega) hs
    rwa [val_digs32] at this
  have HN := hide hn
  have HNN := hide hN
  have HZ := hide hz
  have HI1 := hide hi1
  have HI2 := hide hi2
  have HLO := hide hlo
  have HHI := hide hhi
  have HM := hide hm
  have HPW := hide (Nat.le_trans (Nat.le_mul_of_pos_left (W32 ^ i1) ht0) hlo)
  have hn1 : (n : Int) - 1 = (i1 : Int) := by omega
  have hzz : (N : Int) - (n : Int) = (z : Int) := by omega
  clear h h' hm hn hN hlo hhi ht ht0 htW hab hz
  go_enter Tryz.func104, Tryz.ntmps104
  go_wp2_with (first | (go_at_call 113; go_must (refine (CZ.out _).mono ?_); rintro e w' ⟨⟨s, rfl, hs, HS⟩, rfl⟩) | (go_at_call 114; (with_reducible refine (CL1.out s hs).mono ?_); rintro e w1 ⟨g1, L1, rfl, hg1, hb1, hl1, hgd1, hv1, hbel1⟩) | (go_at_call 114; (with_reducible refine (CL2.out w1 s hbel1.out hs).mono ?_); rintro e w2 ⟨g2, L2, rfl, hg2, hb2, hl2, hgd2, hv2, hbel2⟩) | (at_make; go_must (refine wpList_words rfl _ _ rfl (z + 1) rfl rfl (by omega) ?_; intro g3 w3 hg3 hb3 hbel3)))
  obtain ⟨V, hV⟩ : ∃ V, V = m' * 2 ^ s := ⟨_, rfl⟩
  obtain ⟨X, hX⟩ : ∃ X, X = m * 2 ^ s := ⟨_, rfl⟩
  rw [← hV] at hv1
  rw [← hX] at hv2
  have HNL := hide (norm_list (R := L1) hl1.out hgd1.out (by rw [hv1.out, hV]) HI1.out HLO.out HHI.out HS.out.1 HS.out.2 hs)
  rw [← hV] at HNL
  have HV := hide hV
  have HX := hide hX
  have hg12 : g1 < g2 := Nat.lt_of_lt_of_le hb1.out.lt hg2.out
  have hg23 : g2 < g3 := by rw [hg3.out]; exact hb2.out.lt
  have hwg : w.heap.size ≤ g1 := hg1.out
  have HB13 : Hid (Blk U32 92 w3 g1 L1) := (hb1.out.below hbel2.out hb1.out.lt).below hbel3 (Nat.lt_of_lt_of_le hb1.out.lt hbel2.out.size)
  have HB23 : Hid (Blk U32 92 w3 g2 L2) := hb2.out.below hbel3 hb2.out.lt
  have HW3 : Hid (Below w.heap.size w w3) := (hbel1.out.trans (hbel2.out.mono hbel1.out.size)).trans (hbel3.mono (Nat.le_trans hbel1.out.size hbel2.out.size))
  have HST : Hid (X < V * W32 ^ (z + 1)) := by
    unfold Hid
    have h1 : m < W32 ^ N := by rw [HNN.out]; exact lt_pow_digs (by decide) m
    have h2 := long_start (s := s) h1 HPW.out (show i1 ≤ N by have := HI1.out; omega)
    rw [← hX, ← hV, show N - i1 = z + 1 by have := HI1.out; have := HZ.out; omega] at h2
    exact h2
  have hnN : n + z ≤ N := by have := HZ.out; omega
  clear hV hX hg3 hbel3 hb1 hb2 hbel1 hbel2 hgd1 hl1 hv1 hg1 hg2
  clear hn1 hzz
  go_loopw [9] (fun iv wr => ∃ (j : Nat) (l H : List Nat), j ≤ z + 1 ∧ iv = .int .i64 ((j : Int) - 1) ∧ Hid (LongInv X V n z j g2 g3 w3 wr l H))
    (fun iv _ => (intOf iv + 1).toNat)
  case atStart =>
    obtain ⟨e1, e2⟩ := long_zero (X := X) (V := V) (n := n) (z := z) (L := L2) (by rw [hl2.out, HZ.out]) hv2.out HST.out
    have hfin : LongInv X V n z (z + 1) g2 g3 w3 w3 L2 [] := ⟨by rw [hl2.out, HZ.out], hgd2.out, by rw [Nat.sub_self]; rfl, (by intro x hx; simp at hx), e1, e2, HB23.out, by rw [List.append_nil]; exact hb3.out, Below.refl _ _⟩
    exact ⟨z + 1, L2, [], Nat.le_refl _, long_idx z, hfin⟩
  case round =>
    obtain ⟨j, l, H, hj, rfl, HI⟩ := hrel
    by_cases h0 : j = 0
    · subst h0
      have hll := HI.out.ll
      have hbR : Hid (Rd U32 wr wr.heap.size (some ⟨g2, 0, none⟩) (l.take n)) := (HI.out.b2.rd0 HI.out.b2.lt).take n
      have CR := hide (shiftRight_any (n := n) (c := N + 1) (sh := s) (show n = (l.take n).length by rw [List.length_take]; omega) hbR.out (good_take HI.out.lg n) (by omega) hs)
      clear hll
      go_wp2_with (go_at_call 116; (with_reducible refine CR.out.mono ?_); rintro e w4 ⟨g4, L4, rfl, hg4, hb4, hl4, hgd4, hv4, hbel4⟩)
      have hll := HI.out.ll
      have hx := HI.out.hx
      have hv := HI.out.hv
      rw [Nat.pow_zero, Nat.one_mul, Nat.add_zero] at hx
      rw [Nat.pow_zero, Nat.mul_one, Nat.add_zero] at hv
      obtain ⟨q1, q2⟩ := long_end hx hv HX.out HV.out
      have hb3' : Blk U32 92 wr g3 H := by simpa using HI.out.b3
      have hhl := HI.out.hl
      refine bodyPost_ret (v := .tuple #[.slice (some ⟨g3, 0, none⟩) (z + 1) (z + 1), .slice (some ⟨g4, 0, none⟩) n n]) (by simp [results, Tryz.results104, go_sem]) rfl ?_
      refine ⟨g3, g4, z + 1, n, H, L4, rfl, hb3'.below hbel4.out hb3'.lt, ⟨by omega, HI.out.hg, by omega, q1⟩, hb4, ⟨hl4.out.symm, hgd4.out, by omega, hv4.out.trans q2⟩, ⟨by omega, Nat.le_trans (Nat.le_trans HW3.out.size HI.out.bl.size) hg4.out⟩, ?_⟩
      exact (HW3.out.trans (HI.out.bl.mono (by omega))).trans (hbel4.out.mono (Nat.le_trans HW3.out.size HI.out.bl.size))
    · obtain ⟨i, rfl⟩ : ∃ i, j = i + 1 := ⟨j - 1, by omega⟩
      obtain ⟨U, hU⟩ : ∃ U, U = val W32 ((l.drop i).take (n + 1)) := ⟨_, rfl⟩
      have hll := HI.out.ll
      have hx := HI.out.hx
      have hv := HI.out.hv
      rw [long_take (by omega), ← hU, Nat.pow_succ] at hx hv
      obtain ⟨s1, s2, s3⟩ := long_step hx hv (val_take_lt HI.out.lg i) (by
        rcases Nat.eq_zero_or_pos V with h | h
        · rw [h, Nat.zero_mul] at hv; omega
        · exact h)
      have hr : Rd U32 wr g2 (some ⟨g1, 0, none⟩) (L1.take n) := ((HB13.out.below HI.out.bl hg12).rd0 hg12).take n
      have CD : Hid (Calls Tryz.prog 115 #[.slice (some ⟨g2, i, none⟩) (i + n + 1 - i) (N + 1 - i), .slice (some ⟨g1, 0, none⟩) n (n + 1)] wr (StepPost wr g2 i n U V l)) := by
        rw [show i + n + 1 - i = n + 1 by omega]
        exact divideStep_any (c := N + 1 - i) (c' := n + 1) (by omega) HI1.out HI2.out (by omega) HI.out.b2 hr (Nat.le_refl _) HNL.out.2.1 (show i + n < l.length by omega) (by omega) HI.out.lg HNL.out.2.2.1 hU.symm HNL.out.1 s1 HNL.out.2.2.2
      have HLL := hide hll
      have HS2 := hide s2
      have HS3 := hide s3
      clear hll hx hv s1 s2 s3 hU hr
      go_wp2_with (go_at_call 115; (with_reducible refine CD.out.mono ?_); rintro e w4 ⟨seg, rfl, hq, hsl, hsg, hsv, hb4, hg4⟩; have hc3 : w4.cell? ⟨g3, i, none⟩ = some (.int .u32 0) := (HI.out.b3.grown hg4.out (by intro e; injection e with e; omega)).cell long_get; have hf3 := (HI.out.b3.grown hg4.out (by intro e; injection e with e; omega)).frozen i)
      go_roundw
      case rel =>
        have hll := HLL.out
        have hhl := HI.out.hl
        refine ⟨i, _, U / V :: H, by omega, by go_num, ⟨?_, ?_, ?_, ?_, ?_, ?_, hb4.out.far (p := ⟨g3, i, none⟩) (by show g2 ≠ g3; omega) _, ?_, ?_⟩⟩
        · simp [hsl.out]; omega
        · exact good_app (good_take HI.out.lg _) (good_app hsg.out (good_drop HI.out.lg _))
        · rw [List.length_cons, hhl]; omega
        · intro x hx
          rcases List.mem_cons.1 hx with rfl | hx
          · exact hq.out
          · exact HI.out.hg x hx
        · rw [long_left (by omega) hsl.out, hsv.out]
          exact HS2.out
        · rw [long_left (by omega) hsl.out, hsv.out]
          exact HS3.out
        · have h1 := (HI.out.b3.grown hg4.out (by intro e; injection e with e; omega)).set_ i (U / V)
          rw [long_set] at h1
          exact h1
        · exact (HI.out.bl.trans (grown_below hg4.out (Nat.le_refl _) HI.out.b2.lt)).setCell (by show g2 ≤ g3; omega) _
      case measure => simp [intOf]
end Go.Proofs.YtmiklffjffdkgaaGreatDoor
end

section
/- Mul: the product. Conditions: at most 100000 words each. -/
open Go.RowKit
set_option maxRecDepth 100000
namespace Go.Proofs.YtmiklffjffdkgaaGreatDoor
set_option maxHeartbeats 1000000 in
theorem Mul_any {A A' : Option Addr} {n n' c c' m m' : Nat} {w : World} (h : Arg w w.heap.size A n c m) (h' : Arg w w.heap.size A' n' c' m') :
    Calls Tryz.prog 68 #[.agg #[.slice A n c], .agg #[.slice A' n' c']] w (NumPost w (m * m')) := by
  have H : Hid (∀ o1 o2 v t k, Arg ((((w.alloc o1).alloc o2).alloc (.cells #[v] t)).drewN k) w.heap.size A n c m) := fun o1 o2 v t k => h.below (pre3 w o1 o2 v t k).1
  have H' : Hid (∀ o1 o2 v t k, Arg ((((w.alloc o1).alloc o2).alloc (.cells #[v] t)).drewN k) w.heap.size A' n' c' m') := fun o1 o2 v t k => h'.below (pre3 w o1 o2 v t k).1
  have hl : dl m ≤ 100000 := by have := h.digs.2; obtain ⟨_, _, _, h3, _⟩ := h; omega
  have hl' : dl m' ≤ 100000 := by have := h'.digs.2; obtain ⟨_, _, _, h3, _⟩ := h'; omega
  have HX := hide h.digs.1
  have HY := hide h'.digs.1
  clear h h'
  go_enter Tryz.func68, Tryz.ntmps68
  go_wp2_with fail
  go_quiet ((go_at_call 75; first | exact quiet_left (trim_arg (H.out _ _ _ _ _)) | exact quiet_left (trim_arg (H'.out _ _ _ _ _))))
  go_wp2_with (first | (at_make; go_must (refine wpList_words rfl _ _ rfl (dl m + dl m') rfl rfl (by omega) ?_; intro g w1 hg hb1 hbel)))
  have HG : Hid (g = w.heap.size + 3) := by unfold Hid; rw [hg.out]; exact (pre3 w _ _ _ _ _).2.1
  have hB : w.heap.size ≤ g := by have := HG.out; omega
  obtain ⟨hw1, hres, hsz1⟩ := after3 hbel
  have HRES := hide hres
  have HW1 := hide hw1
  clear hbel hres hg hw1 H H'
  go_loopw [24] (fun iv wr => ∃ i : Nat, ∃ seg : List Nat, i ≤ dl m ∧ iv = .int .i64 (i : Int) ∧ Hid (seg.length = i + dl m') ∧ Hid (Good32 seg) ∧ Hid (val W32 seg = val W32 ((digs W32 m).take i) * m') ∧
      Hid (Blk U32 92 wr g (seg ++ List.replicate (dl m - i) 0)) ∧ Hid (w1.grownBy wr (some g)))
    (fun iv _ => dl m - (intOf iv).toNat)
  case atStart => exact ⟨0, List.replicate (dl m') 0, Nat.zero_le _, rfl, by simp [Hid], good_zeros (l := []) (by intro x hx; simp at hx) _, by simp [Hid, val, val_zeros], by have := hb1.out; rw [Nat.add_comm, ← List.replicate_append_replicate] at this; exact this, World.grownBy.refl _ _⟩
  case round =>
    obtain ⟨i, seg, hi, rfl, hsl, hsg, hval, hblk, hgr⟩ := hrel
    by_cases hlt : i < dl m
    · have hix : i < (digs W32 m).length := hlt
      have HXR := hide ((HX.out.below HW1.out).2.grown hgr.out hB)
      have HYR := hide ((HY.out.below HW1.out).2.grown hgr.out hB)
      obtain ⟨ad, rfl, hab, hcx⟩ := HXR.out.at_ hix
      obtain ⟨x, hxe⟩ : ∃ x, x = (digs W32 m)[i] := ⟨_, rfl⟩
      rw [← hxe] at hcx
      have RX := hide (val_take_succ W32 (L := digs W32 m) (i := i) (x := x) (by rw [hxe]; exact List.getElem?_eq_getElem hix))
      have hxW : Hid (x < W32) := by unfold Hid; rw [hxe]; exact good_digs m _ (List.getElem_mem _)
      obtain ⟨z, hz⟩ : ∃ z, dl m - i = z + 1 := ⟨dl m - i - 1, by omega⟩
      rw [hz] at hblk
      have HZ := hide hz
      unfold U32 at hcx
      clear hxe hix hz
      by_cases hx0 : x = 0
      · subst hx0
        go_wp2
        go_roundw
        case rel =>
          refine ⟨i + 1, seg ++ [0], by omega, by go_num, by unfold Hid; rw [List.length_append, hsl.out]; simp; omega, good_snoc hsg.out (by decide), by unfold Hid; rw [val_snoc, hval.out, RX.out]; simp, ?_, hgr⟩
          have hb := hblk.out
          rw [List.replicate_succ] at hb
          rw [show dl m - (i + 1) = z by have := HZ.out; omega]
          simpa [Hid] using hb
        case measure => simp [intOf]; omega
      · have hx1 : ((x : Int) == 0) = false := by simp; omega
        clear hx0
        have hlen1 : i + dl m' ≤ (seg ++ List.replicate (z + 1) 0).length := by rw [List.length_append, hsl.out, List.length_replicate]; omega
        have hlen2 : (seg ++ List.replicate (z + 1) 0).length ≤ 1000000 := by rw [List.length_append, hsl.out, List.length_replicate]; have := HZ.out; omega
        go_wp2_with (first | (go_at_call 99; go_must (refine (addMultiple_any (k := dl m') hblk.out HYR.out hB rfl hlen1 (good_zeros hsg.out _) (good_digs m') hxW.out hlen2).mono ?_); rintro e w2 ⟨seg2, c2, rfl, hs2, hg2, hc2, hv2, hb2, hgr2⟩; have hc : w2.cell? ⟨g, i + dl m', none⟩ = some (.int .u32 0) := hb2.cell (mul_cell hsl.out hs2.out); have hf := hb2.frozen (i + dl m')))
        go_roundw
        case rel =>
          refine ⟨i + 1, seg.take i ++ (seg2 ++ [c2]), by omega, by go_num, by unfold Hid; rw [List.length_append, List.length_append, hs2.out, List.length_take, hsl.out]; simp; omega, good_app (good_take hsg.out _) (good_snoc hg2.out hc2.out), ?_, ?_, ?_⟩
          · unfold Hid
            rw [RX.out]
            exact mul_round hsl.out hs2.out hval.out (by rw [val_digs32] at hv2; exact hv2.out)
          · have hb := hb2.set_ (i + dl m') c2
            rw [mul_list hsl.out hs2.out] at hb
            rw [show dl m - (i + 1) = z by have := HZ.out; omega]
            exact hb
          · exact grown_set (grown_trans hgr.out hgr2) _ _
        case measure => simp [intOf]; omega
    · obtain rfl : i = dl m := by omega
      have hr2 := (one_cell ((hgr.out.block _ (by omega) (by intro e; injection e with e; have := HG.out; omega)).trans HRES.out))
      obtain ⟨hr3, hr4⟩ := hr2
      have hlz : seg ++ List.replicate (dl m - dl m) 0 = seg := by simp
      rw [hlz] at hblk
      have HV : Hid (val W32 seg = m * m') := by unfold Hid; rw [hval.out, List.take_of_length_le (show (digs W32 m).length ≤ dl m from Nat.le_refl _), val_digs32]
      clear hlz
      go_wp2_with (first | (go_at_call 75; go_must (refine (trim_own hblk.out hsl.out.symm hsg.out (by omega) (by omega) HV.out).mono ?_); rintro e w2 ⟨rfl, rfl⟩))
      refine bodyPost_ret (v := .agg #[.slice (some ⟨g, 0, none⟩) (dl (m * m')) (dl m + dl m')]) (by simp [results, Tryz.results68, go_sem, hr3]) rfl ?_
      have hne : g ≠ w.heap.size + 1 + 1 := by have := HG.out; omega
      exact ⟨_, _, rfl, can_own (hblk.out.far (p := ⟨w.heap.size + 1 + 1, 0, none⟩) hne _) hsl.out.symm hsg.out (Nat.le_refl _) HV.out, (HW1.out.trans (grown_below hgr.out hB hb1.out.lt)).setCell (by simp; omega) _⟩
end Go.Proofs.YtmiklffjffdkgaaGreatDoor
end

section
/- Add: the sum. Conditions: at most 100000 words each. -/
open Go.RowKit
set_option maxRecDepth 100000
namespace Go.Proofs.YtmiklffjffdkgaaGreatDoor

set_option maxHeartbeats 2000000 in
theorem Add_core {A A' : Option Addr} {n n' c c' m m' : Nat} {w : World} (h : Arg w w.heap.size A n c m) (h' : Arg w w.heap.size A' n' c' m') (hle : dl m' ≤ dl m) :
    (Calls Tryz.prog 94 #[.agg #[.slice A n c], .agg #[.slice A' n' c']] w (NumPost w (m + m'))) ∧
    (dl m' < dl m → Calls Tryz.prog 94 #[.agg #[.slice A' n' c'], .agg #[.slice A n c]] w (NumPost w (m + m'))) := by
  have H : Hid (∀ o1 o2 v t k, Arg ((((w.alloc o1).alloc o2).alloc (.cells #[v] t)).drewN k) w.heap.size A n c m) := fun o1 o2 v t k => h.below (pre3 w o1 o2 v t k).1
  have H' : Hid (∀ o1 o2 v t k, Arg ((((w.alloc o1).alloc o2).alloc (.cells #[v] t)).drewN k) w.heap.size A' n' c' m') := fun o1 o2 v t k => h'.below (pre3 w o1 o2 v t k).1
  have hl : dl m ≤ 100000 := by have := h.digs.2; obtain ⟨_, _, _, h3, _⟩ := h; omega
  have HX := hide h.digs.1
  have HY := hide h'.digs.1
  clear h h'
  refine ⟨?_, fun hlt => ?_⟩
  all_goals
    go_enter Tryz.func94, Tryz.ntmps94
    go_wp2_with fail
    go_quiet ((go_at_call 75; first | exact quiet_left (trim_arg (H.out _ _ _ _ _)) | exact quiet_left (trim_arg (H'.out _ _ _ _ _))))
    go_wp2_with (first | (at_make; go_must (refine wpList_words rfl _ _ rfl (dl m + 1) rfl rfl (by omega) ?_; intro g w1 hg hb1 hbel)))
    have HG : Hid (g = w.heap.size + 3) := by unfold Hid; rw [hg.out]; exact (pre3 w _ _ _ _ _).2.1
    have hB : w.heap.size ≤ g := by have := HG.out; omega
    obtain ⟨hw1, hres, hsz1⟩ := after3 hbel
    have HRES := hide hres
    have HW1 := hide hw1
    clear hbel hres hg hw1 H H'
    go_loopw [8, 30] (fun cv iv wr => ∃ i cr : Nat, ∃ seg : List Nat, i ≤ dl m ∧ cr ≤ 1 ∧ cv = .int .u64 (cr : Int) ∧ iv = .int .i64 (i : Int) ∧ Hid (seg.length = i) ∧ Hid (Good32 seg) ∧ Hid (val W32 seg + W32 ^ i * cr = val W32 ((digs W32 m).take i) + val W32 ((digs W32 m').take i)) ∧
        Hid (Blk U32 92 wr g (seg ++ List.replicate (dl m + 1 - i) 0)) ∧ Hid (w1.grownBy wr (some g)))
      (fun _ iv _ => dl m - (intOf iv).toNat)
    case atStart => exact ⟨0, 0, [], Nat.zero_le _, by omega, rfl, rfl, rfl, by intro x hx; simp at hx, by simp [Hid, val], hb1, World.grownBy.refl _ _⟩
    case round =>
      obtain ⟨i, cr, seg, hi, hcr, rfl, rfl, hsl, hsg, hval, hblk, hgr⟩ := hrel
      by_cases hlt : i < dl m
      · have hix : i < (digs W32 m).length := hlt
        have HXR := hide ((HX.out.below HW1.out).2.grown hgr.out hB)
        have HYR := hide ((HY.out.below HW1.out).2.grown hgr.out hB)
        obtain ⟨ad, rfl, hab, hcx⟩ := HXR.out.at_ hix
        obtain ⟨x, hxe⟩ : ∃ x, x = (digs W32 m)[i] := ⟨_, rfl⟩
        rw [← hxe] at hcx
        have RX := hide (val_take_succ W32 (L := digs W32 m) (i := i) (x := x) (by rw [hxe]; exact List.getElem?_eq_getElem hix))
        have hxW : x ≤ 4294967295 := word_le (by rw [hxe]; exact good_digs m _ (List.getElem_mem _))
        obtain ⟨z, hz⟩ : ∃ z, dl m + 1 - i = z + 1 := ⟨dl m - i, by omega⟩
        rw [hz] at hblk
        have HZ := hide hz
        have hcs : wr.cell? ⟨g, i, none⟩ = some (.int .u32 0) := hblk.out.cell (get_zeros hsl.out)
        have hfz := hblk.out.frozen i
        unfold U32 at hcx
        clear hxe hix hz
        by_cases hs : i < dl m'
        · have hiy : i < (digs W32 m').length := hs
          obtain ⟨ad', rfl, hab', hcy⟩ := HYR.out.at_ hiy
          obtain ⟨y, hye⟩ : ∃ x, x = (digs W32 m')[i] := ⟨_, rfl⟩
          rw [← hye] at hcy
          have RY := hide (val_take_succ W32 (L := digs W32 m') (i := i) (x := y) (by rw [hye]; exact List.getElem?_eq_getElem hiy))
          have hyW : y ≤ 4294967295 := word_le (by rw [hye]; exact good_digs m' _ (List.getElem_mem _))
          unfold U32 at hcy
          clear hye hiy
          have RM := hide (add_math (W := W32) hval.out rfl (lohi (cr + (x + y))))
          go_wp2
          go_roundw
          case rel =>
            refine ⟨i + 1, (cr + x + y) / W32, seg ++ [(cr + x + y) % W32], by omega, by rw [W32_eq]; omega, rfl, by go_num, by unfold Hid; simp [hsl.out], good_snoc hsg.out (lo_lt _), ?_, ?_, ?_⟩
            · unfold Hid
              rw [val_snoc, hsl.out, Nat.pow_succ, RX.out, RY.out, Nat.add_assoc cr x y, RM.out, Nat.mul_add]
              omega
            · have hb := hblk.out.set_ i ((cr + x + y) % W32)
              rw [set_zeros hsl.out] at hb
              rw [show dl m + 1 - (i + 1) = z by have := HZ.out; omega]
              exact hb
            · exact grown_set hgr.out _ _
          case measure => simp [intOf]; omega
        · have RY := hide (val_take_more W32 (L := digs W32 m') (i := i) (show dl m' ≤ i by omega))
          have RM := hide (add_math (W := W32) hval.out rfl (lohi (cr + x)))
          go_wp2
          go_roundw
          case rel =>
            refine ⟨i + 1, (cr + x) / W32, seg ++ [(cr + x) % W32], by omega, by rw [W32_eq]; omega, rfl, by go_num, by unfold Hid; simp [hsl.out], good_snoc hsg.out (lo_lt _), ?_, ?_, ?_⟩
            · unfold Hid
              rw [val_snoc, hsl.out, Nat.pow_succ, RX.out, RY.out, RM.out]
              omega
            · have hb := hblk.out.set_ i ((cr + x) % W32)
              rw [set_zeros hsl.out] at hb
              rw [show dl m + 1 - (i + 1) = z by have := HZ.out; omega]
              exact hb
            · exact grown_set hgr.out _ _
          case measure => simp [intOf]; omega
      · obtain rfl : i = dl m := by omega
        obtain ⟨hr3, hr4⟩ := one_cell ((hgr.out.block _ (by omega) (by intro e; injection e with e; have := HG.out; omega)).trans HRES.out)
        have hlz : seg ++ List.replicate (dl m + 1 - dl m) 0 = seg ++ List.replicate (0 + 1) 0 := by rw [show dl m + 1 - dl m = 0 + 1 by omega]
        rw [hlz] at hblk
        have hcs : wr.cell? ⟨g, dl m, none⟩ = some (.int .u32 0) := hblk.out.cell (get_zeros hsl.out)
        have hfz := hblk.out.frozen (dl m)
        have hb : Blk U32 92 (wr.setCell ⟨g, dl m, none⟩ (.int .u32 (cr : Int))) g _ := hblk.out.set_ (dl m) cr
        rw [set_zeros hsl.out, List.replicate_zero, List.append_nil] at hb
        have HB := hide hb
        have hne : w.heap.size + 2 ≠ g := by have := HG.out; omega
        have hr5 : (wr.setCell ⟨g, dl m, none⟩ (.int .u32 (cr : Int))).cell? ⟨w.heap.size + 2, 0, none⟩ = some (.slice none 0 0) := (World.cell?_setCell_other wr _ _ _ (by intro e; injection e with e; exact hne e.symm)).trans hr3
        have hr6 : (wr.setCell ⟨g, dl m, none⟩ (.int .u32 (cr : Int))).frozen? ⟨w.heap.size + 2, 0, none⟩ = false := by rw [World.frozen?_setCell]; exact hr4
        have HL : Hid (dl m + 1 = (seg ++ [cr]).length) := by unfold Hid; simp [hsl.out]
        have HGD := hide (good_snoc hsg.out (show cr < W32 by rw [W32_eq]; omega))
        have HV : Hid (val W32 (seg ++ [cr]) = m + m') := by
          unfold Hid
          rw [val_snoc, hsl.out, hval.out, List.take_of_length_le (show (digs W32 m).length ≤ dl m from Nat.le_refl _), List.take_of_length_le (show (digs W32 m').length ≤ dl m from hle), val_digs32, val_digs32]
        clear hlz hb
        go_wp2_with (first | (go_at_call 75; go_must (refine (trim_own HB.out HL.out HGD.out (by omega) (by omega) HV.out).mono ?_); rintro e w2 ⟨rfl, rfl⟩))
        refine bodyPost_ret (v := .agg #[.slice (some ⟨g, 0, none⟩) (dl (m + m')) (dl m + 1)]) (by simp [results, Tryz.results94, go_sem, hr5]) rfl ?_
        exact ⟨_, _, rfl, can_own (HB.out.far (p := ⟨w.heap.size + 1 + 1, 0, none⟩) (by simp; omega) _) HL.out HGD.out (Nat.le_refl _) HV.out, ((HW1.out.trans (grown_below hgr.out hB hb1.out.lt)).setCell (p := ⟨g, dl m, none⟩) hB _).setCell (by simp; omega) _⟩
theorem Add_any {A A' : Option Addr} {n n' c c' m m' : Nat} {w : World} (h : Arg w w.heap.size A n c m) (h' : Arg w w.heap.size A' n' c' m') :
    Calls Tryz.prog 94 #[.agg #[.slice A n c], .agg #[.slice A' n' c']] w (NumPost w (m + m')) := by
  rcases Nat.lt_or_ge (dl m) (dl m') with hlt | hge
  · have := (Add_core h' h (by omega)).2 hlt
    rwa [Nat.add_comm] at this
  · exact (Add_core h h' hge).1
end Go.Proofs.YtmiklffjffdkgaaGreatDoor
end

section
/- Of, Good, Low. Conditions: lengths that fit int. -/
open Go.RowKit
set_option maxRecDepth 100000
namespace Go.Proofs.YtmiklffjffdkgaaGreatDoor
theorem Of_any {n : Nat} {w : World} (hn : n ≤ 18446744073709551615) :
    Calls Tryz.prog 56 #[.int .u64 (n : Int)] w (NumPost w n) := by
  have HN := hide hn
  clear hn
  go_enter Tryz.func56, Tryz.ntmps56
  have hblk : Hid (∀ W : World, Blk U32 92 (W.alloc (.cells #[.int .u32 ((n : Int) % 4294967296), .int .u32 ((n : Int) / 4294967296 % 4294967296)] 92)) W.heap.size [n % W32, n / W32 % W32]) := fun W => heap_alloc_new W _
  have HV : Hid (val W32 [n % W32, n / W32 % W32] = n) := by unfold Hid; have := HN.out; simp only [val]; rw [W32_eq]; omega
  have HG : Hid (Good32 [n % W32, n / W32 % W32]) := by
    intro x hx; simp at hx; rcases hx with rfl | rfl <;> exact Nat.mod_lt _ (by decide)
  go_wp2_with (first | (go_at_call 75; go_must (refine (trim_own (n := 2) (by simpa using hblk.out (w.alloc (.cells #[.slice none 0 0] 24))) rfl HG.out (by omega) (by omega) HV.out).mono ?_); rintro e w2 ⟨rfl, rfl⟩))
  refine bodyPost_ret (v := .agg #[.slice (some ⟨w.heap.size + 1, 0, none⟩) (dl n) 2]) (by simp [results, Tryz.results56, go_sem]) rfl ?_
  exact ⟨_, _, rfl, can_own (n := 2) (by simpa using hblk.out (w.alloc (.cells #[.slice (some ⟨w.heap.size + 1, 0, none⟩) (dl n) 2] 24))) rfl HG.out (by omega) HV.out, ((Below.refl _ _).alloc (Nat.le_refl _) _).alloc (by simp) _⟩
/-- Whether the last word isn't 0. -/
def goodB (ws : List Nat) : Bool := ws.getLast? != some 0
theorem Good_any {A : Option Addr} {n c : Nat} {ws : List Nat} {w : World} (hn : n = ws.length) (h : Rd U32 w w.heap.size A ws) (hl : n ≤ 1000000) :
    Calls Tryz.prog 50 #[.agg #[.slice A n c]] w fun e w' => e = .returned (.bool (goodB ws)) ∧ Below w.heap.size w w' := by
  have HN := hide hn
  have HR : Hid (∀ o, Rd U32 (w.alloc o) w.heap.size A ws) := fun o => h.alloc (Nat.le_refl _) o
  clear hn h
  by_cases h0 : n = 0
  · subst h0
    have HG : Hid (goodB ws = true) := by have := HN.out; unfold Hid; rw [List.eq_nil_of_length_eq_zero this.symm]; rfl
    go_enter Tryz.func50, Tryz.ntmps50
    go_wp2
    go_ret
    exact ⟨by rw [HG.out]; rfl, (Below.refl _ _).alloc (Nat.le_refl _) _⟩
  · obtain ⟨k, rfl⟩ : ∃ k, n = k + 1 := ⟨n - 1, by omega⟩
    have hk : k < ws.length := by have := HN.out; omega
    obtain ⟨x, hx⟩ : ∃ x, x = ws[k] := ⟨_, rfl⟩
    obtain ⟨ad, rfl, hab, hc⟩ := (HR.out (.cells #[.slice A (k + 1) c] 24)).at_ hk
    rw [← hx] at hc
    unfold U32 at hc
    have HG : Hid (goodB ws = ((x : Int) != 0)) := by
      unfold Hid goodB
      rw [List.getLast?_eq_getElem?, ← HN.out, Nat.add_sub_cancel, List.getElem?_eq_getElem hk, ← hx]
      by_cases h : x = 0
      · subst h; rfl
      · have h1 : (some x != some 0) = true := by simpa using h
        have h2 : ((x : Int) != 0) = true := by simp; exact h
        rw [h1, h2]
    clear hx hk
    go_enter Tryz.func50, Tryz.ntmps50
    go_wp2
    go_ret
    exact ⟨by rw [HG.out]; rfl, (Below.refl _ _).alloc (Nat.le_refl _) _⟩
theorem dl_zero {m : Nat} (h : dl m = 0) : m = 0 := (digs_len_pos (by decide)).1 h
theorem digs_one {m : Nat} (h : dl m = 1) : digs W32 m = [m] ∧ m < W32 := by
  have h0 : 0 < m := by
    rcases Nat.eq_zero_or_pos m with rfl | h1
    · unfold dl at h; rw [digs_zero] at h; simp at h
    · exact h1
  have h2 : m < W32 := by have := lt_pow_digs (b := W32) (by decide) m; unfold dl at h; rw [h] at this; simpa using this
  refine ⟨?_, h2⟩
  rw [digs_pos (by decide) h0, Nat.div_eq_of_lt h2, digs_zero, Nat.mod_eq_of_lt h2]
theorem digs_two {m : Nat} (h : dl m = 2) : digs W32 m = [m % W32, m / W32] ∧ m / W32 < W32 := by
  have h0 : 0 < m := by
    rcases Nat.eq_zero_or_pos m with rfl | h1
    · unfold dl at h; rw [digs_zero] at h; simp at h
    · exact h1
  have e := digs_pos (b := W32) (by decide) h0
  have h1 : dl (m / W32) = 1 := by unfold dl at h ⊢; rw [e] at h; simpa using h
  obtain ⟨e2, h2⟩ := digs_one h1
  exact ⟨by rw [e, e2], h2⟩
theorem dl_three {m : Nat} (h : 3 ≤ dl m) : 18446744073709551616 ≤ m := by
  have h0 : 0 < m := by
    rcases Nat.eq_zero_or_pos m with rfl | h1
    · unfold dl at h; rw [digs_zero] at h; simp at h
    · exact h1
  have h1 := pow_le_of_digs (b := W32) (by decide) h0
  have h2 : W32 ^ 2 ≤ W32 ^ (dl m - 1) := Nat.pow_le_pow_right (by decide) (by omega)
  have h3 : W32 ^ 2 = 18446744073709551616 := by rw [W32_eq]
  unfold dl at h2; omega
end Go.Proofs.YtmiklffjffdkgaaGreatDoor
end

section
/- divideByWord: words in place, by one word. Conditions: at most 1000000 words. -/
open Go.RowKit
set_option maxRecDepth 100000
namespace Go.Proofs.YtmiklffjffdkgaaGreatDoor
def DivWordPost (w : World) (g k d : Nat) (L : List Nat) (e : Ending) (w' : World) : Prop :=
  ∃ (q : List Nat) (rest : Nat), e = .returned (.int .u32 (rest : Int)) ∧ Hid (q.length = k) ∧ Hid (Good32 q) ∧ rest < d ∧ Hid (val W32 (L.take k) = val W32 q * d + rest) ∧ Hid (Blk U32 92 w' g (q ++ L.drop k)) ∧ w.grownBy w' (some g)
theorem divw_math {vq d rest t q r x v W : Nat} (h : v = vq * d + rest) (ht : t = rest * W + x) (hq : r + d * q = t) : x + W * v = (q + W * vq) * d + r := by
  rw [h, Nat.mul_add, Nat.add_mul, Nat.mul_assoc W vq d]
  have : W * rest = rest * W := Nat.mul_comm _ _
  have : d * q = q * d := Nat.mul_comm _ _
  omega
theorem divw_lt {d rest t x W : Nat} (hr : rest < d) (ht : t = rest * W + x) (hx : x < W) : t / d < W := by
  rw [Nat.div_lt_iff_lt_mul (by omega), ht]
  have h1 : (rest + 1) * W ≤ d * W := Nat.mul_le_mul_right _ hr
  rw [Nat.add_mul, Nat.one_mul] at h1
  rw [Nat.mul_comm W d]; omega
theorem down_list {L D : List Nat} {i x v : Nat} (h : L[i]? = some x) : (L.take (i + 1) ++ D).set i v = L.take i ++ (v :: D) := by
  have hi : i < L.length := by
    rcases Nat.lt_or_ge i L.length with h1 | h1
    · exact h1
    · rw [List.getElem?_eq_none h1] at h; cases h
  have hl : (L.take i).length = i := by rw [List.length_take]; omega
  rw [List.take_succ_eq_append_getElem hi, List.append_assoc, List.set_append, if_neg (by omega), hl, Nat.sub_self]
  rfl
theorem down_drop {L : List Nat} {i k x : Nat} (h : L[i]? = some x) (hk : i < k) : (L.take k).drop i = x :: (L.take k).drop (i + 1) := by
  have hi : i < L.length := by
    rcases Nat.lt_or_ge i L.length with h1 | h1
    · exact h1
    · rw [List.getElem?_eq_none h1] at h; cases h
  rw [List.getElem?_eq_getElem hi] at h
  injection h with h
  rw [List.drop_eq_getElem_cons (by rw [List.length_take]; omega), List.getElem_take, h]
theorem quo_word {t d : Nat} (h : t / d < W32) : IntKind.u64.wrap ((t : Int) / (d : Int)) % 4294967296 = ((t / d : Nat) : Int) := by
  rw [W32_eq] at h
  rw [← Int.natCast_ediv]
  generalize t / d = q at h ⊢
  rw [u64_nat (by omega)]; omega
set_option maxHeartbeats 1000000 in
theorem divideByWord_any {g k c d : Nat} {L : List Nat} {w : World} (hb : Blk U32 92 w g L) (hk : k ≤ L.length) (hL : Good32 L) (hlim : k ≤ 1000000) (hd : d ≤ 4294967295) (hd0 : 1 ≤ d) :
    Calls Tryz.prog 90 #[.slice (some ⟨g, 0, none⟩) k c, .int .u32 (d : Int)] w (DivWordPost w g k d L) := by
  have HB := hide hb; have HK := hide hk; have HL := hide hL
  clear hb hk hL
  go_enter Tryz.func90, Tryz.ntmps90
  go_wp2
  go_loopw [5, 6] (fun rv iv wr => ∃ j rest : Nat, ∃ qs : List Nat, j ≤ k ∧ rest < d ∧ rv = .int .u64 (rest : Int) ∧ iv = .int .i64 ((j : Int) - 1) ∧ Hid (qs.length = k - j) ∧ Hid (Good32 qs) ∧ Hid (val W32 ((L.take k).drop j) = val W32 qs * d + rest) ∧
      Hid (Blk U32 92 wr g (L.take j ++ (qs ++ L.drop k))) ∧ Hid (w.grownBy wr (some g)))
    (fun _ iv _ => (intOf iv + 1).toNat)
  case atStart => exact ⟨k, 0, [], Nat.le_refl _, by omega, rfl, rfl, by simp [Hid], by intro x hx; simp at hx, by unfold Hid; rw [List.drop_of_length_le (by rw [List.length_take]; omega)]; simp [val], by unfold Hid; rw [List.nil_append, List.take_append_drop]; exact HB.out, World.grownBy.refl _ _⟩
  case round =>
    obtain ⟨j, rest, qs, hj, hrest, rfl, rfl, hsl, hsg, hval, hblk, hgr⟩ := hrel
    by_cases h0 : j = 0
    · subst h0
      go_wp2
      go_ret
      exact ⟨qs, rest, rfl, hsl.out, hsg.out, hrest, hval.out, hblk.out, hgr.out⟩
    · obtain ⟨i, rfl⟩ : ∃ i, j = i + 1 := ⟨j - 1, by omega⟩
      have hil : i < L.length := by have := HK.out; omega
      obtain ⟨x, hxe⟩ : ∃ x, x = L[i] := ⟨_, rfl⟩
      have hxL : L[i]? = some x := by rw [hxe]; exact List.getElem?_eq_getElem hil
      have hcx : wr.cell? ⟨g, i, none⟩ = some (.int .u32 (x : Int)) := hblk.out.cell (by rw [List.getElem?_append_left (by rw [List.length_take]; omega), List.getElem?_take, if_pos (by omega), hxL])
      have hfz := hblk.out.frozen i
      have hxW : x ≤ 4294967295 := word_le (by rw [hxe]; exact HL.out _ (List.getElem_mem _))
      have hrl : rest ≤ 4294967295 := by omega
      obtain ⟨t, ht⟩ : ∃ t, t = rest * 4294967296 + x := ⟨_, rfl⟩
      have hor : bits .or .u64 ((rest : Int) * 4294967296) (x : Int) = (t : Int) := by rw [ht]; exact or64 hrl hxW
      have HT := hide ht
      have hd1 := hide (Nat.mod_add_div t d)
      clear hxe ht hil
      have ha := hide (divw_math (W := W32) (x := x) hval.out (show t = rest * W32 + x from HT.out) hd1.out)
      have hb := hide (divw_lt (W := W32) hrest (show t = rest * W32 + x from HT.out) (by rw [W32_eq]; omega))
      have HI := hide (down_list (D := qs ++ L.drop k) (v := t / d) hxL)
      have HD := hide (down_drop (k := k) hxL (by omega))
      clear hxL
      go_wp2
      go_roundw
      case rel =>
        refine ⟨i, t % d, t / d :: qs, by omega, Nat.mod_lt _ (by omega), rfl, by go_num, by unfold Hid; rw [List.length_cons, hsl.out]; omega, ?_, ?_, ?_, grown_set hgr.out _ _⟩
        · intro y hy
          rcases List.mem_cons.1 hy with rfl | hy
          · exact hb.out
          · exact hsg.out y hy
        · unfold Hid
          rw [HD.out, val, val]
          exact ha.out
        · have h1 := hblk.out.set_ i (t / d)
          rw [HI.out] at h1
          rw [quo_word hb.out]
          exact h1
      case measure => simp [intOf]
end Go.Proofs.YtmiklffjffdkgaaGreatDoor
end

section
/- Div by a number of at most one word. Conditions: at most 100000 words. -/
open Go.RowKit
set_option maxRecDepth 100000
namespace Go.Proofs.YtmiklffjffdkgaaGreatDoor
theorem pre4 (w : World) (o1 o2 : Obj) (v u : Value) (t : TypeId) (k : Nat) :
    Below w.heap.size w (((((w.alloc o1).alloc o2).alloc (.cells #[v] t)).alloc (.cells #[u] t)).drewN k) ∧ (((((w.alloc o1).alloc o2).alloc (.cells #[v] t)).alloc (.cells #[u] t)).drewN k).heap.size = w.heap.size + 4 ∧
    (((((w.alloc o1).alloc o2).alloc (.cells #[v] t)).alloc (.cells #[u] t)).drewN k).heap[w.heap.size + 2]? = some (.cells #[v] t (0, 0)) ∧
    (((((w.alloc o1).alloc o2).alloc (.cells #[v] t)).alloc (.cells #[u] t)).drewN k).heap[w.heap.size + 3]? = some (.cells #[u] t (0, 0)) := by
  obtain ⟨p1, p2, p3⟩ := pre3 w o1 o2 v t 0
  refine ⟨below_drewN (((((Below.refl _ _).alloc (Nat.le_refl _) _).alloc (by simp) _).alloc (by simp; omega) _).alloc (by simp; omega) _) k, by simp, ?_, ?_⟩
  · exact (Below.heap_alloc _ _ _ (by simp)).trans p3
  · have := heap_alloc_new (((w.alloc o1).alloc o2).alloc (.cells #[v] t)) (.cells #[u] t)
    simpa using this
theorem dl0 : dl 0 = 0 := by unfold dl; rw [digs_zero]; rfl
theorem after4 {w w1 : World} {o1 o2 : Obj} {v u : Value} {t : TypeId} {k : Nat} (h : Below (((((w.alloc o1).alloc o2).alloc (.cells #[v] t)).alloc (.cells #[u] t)).drewN k).heap.size (((((w.alloc o1).alloc o2).alloc (.cells #[v] t)).alloc (.cells #[u] t)).drewN k) w1) :
    Below w.heap.size w w1 ∧ w1.heap[w.heap.size + 2]? = some (.cells #[v] t (0, 0)) ∧ w1.heap[w.heap.size + 3]? = some (.cells #[u] t (0, 0)) ∧ w.heap.size + 4 ≤ w1.heap.size := by
  obtain ⟨p1, p2, p3, p4⟩ := pre4 w o1 o2 v u t k
  exact ⟨p1.trans (h.mono p1.size), (h.block _ (by omega)).trans p3, (h.block _ (by omega)).trans p4, by have := h.size; omega⟩
/-- What Div leaves where b isn't 0. -/
def DivPost (w : World) (m n : Nat) (e : Ending) (w' : World) : Prop :=
  ∃ A c A' c', e = .returned (.tuple #[.agg #[.slice A (dl (m / n)) c], .agg #[.slice A' (dl (m % n)) c'], .bool true]) ∧ Hid (Can w' w'.heap.size A c (m / n)) ∧ Hid (Can w' w'.heap.size A' c' (m % n)) ∧ Hid (Below w.heap.size w w')
def DivNone (w : World) (e : Ending) (w' : World) : Prop := e = .returned (.tuple #[.agg #[.slice none 0 0], .agg #[.slice none 0 0], .bool false]) ∧ Hid (Below w.heap.size w w')
set_option maxHeartbeats 2000000 in
theorem Div_zero {A A' : Option Addr} {n n' c c' m m' : Nat} {w : World} (h : Arg w w.heap.size A n c m) (h' : Arg w w.heap.size A' n' c' m') (h0 : m' = 0) :
    Calls Tryz.prog 73 #[.agg #[.slice A n c], .agg #[.slice A' n' c']] w (DivNone w) := by
  have H : Hid (∀ o1 o2 v u t k, Arg (((((w.alloc o1).alloc o2).alloc (.cells #[v] t)).alloc (.cells #[u] t)).drewN k) w.heap.size A n c m) := fun o1 o2 v u t k => h.below (pre4 w o1 o2 v u t k).1
  have H' : Hid (∀ o1 o2 v u t k, Arg (((((w.alloc o1).alloc o2).alloc (.cells #[v] t)).alloc (.cells #[u] t)).drewN k) w.heap.size A' n' c' m') := fun o1 o2 v u t k => h'.below (pre4 w o1 o2 v u t k).1
  have hd : dl m' = 0 := by rw [h0]; unfold dl; rw [digs_zero]; rfl
  clear h h' h0
  go_enter Tryz.func73, Tryz.ntmps73
  go_wp2_with fail
  go_quiet ((go_at_call 75; first | exact quiet_left (trim_arg (H.out _ _ _ _ _ _)) | exact quiet_left (trim_arg (H'.out _ _ _ _ _ _))))
  go_wp2
  refine bodyPost_ret (v := .tuple #[.agg #[.slice none 0 0], .agg #[.slice none 0 0], .bool false]) (by simp [results, Tryz.results73, go_sem]) rfl ?_
  refine ⟨rfl, ?_⟩
  exact ((pre4 w _ _ _ _ _ _).1.setCell (by simp; omega) _).setCell (by simp; omega) _
set_option maxHeartbeats 2000000 in
theorem Div_less {A A' : Option Addr} {n n' c c' m m' : Nat} {w : World} (h : Arg w w.heap.size A n c m) (h' : Arg w w.heap.size A' n' c' m') (h0 : m < m') :
    Calls Tryz.prog 73 #[.agg #[.slice A n c], .agg #[.slice A' n' c']] w (DivPost w m m') := by
  have H : Hid (∀ o1 o2 v u t k, Arg (((((w.alloc o1).alloc o2).alloc (.cells #[v] t)).alloc (.cells #[u] t)).drewN k) w.heap.size A n c m) := fun o1 o2 v u t k => h.below (pre4 w o1 o2 v u t k).1
  have H' : Hid (∀ o1 o2 v u t k, Arg (((((w.alloc o1).alloc o2).alloc (.cells #[v] t)).alloc (.cells #[u] t)).drewN k) w.heap.size A' n' c' m') := fun o1 o2 v u t k => h'.below (pre4 w o1 o2 v u t k).1
  have hl : dl m ≤ 100000 := by have := h.digs.2; obtain ⟨_, _, _, h3, _⟩ := h; omega
  have hl' : dl m' ≤ 100000 := by have := h'.digs.2; obtain ⟨_, _, _, h3, _⟩ := h'; omega
  have hd : 0 < dl m' := by
    rcases Nat.eq_zero_or_pos (dl m') with h1 | h1
    · have := dl_zero h1; omega
    · exact h1
  have hdz : (((dl m' : Nat) : Int) == 0) = false := by rw [beq_eq_false_iff_ne]; omega
  have hcm : cmpI m m' < 0 := by rw [cmpI_lt h0]; omega
  have HX := hide h.digs.1
  have HLT := hide h0
  clear h h' h0
  go_enter Tryz.func73, Tryz.ntmps73
  go_wp2_with fail
  go_quiet ((go_at_call 75; first | exact quiet_left (trim_arg (H.out _ _ _ _ _ _)) | exact quiet_left (trim_arg (H'.out _ _ _ _ _ _))))
  go_wp2_with (first | (go_at_call 74; go_must (refine (compare_can (H.out _ _ _ _ _ _).digs.1 (H'.out _ _ _ _ _ _).digs.1 hl hl').mono ?_); rintro e w' ⟨rfl, q, rfl⟩) | (go_at_call 89; go_must (refine (fresh_can ((HX.out.below (pre4 w _ _ _ _ _ _).1).more (pre4 w _ _ _ _ _ _).1.size).2 (by omega)).mono ?_); rintro e w1 ⟨g, rfl, HGE, HBLK, HBEL⟩; obtain ⟨hw1, hq2, hq3, hsz⟩ := after4 HBEL.out; have HW1 := hide hw1; have r2 := (one_cell hq2).1; have f2 := (one_cell hq2).2; have r3 := (one_cell hq3).1; have f3 := (one_cell hq3).2; have HGB := hide (Nat.le_trans (Nat.le_of_eq (pre4 w _ _ _ _ _ _).2.1.symm) HGE.out); clear hq2 hq3 hw1 HGE HBEL))
  refine bodyPost_ret (v := .tuple #[.agg #[.slice none 0 0], .agg #[.slice (some ⟨g, 0, none⟩) (dl m) (dl m)], .bool true]) (by simp [results, Tryz.results73, go_sem, r2, r3]) rfl ?_
  have hgb := HGB.out
  refine ⟨none, 0, some ⟨g, 0, none⟩, dl m, by rw [Nat.div_eq_of_lt HLT.out, Nat.mod_eq_of_lt HLT.out, dl0], ?_, ?_, (HW1.out.setCell (by simp; omega) _).setCell (by simp; omega) _⟩
  · rw [Nat.div_eq_of_lt HLT.out]
    exact ⟨by rw [dl0]; exact Nat.le_refl _, by rw [digs_zero]; exact Rd.nil⟩
  · rw [Nat.mod_eq_of_lt HLT.out]
    exact can_own ((HBLK.out.far (p := ⟨w.heap.size + 1 + 1, 0, none⟩) (by simp; omega) _).far (p := ⟨w.heap.size + 1 + 1 + 1, 0, none⟩) (by simp; omega) _) (show dl m = (digs W32 m).length from rfl) (good_digs m) (Nat.le_refl _) (val_digs32 m)
theorem Rd.setBox {w : World} {B : Nat} {A : Option Addr} {xs : List Nat} (h : Rd U32 w B A xs) {p : Addr} {a : Option Addr} {l c : Nat} (hc : w.cell? p = some (.slice a l c)) (u : Value) : Rd U32 (w.setCell p u) B A xs := fun hn => by
  obtain ⟨ad, e, hb, hx⟩ := h hn
  refine ⟨ad, e, hb, fun j x hj => ?_⟩
  have h1 := hx j x hj
  rw [World.cell?_setCell_other w p _ u (by intro e; rw [← e, hc] at h1; cases h1)]
  exact h1
theorem div_parts {w : World} {g m d rest : Nat} {q : List Nat} {w2 : World} (_h : Hid (Blk U32 92 w g (digs W32 m))) (_hq1 : Hid (q.length = dl m)) (hq3 : Hid (val W32 ((digs W32 m).take (dl m)) = val W32 q * d + rest)) (hq4 : Hid (Blk U32 92 w2 g (q ++ (digs W32 m).drop (dl m)))) (hr : rest < d) :
    Hid (Blk U32 92 w2 g q) ∧ Hid (val W32 q = m / d) ∧ Hid (rest = m % d) := by
  have h1 := hq3.out
  rw [List.take_of_length_le (show (digs W32 m).length ≤ dl m from Nat.le_refl _), val_digs32] at h1
  have h2 := hq4.out
  rw [List.drop_of_length_le (show (digs W32 m).length ≤ dl m from Nat.le_refl _), List.append_nil] at h2
  refine ⟨h2, ?_, ?_⟩
  · unfold Hid
    rw [h1, Nat.mul_comm, Nat.mul_add_div (by omega), Nat.div_eq_of_lt hr, Nat.add_zero]
  · unfold Hid
    rw [h1, Nat.mul_comm, Nat.mul_add_mod, Nat.mod_eq_of_lt hr]
set_option maxHeartbeats 2000000 in
theorem Div_one {A A' : Option Addr} {n n' c c' m m' : Nat} {w : World} (h : Arg w w.heap.size A n c m) (h' : Arg w w.heap.size A' n' c' m') (h0 : m' ≤ m) (h1 : dl m' = 1) :
    Calls Tryz.prog 73 #[.agg #[.slice A n c], .agg #[.slice A' n' c']] w (DivPost w m m') := by
  have H : Hid (∀ o1 o2 v u t k, Arg (((((w.alloc o1).alloc o2).alloc (.cells #[v] t)).alloc (.cells #[u] t)).drewN k) w.heap.size A n c m) := fun o1 o2 v u t k => h.below (pre4 w o1 o2 v u t k).1
  have H' : Hid (∀ o1 o2 v u t k, Arg (((((w.alloc o1).alloc o2).alloc (.cells #[v] t)).alloc (.cells #[u] t)).drewN k) w.heap.size A' n' c' m') := fun o1 o2 v u t k => h'.below (pre4 w o1 o2 v u t k).1
  have hl : dl m ≤ 100000 := by have := h.digs.2; obtain ⟨_, _, _, h3, _⟩ := h; omega
  have hcm : ¬ cmpI m m' < 0 := by unfold cmpI; rw [if_neg (by omega)]; split <;> omega
  obtain ⟨hdg, hmw⟩ := digs_one h1
  have hm9 : m' ≤ 4294967295 := word_le hmw
  have hm0 : 1 ≤ m' := by
    rcases Nat.eq_zero_or_pos m' with rfl | h2
    · rw [dl0] at h1; omega
    · exact h2
  have HX := hide h.digs.1
  have hy2 := h'.digs.1.2
  rw [hdg] at hy2
  obtain ⟨ad, rfl, hab, hca⟩ := hy2.at_ (k := 0) (by simp)
  replace hca : w.cell? ad = some (.int .u32 (m' : Int)) := hca
  replace hab : ad.block < w.heap.size := hab
  have HH1 := hide h1
  have HDL := hide (show dl m' ≤ 100000 by omega)
  have HCA := hide hca
  have HAB := hide hab
  have T' : Hid (∀ o1 o2 v u t k, Calls Tryz.prog 75 #[.slice (some ad) n' c'] (((((w.alloc o1).alloc o2).alloc (.cells #[v] t)).alloc (.cells #[u] t)).drewN k) fun e w' => e = .returned (.slice (some ad) 1 c') ∧ (((((w.alloc o1).alloc o2).alloc (.cells #[v] t)).alloc (.cells #[u] t)).drewN k) = w') := fun o1 o2 v u t k => by
    have h5 := trim_arg (H'.out o1 o2 v u t k)
    rw [h1] at h5
    exact h5
  have CC : Hid (∀ o1 o2 v u t k, Calls Tryz.prog 74 #[.slice A (dl m) c, .slice (some ad) 1 c'] (((((w.alloc o1).alloc o2).alloc (.cells #[v] t)).alloc (.cells #[u] t)).drewN k) fun e w' => e = .returned (.int .i64 (cmpI m m')) ∧ ∃ q, w' = (((((w.alloc o1).alloc o2).alloc (.cells #[v] t)).alloc (.cells #[u] t)).drewN k).drewN q) := fun o1 o2 v u t k => by
    have h5 := compare_can (H.out o1 o2 v u t k).digs.1 (H'.out o1 o2 v u t k).digs.1 hl HDL.out
    rw [h1] at h5
    exact h5
  clear h h' h0 h1 hdg hmw hy2 hca hab
  go_enter Tryz.func73, Tryz.ntmps73
  go_wp2_with fail
  go_quiet ((go_at_call 75; first | exact quiet_left (trim_arg (H.out _ _ _ _ _ _)) | exact quiet_left (T'.out _ _ _ _ _ _)))
  go_wp2_with (first | (go_at_call 74; go_must (refine (CC.out _ _ _ _ _ _).mono ?_); rintro e w' ⟨rfl, q, rfl⟩) | (go_at_call 89; go_must (refine (fresh_can ((HX.out.below (pre4 w _ _ _ _ _ _).1).more (pre4 w _ _ _ _ _ _).1.size).2 (by omega)).mono ?_); rintro e w1 ⟨g, rfl, HGE, HBLK, HBEL⟩; obtain ⟨hw1, hq2, hq3, hsz⟩ := after4 HBEL.out; have HW1 := hide hw1; have HQ2 := hide hq2; have HQ3 := hide hq3; have HGB := hide (Nat.le_trans (Nat.le_of_eq (pre4 w _ _ _ _ _ _).2.1.symm) HGE.out); have hcy : w1.cell? ad = some (.int .u32 (m' : Int)) := (hw1.cell HAB.out).trans HCA.out; clear hq2 hq3 hw1 HGE HBEL) | (go_at_call 90; go_must (refine (divideByWord_any (k := dl m) (d := m') HBLK.out (Nat.le_refl _) (good_digs m) (by omega) hm9 hm0).mono ?_); rintro e w2 ⟨q2, rest, rfl, hq1, hq2, hrest, hq3, hq4, hq5⟩; have HQ5 := hide hq5; clear hq5; obtain ⟨HB2, HQV, HRV⟩ := div_parts HBLK hq1 hq3 hq4 hrest; have hz2 := HGB.out; have HR2 := hide ((HQ5.out.block _ (by omega) (by intro e; injection e with e; omega)).trans HQ2.out); have HR3 := hide ((HQ5.out.block _ (by omega) (by intro e; injection e with e; omega)).trans HQ3.out); have HS2 := hide HQ5.out.size) | (go_at_call 75; go_must (refine (trim_own HB2.out hq1.out.symm hq2.out (by omega) (Nat.le_refl _) HQV.out).mono ?_); rintro e w5 ⟨rfl, rfl⟩) | (go_at_call 56; go_must (refine (Of_any (n := rest) (by omega)).mono ?_); rintro e w3 ⟨A3, c3, rfl, hcn, hbl⟩; have HCN := hide hcn; have HBL := hide hbl; obtain ⟨r2, f2⟩ := one_cell ((hbl.block _ (by have := HS2.out; omega)).trans HR2.out); obtain ⟨r3, f3⟩ := one_cell ((hbl.block _ (by have := HS2.out; omega)).trans HR3.out); clear hcn hbl))
  refine bodyPost_ret (v := .tuple #[.agg #[.slice (some ⟨g, 0, none⟩) (dl (m / m')) (dl m)], .agg #[.slice A3 (dl rest) c3], .bool true]) (by simp [results, Tryz.results73, go_sem, r2, r3]) rfl ?_
  have hgb := HGB.out
  have hb2 : Blk U32 92 w3 g q2 := HB2.out.below HBL.out HB2.out.lt
  refine ⟨some ⟨g, 0, none⟩, dl m, A3, c3, by rw [HRV.out], ?_, ?_, ?_⟩
  · exact can_own ((hb2.far (p := ⟨w.heap.size + 1 + 1, 0, none⟩) (by simp; omega) _).far (p := ⟨w.heap.size + 1 + 1 + 1, 0, none⟩) (by simp; omega) _) hq1.out.symm hq2.out (Nat.le_refl _) HQV.out
  · rw [← HRV.out]
    have h23 : (w3.setCell ⟨w.heap.size + 1 + 1, 0, none⟩ (.slice (some ⟨g, 0, none⟩) (dl (m / m')) (dl m))).cell? ⟨w.heap.size + 1 + 1 + 1, 0, none⟩ = some (.slice none 0 0) :=
      (World.cell?_setCell_other w3 _ _ _ (by intro e; injection e with e; omega)).trans r3
    refine ⟨HCN.out.1, ?_⟩
    have h1 := Rd.setBox (Rd.setBox HCN.out.2 (p := ⟨w.heap.size + 1 + 1, 0, none⟩) r2 (.slice (some ⟨g, 0, none⟩) (dl (m / m')) (dl m))) h23 (.slice A3 (dl rest) c3)
    simpa [World.setCell] using h1
  · exact (((HW1.out.trans (grown_below HQ5.out (by omega) HBLK.out.lt)).trans (HBL.out.mono (Nat.le_trans HW1.out.size HS2.out))).setCell (by simp; omega) _).setCell (by simp; omega) _
end Go.Proofs.YtmiklffjffdkgaaGreatDoor
end

section
/- Div whole: the quotient and the rest of any two numbers. Conditions: less than 100000 words. -/
open Go.RowKit
set_option maxRecDepth 100000
namespace Go.Proofs.YtmiklffjffdkgaaGreatDoor
set_option maxHeartbeats 4000000 in
theorem Div_long {A A' : Option Addr} {n n' c c' m m' : Nat} {w : World} (h : Arg w w.heap.size A n c m) (h' : Arg w w.heap.size A' n' c' m') (h0 : m' ≤ m) (h1 : 2 ≤ dl m') (hl9 : dl m ≤ 99999) :
    Calls Tryz.prog 73 #[.agg #[.slice A n c], .agg #[.slice A' n' c']] w (DivPost w m m') := by
  have H : Hid (∀ o1 o2 v u t k, Arg (((((w.alloc o1).alloc o2).alloc (.cells #[v] t)).alloc (.cells #[u] t)).drewN k) w.heap.size A n c m) := fun o1 o2 v u t k => h.below (pre4 w o1 o2 v u t k).1
  have H' : Hid (∀ o1 o2 v u t k, Arg (((((w.alloc o1).alloc o2).alloc (.cells #[v] t)).alloc (.cells #[u] t)).drewN k) w.heap.size A' n' c' m') := fun o1 o2 v u t k => h'.below (pre4 w o1 o2 v u t k).1
  have hl : dl m ≤ 100000 := by omega
  have hmono : dl m' ≤ dl m := digs_len_mono (b := W32) (by decide) h0
  have hcm : ¬ cmpI m m' < 0 := by unfold cmpI; rw [if_neg (by omega)]; split <;> omega
  have H0 := hide h0
  have hd1 : (((dl m' : Nat) : Int) == 0) = false := by rw [beq_eq_false_iff_ne]; omega
  have hd2 : (((dl m' : Nat) : Int) == 1) = false := by rw [beq_eq_false_iff_ne]; omega
  have CC : Hid (∀ o1 o2 v u t k, Calls Tryz.prog 74 #[.slice A (dl m) c, .slice A' (dl m') c'] (((((w.alloc o1).alloc o2).alloc (.cells #[v] t)).alloc (.cells #[u] t)).drewN k) fun e w' => e = .returned (.int .i64 (cmpI m m')) ∧ ∃ q, w' = (((((w.alloc o1).alloc o2).alloc (.cells #[v] t)).alloc (.cells #[u] t)).drewN k).drewN q) := fun o1 o2 v u t k =>
    compare_can (H.out o1 o2 v u t k).digs.1 (H'.out o1 o2 v u t k).digs.1 hl (by omega)
  have CL : Hid (∀ o1 o2 v u t k, Calls Tryz.prog 104 #[.slice A (dl m) c, .slice A' (dl m') c'] (((((w.alloc o1).alloc o2).alloc (.cells #[v] t)).alloc (.cells #[u] t)).drewN k) (LongPost (((((w.alloc o1).alloc o2).alloc (.cells #[v] t)).alloc (.cells #[u] t)).drewN k) m m')) := fun o1 o2 v u t k => by
    have p := (pre4 w o1 o2 v u t k).1.size
    exact divideLong_any ((H.out o1 o2 v u t k).digs.1.more p) ((H'.out o1 o2 v u t k).digs.1.more p) H0.out h1 hl9
  clear h h' h0 h1 hl9
  go_enter Tryz.func73, Tryz.ntmps73
  go_wp2_with fail
  go_quiet ((go_at_call 75; first | exact quiet_left (trim_arg (H.out _ _ _ _ _ _)) | exact quiet_left (trim_arg (H'.out _ _ _ _ _ _))))
  go_wp2_with (first | (go_at_call 74; go_must (refine (CC.out _ _ _ _ _ _).mono ?_); rintro e w' ⟨rfl, q, rfl⟩) | (go_at_call 104; go_must (refine (CL.out _ _ _ _ _ _).mono ?_); rintro e w1 ⟨gq, gr, nq, nr, Q, R, rfl, hq, hqq, hr, hrr, hge, hbel⟩; obtain ⟨hw1, hq2, hq3, hsz⟩ := after4 hbel.out; have HW1 := hide hw1; have r2 := (one_cell hq2).1; have f2 := (one_cell hq2).2; have r3 := (one_cell hq3).1; have f3 := (one_cell hq3).2; clear hq2 hq3 hw1 hbel) | (go_at_call 75; (with_reducible refine (trim_own hq.out hqq.out.1 hqq.out.2.1 (by have := hqq.out.2.2.1; omega) (Nat.le_refl _) hqq.out.2.2.2).mono ?_); rintro e w5 ⟨rfl, rfl⟩) | (go_at_call 75; (with_reducible refine (trim_own hr.out hrr.out.1 hrr.out.2.1 (by have := hrr.out.2.2.1; omega) (Nat.le_refl _) hrr.out.2.2.2).mono ?_); rintro e w6 ⟨rfl, rfl⟩))
  refine bodyPost_ret (v := .tuple #[.agg #[.slice (some ⟨gq, 0, none⟩) (dl (m / m')) nq], .agg #[.slice (some ⟨gr, 0, none⟩) (dl (m % m')) nr], .bool true]) (by simp [results, Tryz.results73, go_sem, r2, r3]) rfl ?_
  obtain ⟨ha, hb⟩ := hge.out
  rw [(pre4 w _ _ _ _ _ _).2.1] at ha hb
  refine ⟨some ⟨gq, 0, none⟩, nq, some ⟨gr, 0, none⟩, nr, rfl, ?_, ?_, (HW1.out.setCell (by simp; omega) _).setCell (by simp; omega) _⟩
  · exact can_own ((hq.out.far (p := ⟨w.heap.size + 1 + 1, 0, none⟩) (by simp; omega) _).far (p := ⟨w.heap.size + 1 + 1 + 1, 0, none⟩) (by simp; omega) _) hqq.out.1 hqq.out.2.1 (Nat.le_refl _) hqq.out.2.2.2
  · exact can_own ((hr.out.far (p := ⟨w.heap.size + 1 + 1, 0, none⟩) (by simp; omega) _).far (p := ⟨w.heap.size + 1 + 1 + 1, 0, none⟩) (by simp; omega) _) hrr.out.1 hrr.out.2.1 (Nat.le_refl _) hrr.out.2.2.2
/-- Div of any two numbers, b not 0. -/
theorem Div_any {A A' : Option Addr} {n n' c c' m m' : Nat} {w : World} (h : Arg w w.heap.size A n c m) (h' : Arg w w.heap.size A' n' c' m') (h0 : 0 < m') (hl : dl m ≤ 99999) :
    Calls Tryz.prog 73 #[.agg #[.slice A n c], .agg #[.slice A' n' c']] w (DivPost w m m') := by
  rcases Nat.lt_or_ge m m' with h1 | h1
  · exact Div_less h h' h1
  · rcases Nat.lt_or_ge (dl m') 2 with h2 | h2
    · refine Div_one h h' h1 ?_
      rcases Nat.eq_zero_or_pos (dl m') with h3 | h3
      · have := dl_zero h3; omega
      · omega
    · exact Div_long h h' h1 h2 hl
end Go.Proofs.YtmiklffjffdkgaaGreatDoor
end

section
/- Strings of digits: trimLeftByte, TrimLeft, isDigits, valueOf. Conditions: lengths within the model's own bound. -/
open Go.RowKit
set_option maxRecDepth 100000
namespace Go.Proofs.YtmiklffjffdkgaaGreatDoor
theorem toList_drop1 (t : ByteArray) : (t.extract 1 t.size).data.toList = t.data.toList.drop 1 := by
  rw [Lib.extract_data, List.take_of_length_le]
  rw [List.length_drop]; exact Nat.le_refl _
theorem size_list (t : ByteArray) : t.size = t.data.toList.length := rfl
theorem str_ret {t u : ByteArray} (h : t = u) : Ending.returned (.string t) = .returned (.string u) := by rw [h]
def TrimPost (l : List UInt8) (w : World) (e : Ending) (w' : World) : Prop := ∃ t : ByteArray, e = .returned (.string t) ∧ t.data.toList = l.dropWhile (· == 48) ∧ w = w'
theorem drop_yes {t : ByteArray} {h : 0 < t.size} (hx : t[0] = 48) : t.data.toList.dropWhile (· == 48) = (t.data.toList.drop 1).dropWhile (· == 48) := by
  obtain ⟨⟨l⟩⟩ := t
  cases l with
  | nil => simp [ByteArray.size] at h
  | cons a l =>
    have : a = 48 := hx
    subst this
    rfl
theorem drop_no {t : ByteArray} {h : 0 < t.size} (hx : t[0] ≠ 48) : t.data.toList.dropWhile (· == 48) = t.data.toList := by
  obtain ⟨⟨l⟩⟩ := t
  cases l with
  | nil => simp [ByteArray.size] at h
  | cons a l =>
    have : (a == 48) = false := by
      have : a ≠ 48 := hx
      simpa using this
    rw [List.dropWhile_cons, this]; rfl
set_option maxHeartbeats 400000 in
theorem trimByte_any (s : ByteArray) (w : World) :
    Calls Tryz.prog 108 #[.string s, .int .u8 48] w (TrimPost s.data.toList w) := by
  go_enter Tryz.func108, Tryz.ntmps108
  go_wp2
  go_loop [0] (fun sv => ∃ t : ByteArray, sv = .string t ∧ Hid (s.data.toList.dropWhile (· == 48) = t.data.toList.dropWhile (· == 48)) ∧ t.size ≤ s.size) (fun sv => match sv with | .string t => t.size | _ => 0)
  case atStart => exact ⟨s, rfl, rfl, Nat.le_refl _⟩
  case round =>
    obtain ⟨t, rfl, ht, hts⟩ := hrel
    by_cases h0 : t.size = 0
    · have HZ := hide h0
      have h1 : ¬ 0 < t.size := by omega
      clear h0
      go_wp2
      go_ret
      exact ⟨t, rfl, by rw [ht.out, List.eq_nil_of_length_eq_zero (show t.data.toList.length = 0 from HZ.out)]; rfl, rfl⟩
    · have h1 : 0 < t.size := by omega
      by_cases hx : t[0] = 48
      · have HX := hide hx
        have hxt : ((t[0].toNat : Int) == 48) = true := by rw [hx]; rfl
        clear hx
        go_wp2
        go_round
        case rel => exact ⟨_, rfl, by unfold Hid; rw [ht.out, toList_drop1, drop_yes HX.out], by simp; omega⟩
        case measure => simp; omega
      · have HX := hide hx
        have hxt : ((t[0].toNat : Int) == 48) = false := by
          rw [beq_eq_false_iff_ne]
          intro e
          exact hx (UInt8.toNat_inj.1 (by simpa using (show t[0].toNat = 48 by omega)))
        clear hx
        go_wp2
        go_ret
        exact ⟨t, rfl, by rw [ht.out, drop_no HX.out], rfl⟩
set_option maxHeartbeats 400000 in
theorem TrimLeft_any (s : ByteArray) (w : World) :
    Calls Tryz.prog 92 #[.string s, .string ⟨#[48]⟩] w (TrimPost s.data.toList w) := by
  by_cases h0 : s.size = 0
  · have hl : s.toList = [] := by rw [Lib.toList_data]; exact List.eq_nil_of_length_eq_zero h0
    have HL : Hid (s.data.toList = []) := List.eq_nil_of_length_eq_zero h0
    clear h0
    go_enter Tryz.func92, Tryz.ntmps92
    go_wp2
    go_ret
    exact ⟨s, rfl, by rw [HL.out]; rfl, rfl⟩
  · have hl : s.toList.isEmpty = false := by
      rw [Lib.toList_data]
      cases h : s.data.toList with
      | nil => exact absurd (show s.size = 0 by rw [size_list, h]; rfl) h0
      | cons a l => rfl
    clear h0
    go_enter Tryz.func92, Tryz.ntmps92
    go_wp2_with (first | (go_at_call 108; go_must (refine (trimByte_any s _).mono ?_); rintro e w' ⟨t, rfl, ht, rfl⟩))
    go_ret
    exact ⟨t, rfl, ht, rfl⟩
/-- Is it a digit? -/
def isDig (c : UInt8) : Bool := decide (48 ≤ c.toNat) && decide (c.toNat ≤ 57)
/-- One or more digits. -/
def digB (l : List UInt8) : Bool := !l.isEmpty && l.all isDig
def numL (l : List UInt8) : Nat := l.foldl (fun a c => a * 10 + (c.toNat - 48)) 0
theorem numL_snoc (l : List UInt8) (c : UInt8) : numL (l ++ [c]) = numL l * 10 + (c.toNat - 48) := by simp [numL]
theorem take_snoc {s : ByteArray} {k : Nat} (h : k < s.size) : s.data.toList.take (k + 1) = s.data.toList.take k ++ [s[k]] := by
  rw [List.take_succ_eq_append_getElem (by simpa using h)]; rfl
theorem bool_ret {a b : Bool} (h : a = b) : Ending.returned (.bool a) = .returned (.bool b) := by rw [h]
theorem dig_iff (c : UInt8) : isDig c = true ↔ 48 ≤ (c.toNat : Int) ∧ (c.toNat : Int) ≤ 57 := by unfold isDig; simp; omega
/-- The digits' numbers, the least significant first. -/
def dvs (l : List UInt8) : List Nat := l.reverse.map fun c => c.toNat - 48
theorem fold_val (l : List UInt8) : ∀ a : Nat, l.foldl (fun a c => a * 10 + (c.toNat - 48)) a = a * 10 ^ l.length + val 10 (dvs l) := by
  induction l with
  | nil => intro a; simp [dvs, val]
  | cons c l ih =>
    intro a
    rw [List.foldl_cons, ih]
    unfold dvs
    rw [List.reverse_cons, List.map_append, val_append, List.length_cons, Nat.pow_succ]
    simp only [List.map_cons, List.map_nil, val, List.length_map, List.length_reverse, Nat.mul_zero, Nat.add_zero]
    rw [Nat.add_mul, Nat.mul_assoc, Nat.mul_comm 10, Nat.mul_comm (10 ^ l.length) (c.toNat - 48)]
    omega
theorem numL_val (l : List UInt8) : numL l = val 10 (dvs l) := by unfold numL; rw [fold_val]; simp
theorem dvs_len (l : List UInt8) : (dvs l).length = l.length := by simp [dvs]
theorem dvs_lt {l : List UInt8} (h : l.all isDig = true) : ∀ x ∈ dvs l, x < 10 := by
  intro x hx
  unfold dvs at hx
  obtain ⟨c, hc, rfl⟩ := List.mem_map.1 hx
  have := (dig_iff c).1 (List.all_eq_true.1 h c (List.mem_reverse.1 hc))
  omega
theorem numL_lt (l : List UInt8) (h : l.all isDig = true) : numL l < 10 ^ l.length := by
  rw [numL_val, ← dvs_len]
  exact val_lt _ (dvs_lt h)
end Go.Proofs.YtmiklffjffdkgaaGreatDoor
end

section
/- Parse. Conditions: at most 100000 letters. -/
open Go.RowKit
set_option maxRecDepth 100000
namespace Go.Proofs.YtmiklffjffdkgaaGreatDoor
/-- What Parse leaves. -/
def ParsePost (w : World) (l : List UInt8) (e : Ending) (w' : World) : Prop :=
  if digB l = true then ∃ A c, e = .returned (.tuple #[.agg #[.slice A (dl (numL l)) c], .bool true]) ∧ Can w' w'.heap.size A c (numL l) ∧ Below w.heap.size w w'
  else e = .returned (.tuple #[.agg #[.slice none 0 0], .bool false]) ∧ Below w.heap.size w w'
theorem numL_drop (l : List UInt8) : numL (l.dropWhile (· == 48)) = numL l := by
  induction l with
  | nil => rfl
  | cons c l ih =>
    by_cases h : c = 48
    · subst h
      rw [show (48 :: l).dropWhile (· == (48 : UInt8)) = l.dropWhile (· == 48) from rfl, ih]
      rfl
    · rw [List.dropWhile_cons, if_neg (by simpa using h)]
theorem all_drop {l : List UInt8} (h : l.all isDig = true) : (l.dropWhile (· == 48)).all isDig = true := by
  rw [List.all_eq_true] at *
  exact fun c hc => h c ((List.dropWhile_sublist _).subset hc)
theorem len_drop (l : List UInt8) : (l.dropWhile (· == 48)).length ≤ l.length := (List.dropWhile_sublist _).length_le
theorem numL_append (l m : List UInt8) : numL (l ++ m) = numL l * 10 ^ m.length + numL m := by
  rw [show numL (l ++ m) = m.foldl (fun a c => a * 10 + (c.toNat - 48)) (numL l) by unfold numL; rw [List.foldl_append], fold_val, ← numL_val]
theorem own_made (w : World) (base cap : Nat) (hb : base ≤ w.heap.size) (hm : cap ≤ 1000000) : ∀ cur : Array Value, cur.size = cap → OwnG (w.alloc (.cells cur 92)) base w.heap.size cap [] := fun cur hs =>
  World.ownsRow_made w cur cap hb (by simp only [maxLen]; omega) (by omega)
theorem dl_le {m k : Nat} (h : m < W32 ^ k) : dl m ≤ k := by
  rcases Nat.eq_zero_or_pos m with rfl | h0
  · unfold dl; rw [digs_zero]; simp
  · have h1 := pow_le_of_digs (b := W32) (by decide) h0
    have h2 : W32 ^ (dl m - 1) < W32 ^ k := Nat.lt_of_le_of_lt h1 h
    have h3 := (Nat.pow_lt_pow_iff_right (a := W32) (by decide)).1 h2
    omega
end Go.Proofs.YtmiklffjffdkgaaGreatDoor
end

section
/- slices.Reverse over bytes of the call's own. Conditions: at most 10000000 of them. -/
open Go.RowKit
set_option maxRecDepth 100000
namespace Go.Proofs.YtmiklffjffdkgaaGreatDoor
def RevPost (w : World) (base g cap : Nat) (xs : List Nat) (e : Ending) (w' : World) : Prop := e = .returned (.tuple #[]) ∧ OwnF U8 5 w' base g cap xs.reverse ∧ w.grownBy w' (some g)
set_option maxHeartbeats 1000000 in
theorem Reverse_any {base g cap n : Nat} {xs : List Nat} {w : World} (hn : n = xs.length) (h : OwnF U8 5 w base g cap xs) (hl : n ≤ 10000000) :
    Calls Tryz.prog 91 #[.slice (some ⟨g, 0, none⟩) n cap] w (RevPost w base g cap xs) := by
  have HN := hide hn
  have H := hide h
  clear hn h
  go_enter Tryz.func91, Tryz.ntmps91
  go_wp2
  go_loopw [2, 3] (fun iv jv wr => ∃ k j : Nat, ∃ cur : List Nat, k ≤ j ∧ j + k ≤ n ∧ n ≤ j + k ∧ iv = .int .i64 (k : Int) ∧ jv = .int .i64 ((j : Int) - 1) ∧ Hid (cur.length = n) ∧
      Hid (∀ x, x < n → cur[x]? = if x < k ∨ j ≤ x then xs[n - 1 - x]? else xs[x]?) ∧ Hid (OwnF U8 5 wr base g cap cur) ∧ Hid (w.grownBy wr (some g)))
    (fun _ jv _ => (intOf jv + 1).toNat)
  case atStart => exact ⟨0, n, xs, Nat.zero_le _, by omega, by omega, rfl, rfl, HN.out.symm, fun x hx => by rw [if_neg (by omega)], H, World.grownBy.refl _ _⟩
  case round =>
    obtain ⟨k, j, cur, hkj, hjk, hjk', rfl, rfl, hcl, hcur, hown, hgr⟩ := hrel
    by_cases hlt : k + 1 < j
    · obtain ⟨i, rfl⟩ : ∃ i, j = i + 1 := ⟨j - 1, by omega⟩
      have hkc : k < cur.length := by rw [hcl.out]; omega
      have hic : i < cur.length := by rw [hcl.out]; omega
      obtain ⟨a, ha⟩ : ∃ a, a = cur[k] := ⟨_, rfl⟩
      obtain ⟨b, hb⟩ : ∃ b, b = cur[i] := ⟨_, rfl⟩
      have hca : wr.cell? ⟨g, k, none⟩ = some (.int .u8 (a : Int)) := hown.out.cell (by rw [ha]; exact List.getElem?_eq_getElem hkc)
      have hcb : wr.cell? ⟨g, i, none⟩ = some (.int .u8 (b : Int)) := hown.out.cell (by rw [hb]; exact List.getElem?_eq_getElem hic)
      have hfa := hown.out.frozen k
      have hfb := hown.out.frozen i
      have hown1 : OwnF U8 5 (wr.setCell ⟨g, k, none⟩ (.int .u8 (b : Int))) base g cap (cur.set k b) := hown.out.set_ k b
      have hown2 : OwnF U8 5 (((wr.setCell ⟨g, k, none⟩ (.int .u8 (b : Int))).setCell ⟨g, i, none⟩ (.int .u8 (a : Int))).drew) base g cap ((cur.set k b).set i a) := hown1.set_ i a
      have hgr2 : w.grownBy (((wr.setCell ⟨g, k, none⟩ (.int .u8 (b : Int))).setCell ⟨g, i, none⟩ (.int .u8 (a : Int))).drew) (some g) := grown_drewN (grown_set (grown_set hgr.out _ _) _ _) 1
      have hnew : ∀ x, x < n → ((cur.set k b).set i a)[x]? = if x < k + 1 ∨ i ≤ x then xs[n - 1 - x]? else xs[x]? := by
        intro x hx
        have hkx := hcur.out k (by omega)
        have hix := hcur.out i (by omega)
        rw [if_neg (by omega), List.getElem?_eq_getElem hkc, ← ha] at hkx
        rw [if_neg (by omega), List.getElem?_eq_getElem hic, ← hb] at hix
        by_cases hxi : x = i
        · subst hxi
          rw [List.getElem?_set_self (by rw [List.length_set]; exact hic), if_pos (by omega), hkx]; congr 1; omega
        · rw [List.getElem?_set_ne (by omega)]
          by_cases hxk : x = k
          · subst hxk
            rw [List.getElem?_set_self hkc, if_pos (by omega), hix]; congr 1; omega
          · rw [List.getElem?_set_ne (by omega), hcur.out x hx]
            by_cases h3 : x < k ∨ i + 1 ≤ x
            · rw [if_pos h3, if_pos (by omega)]
            · rw [if_neg h3, if_neg (by omega)]
      have HNEW := hide hnew
      have HO2 := hide hown2
      have HG2 := hide hgr2
      clear ha hb hkc hic hown1 hown2 hgr2 hnew
      go_wp2_with fail
      go_region
      go_wp2
      go_roundw
      case rel => exact ⟨k + 1, i, (cur.set k b).set i a, by omega, by omega, by omega, by go_num, by first | rfl | (congr 1; omega), by unfold Hid; rw [List.length_set, List.length_set]; exact hcl.out, HNEW.out, HO2, HG2⟩
      case measure => simp [intOf]
    · have HE : Hid (cur = xs.reverse) := by
        unfold Hid
        apply List.ext_getElem?
        intro x
        rcases Nat.lt_or_ge x n with hx | hx
        · rw [hcur.out x hx, List.getElem?_reverse (by rw [← HN.out]; exact hx), ← HN.out]
          split
          · rfl
          · congr 1; omega
        · rw [List.getElem?_eq_none (by rw [hcl.out]; exact hx), List.getElem?_eq_none (by rw [List.length_reverse, ← HN.out]; exact hx)]
      go_wp2
      go_end0
      exact ⟨rfl, by rw [← HE.out]; exact hown.out, hgr.out⟩
end Go.Proofs.YtmiklffjffdkgaaGreatDoor
end

section
/- Text. Conditions: at most 100000 words. -/
open Go.RowKit
set_option maxRecDepth 100000
namespace Go.Proofs.YtmiklffjffdkgaaGreatDoor
/-- The letters of a number in base ten. -/
def decL (m : Nat) : List UInt8 := if m = 0 then [48] else (digs 10 m).reverse.map fun d => UInt8.ofNat (48 + d)
def TextPost (w : World) (m : Nat) (e : Ending) (w' : World) : Prop := ∃ t : ByteArray, e = .returned (.string t) ∧ t.data.toList = decL m ∧ Below w.heap.size w w'
def letter (d : Nat) : UInt8 := UInt8.ofNat (48 + d)
theorem letter_toNat {d : Nat} (h : d < 10) : (letter d).toNat = 48 + d := by unfold letter; rw [UInt8.toNat_ofNat']; omega
theorem letter_ne {d : Nat} (h : d < 10) (h0 : d ≠ 0) : (letter d == 48) = false := by
  rw [beq_eq_false_iff_ne]
  intro e
  have h1 := letter_toNat h
  rw [e] at h1
  have : (48 : UInt8).toNat = 48 := rfl
  omega
theorem drop_rep (k : Nat) (l : List UInt8) : (List.replicate k 48 ++ l).dropWhile (· == 48) = l.dropWhile (· == 48) := by
  induction k with
  | zero => rfl
  | succ k ih => rw [List.replicate_succ, List.cons_append]; exact ih
theorem text_end {dd : List Nat} {m : Nat} (hd : ∀ d ∈ dd, d < 10) (hv : val 10 dd = m) (hm : 0 < m) : ((dd.map letter).reverse).dropWhile (· == 48) = decL m := by
  obtain ⟨k, hk⟩ := exists_zeros (b := 10) (by omega) dd hd
  rw [hv] at hk
  have e : (dd.map letter).reverse = List.replicate k 48 ++ ((digs 10 m).reverse.map letter) := by
    rw [hk, List.map_append, List.reverse_append, List.map_replicate, List.reverse_replicate, ← List.map_reverse]; rfl
  rw [e, drop_rep]
  unfold decL
  rw [if_neg (by omega)]
  show ((digs 10 m).reverse.map letter).dropWhile (· == 48) = (digs 10 m).reverse.map letter
  cases hr : (digs 10 m).reverse with
  | nil => rfl
  | cons a l =>
    have h1 : (digs 10 m).getLast? = some a := by
      have : digs 10 m = (a :: l).reverse := by rw [← hr, List.reverse_reverse]
      rw [this, List.getLast?_reverse]; rfl
    have h2 := digs_last (b := 10) (by omega) m a h1
    have h3 : a < 10 := digs_lt (b := 10) (by omega) m a (List.mem_of_getLast? h1)
    rw [List.map_cons, List.dropWhile_cons, letter_ne h3 h2]; rfl
theorem text_conv {w : World} {base g cap n : Nat} {bs : List Nat} (h : OwnF U8 5 w base g cap bs) (hb : ∀ b ∈ bs, b < 256) (hn : n = bs.length) :
    (convert 127 9 (.slice (some ⟨g, 0, none⟩) n cap)).run Tryz.prog w = .ok (.string ⟨(bs.map UInt8.ofNat).toArray⟩) w := by
  subst hn
  have h1 := run_convert_bytes_back (P := Tryz.prog) w 127 9 5 ⟨g, 0, none⟩ cap (bs.map UInt8.ofNat) Tryz.underlying127 Tryz.underlying5 Tryz.underlying9 (fun j hj => by
    have hj' : j < bs.length := by simpa using hj
    have h2 := h.cell (List.getElem?_eq_getElem hj')
    have e : (⟨g, 0, none⟩ : Addr).add j = ⟨g, j, none⟩ := by unfold Addr.add; split <;> simp_all
    rw [e, h2]
    have h3 := hb _ (List.getElem_mem hj')
    simp [U8, List.getElem_map, UInt8.toNat_ofNat']
    omega)
  rwa [List.length_map] at h1
/-- Digits as the cells of letters. -/
def UD (d : Nat) : Value := .int .u8 ((48 + d : Nat) : Int)
def NewZero (w : World) (m : Nat) (e : Ending) (w' : World) : Prop := ∃ g, e = .returned (.slice (some ⟨g, 0, none⟩) 0 0) ∧ Hid (w.heap.size ≤ g) ∧ Hid (Blk U32 92 w' g (digs W32 m)) ∧ Hid (Below w.heap.size w w')
theorem fresh_zero {A : Option Addr} {m c : Nat} {w : World} (h : Rd U32 w w.heap.size A (digs W32 m)) (h0 : dl m = 0) : Calls Tryz.prog 89 #[.slice A 0 c] w (NewZero w m) := by
  have h1 := fresh_can (c := c) h (by omega)
  rw [h0] at h1
  exact h1.mono fun _ _ ⟨g, h2, h3⟩ => ⟨g, by rw [h2, h0], h3⟩
theorem text_trim {g k c : Nat} {L q : List Nat} {w : World} (hk : k ≤ c) (hq1 : Hid (q.length = k)) (hq2 : Hid (Good32 q)) (hq4 : Hid (Blk U32 92 w g (q ++ L.drop k))) (hc : c ≤ 1000000) :
    Hid (Calls Tryz.prog 75 #[.slice (some ⟨g, 0, none⟩) k c] w fun e w' => e = .returned (.slice (some ⟨g, 0, none⟩) (dl (val W32 q)) c) ∧ w = w') := by
  have h1 := hq4.out.rd hq4.out.lt 0 k
  rw [List.drop_zero, List.take_append_of_le_length (by rw [hq1.out]; exact Nat.le_refl _), List.take_of_length_le (by rw [hq1.out]; exact Nat.le_refl _)] at h1
  have h2 := trim_any _ q c w w.heap.size h1 hq2.out (by rw [hq1.out]; omega) (by rw [hq1.out]; exact hk)
  rw [hq1.out] at h2
  exact h2
theorem text_app {w wr w1 : World} {g n : Nat} {dv : Value} {xs : List Value} {B : List Nat} {o : Obj} (hown : wr.ownsRow (g + 1) 5 1 dv n xs) (hblk : Blk U32 92 wr g B) (hbel : Below w.heap.size w wr) (hg : w.heap.size ≤ g)
    (hgrow : (wr.alloc o).grownBy w1 dv.ownBlock) : Hid (Blk U32 92 w1 g B) ∧ Hid (Below w.heap.size w w1) := by
  have h1 : ∀ k, dv.ownBlock = some k → g + 1 ≤ k := fun k hk => (hown.lt k hk).1
  have h2 := hblk.lt
  refine ⟨(hblk.alloc o).grown hgrow (fun e => by have := h1 g e.symm; omega), (hbel.alloc (by omega) _).grown hgrow (by simp; omega) (fun k hk => by have := h1 k hk; omega)⟩
theorem map_snoc (dd : List Nat) (d : Nat) : dd.map UD ++ [UD d] = (dd ++ [d]).map UD := by simp
set_option maxHeartbeats 2000000 in
theorem Text_any {A : Option Addr} {n c m : Nat} {w : World} (h : Arg w w.heap.size A n c m) : Calls Tryz.prog 58 #[.agg #[.slice A n c]] w (TextPost w m) := by
  have H : Hid (∀ o, Arg (w.alloc o) w.heap.size A n c m) := fun o => h.below ((Below.refl _ _).alloc (Nat.le_refl _) _)
  have HX : Hid (∀ o, Rd U32 (w.alloc o) (w.alloc o).heap.size A (digs W32 m)) := fun o => (h.digs.1.below ((Below.refl _ _).alloc (Nat.le_refl _) _)).2.more (by simp)
  have hl : dl m ≤ 100000 := by have := h.digs.2; obtain ⟨_, _, _, h3, _⟩ := h; omega
  clear h
  by_cases h0 : dl m = 0
  · have HM0 : Hid (m = 0) := (digs_len_pos (by decide)).1 h0
    go_enter Tryz.func58, Tryz.ntmps58
    go_wp2_with (first | (go_at_call 75; go_must (refine (trim_arg (H.out _)).mono ?_); rintro e w2 ⟨rfl, rfl⟩) | (go_at_call 89; go_must (refine (fresh_zero (HX.out _) h0).mono ?_); rintro e w1 ⟨g, rfl, HGE, HBLK, HBEL⟩))
    go_ret
    exact ⟨⟨#[48]⟩, rfl, by rw [HM0.out]; rfl, ((Below.refl _ _).alloc (Nat.le_refl _) _).trans (HBEL.out.mono (by simp))⟩
  · obtain ⟨i0, hi0, hz0, hz1, hz2⟩ := info_parts Tryz.infoU8
    have I0 := hide hi0
    have Z0 := hide hz0
    have Z1 := hide hz1
    have Z2 := hide hz2
    clear hi0 hz0 hz1 hz2
    have hp : 0 < dl m := by omega
    have hdz : (((dl m : Nat) : Int) == 0) = false := by rw [beq_eq_false_iff_ne]; omega
    have HM : Hid (0 < m) := by
      unfold Hid
      rcases Nat.eq_zero_or_pos m with rfl | h1
      · exact absurd (by unfold dl; rw [digs_zero]; rfl) h0
      · exact h1
    clear h0
    go_enter Tryz.func58, Tryz.ntmps58
    go_wp2_with (first | (go_at_call 75; go_must (refine (trim_arg (H.out _)).mono ?_); rintro e w2 ⟨rfl, rfl⟩) | (go_at_call 89; go_must (refine (fresh_can (HX.out _) (by omega)).mono ?_); rintro e w1 ⟨g, rfl, HGE, HBLK, HBEL⟩))
    have HW1 : Hid (Below w.heap.size w w1) := ((Below.refl _ _).alloc (Nat.le_refl _) _).trans (HBEL.out.mono (by simp))
    have hgw : w.heap.size + 1 ≤ g := by have := HGE.out; simpa using this
    clear HBEL HGE H HX
    have hp' : ¬ dl m = 0 := by omega
    have HLEN : Hid (dl m = (digs W32 m).length) := rfl
    go_loopg [3, 4, 5] m (fun K lv dv gv wr => ∃ (v : Nat) (L dd : List Nat), v ≤ K ∧ lv = .slice (some ⟨g, 0, none⟩) (dl v) (dl m) ∧ dl v ≤ dl m ∧ Hid (L.length = dl m) ∧ Hid (Good32 L) ∧ Hid (L.take (dl v) = digs W32 v) ∧ Hid (Blk U32 92 wr g L) ∧
        Hid (wr.ownsRow (g + 1) 5 1 dv dd.length (dd.map UD)) ∧ Hid (∀ d ∈ dd, d < 10) ∧ Hid (val 10 dd + 10 ^ dd.length * v = m) ∧ dd.length ≤ 10 * dl m + 9 ∧ Hid (Below w.heap.size w wr))
    case atStart => exact ⟨m, digs W32 m, [], Nat.le_refl _, rfl, Nat.le_refl _, rfl, good_digs m, List.take_of_length_le (Nat.le_refl _), HBLK, World.ownsRow_nil _ _ _ _, by intro d hd; simp at hd, by simp [Hid, val], by simp, HW1⟩
    case round =>
      obtain ⟨v, L, dd, hvk, rfl, hdl, hLl, hLg, hLt, hblk, hown, hdd, hnum, hlen, hbel⟩ := hrel
      by_cases hv0 : dl v = 0
      · have HV0 : Hid (v = 0) := (digs_len_pos (by decide)).1 hv0
        have HNE : Hid (val 10 dd = m) := by have h1 := hnum.out; rw [HV0.out] at h1; simpa [Hid] using h1
        have hvz : ¬ 0 < dl v := by omega
        have hown2 := hown.out
        rcases hown2.2 with ⟨_, hz⟩ | ⟨g2, cap, cur, rfl, _⟩
        · have := HNE.out
          rw [List.eq_nil_of_length_eq_zero hz] at this
          have := HM.out
          simp [val] at *; omega
        · have HOF : Hid (OwnF U8 5 wr (g + 1) g2 cap (dd.map (48 + ·))) := by
            unfold Hid OwnF
            rw [List.length_map, List.map_map]
            exact hown2
          have HLD : Hid (dd.length = (dd.map (48 + ·)).length) := by simp [Hid]
          have H256 : Hid (∀ b ∈ (dd.map (48 + ·)).reverse, b < 256) := by
            intro b hb
            obtain ⟨d, hd, rfl⟩ := List.mem_map.1 (List.mem_reverse.1 hb)
            have := hdd.out d hd; omega
          obtain ⟨s, hs⟩ : ∃ s : ByteArray, s = ⟨(((dd.map (48 + ·)).reverse).map UInt8.ofNat).toArray⟩ := ⟨_, rfl⟩
          have HS : Hid (s.data.toList.dropWhile (· == 48) = decL m) := by
            unfold Hid
            rw [hs, ← text_end hdd.out HNE.out HM.out]
            show ((((dd.map (48 + ·)).reverse).map UInt8.ofNat)).dropWhile _ = _
            rw [List.map_reverse, List.map_map]; rfl
          have hcvs : ∀ w3, OwnF U8 5 w3 (g + 1) g2 cap (dd.map (48 + ·)).reverse → (convert 127 9 (.slice (some ⟨g2, 0, none⟩) dd.length cap)).run Tryz.prog w3 = .ok (.string s) w3 := fun w3 h3 => by
            rw [hs]; exact text_conv h3 H256.out (by simp)
          have HCV := hide hcvs
          clear hown2 hv0 hs hcvs
          go_wp2_with (first | (go_at_call 91; go_must (refine (Reverse_any HLD.out HOF.out (by omega)).mono ?_); rintro e w3 ⟨rfl, ho3, hg3⟩; have HG3 := hide hg3; have hcv := HCV.out w3 ho3; clear hg3 ho3) | (go_at_call 92; go_must (refine (TrimLeft_any s _).mono ?_); rintro e w' ⟨t, rfl, ht, rfl⟩; have HT := hide ht; clear ht))
          go_ret
          exact ⟨t, rfl, by rw [HT.out, HS.out], hbel.out.trans (grown_below HG3.out (by have := HOF.out.ge.1; omega) HOF.out.ge.2)⟩
      · have hvp : 0 < dl v := by omega
        have HVP : Hid (0 < v) := by
          unfold Hid
          rcases Nat.eq_zero_or_pos v with rfl | h1
          · exact absurd (by unfold dl; rw [digs_zero]; rfl) hv0
          · exact h1
        have hlen2 : dd.length < 10 * dl m := by
          have h1 : 10 ^ dd.length ≤ m := by
            rw [← hnum.out]
            exact Nat.le_trans (Nat.le_mul_of_pos_right _ HVP.out) (Nat.le_add_left _ _)
          have h2 : m < W32 ^ dl m := lt_pow_digs (b := W32) (by decide) m
          have h3 : W32 ^ dl m ≤ (10 ^ 10) ^ dl m := Nat.pow_le_pow_left (by decide) _
          rw [← Nat.pow_mul] at h3
          exact (Nat.pow_lt_pow_iff_right (a := 10) (by omega)).1 (by omega)
        clear hv0
        go_wp2_with (first | (go_at_call 90; go_must (refine (divideByWord_any (d := 1000000000) hblk.out (by rw [hLl.out]; exact hdl) hLg.out (by omega) (by omega) (by omega)).mono ?_); rintro e w2 ⟨q, rest, rfl, hq1, hq2, hrest, hq3, hq4, hq5⟩; have HQ5 := hide hq5; clear hq5; have CT := text_trim hdl hq1 hq2 hq4 (by omega)) | (go_at_call 75; go_must (refine CT.out.mono ?_); rintro e w3 ⟨rfl, rfl⟩))
        obtain ⟨v', hv'⟩ : ∃ v', v' = val W32 q := ⟨_, rfl⟩
        rw [← hv']
        have HV' := hide hv'
        have HEQ : Hid (v = v' * 1000000000 + rest) := by
          have h1 := hq3.out
          rw [hLt.out, val_digs32, ← hv'] at h1
          exact h1
        have HB2 : Hid (Below w.heap.size w w2) := hbel.out.trans (grown_below HQ5.out (by omega) hblk.out.lt)
        have HO2 : Hid (w2.ownsRow (g + 1) 5 1 u4 dd.length (dd.map UD)) := hown.out.kept HQ5.out (by
          rcases hv : u4.ownBlock with _ | k
          · exact .inl rfl
          · refine .inr (fun e => ?_)
            have := (hown.out.lt k hv).1
            injection e with e; omega)
        have hr9 : rest ≤ 999999999 := by omega
        clear hv' hown hbel hblk
        go_loopw [4, 5, 20] (fun dv gv jv wr => ∃ (j gr : Nat) (de : List Nat), j ≤ 9 ∧ gr ≤ 999999999 ∧ Hid (gr < 10 ^ (9 - j)) ∧ gv = .int .u32 (gr : Int) ∧ jv = .int .i64 (j : Int) ∧ Hid (de.length = dd.length + j) ∧ Hid (wr.ownsRow (g + 1) 5 1 dv de.length (de.map UD)) ∧ Hid (∀ d ∈ de, d < 10) ∧
            Hid (val 10 de + 10 ^ de.length * (gr + 10 ^ (9 - j) * v') = m) ∧ Hid (Blk U32 92 wr g (q ++ L.drop (dl v))) ∧ Hid (Below w.heap.size w wr))
          (fun _ _ jv _ => 9 - (intOf jv).toNat)
        case atStart => exact ⟨0, rest, dd, by omega, hr9, hrest, rfl, rfl, rfl, HO2, hdd, by have h1 := hnum.out; rw [HEQ.out] at h1; rw [← h1]; unfold Hid; congr 2; omega, hq4, HB2⟩
        case round =>
          obtain ⟨j, gr, de, hj, hgr, hgl, rfl, rfl, hdl2, hown, hdd2, hnum2, hblk, hbel⟩ := hrel
          by_cases hlt : j < 9
          · have HBE : Hid (g + 1 ≤ (wr.alloc (.cells #[.int .u8 (48 + (gr : Int) % 10)] 5)).heap.size) := by have := hblk.out.lt; simp [Hid]; omega
            have hde : de.length ≤ 2000000 := by rw [hdl2.out]; omega
            have h63 : de.length + 1 ≤ maxLen := by simp only [maxLen]; omega
            have H63 := hide h63
            clear h63
            go_wp2_with (first | (at_builtin; go_must (refine wpList_append_own _ rfl (.tmp 22) (.tmp 27) 127 rfl (g + 1) 5 i0 (.int .u8 0) 1 1 Tryz.underlying127 I0.out Z0.out Z1.out Z2.out rfl (by decide) _ _ _ rfl (hown.out.alloc _) ⟨wr.heap.size, 0, none⟩ 1 1 [.int .u8 (48 + (gr : Int) % 10)] rfl rfl (cell_one_new _ _ _) (by intro u hu; simp at hu; subst hu; rfl) H63.out (by omega) HBE.out ?_; intro v2 w3 hown' hgrow hnil)))
            obtain ⟨hbk2, hbe2⟩ := text_app hown.out hblk.out hbel.out (by omega) hgrow
            go_roundw
            case rel =>
              refine ⟨j + 1, gr / 10, de ++ [gr % 10], by omega, by omega, ?_, rfl, by go_num, by unfold Hid; rw [List.length_append, hdl2.out]; rfl, ?_, ?_, ?_, hbk2, hbe2⟩
              · unfold Hid
                have h1 := hgl.out
                rw [show 9 - j = (9 - (j + 1)) + 1 by omega, Nat.pow_succ] at h1
                exact (Nat.div_lt_iff_lt_mul (by omega)).2 h1
              · unfold Hid
                rw [List.length_append, ← map_snoc]
                exact hown'
              · intro d hd
                rcases List.mem_append.1 hd with hd | hd
                · exact hdd2.out d hd
                · simp at hd; omega
              · unfold Hid
                rw [val_snoc, List.length_append, List.length_singleton, Nat.pow_succ]
                refine digit_math ?_
                have h1 := hnum2.out
                rw [show 9 - j = (9 - (j + 1)) + 1 by omega, Nat.pow_succ, Nat.mul_comm (10 ^ (9 - (j + 1))) 10] at h1
                exact h1
            case measure => simp [intOf]; omega
          · obtain rfl : j = 9 := by omega
            have HG0 : Hid (gr = 0) := by have := hgl.out; unfold Hid; simpa using this
            have HN2 : Hid (val 10 de + 10 ^ de.length * v' = m) := by
              have h1 := hnum2.out
              rw [HG0.out] at h1
              simpa [Hid] using h1
            have HVL : Hid (v' < v) := by have := HEQ.out; have := HVP.out; unfold Hid; omega
            have HDV : Hid (dl v' ≤ dl v) := digs_len_mono (by decide) (Nat.le_of_lt HVL.out)
            go_wp2
            go_roundg v'
            case measure => have := HVL.out; omega
            case rel =>
              refine ⟨v', q ++ L.drop (dl v), de, Nat.le_refl _, rfl, Nat.le_trans HDV.out hdl, ?_, good_app hq2.out (good_drop hLg.out _), ?_, hblk, hown, hdd2, HN2, by rw [hdl2.out]; omega, hbel⟩
              · unfold Hid
                rw [List.length_append, hq1.out, List.length_drop, hLl.out]; omega
              · unfold Hid
                have h1 := digs_take (b := W32) (by decide) q hq2.out
                rw [← HV'.out] at h1
                rw [List.take_append_of_le_length (by rw [hq1.out]; exact HDV.out)]
                exact h1
end Go.Proofs.YtmiklffjffdkgaaGreatDoor
end

section
/- Words for 'is': validity of a number's own words, comparing with 0. No conditions. -/
open Go.RowKit
set_option maxRecDepth 100000
namespace Go.Proofs.YtmiklffjffdkgaaGreatDoor
theorem goodB_digs (m : Nat) : goodB (digs W32 m) = true := by
  unfold goodB
  rw [bne_iff_ne]
  intro h
  exact digs_last (b := W32) (by decide) m 0 h rfl
theorem cmpI_beq (m n : Nat) : (cmpI m n == 0) = decide (m = n) := by
  rcases Nat.lt_trichotomy m n with h | h | h
  · rw [cmpI_lt h, decide_eq_false (by omega)]; rfl
  · rw [cmpI_eq h, decide_eq_true h]; rfl
  · rw [cmpI_gt h, decide_eq_false (by omega)]; rfl
theorem chain {w a b : World} (h : Hid (Below w.heap.size w a)) (hb : Below a.heap.size a b) : Hid (Below w.heap.size w b) := h.out.trans (hb.mono h.out.size)
end Go.Proofs.YtmiklffjffdkgaaGreatDoor
end
