/- divideLong: the quotient's words and the rest's. Conditions: at most 100000 words, a divisor of two words or more, not greater than what is divided. -/
import Derived.Test.YtlmfkeicmldcnaaDoorDst
import Derived.Test.YtlmfkeicmldcnaaDoorLdn
open Go.RowKit
set_option maxRecDepth 100000
namespace Go.Proofs.YtlmfkeicmldcnaaDoor
def LongPost (w : World) (m m' : Nat) (e : Ending) (w' : World) : Prop :=
  ∃ (gq gr nq nr : Nat) (Q R : List Nat), e = .returned (.tuple #[.slice (some ⟨gq, 0, none⟩) nq nq, .slice (some ⟨gr, 0, none⟩) nr nr]) ∧ Hid (Blk U32 30 w' gq Q) ∧ Hid (nq = Q.length ∧ Good32 Q ∧ nq ≤ 100000 ∧ val W32 Q = m / m') ∧
    Hid (Blk U32 30 w' gr R) ∧ Hid (nr = R.length ∧ Good32 R ∧ nr ≤ 100000 ∧ val W32 R = m % m') ∧ Hid (w.heap.size ≤ gq ∧ w.heap.size ≤ gr) ∧ Hid (Below w.heap.size w w')
/-- What the loop keeps. -/
structure LongInv (X V n z j g2 g3 : Nat) (wb wr : World) (l H : List Nat) : Prop where
  ll : l.length = n + z + 1
  lg : Good32 l
  hl : H.length = z + 1 - j
  hg : Good32 H
  hx : X = V * (W32 ^ j * val W32 H) + val W32 (l.take (n + j))
  hv : val W32 (l.take (n + j)) < V * W32 ^ j
  b2 : Blk U32 30 wr g2 l
  b3 : Blk U32 30 wr g3 (List.replicate j 0 ++ H)
  bl : Below g2 wb wr
theorem long_zero {X V n z : Nat} {L : List Nat} (hl : L.length = n + z + 1) (hv : val W32 L = X) (hs : X < V * W32 ^ (z + 1)) :
    X = V * (W32 ^ (z + 1) * val W32 []) + val W32 (L.take (n + (z + 1))) ∧ val W32 (L.take (n + (z + 1))) < V * W32 ^ (z + 1) := by
  have e : L.take (n + (z + 1)) = L := List.take_of_length_le (by clear hs; omega)
  rw [e, hv]
  generalize W32 ^ (z + 1) = P at hs ⊢
  exact ⟨by show X = V * (P * 0) + X; rw [Nat.mul_zero, Nat.mul_zero, Nat.zero_add], hs⟩
theorem long_idx (z : Nat) : Value.int .i64 (z : Int) = Value.int .i64 (((z + 1 : Nat) : Int) - 1) := by go_num
set_option maxHeartbeats 4000000 in
theorem divideLong_any {A A' : Option Addr} {c c' m m' : Nat} {w : World} (h : Can w w.heap.size A c m) (h' : Can w w.heap.size A' c' m') (hm : m' ≤ m) (h2 : 2 ≤ dl m') (hlim : dl m ≤ 99999) :
    Calls Tryd.prog 65 #[.slice A (dl m) c, .slice A' (dl m') c'] w (LongPost w m m') := by
  have hmono : dl m' ≤ dl m := digs_len_mono (b := W32) (by decide) hm
  obtain ⟨n, hn⟩ : ∃ n, n = dl m' := ⟨_, rfl⟩
  obtain ⟨N, hN⟩ : ∃ N, N = dl m := ⟨_, rfl⟩
  obtain ⟨i1, hi1⟩ : ∃ i1, i1 + 1 = n := ⟨n - 1, by omega⟩
  obtain ⟨i2, hi2⟩ : ∃ i2, i2 + 2 = n := ⟨n - 2, by omega⟩
  obtain ⟨z, hz⟩ : ∃ z, N = n + z := ⟨N - n, by omega⟩
  obtain ⟨t, ht, ht0, htW, hlo, hhi⟩ := top_word hn.symm hi1
  obtain ⟨ad, rfl, hab, hct⟩ := h'.2.at_ (k := i1) (show i1 < (digs W32 m').length by unfold dl at hn; omega)
  replace hct : w.cell? (ad.add i1) = some (.int .u32 (t : Int)) := by
    have e := List.getElem?_eq_getElem (show i1 < (digs W32 m').length by unfold dl at hn; omega)
    rw [ht] at e
    injection e with e
    rw [e]; exact hct
  have R1 := hide h'.2
  have R2 := hide h.2
  have C1 := hide h'.1
  rw [← hn] at C1
  rw [← hn] at h2
  rw [← hN] at hlim hmono ⊢
  rw [← hn] at hmono ⊢
  have CZ := hide (fun W => LeadingZeros32_any W ht0 htW)
  have CL1 : Hid (∀ s : Nat, s ≤ 31 → Calls Tryd.prog 85 #[.slice (some ad) n c', .int .i64 (s : Int)] w (ShlPost w n s m')) := fun s hs => by
    have := shiftLeft_any (c := c') (sh := s) (show n = (digs W32 m').length from hn) R1.out (good_digs m') (by omega) hs
    rwa [val_digs32] at this
  have CL2 : Hid (∀ (W : World) (s : Nat), Below w.heap.size w W → s ≤ 31 → Calls Tryd.prog 85 #[.slice A N c, .int .i64 (s : Int)] W (ShlPost W N s m)) := fun W s hb hs => by
    have := shiftLeft_any (c := c) (sh := s) (show N = (digs W32 m).length from hN) ((R2.out.below hb).more hb.size) (good_digs m) (by omega) hs
    rwa [val_digs32] at this
  have HN := hide hn
  have HNN := hide hN
  have HZ := hide hz
  have HI1 := hide hi1
  have HI2 := hide hi2
  have HLO := hide hlo
  have HHI := hide hhi
  have HM := hide hm
  have HPW := hide (Nat.le_trans (Nat.le_mul_of_pos_left (W32 ^ i1) ht0) hlo)
  have hn1 : (n : Int) - 1 = (i1 : Int) := by omega
  have hzz : (N : Int) - (n : Int) = (z : Int) := by omega
  clear h h' hm hn hN hlo hhi ht ht0 htW hab hz
  go_enter Tryd.func65, Tryd.ntmps65
  go_wp2_with (first | (go_at_call 84; go_must (refine (CZ.out _).mono ?_); rintro e w' ⟨⟨s, rfl, hs, HS⟩, rfl⟩) | (go_at_call 85; (with_reducible refine (CL1.out s hs).mono ?_); rintro e w1 ⟨g1, L1, rfl, hg1, hb1, hl1, hgd1, hv1, hbel1⟩) | (go_at_call 85; (with_reducible refine (CL2.out w1 s hbel1.out hs).mono ?_); rintro e w2 ⟨g2, L2, rfl, hg2, hb2, hl2, hgd2, hv2, hbel2⟩) | (at_make; go_must (refine wpList_words rfl _ _ rfl (z + 1) rfl rfl (by omega) ?_; intro g3 w3 hg3 hb3 hbel3)))
  obtain ⟨V, hV⟩ : ∃ V, V = m' * 2 ^ s := ⟨_, rfl⟩
  obtain ⟨X, hX⟩ : ∃ X, X = m * 2 ^ s := ⟨_, rfl⟩
  rw [← hV] at hv1
  rw [← hX] at hv2
  have HNL := hide (norm_list (R := L1) hl1.out hgd1.out (by rw [hv1.out, hV]) HI1.out HLO.out HHI.out HS.out.1 HS.out.2 hs)
  rw [← hV] at HNL
  have HV := hide hV
  have HX := hide hX
  have hg12 : g1 < g2 := Nat.lt_of_lt_of_le hb1.out.lt hg2.out
  have hg23 : g2 < g3 := by rw [hg3.out]; exact hb2.out.lt
  have hwg : w.heap.size ≤ g1 := hg1.out
  have HB13 : Hid (Blk U32 30 w3 g1 L1) := (hb1.out.below hbel2.out hb1.out.lt).below hbel3 (Nat.lt_of_lt_of_le hb1.out.lt hbel2.out.size)
  have HB23 : Hid (Blk U32 30 w3 g2 L2) := hb2.out.below hbel3 hb2.out.lt
  have HW3 : Hid (Below w.heap.size w w3) := (hbel1.out.trans (hbel2.out.mono hbel1.out.size)).trans (hbel3.mono (Nat.le_trans hbel1.out.size hbel2.out.size))
  have HST : Hid (X < V * W32 ^ (z + 1)) := by
    unfold Hid
    have h1 : m < W32 ^ N := by rw [HNN.out]; exact lt_pow_digs (by decide) m
    have h2 := long_start (s := s) h1 HPW.out (show i1 ≤ N by have := HI1.out; omega)
    rw [← hX, ← hV, show N - i1 = z + 1 by have := HI1.out; have := HZ.out; omega] at h2
    exact h2
  have hnN : n + z ≤ N := by have := HZ.out; omega
  clear hV hX hg3 hbel3 hb1 hb2 hbel1 hbel2 hgd1 hl1 hv1 hg1 hg2
  clear hn1 hzz
  go_loopw [9] (fun iv wr => ∃ (j : Nat) (l H : List Nat), j ≤ z + 1 ∧ iv = .int .i64 ((j : Int) - 1) ∧ Hid (LongInv X V n z j g2 g3 w3 wr l H))
    (fun iv _ => (intOf iv + 1).toNat)
  case atStart =>
    obtain ⟨e1, e2⟩ := long_zero (X := X) (V := V) (n := n) (z := z) (L := L2) (by rw [hl2.out, HZ.out]) hv2.out HST.out
    have hfin : LongInv X V n z (z + 1) g2 g3 w3 w3 L2 [] := ⟨by rw [hl2.out, HZ.out], hgd2.out, by rw [Nat.sub_self]; rfl, (by intro x hx; simp at hx), e1, e2, HB23.out, by rw [List.append_nil]; exact hb3.out, Below.refl _ _⟩
    exact ⟨z + 1, L2, [], Nat.le_refl _, long_idx z, hfin⟩
  case round =>
    obtain ⟨j, l, H, hj, rfl, HI⟩ := hrel
    by_cases h0 : j = 0
    · subst h0
      have hll := HI.out.ll
      have hbR : Hid (Rd U32 wr wr.heap.size (some ⟨g2, 0, none⟩) (l.take n)) := (HI.out.b2.rd0 HI.out.b2.lt).take n
      have CR := hide (shiftRight_any (n := n) (c := N + 1) (sh := s) (show n = (l.take n).length by rw [List.length_take]; omega) hbR.out (good_take HI.out.lg n) (by omega) hs)
      clear hll
      go_wp2_with (go_at_call 87; (with_reducible refine CR.out.mono ?_); rintro e w4 ⟨g4, L4, rfl, hg4, hb4, hl4, hgd4, hv4, hbel4⟩)
      have hll := HI.out.ll
      have hx := HI.out.hx
      have hv := HI.out.hv
      rw [Nat.pow_zero, Nat.one_mul, Nat.add_zero] at hx
      rw [Nat.pow_zero, Nat.mul_one, Nat.add_zero] at hv
      obtain ⟨q1, q2⟩ := long_end hx hv HX.out HV.out
      have hb3' : Blk U32 30 wr g3 H := by simpa using HI.out.b3
      have hhl := HI.out.hl
      refine bodyPost_ret (v := .tuple #[.slice (some ⟨g3, 0, none⟩) (z + 1) (z + 1), .slice (some ⟨g4, 0, none⟩) n n]) (by simp [results, Tryd.results65, go_sem]) rfl ?_
      refine ⟨g3, g4, z + 1, n, H, L4, rfl, hb3'.below hbel4.out hb3'.lt, ⟨by omega, HI.out.hg, by omega, q1⟩, hb4, ⟨hl4.out.symm, hgd4.out, by omega, hv4.out.trans q2⟩, ⟨by omega, Nat.le_trans (Nat.le_trans HW3.out.size HI.out.bl.size) hg4.out⟩, ?_⟩
      exact (HW3.out.trans (HI.out.bl.mono (by omega))).trans (hbel4.out.mono (Nat.le_trans HW3.out.size HI.out.bl.size))
    · obtain ⟨i, rfl⟩ : ∃ i, j = i + 1 := ⟨j - 1, by omega⟩
      obtain ⟨U, hU⟩ : ∃ U, U = val W32 ((l.drop i).take (n + 1)) := ⟨_, rfl⟩
      have hll := HI.out.ll
      have hx := HI.out.hx
      have hv := HI.out.hv
      rw [long_take (by omega), ← hU, Nat.pow_succ] at hx hv
      obtain ⟨s1, s2, s3⟩ := long_step hx hv (val_take_lt HI.out.lg i) (by
        rcases Nat.eq_zero_or_pos V with h | h
        · rw [h, Nat.zero_mul] at hv; omega
        · exact h)
      have hr : Rd U32 wr g2 (some ⟨g1, 0, none⟩) (L1.take n) := ((HB13.out.below HI.out.bl hg12).rd0 hg12).take n
      have CD : Hid (Calls Tryd.prog 86 #[.slice (some ⟨g2, i, none⟩) (i + n + 1 - i) (N + 1 - i), .slice (some ⟨g1, 0, none⟩) n (n + 1)] wr (StepPost wr g2 i n U V l)) := by
        rw [show i + n + 1 - i = n + 1 by omega]
        exact divideStep_any (c := N + 1 - i) (c' := n + 1) (by omega) HI1.out HI2.out (by omega) HI.out.b2 hr (Nat.le_refl _) HNL.out.2.1 (show i + n < l.length by omega) (by omega) HI.out.lg HNL.out.2.2.1 hU.symm HNL.out.1 s1 HNL.out.2.2.2
      have HLL := hide hll
      have HS2 := hide s2
      have HS3 := hide s3
      clear hll hx hv s1 s2 s3 hU hr
      go_wp2_with (go_at_call 86; (with_reducible refine CD.out.mono ?_); rintro e w4 ⟨seg, rfl, hq, hsl, hsg, hsv, hb4, hg4⟩; have hc3 : w4.cell? ⟨g3, i, none⟩ = some (.int .u32 0) := (HI.out.b3.grown hg4.out (by intro e; injection e with e; omega)).cell long_get; have hf3 := (HI.out.b3.grown hg4.out (by intro e; injection e with e; omega)).frozen i)
      go_roundw
      case rel =>
        have hll := HLL.out
        have hhl := HI.out.hl
        refine ⟨i, _, U / V :: H, by omega, by go_num, ⟨?_, ?_, ?_, ?_, ?_, ?_, hb4.out.far (p := ⟨g3, i, none⟩) (by show g2 ≠ g3; omega) _, ?_, ?_⟩⟩
        · simp [hsl.out]; omega
        · exact good_app (good_take HI.out.lg _) (good_app hsg.out (good_drop HI.out.lg _))
        · rw [List.length_cons, hhl]; omega
        · intro x hx
          rcases List.mem_cons.1 hx with rfl | hx
          · exact hq.out
          · exact HI.out.hg x hx
        · rw [long_left (by omega) hsl.out, hsv.out]
          exact HS2.out
        · rw [long_left (by omega) hsl.out, hsv.out]
          exact HS3.out
        · have h1 := (HI.out.b3.grown hg4.out (by intro e; injection e with e; omega)).set_ i (U / V)
          rw [long_set] at h1
          exact h1
        · exact (HI.out.bl.trans (grown_below hg4.out (Nat.le_refl _) HI.out.b2.lt)).setCell (by show g2 ≤ g3; omega) _
      case measure => simp [intOf]
end Go.Proofs.YtlmfkeicmldcnaaDoor
