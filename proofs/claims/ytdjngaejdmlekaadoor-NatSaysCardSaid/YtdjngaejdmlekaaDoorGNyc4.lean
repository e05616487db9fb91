/- Several texts in one, each with its own sentence and conditions. -/
import Derived.Test.YtdjngaejdmlekaaDoorGNyc3
import Derived.Laws.BytesArg
import Derived.Deep.LoopGhost
import Derived.Test.YtdjngaejdmlekaaDoorGNyc2
import Derived.Maps.AppendAt
section
/- Text. Conditions: at most 100000 words. -/
open Go.RowKit
set_option maxRecDepth 100000
namespace Go.Proofs.YtdjngaejdmlekaaDoor
/-- The letters of a number in base ten. -/
def decL (m : Nat) : List UInt8 := if m = 0 then [48] else (digs 10 m).reverse.map fun d => UInt8.ofNat (48 + d)
def TextPost (w : World) (m : Nat) (e : Ending) (w' : World) : Prop := ∃ t : ByteArray, e = .returned (.string t) ∧ t.data.toList = decL m ∧ Below w.heap.size w w'
def letter (d : Nat) : UInt8 := UInt8.ofNat (48 + d)
theorem letter_toNat {d : Nat} (h : d < 10) : (letter d).toNat = 48 + d := by unfold letter; rw [UInt8.toNat_ofNat']; omega
theorem letter_ne {d : Nat} (h : d < 10) (h0 : d ≠ 0) : (letter d == 48) = false := by
  rw [beq_eq_false_iff_ne]
  intro e
  have h1 := letter_toNat h
  rw [e] at h1
  have : (48 : UInt8).toNat = 48 := rfl
  omega
theorem drop_rep (k : Nat) (l : List UInt8) : (List.replicate k 48 ++ l).dropWhile (· == 48) = l.dropWhile (· == 48) := by
  induction k with
  | zero => rfl
  | succ k ih => rw [List.replicate_succ, List.cons_append]; exact ih
theorem text_end {dd : List Nat} {m : Nat} (hd : ∀ d ∈ dd, d < 10) (hv : val 10 dd = m) (hm : 0 < m) : ((dd.map letter).reverse).dropWhile (· == 48) = decL m := by
  obtain ⟨k, hk⟩ := exists_zeros (b := 10) (by omega) dd hd
  rw [hv] at hk
  have e : (dd.map letter).reverse = List.replicate k 48 ++ ((digs 10 m).reverse.map letter) := by
    rw [hk, List.map_append, List.reverse_append, List.map_replicate, List.reverse_replicate, ← List.map_reverse]; rfl
  rw [e, drop_rep]
  unfold decL
  rw [if_neg (by omega)]
  show ((digs 10 m).reverse.map letter).dropWhile (· == 48) = (digs 10 m).reverse.map letter
  cases hr : (digs 10 m).reverse with
  | nil => rfl
  | cons a l =>
    have h1 : (digs 10 m).getLast? = some a := by
      have : digs 10 m = (a :: l).reverse := by rw [← hr, List.reverse_reverse]
      rw [this, List.getLast?_reverse]; rfl
    have h2 := digs_last (b := 10) (by omega) m a h1
    have h3 : a < 10 := digs_lt (b := 10) (by omega) m a (List.mem_of_getLast? h1)
    rw [List.map_cons, List.dropWhile_cons, letter_ne h3 h2]; rfl
theorem text_conv {w : World} {base g cap n : Nat} {bs : List Nat} (h : OwnF U8 5 w base g cap bs) (hb : ∀ b ∈ bs, b < 256) (hn : n = bs.length) :
    (convert 112 9 (.slice (some ⟨g, 0, none⟩) n cap)).run Tryd.prog w = .ok (.string ⟨(bs.map UInt8.ofNat).toArray⟩) w := by
  subst hn
  have h1 := run_convert_bytes_back (P := Tryd.prog) w 112 9 5 ⟨g, 0, none⟩ cap (bs.map UInt8.ofNat) Tryd.underlying112 Tryd.underlying5 Tryd.underlying9 (fun j hj => by
    have hj' : j < bs.length := by simpa using hj
    have h2 := h.cell (List.getElem?_eq_getElem hj')
    have e : (⟨g, 0, none⟩ : Addr).add j = ⟨g, j, none⟩ := by unfold Addr.add; split <;> simp_all
    rw [e, h2]
    have h3 := hb _ (List.getElem_mem hj')
    simp [U8, List.getElem_map, UInt8.toNat_ofNat']
    omega)
  rwa [List.length_map] at h1
/-- Digits as the cells of letters. -/
def UD (d : Nat) : Value := .int .u8 ((48 + d : Nat) : Int)
def NewZero (w : World) (m : Nat) (e : Ending) (w' : World) : Prop := ∃ g, e = .returned (.slice (some ⟨g, 0, none⟩) 0 0) ∧ Hid (w.heap.size ≤ g) ∧ Hid (Blk U32 30 w' g (digs W32 m)) ∧ Hid (Below w.heap.size w w')
theorem fresh_zero {A : Option Addr} {m c : Nat} {w : World} (h : Rd U32 w w.heap.size A (digs W32 m)) (h0 : dl m = 0) : Calls Tryd.prog 73 #[.slice A 0 c] w (NewZero w m) := by
  have h1 := fresh_can (c := c) h (by omega)
  rw [h0] at h1
  exact h1.mono fun _ _ ⟨g, h2, h3⟩ => ⟨g, by rw [h2, h0], h3⟩
theorem text_trim {g k c : Nat} {L q : List Nat} {w : World} (hk : k ≤ c) (hq1 : Hid (q.length = k)) (hq2 : Hid (Good32 q)) (hq4 : Hid (Blk U32 30 w g (q ++ L.drop k))) (hc : c ≤ 1000000) :
    Hid (Calls Tryd.prog 71 #[.slice (some ⟨g, 0, none⟩) k c] w fun e w' => e = .returned (.slice (some ⟨g, 0, none⟩) (dl (val W32 q)) c) ∧ w = w') := by
  have h1 := hq4.out.rd hq4.out.lt 0 k
  rw [List.drop_zero, List.take_append_of_le_length (by rw [hq1.out]; exact Nat.le_refl _), List.take_of_length_le (by rw [hq1.out]; exact Nat.le_refl _)] at h1
  have h2 := trim_any _ q c w w.heap.size h1 hq2.out (by rw [hq1.out]; omega) (by rw [hq1.out]; exact hk)
  rw [hq1.out] at h2
  exact h2
theorem text_app {w wr w1 : World} {g n : Nat} {dv : Value} {xs : List Value} {B : List Nat} {o : Obj} (hown : wr.ownsRow (g + 1) 5 1 dv n xs) (hblk : Blk U32 30 wr g B) (hbel : Below w.heap.size w wr) (hg : w.heap.size ≤ g)
    (hgrow : (wr.alloc o).grownBy w1 dv.ownBlock) : Hid (Blk U32 30 w1 g B) ∧ Hid (Below w.heap.size w w1) := by
  have h1 : ∀ k, dv.ownBlock = some k → g + 1 ≤ k := fun k hk => (hown.lt k hk).1
  have h2 := hblk.lt
  refine ⟨(hblk.alloc o).grown hgrow (fun e => by have := h1 g e.symm; omega), (hbel.alloc (by omega) _).grown hgrow (by simp; omega) (fun k hk => by have := h1 k hk; omega)⟩
theorem map_snoc (dd : List Nat) (d : Nat) : dd.map UD ++ [UD d] = (dd ++ [d]).map UD := by simp
set_option maxHeartbeats 2000000 in
theorem Text_any {A : Option Addr} {n c m : Nat} {w : World} (h : Arg w w.heap.size A n c m) : Calls Tryd.prog 16 #[.agg #[.slice A n c]] w (TextPost w m) := by
  have H : Hid (∀ o, Arg (w.alloc o) w.heap.size A n c m) := fun o => h.below ((Below.refl _ _).alloc (Nat.le_refl _) _)
  have HX : Hid (∀ o, Rd U32 (w.alloc o) (w.alloc o).heap.size A (digs W32 m)) := fun o => (h.digs.1.below ((Below.refl _ _).alloc (Nat.le_refl _) _)).2.more (by simp)
  have hl : dl m ≤ 100000 := by have := h.digs.2; obtain ⟨_, _, _, h3, _⟩ := h; omega
  clear h
  by_cases h0 : dl m = 0
  · have HM0 : Hid (m = 0) := (digs_len_pos (by decide)).1 h0
    go_enter Tryd.func16, Tryd.ntmps16
    go_wp2_with (first | (go_at_call 71; go_must (refine (trim_arg (H.out _)).mono ?_); rintro e w2 ⟨rfl, rfl⟩) | (go_at_call 73; go_must (refine (fresh_zero (HX.out _) h0).mono ?_); rintro e w1 ⟨g, rfl, HGE, HBLK, HBEL⟩))
    go_ret
    exact ⟨⟨#[48]⟩, rfl, by rw [HM0.out]; rfl, ((Below.refl _ _).alloc (Nat.le_refl _) _).trans (HBEL.out.mono (by simp))⟩
  · obtain ⟨i0, hi0, hz0, hz1, hz2⟩ := info_parts Tryd.infoU8
    have I0 := hide hi0
    have Z0 := hide hz0
    have Z1 := hide hz1
    have Z2 := hide hz2
    clear hi0 hz0 hz1 hz2
    have hp : 0 < dl m := by omega
    have hdz : (((dl m : Nat) : Int) == 0) = false := by rw [beq_eq_false_iff_ne]; omega
    have HM : Hid (0 < m) := by
      unfold Hid
      rcases Nat.eq_zero_or_pos m with rfl | h1
      · exact absurd (by unfold dl; rw [digs_zero]; rfl) h0
      · exact h1
    clear h0
    go_enter Tryd.func16, Tryd.ntmps16
    go_wp2_with (first | (go_at_call 71; go_must (refine (trim_arg (H.out _)).mono ?_); rintro e w2 ⟨rfl, rfl⟩) | (go_at_call 73; go_must (refine (fresh_can (HX.out _) (by omega)).mono ?_); rintro e w1 ⟨g, rfl, HGE, HBLK, HBEL⟩))
    have HW1 : Hid (Below w.heap.size w w1) := ((Below.refl _ _).alloc (Nat.le_refl _) _).trans (HBEL.out.mono (by simp))
    have hgw : w.heap.size + 1 ≤ g := by have := HGE.out; simpa using this
    clear HBEL HGE H HX
    have hp' : ¬ dl m = 0 := by omega
    have HLEN : Hid (dl m = (digs W32 m).length) := rfl
    go_loopg [3, 4, 5] m (fun K lv dv gv wr => ∃ (v : Nat) (L dd : List Nat), v ≤ K ∧ lv = .slice (some ⟨g, 0, none⟩) (dl v) (dl m) ∧ dl v ≤ dl m ∧ Hid (L.length = dl m) ∧ Hid (Good32 L) ∧ Hid (L.take (dl v) = digs W32 v) ∧ Hid (Blk U32 30 wr g L) ∧
        Hid (wr.ownsRow (g + 1) 5 1 dv dd.length (dd.map UD)) ∧ Hid (∀ d ∈ dd, d < 10) ∧ Hid (val 10 dd + 10 ^ dd.length * v = m) ∧ dd.length ≤ 10 * dl m + 9 ∧ Hid (Below w.heap.size w wr))
    case atStart => exact ⟨m, digs W32 m, [], Nat.le_refl _, rfl, Nat.le_refl _, rfl, good_digs m, List.take_of_length_le (Nat.le_refl _), HBLK, World.ownsRow_nil _ _ _ _, by intro d hd; simp at hd, by simp [Hid, val], by simp, HW1⟩
    case round =>
      obtain ⟨v, L, dd, hvk, rfl, hdl, hLl, hLg, hLt, hblk, hown, hdd, hnum, hlen, hbel⟩ := hrel
      by_cases hv0 : dl v = 0
      · have HV0 : Hid (v = 0) := (digs_len_pos (by decide)).1 hv0
        have HNE : Hid (val 10 dd = m) := by have h1 := hnum.out; rw [HV0.out] at h1; simpa [Hid] using h1
        have hvz : ¬ 0 < dl v := by omega
        have hown2 := hown.out
        rcases hown2.2 with ⟨_, hz⟩ | ⟨g2, cap, cur, rfl, _⟩
        · have := HNE.out
          rw [List.eq_nil_of_length_eq_zero hz] at this
          have := HM.out
          simp [val] at *; omega
        · have HOF : Hid (OwnF U8 5 wr (g + 1) g2 cap (dd.map (48 + ·))) := by
            unfold Hid OwnF
            rw [List.length_map, List.map_map]
            exact hown2
          have HLD : Hid (dd.length = (dd.map (48 + ·)).length) := by simp [Hid]
          have H256 : Hid (∀ b ∈ (dd.map (48 + ·)).reverse, b < 256) := by
            intro b hb
            obtain ⟨d, hd, rfl⟩ := List.mem_map.1 (List.mem_reverse.1 hb)
            have := hdd.out d hd; omega
          obtain ⟨s, hs⟩ : ∃ s : ByteArray, s = ⟨(((dd.map (48 + ·)).reverse).map UInt8.ofNat).toArray⟩ := ⟨_, rfl⟩
          have HS : Hid (s.data.toList.dropWhile (· == 48) = decL m) := by
            unfold Hid
            rw [hs, ← text_end hdd.out HNE.out HM.out]
            show ((((dd.map (48 + ·)).reverse).map UInt8.ofNat)).dropWhile _ = _
            rw [List.map_reverse, List.map_map]; rfl
          have hcvs : ∀ w3, OwnF U8 5 w3 (g + 1) g2 cap (dd.map (48 + ·)).reverse → (convert 112 9 (.slice (some ⟨g2, 0, none⟩) dd.length cap)).run Tryd.prog w3 = .ok (.string s) w3 := fun w3 h3 => by
            rw [hs]; exact text_conv h3 H256.out (by simp)
          have HCV := hide hcvs
          clear hown2 hv0 hs hcvs
          go_wp2_with (first | (go_at_call 80; go_must (refine (Reverse_any HLD.out HOF.out (by omega)).mono ?_); rintro e w3 ⟨rfl, ho3, hg3⟩; have HG3 := hide hg3; have hcv := HCV.out w3 ho3; clear hg3 ho3) | (go_at_call 77; go_must (refine (TrimLeft_any s _).mono ?_); rintro e w' ⟨t, rfl, ht, rfl⟩; have HT := hide ht; clear ht))
          go_ret
          exact ⟨t, rfl, by rw [HT.out, HS.out], hbel.out.trans (grown_below HG3.out (by have := HOF.out.ge.1; omega) HOF.out.ge.2)⟩
      · have hvp : 0 < dl v := by omega
        have HVP : Hid (0 < v) := by
          unfold Hid
          rcases Nat.eq_zero_or_pos v with rfl | h1
          · exact absurd (by unfold dl; rw [digs_zero]; rfl) hv0
          · exact h1
        have hlen2 : dd.length < 10 * dl m := by
          have h1 : 10 ^ dd.length ≤ m := by
            rw [← hnum.out]
            exact Nat.le_trans (Nat.le_mul_of_pos_right _ HVP.out) (Nat.le_add_left _ _)
          have h2 : m < W32 ^ dl m := lt_pow_digs (b := W32) (by decide) m
          have h3 : W32 ^ dl m ≤ (10 ^ 10) ^ dl m := Nat.pow_le_pow_left (by decide) _
          rw [← Nat.pow_mul] at h3
          exact (Nat.pow_lt_pow_iff_right (a := 10) (by omega)).1 (by omega)
        clear hv0
        go_wp2_with (first | (go_at_call 74; go_must (refine (divideByWord_any (d := 1000000000) hblk.out (by rw [hLl.out]; exact hdl) hLg.out (by omega) (by omega) (by omega)).mono ?_); rintro e w2 ⟨q, rest, rfl, hq1, hq2, hrest, hq3, hq4, hq5⟩; have HQ5 := hide hq5; clear hq5; have CT := text_trim hdl hq1 hq2 hq4 (by omega)) | (go_at_call 71; go_must (refine CT.out.mono ?_); rintro e w3 ⟨rfl, rfl⟩))
        obtain ⟨v', hv'⟩ : ∃ v', v' = val W32 q := ⟨_, rfl⟩
        rw [← hv']
        have HV' := hide hv'
        have HEQ : Hid (v = v' * 1000000000 + rest) := by
          have h1 := hq3.out
          rw [hLt.out, val_digs32, ← hv'] at h1
          exact h1
        have HB2 : Hid (Below w.heap.size w w2) := hbel.out.trans (grown_below HQ5.out (by omega) hblk.out.lt)
        have HO2 : Hid (w2.ownsRow (g + 1) 5 1 u4 dd.length (dd.map UD)) := hown.out.kept HQ5.out (by
          rcases hv : u4.ownBlock with _ | k
          · exact .inl rfl
          · refine .inr (fun e => ?_)
            have := (hown.out.lt k hv).1
            injection e with e; omega)
        have hr9 : rest ≤ 999999999 := by omega
        clear hv' hown hbel hblk
        go_loopw [4, 5, 20] (fun dv gv jv wr => ∃ (j gr : Nat) (de : List Nat), j ≤ 9 ∧ gr ≤ 999999999 ∧ Hid (gr < 10 ^ (9 - j)) ∧ gv = .int .u32 (gr : Int) ∧ jv = .int .i64 (j : Int) ∧ Hid (de.length = dd.length + j) ∧ Hid (wr.ownsRow (g + 1) 5 1 dv de.length (de.map UD)) ∧ Hid (∀ d ∈ de, d < 10) ∧
            Hid (val 10 de + 10 ^ de.length * (gr + 10 ^ (9 - j) * v') = m) ∧ Hid (Blk U32 30 wr g (q ++ L.drop (dl v))) ∧ Hid (Below w.heap.size w wr))
          (fun _ _ jv _ => 9 - (intOf jv).toNat)
        case atStart => exact ⟨0, rest, dd, by omega, hr9, hrest, rfl, rfl, rfl, HO2, hdd, by have h1 := hnum.out; rw [HEQ.out] at h1; rw [← h1]; unfold Hid; congr 2; omega, hq4, HB2⟩
        case round =>
          obtain ⟨j, gr, de, hj, hgr, hgl, rfl, rfl, hdl2, hown, hdd2, hnum2, hblk, hbel⟩ := hrel
          by_cases hlt : j < 9
          · have HBE : Hid (g + 1 ≤ (wr.alloc (.cells #[.int .u8 (48 + (gr : Int) % 10)] 5)).heap.size) := by have := hblk.out.lt; simp [Hid]; omega
            have hde : de.length ≤ 2000000 := by rw [hdl2.out]; omega
            have h63 : de.length + 1 ≤ maxLen := by simp only [maxLen]; omega
            have H63 := hide h63
            clear h63
            go_wp2_with (first | (at_builtin; go_must (refine wpList_append_own _ rfl (.tmp 22) (.tmp 27) 112 rfl (g + 1) 5 i0 (.int .u8 0) 1 1 Tryd.underlying112 I0.out Z0.out Z1.out Z2.out rfl (by decide) _ _ _ rfl (hown.out.alloc _) ⟨wr.heap.size, 0, none⟩ 1 1 [.int .u8 (48 + (gr : Int) % 10)] rfl rfl (cell_one_new _ _ _) (by intro u hu; simp at hu; subst hu; rfl) H63.out (by omega) HBE.out ?_; intro v2 w3 hown' hgrow hnil)))
            obtain ⟨hbk2, hbe2⟩ := text_app hown.out hblk.out hbel.out (by omega) hgrow
            go_roundw
            case rel =>
              refine ⟨j + 1, gr / 10, de ++ [gr % 10], by omega, by omega, ?_, rfl, by go_num, by unfold Hid; rw [List.length_append, hdl2.out]; rfl, ?_, ?_, ?_, hbk2, hbe2⟩
              · unfold Hid
                have h1 := hgl.out
                rw [show 9 - j = (9 - (j + 1)) + 1 by omega, Nat.pow_succ] at h1
                exact (Nat.div_lt_iff_lt_mul (by omega)).2 h1
              · unfold Hid
                rw [List.length_append, ← map_snoc]
                exact hown'
              · intro d hd
                rcases List.mem_append.1 hd with hd | hd
                · exact hdd2.out d hd
                · simp at hd; omega
              · unfold Hid
                rw [val_snoc, List.length_append, List.length_singleton, Nat.pow_succ]
                refine digit_math ?_
                have h1 := hnum2.out
                rw [show 9 - j = (9 - (j + 1)) + 1 by omega, Nat.pow_succ, Nat.mul_comm (10 ^ (9 - (j + 1))) 10] at h1
                exact h1
            case measure => simp [intOf]; omega
          · obtain rfl : j = 9 := by omega
            have HG0 : Hid (gr = 0) := by have := hgl.out; unfold Hid; simpa using this
            have HN2 : Hid (val 10 de + 10 ^ de.length * v' = m) := by
              have h1 := hnum2.out
              rw [HG0.out] at h1
              simpa [Hid] using h1
            have HVL : Hid (v' < v) := by have := HEQ.out; have := HVP.out; unfold Hid; omega
            have HDV : Hid (dl v' ≤ dl v) := digs_len_mono (by decide) (Nat.le_of_lt HVL.out)
            go_wp2
            go_roundg v'
            case measure => have := HVL.out; omega
            case rel =>
              refine ⟨v', q ++ L.drop (dl v), de, Nat.le_refl _, rfl, Nat.le_trans HDV.out hdl, ?_, good_app hq2.out (good_drop hLg.out _), ?_, hblk, hown, hdd2, HN2, by rw [hdl2.out]; omega, hbel⟩
              · unfold Hid
                rw [List.length_append, hq1.out, List.length_drop, hLl.out]; omega
              · unfold Hid
                have h1 := digs_take (b := W32) (by decide) q hq2.out
                rw [← HV'.out] at h1
                rw [List.take_append_of_le_length (by rw [hq1.out]; exact HDV.out)]
                exact h1
end Go.Proofs.YtdjngaejdmlekaaDoor
end

section
/- Words for 'is': validity of a number's own words, comparing with 0. No conditions. -/
open Go.RowKit
set_option maxRecDepth 100000
namespace Go.Proofs.YtdjngaejdmlekaaDoor
theorem goodB_digs (m : Nat) : goodB (digs W32 m) = true := by
  unfold goodB
  rw [bne_iff_ne]
  intro h
  exact digs_last (b := W32) (by decide) m 0 h rfl
theorem cmpI_beq (m n : Nat) : (cmpI m n == 0) = decide (m = n) := by
  rcases Nat.lt_trichotomy m n with h | h | h
  · rw [cmpI_lt h, decide_eq_false (by omega)]; rfl
  · rw [cmpI_eq h, decide_eq_true h]; rfl
  · rw [cmpI_gt h, decide_eq_false (by omega)]; rfl
theorem chain {w a b : World} (h : Hid (Below w.heap.size w a)) (hb : Below a.heap.size a b) : Hid (Below w.heap.size w b) := h.out.trans (hb.mono h.out.size)
end Go.Proofs.YtdjngaejdmlekaaDoor
end

section
/- is, awake: the statements' own helpers. Conditions: fewer than 4000 words. -/
open Go.RowKit
set_option maxRecDepth 100000
namespace Go.Proofs.YtdjngaejdmlekaaDoor
/-- Is a number, told just, the document's own? -/
theorem is_any {A A' : Option Addr} {c c' m n : Nat} {w : World} (h : Can w w.heap.size A c m) (h' : RN w w.heap.size A' c' n) (hl : dl m < 4000) (hq : dq n ≤ 100000) :
    Calls Tryd.prog 17 #[.agg #[.slice A (dl m) c], .slice A' (dq n) c'] w fun e w' => e = .returned (.bool (decide (m = n))) ∧ Below w.heap.size w w' := by
  have HX : Hid (∀ o, Rd U32 (w.alloc o) (w.alloc o).heap.size A (digs W32 m)) := fun o => ((h.below ((Below.refl _ _).alloc (Nat.le_refl _) _)).more (by simp)).2
  have HY : Hid (∀ o, RN (w.alloc o) (w.alloc o).heap.size A' c' n) := fun o => (h'.below ((Below.refl _ _).alloc (Nat.le_refl _) _)).more (by simp)
  have HA : Hid (∀ o, Below w.heap.size w (w.alloc o)) := fun o => (Below.refl _ _).alloc (Nat.le_refl _) _
  have hqm : Hid (dq m ≤ 100000) := by have := dq_words (lt_pow_digs (b := W32) (by decide) m); unfold dl at hl; unfold Hid; omega
  have HG := hide (goodB_digs m)
  have hl2 : dl m ≤ 4000 := by omega
  have CW : Hid (∀ o W, Hid (Below (w.alloc o).heap.size (w.alloc o) W) → Calls Tryd.prog 24 #[.slice A (dl m) c] W (RefPost W m)) := fun o W hb => by
    have h1 := Words_any (c := c) (show dl m = (digs W32 m).length from rfl) (((HX.out o).below hb.out).more hb.out.size) (good_digs m) hl2
    rw [val_digs32] at h1
    exact h1
  clear h h'
  go_enter Tryd.func17, Tryd.ntmps17
  go_wp2_with (first | (go_at_call 19; go_must (refine (Good_any (show dl m = (digs W32 m).length from rfl) (HX.out _) (by omega)).mono ?_); rintro e w1 ⟨rfl, hb1⟩; have HB1 := hide hb1; have hg1 := HG.out; have hc1 : w1.cell? ⟨w.heap.size, 0, none⟩ = some (.slice A (dl m) c) := (hb1.cell (by simp)).trans (one_cell (heap_alloc_new w _)).1; clear hb1) | (go_at_call 24; go_must (refine (CW.out _ _ HB1).mono ?_); rintro e w2 ⟨A2, c2, rfl, hr2, hb2⟩) | (go_at_call 25; go_must (refine (rCmp_any hr2.out (((HY.out _).below HB1.out).below (hb2.out.mono HB1.out.size) |>.more (Nat.le_trans HB1.out.size hb2.out.size)) (Nat.le_trans hqm.out (by omega)) (by omega)).mono ?_); rintro e w3 ⟨rfl, q, rfl⟩))
  go_ret
  refine ⟨bool_ret ?_, below_drewN (((HA.out _).trans (HB1.out.mono (by simp))).trans (hb2.out.mono (Nat.le_trans (by simp) HB1.out.size))) q⟩
  exact cmpI_beq m n
def two32 : Nat := 4294967296
theorem digs_two32 : digs W32 two32 = [0, 1] := by
  have h := digs_val (b := W32) (by decide) [0, 1] (by intro x hx; simp at hx; rcases hx with rfl | rfl <;> decide) (by intro x hx; simp at hx; subst hx; decide)
  exact h
theorem dl_two32 : dl two32 = 2 := by unfold dl; rw [digs_two32]; rfl
theorem decL_two32 : decL two32 = [52, 50, 57, 52, 57, 54, 55, 50, 57, 54] := by
  have h := digs_val (b := 10) (by decide) [6, 9, 2, 7, 6, 9, 4, 9, 2, 4] (by intro x hx; simp at hx; rcases hx with rfl | rfl | rfl | rfl | rfl | rfl | rfl | rfl | rfl | rfl <;> decide) (by intro x hx; simp at hx; subst hx; decide)
  unfold decL
  rw [if_neg (by decide), show two32 = val 10 [6, 9, 2, 7, 6, 9, 4, 9, 2, 4] from rfl, h]
  rfl
def AwParse (w : World) (e : Ending) (w' : World) : Prop := ∃ ad c, e = .returned (.tuple #[.agg #[.slice (some ad) 2 c], .bool true]) ∧ Hid (Can w' w'.heap.size (some ad) c two32) ∧ Below w.heap.size w w'
theorem aw_parse (w : World) : Calls Tryd.prog 15 #[.string ⟨#[52, 50, 57, 52, 57, 54, 55, 50, 57, 54]⟩] w (AwParse w) := by
  refine (Parse_any ⟨#[52, 50, 57, 52, 57, 54, 55, 50, 57, 54]⟩ w (by decide)).mono fun e w' h => ?_
  unfold ParsePost at h
  rw [if_pos (by decide)] at h
  obtain ⟨A, c, rfl, hc, hb⟩ := h
  have e1 : numL ((⟨#[52, 50, 57, 52, 57, 54, 55, 50, 57, 54]⟩ : ByteArray).data.toList) = two32 := by decide
  rw [e1] at hc ⊢
  have h2 := hc.2
  rw [digs_two32] at h2
  obtain ⟨ad, rfl, _⟩ := h2 (by simp)
  exact ⟨ad, c, by rw [dl_two32], hc, hb⟩
theorem aw_cells {w : World} {B c : Nat} {ad : Addr} (h : Can w B (some ad) c two32) : w.cell? ad = some (.int .u32 0) ∧ w.cell? ⟨ad.block, ad.off + 1, none⟩ = some (.int .u32 1) := by
  have h2 := h.2
  rw [digs_two32] at h2
  obtain ⟨ad', e, _, hc⟩ := h2 (by simp)
  cases e
  exact ⟨hc 0 0 rfl, hc 1 1 rfl⟩
theorem aw_text {w : World} {c : Nat} {ad : Addr} (h : Can w w.heap.size (some ad) c two32) : Calls Tryd.prog 16 #[.agg #[.slice (some ad) 2 c]] w fun e w' => e = .returned (.string ⟨#[52, 50, 57, 52, 57, 54, 55, 50, 57, 54]⟩) ∧ Below w.heap.size w w' := by
  have h1 := Text_any (h.arg (by rw [dl_two32]; decide))
  rw [dl_two32] at h1
  refine h1.mono fun e w' ⟨t, he, ht, hb⟩ => ⟨?_, hb⟩
  rw [he, str_ret]
  obtain ⟨⟨l⟩⟩ := t
  rw [decL_two32] at ht
  have ht : l = [52, 50, 57, 52, 57, 54, 55, 50, 57, 54] := ht
  subst ht; rfl
theorem aw_good {w : World} {c : Nat} {ad : Addr} (h : Can w w.heap.size (some ad) c two32) : Calls Tryd.prog 19 #[.agg #[.slice (some ad) 2 c]] w fun e w' => e = .returned (.bool true) ∧ Below w.heap.size w w' := by
  have h1 := Good_any (c := c) (n := 2) (show 2 = (digs W32 two32).length by rw [digs_two32]; rfl) h.2 (by decide)
  refine h1.mono fun e w' ⟨he, hb⟩ => ⟨?_, hb⟩
  rw [he, goodB_digs]
def AwNum (w : World) (v : Nat) (e : Ending) (w' : World) : Prop := ∃ A c, e = .returned (.agg #[.slice A (dl v) c]) ∧ Hid (Can w' w'.heap.size A c v) ∧ Below w.heap.size w w'
def n16 : Nat := 65536
theorem dl_n16 : dl n16 ≤ 100000 := by
  have h : dl n16 ≤ 1 := dl_le (by decide)
  omega
theorem aw_of (w : World) : Calls Tryd.prog 11 #[.int .u64 65536] w (AwNum w n16) := (Of_any (n := n16) (w := w) (by decide)).mono fun _ _ h => h
theorem aw_mul {w : World} {A A' : Option Addr} {c c' : Nat} (h : Can w w.heap.size A c n16) (h' : Can w w.heap.size A' c' n16) : Calls Tryd.prog 30 #[.agg #[.slice A (dl n16) c], .agg #[.slice A' (dl n16) c']] w (AwNum w two32) :=
  (Mul_any (h.arg dl_n16) (h'.arg dl_n16)).mono fun _ _ h => h
theorem aw_small (w : World) : Calls Tryd.prog 18 #[.int .u64 4294967296] w (RefPost w two32) := Small_any (n := two32) (w := w) (by decide)
theorem aw_is {w : World} {A A' : Option Addr} {c c' : Nat} (h : Can w w.heap.size A c two32) (h' : RN w w.heap.size A' c' two32) : Calls Tryd.prog 17 #[.agg #[.slice A (dl two32) c], .slice A' (dq two32) c'] w fun e w' => e = .returned (.bool true) ∧ Below w.heap.size w w' :=
  (is_any h h' (by rw [dl_two32]; decide) (Nat.le_trans (dq_u64 (by decide)) (by decide))).mono fun _ _ ⟨he, hb⟩ => ⟨by rw [he, decide_eq_true rfl], hb⟩
/-- What the document tells of two to thirty-two: it holds. -/
theorem awake_any (w : World) : Calls Tryd.prog 10 #[] w fun e w' => e = .returned (.bool true) ∧ Below w.heap.size w w' := by
  have mk1 : Hid True := trivial
  go_enter Tryd.func10, Tryd.ntmps10
  go_wp2_with (first | (go_at_call 15; go_must (refine (aw_parse _).mono ?_); rintro e w1 ⟨ad, c, rfl, hc1, hb1⟩; have HB1 : Hid (Below w.heap.size w w1) := hb1; have hc2 : Hid (Can (w1.alloc (.cells #[.slice (some ad) 2 c] 25)) (w1.alloc (.cells #[.slice (some ad) 2 c] 25)).heap.size (some ad) c two32) := (hc1.out.below ((Below.refl _ _).alloc (Nat.le_refl _) _)).more (by simp); have ha0 := (aw_cells hc2.out).1; have ha1 := (aw_cells hc2.out).2; clear hb1) | (go_at_call 16; go_must (refine (aw_text hc2.out).mono ?_); rintro e w2 ⟨rfl, hb2⟩; have HB2 := chain (HB1.out.alloc HB1.out.size _) hb2; have hx2 : w2.cell? ⟨w1.heap.size, 0, none⟩ = some (.slice (some ad) 2 c) := (hb2.cell (by simp)).trans (one_cell (heap_alloc_new w1 _)).1; have hc3 := hide ((hc2.out.below hb2).more hb2.size); clear hb2) | (go_at_call 19; go_must (refine (aw_good hc3.out).mono ?_); rintro e w3 ⟨rfl, hb3⟩; have HB3 := chain HB2 hb3; clear hb3) | (go_at_call 11; clear mk1; refine (aw_of _).mono ?_; rintro e w4 ⟨A4, c4, rfl, hc4, hb4⟩; have HB4 := chain HB3 hb4; clear hb4) | (go_at_call 11; refine (aw_of _).mono ?_; rintro e w5 ⟨A5, c5, rfl, hc5, hb5⟩; have HB5 := chain HB4 hb5; have hc6 := hide ((hc4.out.below hb5).more hb5.size); clear hb5) | (go_at_call 30; go_must (refine (aw_mul hc6.out hc5.out).mono ?_); rintro e w6 ⟨A6, c6, rfl, hc7, hb6⟩; have HB6 := chain HB5 hb6; clear hb6) | (go_at_call 18; go_must (refine (aw_small _).mono ?_); rintro e w7 ⟨A7, c7, rfl, hr7, hb7⟩; have HB7 := chain HB6 hb7.out; have hc8 := hide ((hc7.out.below hb7.out).more hb7.out.size)) | (go_at_call 17; go_must (refine (aw_is hc8.out hr7.out).mono ?_); rintro e w8 ⟨rfl, hb8⟩; have HB8 := chain HB7 hb8; clear hb8))
  go_ret
  exact ⟨rfl, HB8.out⟩
end Go.Proofs.YtdjngaejdmlekaaDoor
end

section
/- The document's own numbers: Sub. Conditions: at most 100000 fours of digits; a is at least b. -/
open Go.RowKit
set_option maxRecDepth 100000
namespace Go.Proofs.YtdjngaejdmlekaaDoor
theorem rsub_end {V m n k cr : Nat} (h : V + n = m + D4 ^ k * cr) (hV : V < D4 ^ k) (hnm : n ≤ m) (hc : cr ≤ 1) : V = m - n := by
  rcases Nat.eq_zero_or_pos cr with h0 | h0
  · rw [h0, Nat.mul_zero] at h; omega
  · obtain rfl : cr = 1 := by omega
    rw [Nat.mul_one] at h; omega
set_option maxHeartbeats 2000000 in
theorem rSub_any {A A' : Option Addr} {m n c c' : Nat} {w : World} (h : RN w w.heap.size A c m) (h' : RN w w.heap.size A' c' n) (hl : dq m ≤ 100000) (hnm : n ≤ m) :
    Calls Tryd.prog 26 #[.slice A (dq m) c, .slice A' (dq n) c'] w (RefPost w (m - n)) := by
  have HX := hide h
  have HY := hide h'
  have HNM := hide hnm
  have HLN : Hid (dq n ≤ dq m) := digs_len_mono (by decide) hnm
  obtain ⟨i0, hi0, hz0, hz1, hz2⟩ := info_parts Tryd.infoInt
  have I0 := hide hi0
  have Z0 := hide hz0
  have Z1 := hide hz1
  have Z2 := hide hz2
  clear hi0 hz0 hz1 hz2 h h' hnm
  go_enter Tryd.func26, Tryd.ntmps26
  go_wp2
  go_loopw [5, 6, 7] (fun dv cv iv wr => ∃ (i cr : Nat) (dd : List Nat), i ≤ dq m ∧ cr ≤ 1 ∧ cv = .int .i64 (cr : Int) ∧ iv = .int .i64 (i : Int) ∧ Hid (dd.length = i) ∧ Hid (Good4 dd) ∧
      Hid (val D4 dd + val D4 ((digs D4 n).take i) = val D4 ((digs D4 m).take i) + D4 ^ i * cr) ∧ Hid (wr.ownsRow w.heap.size 3 1 dv dd.length (dd.map I64)) ∧ Hid (Below w.heap.size w wr))
    (fun _ _ iv _ => dq m - (intOf iv).toNat)
  case atStart => exact ⟨0, 0, [], Nat.zero_le _, by omega, rfl, rfl, rfl, by intro x hx; simp at hx, by simp [Hid, val], World.ownsRow_nil _ _ _ _, Below.refl _ _⟩
  case round =>
    obtain ⟨i, cr, dd, hi, hcr, rfl, rfl, hdl, hdg, hval, hown, hbel⟩ := hrel
    by_cases hlt : i < dq m
    · obtain ⟨x, hx⟩ : ∃ x, x = (digs D4 m)[i]?.getD 0 := ⟨_, rfl⟩
      obtain ⟨y, hy⟩ : ∃ y, y = (digs D4 n)[i]?.getD 0 := ⟨_, rfl⟩
      have hx9 : x ≤ 9999 := by rw [hx]; exact getD_lt (good4_digs m) i
      have hy9 : y ≤ 9999 := by rw [hy]; exact getD_lt (good4_digs n) i
      have CX := hide (at_any (i := i) (c := c) (show dq m = (digs D4 m).length from rfl) (HX.out.below hbel.out).2)
      have CY := hide (at_any (i := i) (c := c') (show dq n = (digs D4 n).length from rfl) (HY.out.below hbel.out).2)
      have RX := hide (val_take_getD D4 (digs D4 m) i)
      have RY := hide (val_take_getD D4 (digs D4 n) i)
      rw [← hx] at CX RX
      rw [← hy] at CY RY
      have hdl2 : dd.length ≤ 300000 := by rw [hdl.out]; omega
      have H63 : Hid (dd.length + 1 ≤ maxLen) := by simp only [maxLen, Hid]; omega
      have HB : Hid (∀ u : Value, w.heap.size ≤ (wr.alloc (.cells #[u] 3)).heap.size) := fun u => by have := hbel.out.size; simp; omega
      have FIN : Hid (∀ (d cr' : Nat) (v2 : Value) (w3 : World), d + (cr + y) = x + D4 * cr' → d ≤ 9999 → w3.ownsRow w.heap.size 3 1 v2 (dd.length + 1) (dd.map I64 ++ [.int .i64 (d : Int)]) → Below w.heap.size w w3 →
          ∃ de : List Nat, Hid (de.length = i + 1) ∧ Hid (Good4 de) ∧ Hid (val D4 de + val D4 ((digs D4 n).take (i + 1)) = val D4 ((digs D4 m).take (i + 1)) + D4 ^ (i + 1) * cr') ∧ Hid (w3.ownsRow w.heap.size 3 1 v2 de.length (de.map I64)) ∧ Hid (Below w.heap.size w w3)) := by
        intro d cr' v2 w3 hd hd9 ho hb
        refine ⟨dd ++ [d], by unfold Hid; rw [List.length_append, hdl.out]; rfl, ?_, ?_, ?_, hb⟩
        · intro z hz
          rcases List.mem_append.1 hz with hz | hz
          · exact hdg.out z hz
          · simp at hz; subst hz; rw [D4_eq]; omega
        · unfold Hid
          rw [val_snoc, hdl.out, Nat.pow_succ, RX.out, RY.out]
          exact sub_math hval.out rfl hd
        · unfold Hid
          rw [List.length_append, List.map_append]
          exact ho
      clear hx hy
      by_cases hneg : x < y + cr
      · obtain ⟨d, hd⟩ : ∃ d, d + (y + cr) = x + 10000 := ⟨x + 10000 - (y + cr), by omega⟩
        have e1 : (x : Int) - (y : Int) - (cr : Int) + 10000 = (d : Int) := by omega
        have hneg2 : (x : Int) - (y : Int) - (cr : Int) < 0 := by omega
        have hneg3 : (x : Int) - (y : Int) < (cr : Int) := by omega
        have HD : Hid (d + (cr + y) = x + D4 * 1 ∧ d ≤ 9999) := by unfold Hid; rw [D4_eq]; omega
        clear hd
        go_wp2_with (first | (go_at_call 82; first | ((with_reducible refine CX.out.mono ?_); rintro e w' ⟨rfl, rfl⟩) | ((with_reducible refine CY.out.mono ?_); rintro e w' ⟨rfl, rfl⟩)) | (at_builtin; go_must (refine wpList_append_own _ rfl (.tmp 28) (.tmp 30) 39 rfl w.heap.size 3 i0 (.int .i64 0) 1 8 Tryd.underlying39 I0.out Z0.out Z1.out Z2.out rfl (by decide) _ _ _ rfl (hown.out.alloc _) ⟨wr.heap.size, 0, none⟩ 1 1 [.int .i64 (d : Int)] rfl rfl (cell_one_new _ _ _) (by intro u hu; simp at hu; subst hu; rfl) H63.out (by omega) (HB.out _) ?_; intro v2 w3 hown' hgrow hnil)))
        go_roundw
        case rel =>
          obtain ⟨de, g1, g2, g3, g4, g5⟩ := FIN.out d 1 v2 w3 HD.out.1 HD.out.2 hown' (app_below hown.out hbel.out (Nat.le_refl _) hgrow)
          exact ⟨i + 1, 1, de, by omega, by omega, rfl, by go_num, g1, g2, g3, g4, g5⟩
        case measure => simp [intOf]; omega
      · obtain ⟨d, hd⟩ : ∃ d, d + (y + cr) = x := ⟨x - (y + cr), by omega⟩
        have e1 : (x : Int) - (y : Int) - (cr : Int) = (d : Int) := by omega
        have HD : Hid (d + (cr + y) = x + D4 * 0 ∧ d ≤ 9999) := by unfold Hid; rw [D4_eq]; omega
        have hd0 : ¬ (d : Int) < 0 := by omega
        clear hd
        go_wp2_with (first | (go_at_call 82; first | ((with_reducible refine CX.out.mono ?_); rintro e w' ⟨rfl, rfl⟩) | ((with_reducible refine CY.out.mono ?_); rintro e w' ⟨rfl, rfl⟩)) | (at_builtin; go_must (refine wpList_append_own _ rfl (.tmp 28) (.tmp 30) 39 rfl w.heap.size 3 i0 (.int .i64 0) 1 8 Tryd.underlying39 I0.out Z0.out Z1.out Z2.out rfl (by decide) _ _ _ rfl (hown.out.alloc _) ⟨wr.heap.size, 0, none⟩ 1 1 [.int .i64 (d : Int)] rfl rfl (cell_one_new _ _ _) (by intro u hu; simp at hu; subst hu; rfl) H63.out (by omega) (HB.out _) ?_; intro v2 w3 hown' hgrow hnil)))
        go_roundw
        case rel =>
          obtain ⟨de, g1, g2, g3, g4, g5⟩ := FIN.out d 0 v2 w3 HD.out.1 HD.out.2 hown' (app_below hown.out hbel.out (Nat.le_refl _) hgrow)
          exact ⟨i + 1, 0, de, by omega, by omega, rfl, by go_num, g1, g2, g3, g4, g5⟩
        case measure => simp [intOf]; omega
    · obtain rfl : i = dq m := by omega
      have HV : Hid (val D4 dd = m - n) := by
        have h1 := hval.out
        rw [List.take_of_length_le (show (digs D4 m).length ≤ dq m from Nat.le_refl _), List.take_of_length_le (show (digs D4 n).length ≤ dq m from HLN.out), val_digs4, val_digs4] at h1
        have h2 := val_lt dd hdg.out
        rw [hdl.out] at h2
        exact rsub_end h1 h2 HNM.out hcr
      obtain ⟨A2, c2, he, hc, hr⟩ := row_rd hown.out
      cases he
      have HR := hide hr
      have hdl2 : dd.length ≤ 300000 := by rw [hdl.out]; omega
      go_wp2_with (first | (go_at_call 83; go_must (refine (rtrim_post rfl HV.out HR.out hdg.out (by omega) hc).mono ?_); rintro e w2 ⟨rfl, rfl⟩))
      go_ret
      exact ⟨A2, c2, rfl, rn_of rfl HV.out HR.out hdg.out hc, hbel⟩
end Go.Proofs.YtdjngaejdmlekaaDoor
end

section
/- Words for the document's own division: the reckoning, and append of any slice that reads as a list. No conditions. -/
open Go.RowKit
set_option maxRecDepth 100000
namespace Go.Proofs.YtdjngaejdmlekaaDoor
section
variable {P : Program} {w : World}
/-- Of a nil slice append adds nothing. -/
theorem app_nil (base : Nat) (t ty e : TypeId) (i : TypeInfo) (size : Nat) (ht : P.underlying t = some (.slice e)) (hi : P.info? e = some i)
    (v : Value) (n : Nat) (xs : List Value) (hown : w.ownsRow base e size v n xs) (c : Nat) : (Builtin.append_ #[t, t] ty #[v, .slice none 0 c]).run P w = .ok v w := by
  rcases hown.2 with ⟨rfl, rfl⟩ | ⟨g, cap, cur, rfl, _, _, hnc, _⟩
  · simp [Builtin.append_, run_underlying ht, sizeOf, typeInfo, hi, Builtin.lenOf, Builtin.firstCells]
  · simp [Builtin.append_, run_underlying ht, sizeOf, typeInfo, hi, Builtin.lenOf, Builtin.firstCells, hnc, storeCells]
theorem app_run {f : Nat → Value} (hf : ∀ x, (f x).oneCell' = true) (base : Nat) (t ty e : TypeId) (i : TypeInfo) (z : Value) (bytes : Nat) (ht : P.underlying t = some (.slice e)) (hi : P.info? e = some i) (hz : i.zero = some z)
    (hsize : i.size = 1) (hby : i.bytes = bytes) (hzs : z.cells.size = 1) {v : Value} {n : Nat} {xs : List Value} (hown : w.ownsRow base e 1 v n xs)
    {B : Nat} {A : Option Addr} {m c : Nat} {ws : List Nat} (hm : m = ws.length) (hr : Rd f w B A ws) (h63 : n + m ≤ maxLen) (hbytes : (n + m) * bytes ≤ 140737488355328) (hbase : base ≤ w.heap.size) :
    ∃ v' w', (Builtin.append_ #[t, t] ty #[v, .slice A m c]).run P w = .ok v' w' ∧ w'.ownsRow base e 1 v' (n + m) (xs ++ ws.map f) ∧ w.grownBy w' v.ownBlock ∧ (v'.ownBlock = v.ownBlock ∨ v'.ownBlock = some w.heap.size) := by
  subst hm
  by_cases h0 : ws = []
  · subst h0
    cases A with
    | none => exact ⟨v, w, app_nil base t ty e i 1 ht hi v n xs hown c, by simpa using hown, World.grownBy.refl w _, .inl rfl⟩
    | some ad =>
      obtain ⟨v', w', h1, h2, h3, _, h5⟩ := run_append_own_at (P := P) w base t ty e i z 1 bytes ht hi hz hsize hby hzs (by decide) v n xs hown ad 0 c [] (by simp) (by simp) (by simp) h63 hbytes hbase
      exact ⟨v', w', h1, by simpa using h2, h3, h5⟩
  · obtain ⟨ad, rfl, _, hc⟩ := hr (List.length_pos_iff.2 h0)
    obtain ⟨v', w', h1, h2, h3, _, h5⟩ := run_append_own_at (P := P) w base t ty e i z 1 bytes ht hi hz hsize hby hzs (by decide) v n xs hown ad ws.length c (ws.map f) (by simp) (fun j u hu => by
      rw [List.getElem?_map] at hu
      cases hj : ws[j]? with
      | none => rw [hj] at hu; cases hu
      | some x => rw [hj] at hu; injection hu with hu; rw [← hu]; exact hc j x hj) (by intro u hu; obtain ⟨x, _, rfl⟩ := List.mem_map.1 hu; exact hf x) h63 hbytes hbase
    exact ⟨v', w', h1, h2, h3, h5⟩
theorem wpList_app {f : Nat → Value} (hf : ∀ x, (f x).oneCell' = true) {ops : Array Oper} {rest : List Oper} {o : Oper} {a : Act} {Q : Exit → Act → World → Prop} (hgd : o.guard = none) (s x : Operand) (t : TypeId)
    (ho : o.op = .call { callee := .builtin .append, args := #[s, x], argTypes := #[t, t] }) (base : Nat) (e : TypeId) (i : TypeInfo) (z : Value) (bytes : Nat) (ht : P.underlying t = some (.slice e)) (hi : P.info? e = some i) (hz : i.zero = some z)
    (hsize : i.size = 1) (hby : i.bytes = bytes) (hzs : z.cells.size = 1) {v : Value} {n : Nat} {xs : List Value} (hs : a.eval s = v) (hown : w.ownsRow base e 1 v n xs)
    {B : Nat} {A : Option Addr} {m c : Nat} {ws : List Nat} (hx : a.eval x = .slice A m c) (hm : m = ws.length) (hr : Rd f w B A ws) (h63 : n + m ≤ maxLen) (hbytes : (n + m) * bytes ≤ 140737488355328) (hbase : base ≤ w.heap.size)
    (h : ∀ v' w', w'.ownsRow base e 1 v' (n + m) (xs ++ ws.map f) → w.grownBy w' v.ownBlock → (v'.ownBlock = v.ownBlock ∨ v'.ownBlock = some w.heap.size) → wpList P ops Q rest (a.put o.dst v') w') : wpList P ops Q (o :: rest) a w := by
  refine wpList_plain hgd fun K hK => ?_
  obtain ⟨v', w', h1, h2, h3, h4⟩ := app_run (P := P) hf base t o.type e i z bytes ht hi hz hsize hby hzs hown hm hr h63 hbytes hbase
  unfold Oper.wp execOp
  simp only [ho, resolve, invoke, builtin, Sem.run_bind, Sem.run_pure, Result.andThen_ok, List.map_toArray, List.map_cons, List.map_nil, hs, hx]
  rw [h1]
  exact hK _ _ (h v' w' h2 h3 h4)
end
/-- One digit of the quotient. -/
theorem rdiv_digit {n r x : Nat} (hr : r < n) (hx : x ≤ 9999) : (x + D4 * r) / n ≤ 9999 ∧ (x + D4 * r) - n * ((x + D4 * r) / n) < n ∧ n * ((x + D4 * r) / n) ≤ x + D4 * r := by
  have h0 : 0 < n := by omega
  have h1 : (x + D4 * r) / n < 10000 := by
    rw [Nat.div_lt_iff_lt_mul h0]
    have : D4 * (r + 1) ≤ 10000 * n := Nat.mul_le_mul (by decide) hr
    rw [Nat.mul_add, D4_eq] at this
    rw [D4_eq]; omega
  have h2 := Nat.div_add_mod (x + D4 * r) n
  have h3 := Nat.mod_lt (x + D4 * r) h0
  omega
theorem rdiv_step {n H r x M t r' : Nat} (hM : M = n * H + r) (ht : n * t + r' = x + D4 * r) : x + D4 * M = n * (t + D4 * H) + r' := by
  have e1 : n * (t + D4 * H) = n * t + D4 * (n * H) := by rw [Nat.mul_add, Nat.mul_left_comm]
  rw [hM, e1, Nat.mul_add]; omega
theorem rdiv_end {m n Q r : Nat} (hM : m = n * Q + r) (hr : r < n) : m / n = Q ∧ m % n = r := by
  exact (Nat.div_mod_unique (a := m) (b := n) (by omega)).2 ⟨by rw [hM, Nat.add_comm], hr⟩
theorem zeros_set {hi : List Nat} {i v : Nat} : (List.replicate (i + 1) 0 ++ hi).set i v = List.replicate i 0 ++ (v :: hi) := by
  rw [List.replicate_succ']
  rw [List.append_assoc, List.set_append_right _ _ (by simp)]
  simp
theorem val_drop_lt {m top : Nat} (h : top ≤ dq m) : val D4 ((digs D4 m).drop top) < D4 ^ (dq m - top) := by
  have := val_lt ((digs D4 m).drop top) (fun x hx => good4_digs m x (List.mem_of_mem_drop hx))
  rwa [List.length_drop] at this
/-- The bisection's step. -/
theorem bis_le {n s t : Nat} (h0 : 0 < n) : n * s ≤ t ↔ s ≤ t / n := by rw [Nat.mul_comm]; exact (Nat.le_div_iff_mul_le h0).symm
end Go.Proofs.YtdjngaejdmlekaaDoor
end
