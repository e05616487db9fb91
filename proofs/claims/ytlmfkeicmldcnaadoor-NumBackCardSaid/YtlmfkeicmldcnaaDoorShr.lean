/- shiftRight. Conditions: at most 100000 words, a shift of at most 31. -/
import Derived.Test.YtlmfkeicmldcnaaDoorShl
open Go.RowKit
set_option maxRecDepth 100000
namespace Go.Proofs.YtlmfkeicmldcnaaDoor
theorem W32_split' {s : Nat} (h : s ≤ 31) : W32 = 2 ^ (32 - s) * 2 ^ s := by rw [W32_split h, Nat.mul_comm]
theorem shr_wide {y s : Nat} (h : s ≤ 31) : y * 4294967296 / 2 ^ s = y * 2 ^ (32 - s) := by
  rw [show (4294967296 : Nat) = 2 ^ (32 - s) * 2 ^ s from W32_split' h, ← Nat.mul_assoc, Nat.mul_div_cancel _ (Nat.pow_pos (by decide))]
theorem shr_lo {y s : Nat} (h : s ≤ 31) : y * 2 ^ (32 - s) % W32 = (y % 2 ^ s) * 2 ^ (32 - s) := by
  rw [W32_split' h, Nat.mul_comm y, Nat.mul_mod_mul_left, Nat.mul_comm]
theorem shr_hi {y s : Nat} (h : s ≤ 31) : y * 2 ^ (32 - s) / W32 = y / 2 ^ s := by
  rw [W32_split' h, Nat.mul_comm y, Nat.mul_div_mul_left _ _ (Nat.pow_pos (by decide))]
theorem shr_top {y s : Nat} (hy : y < W32) (h : s ≤ 31) : y / 2 ^ s < 2 ^ (32 - s) := by
  rw [Nat.div_lt_iff_lt_mul (Nat.pow_pos (by decide)), ← W32_split' h]; exact hy
theorem shr_room {y s t : Nat} (h : s ≤ 31) (ht : t < 2 ^ (32 - s)) : t + (y % 2 ^ s) * 2 ^ (32 - s) < W32 := by
  have h1 : y % 2 ^ s + 1 ≤ 2 ^ s := Nat.mod_lt _ (Nat.pow_pos (by decide))
  have h2 := Nat.mul_le_mul_right (2 ^ (32 - s)) h1
  rw [Nat.add_mul, Nat.one_mul, ← W32_split h] at h2
  omega
theorem shr_or {y s t : Nat} (h : s ≤ 31) (ht : t < 2 ^ (32 - s)) : bits .or .u32 (t : Int) (((y * 2 ^ (32 - s) : Nat) : Int) % 4294967296) = ((t + (y % 2 ^ s) * 2 ^ (32 - s) : Nat) : Int) := by
  have h0 := shr_room (y := y) h ht
  have h3 : y * 2 ^ (32 - s) % W32 < W32 := Nat.mod_lt _ (by decide)
  rw [lo32, u32_or_nat _ _ (by rw [W32_eq] at h0; omega) (by rw [W32_eq] at h3; exact h3), Nat.or_comm, shr_lo h, or_pow _ _ _ ht, Nat.add_comm]
theorem shr_wrap {y s : Nat} (h : s ≤ 31) : ((y : Int) * 4294967296) / 2 ^ s = ((y * 2 ^ (32 - s) : Nat) : Int) := by
  rw [← shr_wide h, Int.natCast_ediv, Int.natCast_mul, Int.natCast_pow]; rfl
theorem shr_math {V P p A y s : Nat} (hs : s ≤ 31) (h : V + P * p = A / 2 ^ s) : V + P * (p + (y % 2 ^ s) * 2 ^ (32 - s)) + P * W32 * (y / 2 ^ s) = (A + P * W32 * y) / 2 ^ s := by
  have e1 : P * W32 * y = 2 ^ s * (P * 2 ^ (32 - s) * y) := by
    rw [W32_split hs]
    simp only [Nat.mul_assoc, Nat.mul_left_comm]
  rw [e1, Nat.add_mul_div_left _ _ (Nat.pow_pos (by decide)), ← h, W32_split hs]
  have e2 : P * 2 ^ (32 - s) * y = P * (y % 2 ^ s * 2 ^ (32 - s)) + P * (2 ^ s * 2 ^ (32 - s)) * (y / 2 ^ s) := by
    have e3 := Nat.mod_add_div y (2 ^ s)
    have e4 : P * (2 ^ s * 2 ^ (32 - s)) * (y / 2 ^ s) = P * 2 ^ (32 - s) * (2 ^ s * (y / 2 ^ s)) := by
      simp only [Nat.mul_assoc, Nat.mul_left_comm]
    rw [e4, Nat.mul_comm (y % 2 ^ s), ← Nat.mul_assoc, ← Nat.mul_add, e3]
  rw [e2, Nat.mul_add]
  omega
theorem shr_word {y s : Nat} (hy : y < W32) (hs : s ≤ 31) : ((y * 2 ^ (32 - s) : Nat) : Int) / 4294967296 % 4294967296 = ((y / 2 ^ s : Nat) : Int) := by
  have h3 : y * 2 ^ (32 - s) / W32 = y / 2 ^ s := shr_hi hs
  have h4 : y / 2 ^ s < W32 := Nat.lt_of_le_of_lt (Nat.div_le_self _ _) hy
  rw [hi32, h3]
  obtain ⟨q, hq⟩ : ∃ q, q = y / 2 ^ s := ⟨_, rfl⟩
  rw [← hq, W32_eq] at h4
  rw [← hq]
  omega
theorem shr_list {seg : List Nat} {i z a b c d : Nat} (h : seg.length = i) : (((seg ++ [c]) ++ (d :: List.replicate z 0)).set (i + 1) a).set i b = ((seg ++ [b]) ++ [a]) ++ List.replicate z 0 := by
  simp [List.set_append, h]
theorem shr_snoc {seg : List Nat} {j : Nat} (h : seg.length = j + 1) : ∃ S p, seg = S ++ [p] ∧ S.length = j := by
  have hne : seg ≠ [] := by intro e; rw [e] at h; cases h
  refine ⟨seg.dropLast, seg.getLast hne, (List.dropLast_concat_getLast hne).symm, ?_⟩
  rw [List.length_dropLast, h]; rfl
def ShrPost (w : World) (n sh v : Nat) (e : Ending) (w' : World) : Prop :=
  ∃ g R, e = .returned (.slice (some ⟨g, 0, none⟩) n n) ∧ Hid (w.heap.size ≤ g) ∧ Hid (Blk U32 30 w' g R) ∧ Hid (R.length = n) ∧ Hid (Good32 R) ∧ Hid (val W32 R = v / 2 ^ sh) ∧ Hid (Below w.heap.size w w')
set_option maxHeartbeats 2000000 in
theorem shiftRight_any {A : Option Addr} {n c sh : Nat} {ys : List Nat} {w : World} (hn : n = ys.length) (h : Rd U32 w w.heap.size A ys) (hy : Good32 ys) (hl : n ≤ 100000) (hs : sh ≤ 31) :
    Calls Tryd.prog 87 #[.slice A n c, .int .i64 (sh : Int)] w (ShrPost w n sh (val W32 ys)) := by
  have HN := hide hn
  have HR := hide h
  have HY := hide hy
  clear hn h hy
  go_enter Tryd.func87, Tryd.ntmps87
  go_wp2_with (first | (at_make; go_must (refine wpList_words rfl _ _ rfl n rfl rfl (by omega) ?_; intro g w1 hg hb1 hbel)))
  have hgw : w.heap.size ≤ g := by rw [hg.out]; exact Nat.le_refl _
  have HW1 := hide hbel
  clear hg hbel
  go_loopw [14] (fun iv wr => ∃ (i : Nat) (seg : List Nat), i ≤ n ∧ iv = .int .i64 (i : Int) ∧ Hid (seg.length = i) ∧ Hid (Good32 seg) ∧ Hid (∀ t, seg.getLast? = some t → t < 2 ^ (32 - sh)) ∧ Hid (val W32 seg = val W32 (ys.take i) / 2 ^ sh) ∧ Hid (Blk U32 30 wr g (seg ++ List.replicate (n - i) 0)) ∧ Hid (w1.grownBy wr (some g)))
    (fun iv _ => n - (intOf iv).toNat)
  case atStart => exact ⟨0, [], Nat.zero_le _, rfl, rfl, by intro x hx; simp at hx, by intro t ht; simp at ht, by simp [Hid, val], hb1, World.grownBy.refl _ _⟩
  case round =>
    obtain ⟨i, seg, hi, rfl, hsl, hsg, hst, hval, hblk, hgr⟩ := hrel
    by_cases hlt : i < n
    · have hiy : i < ys.length := by rw [← HN.out]; exact hlt
      obtain ⟨y, hye⟩ : ∃ y, y = ys[i] := ⟨_, rfl⟩
      obtain ⟨ad, rfl, hab, hcy⟩ := ((HR.out.below HW1.out).grown hgr.out hgw).at_ hiy
      rw [← hye] at hcy
      unfold U32 at hcy
      have hyW : y ≤ 4294967295 := word_le (by rw [hye]; exact HY.out _ (List.getElem_mem _))
      have HYW : Hid (y < W32) := by unfold Hid; rw [W32_eq]; omega
      obtain ⟨z, hz⟩ : ∃ z, n - i = z + 1 := ⟨n - i - 1, by omega⟩
      rw [hz] at hblk
      have HZ := hide hz
      have hc0 : wr.cell? ⟨g, i, none⟩ = some (.int .u32 0) := hblk.out.cell (get_zeros hsl.out)
      have hf0 := hblk.out.frozen i
      have HWW := hide (shr_wrap (y := y) (s := sh) hs)
      have RY := hide (val_take_succ W32 (L := ys) (i := i) (x := y) (by rw [hye]; exact List.getElem?_eq_getElem hiy))
      clear hz hye hiy
      by_cases h0 : i = 0
      · have hk : ¬ ((0 : Int) < (i : Int)) := by omega
        have H0 := hide h0
        clear h0
        go_wp2
        go_roundw
        case rel =>
          rw [HWW.out, shr_word HYW.out hs]
          have hs0 : seg = [] := List.length_eq_zero_iff.mp (by rw [hsl.out, H0.out])
          refine ⟨i + 1, [y / 2 ^ sh], by omega, by go_num, by unfold Hid; rw [H0.out]; rfl, ?_, ?_, ?_, ?_, grown_set hgr.out _ _⟩
          · intro x hx
            rw [List.mem_singleton.mp hx]
            exact Nat.lt_of_le_of_lt (Nat.div_le_self _ _) HYW.out
          · intro t ht
            have ht' : y / 2 ^ sh = t := by simpa using ht
            rw [← ht']; exact shr_top HYW.out hs
          · unfold Hid
            rw [RY.out, H0.out]
            simp [val]
          · have h1 := hblk.out.set_ i (y / 2 ^ sh)
            rw [hs0, H0.out, List.replicate_succ] at h1
            rw [H0.out, show n - (0 + 1) = z by have := HZ.out; have := H0.out; omega]
            exact h1
        case measure => simp [intOf]; omega
      · obtain ⟨j, hj⟩ : ∃ j, j + 1 = i := ⟨i - 1, by omega⟩
        have hk : (0 : Int) < (i : Int) := by omega
        have hj' : (i : Int) - 1 = (j : Int) := by omega
        have HJ := hide hj
        obtain ⟨S, p, hSp, hSl⟩ := shr_snoc (hsl.out.trans hj.symm)
        have HS := hide hSp
        have HL := hide hSl
        have hc2 : wr.cell? ⟨g, j, none⟩ = some (.int .u32 ((p : Nat) : Int)) := hblk.out.cell (by rw [hSp, List.append_assoc, List.getElem?_append_right (by rw [hSl]; exact Nat.le_refl _), hSl, Nat.sub_self]; rfl)
        have hpt : Hid (p < 2 ^ (32 - sh)) := hst.out p (by rw [hSp]; simp)
        have hpW : p ≤ 4294967295 := word_le (hsg.out p (by rw [hSp]; simp))
        have HOR := hide (shr_or (y := y) hs hpt.out)
        have hv := hval.out
        rw [hSp, val_snoc, hSl] at hv
        have RM := hide (shr_math (y := y) hs hv)
        clear hSp hSl hv
        have hf2 := hblk.out.frozen j
        clear h0
        go_wp2
        go_roundw
        case rel =>
          rw [HWW.out, shr_word HYW.out hs, HOR.out]
          refine ⟨i + 1, (S ++ [p + y % 2 ^ sh * 2 ^ (32 - sh)]) ++ [y / 2 ^ sh], by omega, by go_num, by unfold Hid; simp [HL.out, HJ.out], ?_, ?_, ?_, ?_, grown_set (grown_set hgr.out _ _) _ _⟩
          · refine good_snoc (good_snoc (fun x hx => hsg.out x (by rw [HS.out]; simp [hx])) (shr_room hs hpt.out)) (Nat.lt_of_le_of_lt (Nat.div_le_self _ _) HYW.out)
          · intro t ht
            have ht' : y / 2 ^ sh = t := by simpa using ht
            rw [← ht']; exact shr_top HYW.out hs
          · unfold Hid
            rw [val_snoc, val_snoc, RY.out, HL.out, List.length_append, HL.out, ← HJ.out]
            have h2 := RM.out
            rw [Nat.pow_succ, HJ.out]
            exact h2
          · have h1 := (hblk.out.set_ i (y / 2 ^ sh)).set_ j (p + y % 2 ^ sh * 2 ^ (32 - sh))
            rw [HS.out, List.replicate_succ, ← HJ.out, shr_list HL.out] at h1
            rw [show n - (i + 1) = z by have := HZ.out; omega, ← HJ.out]
            exact h1
        case measure => simp [intOf]; omega
    · obtain rfl : i = n := by omega
      go_wp2
      go_ret
      have hb := hblk.out
      rw [Nat.sub_self, List.replicate_zero, List.append_nil] at hb
      refine ⟨g, seg, rfl, hgw, hb, hsl, hsg, ?_, HW1.out.trans (grown_below hgr.out hgw hb1.out.lt)⟩
      unfold Hid
      rw [hval.out, List.take_of_length_le (by rw [← HN.out]; exact Nat.le_refl _)]
end Go.Proofs.YtlmfkeicmldcnaaDoor
