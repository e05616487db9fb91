/- shiftLeft. Conditions: at most 100000 words, a shift of at most 31. -/
import Derived.Test.YtlmfkeicmldcnaaDoorAddm
open Go.RowKit
set_option maxRecDepth 100000
namespace Go.Proofs.YtlmfkeicmldcnaaDoor
theorem W32_split {sh : Nat} (h : sh ≤ 31) : W32 = 2 ^ sh * 2 ^ (32 - sh) := by
  rw [← Nat.pow_add, show sh + (32 - sh) = 32 by omega]; rfl
theorem shl_lo {y sh : Nat} (h : sh ≤ 31) : y * 2 ^ sh % W32 = (y % 2 ^ (32 - sh)) * 2 ^ sh := by
  rw [W32_split h, Nat.mul_comm y, Nat.mul_mod_mul_left, Nat.mul_comm]
theorem shl_room {y sh hh : Nat} (h : sh ≤ 31) (hl : hh < 2 ^ sh) : hh + y * 2 ^ sh % W32 < W32 := by
  rw [shl_lo h]
  have h1 : y % 2 ^ (32 - sh) + 1 ≤ 2 ^ (32 - sh) := Nat.mod_lt _ (Nat.pow_pos (by decide))
  have h2 := Nat.mul_le_mul_right (2 ^ sh) h1
  rw [Nat.add_mul, Nat.one_mul, Nat.mul_comm (2 ^ (32 - sh)), ← W32_split h] at h2
  omega
theorem shl_hi {y sh : Nat} (hy : y < W32) : y * 2 ^ sh / W32 < 2 ^ sh := by
  rw [Nat.div_lt_iff_lt_mul (by decide), Nat.mul_comm (2 ^ sh)]
  exact Nat.mul_lt_mul_of_pos_right hy (Nat.pow_pos (by decide))
theorem shl_wrap {y sh : Nat} (hy : y < W32) (h : sh ≤ 31) : IntKind.u64.wrap ((y : Int) * 2 ^ sh) = ((y * 2 ^ sh : Nat) : Int) := by
  have h1 : y * 2 ^ sh < W32 * 2 ^ 31 := Nat.lt_of_lt_of_le (Nat.mul_lt_mul_of_pos_right hy (Nat.pow_pos (by decide))) (Nat.mul_le_mul_left _ (Nat.pow_le_pow_right (by decide) h))
  have h2 : W32 * 2 ^ 31 ≤ 18446744073709551615 := by decide
  rw [show ((y : Int) * 2 ^ sh) = ((y * 2 ^ sh : Nat) : Int) by rw [Int.natCast_mul, Int.natCast_pow]; rfl]
  exact u64_nat (by omega)
theorem shl_or {y sh hh : Nat} (h : sh ≤ 31) (hl : hh < 2 ^ sh) : bits .or .u32 (hh : Int) (((y * 2 ^ sh : Nat) : Int) % 4294967296) = ((hh + y * 2 ^ sh % W32 : Nat) : Int) := by
  have h0 := shl_room (y := y) h hl
  have h3 : y * 2 ^ sh % W32 < W32 := Nat.mod_lt _ (by decide)
  rw [lo32, u32_or_nat _ _ (by rw [W32_eq] at h0; omega) (by rw [W32_eq] at h3; exact h3), Nat.or_comm, shl_lo h, or_pow _ _ _ hl, Nat.add_comm]
theorem shl_math {P V hh T A y W s : Nat} (h : V + P * hh = A * s) (ht : T = y * s) : V + P * (hh + T % W) + P * W * (T / W) = (A + P * y) * s := by
  have e : P * (hh + T % W) + P * W * (T / W) = P * hh + P * T := by
    rw [Nat.mul_assoc, ← Nat.mul_add, Nat.add_assoc, Nat.mod_add_div, Nat.mul_add]
  rw [Nat.add_assoc, e, ← Nat.add_assoc, h, ht, Nat.add_mul, Nat.mul_assoc]
theorem shl_list {seg : List Nat} {i hh z a b : Nat} (h : seg.length = i) : ((seg ++ (hh :: 0 :: List.replicate z 0)).set i a).set (i + 1) b = (seg ++ [a]) ++ (b :: List.replicate z 0) := by
  rw [List.set_append, if_neg (by omega), h, Nat.sub_self, List.set_cons_zero, List.set_append, if_neg (by omega), h, show i + 1 - i = 1 by omega]
  simp
def ShlPost (w : World) (n sh v : Nat) (e : Ending) (w' : World) : Prop :=
  ∃ g R, e = .returned (.slice (some ⟨g, 0, none⟩) (n + 1) (n + 1)) ∧ Hid (w.heap.size ≤ g) ∧ Hid (Blk U32 30 w' g R) ∧ Hid (R.length = n + 1) ∧ Hid (Good32 R) ∧ Hid (val W32 R = v * 2 ^ sh) ∧ Hid (Below w.heap.size w w')
set_option maxHeartbeats 2000000 in
theorem shiftLeft_any {A : Option Addr} {n c sh : Nat} {ys : List Nat} {w : World} (hn : n = ys.length) (h : Rd U32 w w.heap.size A ys) (hy : Good32 ys) (hl : n ≤ 100000) (hs : sh ≤ 31) :
    Calls Tryd.prog 85 #[.slice A n c, .int .i64 (sh : Int)] w (ShlPost w n sh (val W32 ys)) := by
  have HN := hide hn
  have HR := hide h
  have HY := hide hy
  clear hn h hy
  go_enter Tryd.func85, Tryd.ntmps85
  go_wp2_with (first | (at_make; go_must (refine wpList_words rfl _ _ rfl (n + 1) rfl rfl (by omega) ?_; intro g w1 hg hb1 hbel)))
  have hgw : w.heap.size ≤ g := by rw [hg.out]; exact Nat.le_refl _
  have HW1 := hide hbel
  clear hg hbel
  go_loopw [15] (fun iv wr => ∃ (i hh : Nat) (seg : List Nat), i ≤ n ∧ iv = .int .i64 (i : Int) ∧ Hid (hh < 2 ^ sh) ∧ Hid (seg.length = i) ∧ Hid (Good32 seg) ∧ Hid (val W32 seg + W32 ^ i * hh = val W32 (ys.take i) * 2 ^ sh) ∧ Hid (Blk U32 30 wr g (seg ++ (hh :: List.replicate (n - i) 0))) ∧ Hid (w1.grownBy wr (some g)))
    (fun iv _ => n - (intOf iv).toNat)
  case atStart => exact ⟨0, 0, [], Nat.zero_le _, rfl, Nat.pow_pos (by decide), rfl, by intro x hx; simp at hx, by simp [Hid, val], by have := hb1.out; rw [List.replicate_succ] at this; exact this, World.grownBy.refl _ _⟩
  case round =>
    obtain ⟨i, hh, seg, hi, rfl, hhl, hsl, hsg, hval, hblk, hgr⟩ := hrel
    by_cases hlt : i < n
    · have hiy : i < ys.length := by rw [← HN.out]; exact hlt
      obtain ⟨y, hye⟩ : ∃ y, y = ys[i] := ⟨_, rfl⟩
      obtain ⟨ad, rfl, hab, hcy⟩ := ((HR.out.below HW1.out).grown hgr.out hgw).at_ hiy
      rw [← hye] at hcy
      unfold U32 at hcy
      have hyW : y ≤ 4294967295 := word_le (by rw [hye]; exact HY.out _ (List.getElem_mem _))
      obtain ⟨z, hz⟩ : ∃ z, n - i = z + 1 := ⟨n - i - 1, by omega⟩
      rw [hz, List.replicate_succ] at hblk
      have HZ := hide hz
      have hc0 : wr.cell? ⟨g, i, none⟩ = some (.int .u32 (hh : Int)) := hblk.out.cell (by rw [List.getElem?_append_right (by rw [hsl.out]; exact Nat.le_refl _), hsl.out, Nat.sub_self]; rfl)
      have hf0 := hblk.out.frozen i
      have hc1 : wr.cell? ⟨g, i + 1, none⟩ = some (.int .u32 0) := hblk.out.cell (by rw [List.getElem?_append_right (by rw [hsl.out]; omega), hsl.out, show i + 1 - i = 1 by omega]; rfl)
      have hf1 := hblk.out.frozen (i + 1)
      have HWW := hide (shl_wrap (y := y) (sh := sh) (by rw [W32_eq]; omega) hs)
      have HOR := hide (shl_or (y := y) hs hhl.out)
      have HHI : Hid (y * 2 ^ sh / W32 < 2 ^ sh) := shl_hi (by rw [W32_eq]; omega)
      have HHW : Hid (y * 2 ^ sh / W32 < W32) := Nat.lt_trans HHI.out (Nat.lt_of_le_of_lt (Nat.pow_le_pow_right (by decide) hs) (by decide))
      have RY := hide (val_take_succ W32 (L := ys) (i := i) (x := y) (by rw [hye]; exact List.getElem?_eq_getElem hiy))
      have RM := hide (shl_math (W := W32) (y := y) hval.out rfl)
      clear hz hye hiy
      go_wp2
      go_roundw
      case rel =>
        rw [HWW.out, HOR.out]
        refine ⟨i + 1, y * 2 ^ sh / W32, seg ++ [hh + y * 2 ^ sh % W32], by omega, by go_num, HHI, by unfold Hid; simp [hsl.out], good_snoc hsg.out (shl_room hs hhl.out), ?_, ?_, grown_set (grown_set hgr.out _ _) _ _⟩
        · unfold Hid
          rw [val_snoc, hsl.out, Nat.pow_succ, RY.out]
          exact RM.out
        · have h1 := (hblk.out.set_ i (hh + y * 2 ^ sh % W32)).set_ (i + 1) (y * 2 ^ sh / W32)
          rw [shl_list hsl.out] at h1
          have e : ((y * 2 ^ sh : Nat) : Int) / 4294967296 % 4294967296 = ((y * 2 ^ sh / W32 : Nat) : Int) := by
            have h3 := HHW.out
            rw [hi32]
            rw [W32_eq] at h3 ⊢
            omega
          rw [e, show n - (i + 1) = z by have := HZ.out; omega]
          exact h1
      case measure => simp [intOf]; omega
    · obtain rfl : i = n := by omega
      go_wp2
      go_ret
      have hb := hblk.out
      rw [Nat.sub_self, List.replicate_zero] at hb
      refine ⟨g, seg ++ [hh], rfl, hgw, hb, by unfold Hid; simp [hsl.out], ?_, ?_, HW1.out.trans (grown_below hgr.out hgw hb1.out.lt)⟩
      · exact good_snoc hsg.out (Nat.lt_of_lt_of_le hhl.out (Nat.le_trans (Nat.pow_le_pow_right (by decide) hs) (by decide)))
      · unfold Hid
        rw [val_snoc, hsl.out, hval.out, List.take_of_length_le (by rw [← HN.out]; exact Nat.le_refl _)]
end Go.Proofs.YtlmfkeicmldcnaaDoor
