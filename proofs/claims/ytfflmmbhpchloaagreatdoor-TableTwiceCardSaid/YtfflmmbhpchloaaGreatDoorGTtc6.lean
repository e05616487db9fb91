/- Each theorem here says its own conditions. -/
import Derived.Test.YtfflmmbhpchloaaGreatDoorGTtc5
set_option maxRecDepth 100000
set_option maxHeartbeats 16000000
section
open Go.RowKit
namespace Go.Proofs.YtfflmmbhpchloaaGreatDoor
theorem W32_split' {s : Nat} (h : s ≤ 31) : W32 = 2 ^ (32 - s) * 2 ^ s := by rw [W32_split h, Nat.mul_comm]
theorem shr_wide {y s : Nat} (h : s ≤ 31) : y * 4294967296 / 2 ^ s = y * 2 ^ (32 - s) := by
 rw [show (4294967296 : Nat) = 2 ^ (32 - s) * 2 ^ s from W32_split' h, ← Nat.mul_assoc, Nat.mul_div_cancel _ (Nat.pow_pos (by decide))]
theorem shr_lo {y s : Nat} (h : s ≤ 31) : y * 2 ^ (32 - s) % W32 = (y % 2 ^ s) * 2 ^ (32 - s) := by
 rw [W32_split' h, Nat.mul_comm y, Nat.mul_mod_mul_left, Nat.mul_comm]
theorem shr_hi {y s : Nat} (h : s ≤ 31) : y * 2 ^ (32 - s) / W32 = y / 2 ^ s := by
 rw [W32_split' h, Nat.mul_comm y, Nat.mul_div_mul_left _ _ (Nat.pow_pos (by decide))]
theorem shr_top {y s : Nat} (hy : y < W32) (h : s ≤ 31) : y / 2 ^ s < 2 ^ (32 - s) := by
 rw [Nat.div_lt_iff_lt_mul (Nat.pow_pos (by decide)), ← W32_split' h]; exact hy
theorem shr_room {y s t : Nat} (h : s ≤ 31) (ht : t < 2 ^ (32 - s)) : t + (y % 2 ^ s) * 2 ^ (32 - s) < W32 := by
 have h1 : y % 2 ^ s + 1 ≤ 2 ^ s := Nat.mod_lt _ (Nat.pow_pos (by decide))
 have h2 := Nat.mul_le_mul_right (2 ^ (32 - s)) h1
 rw [Nat.add_mul, Nat.one_mul, ← W32_split h] at h2
 omega
theorem shr_or {y s t : Nat} (h : s ≤ 31) (ht : t < 2 ^ (32 - s)) : bits .or .u32 (t : Int) (((y * 2 ^ (32 - s) : Nat) : Int) % 4294967296) = ((t + (y % 2 ^ s) * 2 ^ (32 - s) : Nat) : Int) := by
 have h0 := shr_room (y := y) h ht
 have h3 : y * 2 ^ (32 - s) % W32 < W32 := Nat.mod_lt _ (by decide)
 rw [lo32, u32_or_nat _ _ (by rw [W32_eq] at h0; omega) (by rw [W32_eq] at h3; exact h3), Nat.or_comm, shr_lo h, or_pow _ _ _ ht, Nat.add_comm]
theorem shr_wrap {y s : Nat} (h : s ≤ 31) : ((y : Int) * 4294967296) / 2 ^ s = ((y * 2 ^ (32 - s) : Nat) : Int) := by
 rw [← shr_wide h, Int.natCast_ediv, Int.natCast_mul, Int.natCast_pow]; rfl
theorem shr_math {V P p A y s : Nat} (hs : s ≤ 31) (h : V + P * p = A / 2 ^ s) : V + P * (p + (y % 2 ^ s) * 2 ^ (32 - s)) + P * W32 * (y / 2 ^ s) = (A + P * W32 * y) / 2 ^ s := by
 have e1 : P * W32 * y = 2 ^ s * (P * 2 ^ (32 - s) * y) := by
  rw [W32_split hs]
  simp only [Nat.mul_assoc, Nat.mul_left_comm]
 rw [e1, Nat.add_mul_div_left _ _ (Nat.pow_pos (by decide)), ← h, W32_split hs]
 have e2 : P * 2 ^ (32 - s) * y = P * (y % 2 ^ s * 2 ^ (32 - s)) + P * (2 ^ s * 2 ^ (32 - s)) * (y / 2 ^ s) := by
  have e3 := Nat.mod_add_div y (2 ^ s)
  have e4 : P * (2 ^ s * 2 ^ (32 - s)) * (y / 2 ^ s) = P * 2 ^ (32 - s) * (2 ^ s * (y / 2 ^ s)) := by
   simp only [Nat.mul_assoc, Nat.mul_left_comm]
  rw [e4, Nat.mul_comm (y % 2 ^ s), ← Nat.mul_assoc, ← Nat.mul_add, e3]
 rw [e2, Nat.mul_add]
 omega
theorem shr_word {y s : Nat} (hy : y < W32) (hs : s ≤ 31) : ((y * 2 ^ (32 - s) : Nat) : Int) / 4294967296 % 4294967296 = ((y / 2 ^ s : Nat) : Int) := by
 have h3 : y * 2 ^ (32 - s) / W32 = y / 2 ^ s := shr_hi hs
 have h4 : y / 2 ^ s < W32 := Nat.lt_of_le_of_lt (Nat.div_le_self _ _) hy
 rw [hi32, h3]
 obtain ⟨q, hq⟩ : ∃ q, q = y / 2 ^ s := ⟨_, rfl⟩
 rw [← hq, W32_eq] at h4
 rw [← hq]
 omega
theorem shr_list {seg : List Nat} {i z a b c d : Nat} (h : seg.length = i) : (((seg ++ [c]) ++ (d :: List.replicate z 0)).set (i + 1) a).set i b = ((seg ++ [b]) ++ [a]) ++ List.replicate z 0 := by
 simp [List.set_append, h]
theorem shr_snoc {seg : List Nat} {j : Nat} (h : seg.length = j + 1) : ∃ S p, seg = S ++ [p] ∧ S.length = j := by
 have hne : seg ≠ [] := by intro e; rw [e] at h; cases h
 refine ⟨seg.dropLast, seg.getLast hne, (List.dropLast_concat_getLast hne).symm, ?_⟩
 rw [List.length_dropLast, h]; rfl
def ShrPost (w : World) (n sh v : Nat) (e : Ending) (w' : World) : Prop :=
 ∃ g R, e = .returned (.slice (some ⟨g, 0, none⟩) n n) ∧ Hid (w.heap.size ≤ g) ∧ Hid (Blk U32 142 w' g R) ∧ Hid (R.length = n) ∧ Hid (Good32 R) ∧ Hid (val W32 R = v / 2 ^ sh) ∧ Hid (Below w.heap.size w w')
theorem shiftRight_any {A : Option Addr} {n c sh : Nat} {ys : List Nat} {w : World} (hn : n = ys.length) (h : Rd U32 w w.heap.size A ys) (hy : Good32 ys) (hl : n ≤ 100000) (hs : sh ≤ 31) :
 Calls Tryz.prog 150 #[.slice A n c, .int .i64 (sh : Int)] w (ShrPost w n sh (val W32 ys)) := by
 have HN := hide hn
 have HR := hide h
 have HY := hide hy
 clear hn h hy
 go_enter Tryz.func150, Tryz.ntmps150
 go_wp2_with (first | (at_make; go_must (refine wpList_words rfl _ _ rfl n rfl rfl (by omega) ?_; intro g w1 hg hb1 hbel)))
 have hgw : w.heap.size ≤ g := by rw [hg.out]; exact Nat.le_refl _
 have HW1 := hide hbel
 clear hg hbel
 go_loopw [14] (fun iv wr => ∃ (i : Nat) (seg : List Nat), i ≤ n ∧ iv = .int .i64 (i : Int) ∧ Hid (seg.length = i) ∧ Hid (Good32 seg) ∧ Hid (∀ t, seg.getLast? = some t → t < 2 ^ (32 - sh)) ∧ Hid (val W32 seg = val W32 (ys.take i) / 2 ^ sh) ∧ Hid (Blk U32 142 wr g (seg ++ List.replicate (n - i) 0)) ∧ Hid (w1.grownBy wr (some g)))
  (fun iv _ => n - (intOf iv).toNat)
 case atStart => exact ⟨0, [], Nat.zero_le _, rfl, rfl, by intro x hx; simp at hx, by intro t ht; simp at ht, by simp [Hid, val], hb1, World.grownBy.refl _ _⟩
 case round =>
  obtain ⟨i, seg, hi, rfl, hsl, hsg, hst, hval, hblk, hgr⟩ := hrel
  by_cases hlt : i < n
  ·have hiy : i < ys.length := by rw [← HN.out]; exact hlt
   obtain ⟨y, hye⟩ : ∃ y, y = ys[i] := ⟨_, rfl⟩
   obtain ⟨ad, rfl, hab, hcy⟩ := ((HR.out.below HW1.out).grown hgr.out hgw).at_ hiy
   rw [← hye] at hcy
   unfold U32 at hcy
   have hyW : y ≤ 4294967295 := word_le (by rw [hye]; exact HY.out _ (List.getElem_mem _))
   have HYW : Hid (y < W32) := by unfold Hid; rw [W32_eq]; omega
   obtain ⟨z, hz⟩ : ∃ z, n - i = z + 1 := ⟨n - i - 1, by omega⟩
   rw [hz] at hblk
   have HZ := hide hz
   have hc0 : wr.cell? ⟨g, i, none⟩ = some (.int .u32 0) := hblk.out.cell (get_zeros hsl.out)
   have hf0 := hblk.out.frozen i
   have HWW := hide (shr_wrap (y := y) (s := sh) hs)
   have RY := hide (val_take_succ W32 (L := ys) (i := i) (x := y) (by rw [hye]; exact List.getElem?_eq_getElem hiy))
   clear hz hye hiy
   by_cases h0 : i = 0
   ·have hk : ¬ ((0 : Int) < (i : Int)) := by omega
    have H0 := hide h0
    clear h0
    go_wp2
    go_roundw
    case rel =>
     rw [HWW.out, shr_word HYW.out hs]
     have hs0 : seg = [] := List.length_eq_zero_iff.mp (by rw [hsl.out, H0.out])
     refine ⟨i + 1, [y / 2 ^ sh], by omega, by go_num, by unfold Hid; rw [H0.out]; rfl, ?_, ?_, ?_, ?_, grown_set hgr.out _ _⟩
     ·intro x hx
      rw [List.mem_singleton.mp hx]
      exact Nat.lt_of_le_of_lt (Nat.div_le_self _ _) HYW.out
     ·intro t ht
      have ht' : y / 2 ^ sh = t := by simpa using ht
      rw [← ht']; exact shr_top HYW.out hs
     ·unfold Hid
      rw [RY.out, H0.out]
      simp [val]
     ·have h1 := hblk.out.set_ i (y / 2 ^ sh)
      rw [hs0, H0.out, List.replicate_succ] at h1
      rw [H0.out, show n - (0 + 1) = z by have := HZ.out; have := H0.out; omega]
      exact h1
    case measure => simp [intOf]; omega
   ·obtain ⟨j, hj⟩ : ∃ j, j + 1 = i := ⟨i - 1, by omega⟩
    have hk : (0 : Int) < (i : Int) := by omega
    have hj' : (i : Int) - 1 = (j : Int) := by omega
    have HJ := hide hj
    obtain ⟨S, p, hSp, hSl⟩ := shr_snoc (hsl.out.trans hj.symm)
    have HS := hide hSp
    have HL := hide hSl
    have hc2 : wr.cell? ⟨g, j, none⟩ = some (.int .u32 ((p : Nat) : Int)) := hblk.out.cell (by rw [hSp, List.append_assoc, List.getElem?_append_right (by rw [hSl]; exact Nat.le_refl _), hSl, Nat.sub_self]; rfl)
    have hpt : Hid (p < 2 ^ (32 - sh)) := hst.out p (by rw [hSp]; simp)
    have hpW : p ≤ 4294967295 := word_le (hsg.out p (by rw [hSp]; simp))
    have HOR := hide (shr_or (y := y) hs hpt.out)
    have hv := hval.out
    rw [hSp, val_snoc, hSl] at hv
    have RM := hide (shr_math (y := y) hs hv)
    clear hSp hSl hv
    have hf2 := hblk.out.frozen j
    clear h0
    go_wp2
    go_roundw
    case rel =>
     rw [HWW.out, shr_word HYW.out hs, HOR.out]
     refine ⟨i + 1, (S ++ [p + y % 2 ^ sh * 2 ^ (32 - sh)]) ++ [y / 2 ^ sh], by omega, by go_num, by unfold Hid; simp [HL.out, HJ.out], ?_, ?_, ?_, ?_, grown_set (grown_set hgr.out _ _) _ _⟩
     ·refine good_snoc (good_snoc (fun x hx => hsg.out x (by rw [HS.out]; simp [hx])) (shr_room hs hpt.out)) (Nat.lt_of_le_of_lt (Nat.div_le_self _ _) HYW.out)
     ·intro t ht
      have ht' : y / 2 ^ sh = t := by simpa using ht
      rw [← ht']; exact shr_top HYW.out hs
     ·unfold Hid
      rw [val_snoc, val_snoc, RY.out, HL.out, List.length_append, HL.out, ← HJ.out]
      have h2 := RM.out
      rw [Nat.pow_succ, HJ.out]
      exact h2
     ·have h1 := (hblk.out.set_ i (y / 2 ^ sh)).set_ j (p + y % 2 ^ sh * 2 ^ (32 - sh))
      rw [HS.out, List.replicate_succ, ← HJ.out, shr_list HL.out] at h1
      rw [show n - (i + 1) = z by have := HZ.out; omega, ← HJ.out]
      exact h1
    case measure => simp [intOf]; omega
  ·obtain rfl : i = n := by omega
   go_wp2
   go_ret
   have hb := hblk.out
   rw [Nat.sub_self, List.replicate_zero, List.append_nil] at hb
   refine ⟨g, seg, rfl, hgw, hb, hsl, hsg, ?_, HW1.out.trans (grown_below hgr.out hgw hb1.out.lt)⟩
   unfold Hid
   rw [hval.out, List.take_of_length_le (by rw [← HN.out]; exact Nat.le_refl _)]
def SubMulPost (w : World) (g o k f t : Nat) (l ys : List Nat) (e : Ending) (w' : World) : Prop :=
 ∃ (seg : List Nat) (c : Nat), e = .returned (.bool (decide (t < c))) ∧ Hid (seg.length = k) ∧ Hid (Good32 seg) ∧ Hid (c ≤ W32) ∧ Hid (val W32 seg + f * val W32 ys = val W32 ((l.drop o).take k) + W32 ^ k * c) ∧
  Blk U32 142 w' g (l.take o ++ (seg ++ l.drop (o + k))) ∧ w.grownBy w' (some g)
theorem submul_prod {y f cr : Nat} (hy : y < W32) (hf : f < W32) (hc : cr ≤ W32) : cr + y * f ≤ 18446744069414584321 := by
 have h := Nat.mul_le_mul (Nat.le_sub_one_of_lt hy) (Nat.le_sub_one_of_lt hf)
 rw [W32_eq] at *
 omega
theorem submul_wrap {y f cr : Nat} (hy : y < W32) (hf : f < W32) (hc : cr ≤ W32) :
 IntKind.u64.wrap ((cr : Int) + IntKind.u64.wrap (IntKind.u64.wrap (y : Int) * IntKind.u64.wrap (f : Int))) = ((cr + y * f : Nat) : Int) := by
 have h1 := submul_prod hy hf hc
 rw [u64_word hy, u64_word hf, ← Int.natCast_mul, u64_nat (by omega), ← Int.natCast_add, u64_nat (by omega)]
theorem submul_math {P V VL VY cr y f s s' T r q b W : Nat} (h : V + f * VY = VL + P * cr) (hT : T = cr + y * f) (hq : r + W * q = T) (hs : s' + r = s + W * b) : V + P * s' + f * (VY + P * y) = VL + P * s + P * W * (q + b) := by
 have e1 : P * s' + P * T = P * s + P * W * (q + b) := by
  rw [← Nat.mul_add, show s' + T = s + W * (q + b) by rw [Nat.mul_add]; omega, Nat.mul_add, Nat.mul_assoc]
 have e2 : P * T = P * cr + P * (y * f) := by rw [hT, Nat.mul_add]
 have e3 : f * (P * y) = P * (y * f) := by rw [Nat.mul_comm y f, Nat.mul_left_comm]
 rw [Nat.mul_add f, e3]; omega
theorem submul_yes {T s : Nat} (hT : T ≤ 18446744069414584321) (hs : s < W32) (h : (s : Int) < (T : Int) % 4294967296) :
 ∃ s' b, s' < W32 ∧ T / W32 + b ≤ W32 ∧ s' + T % W32 = s + W32 * b ∧ IntKind.u64.wrap ((T : Int) / 4294967296 + 1) = ((T / W32 + b : Nat) : Int) ∧ ((s : Int) - (T : Int)) % 4294967296 = (s' : Int) := by
 rw [W32_eq] at *
 refine ⟨s + 4294967296 - T % 4294967296, 1, by omega, by omega, by omega, ?_, by omega⟩
 rw [show (T : Int) / 4294967296 + 1 = ((T / 4294967296 + 1 : Nat) : Int) by omega]
 exact u64_nat (by omega)
theorem submul_no {T s : Nat} (hT : T ≤ 18446744069414584321) (hs : s < W32) (h : ¬ (s : Int) < (T : Int) % 4294967296) :
 ∃ s' b, s' < W32 ∧ T / W32 + b ≤ W32 ∧ s' + T % W32 = s + W32 * b ∧ (T : Int) / 4294967296 = ((T / W32 + b : Nat) : Int) ∧ ((s : Int) - (T : Int)) % 4294967296 = (s' : Int) := by
 rw [W32_eq] at *
 exact ⟨s - T % 4294967296, 0, by omega, by omega, by omega, by omega, by omega⟩
theorem subMultiple_any {A : Option Addr} {g o k c c' f t B : Nat} {l ys : List Nat} {w : World} (hb : Blk U32 142 w g l) (hr : Rd U32 w B A ys) (hB : B ≤ g) (hk : k = ys.length) (ho : o + k < l.length) (ht : l[o + k]? = some t)
 (hl : Good32 l) (hy : Good32 ys) (hf : f < W32) (hlim : l.length ≤ 1000000) :
 Calls Tryz.prog 199 #[.slice (some ⟨g, o, none⟩) (k + 1) c, .slice A k c', .int .u32 (f : Int)] w (SubMulPost w g o k f t l ys) := by
 have HB := hide hb; have HR := hide hr; have HK := hide hk; have HL := hide hl; have HY := hide hy; have HF := hide hf; have HO := hide ho; have HT := hide ht
 have hkl : k ≤ 1000000 := by omega
 clear hb hr hk hl hy hf hlim ho ht
 go_enter Tryz.func199, Tryz.ntmps199
 go_wp2
 go_loopw [7, 13] (fun cv iv wr => ∃ i cr : Nat, ∃ seg : List Nat, i ≤ k ∧ Hid (cr ≤ W32) ∧ iv = .int .i64 (i : Int) ∧ cv = .int .u64 (cr : Int) ∧ Hid (seg.length = i) ∧ Hid (Good32 seg) ∧
  Hid (val W32 seg + f * val W32 (ys.take i) = val W32 ((l.drop o).take i) + W32 ^ i * cr) ∧ Hid (Blk U32 142 wr g (l.take o ++ (seg ++ l.drop (o + i)))) ∧ Hid (w.grownBy wr (some g)))
  (fun _ iv _ => k - (intOf iv).toNat)
 case atStart => exact ⟨0, 0, [], Nat.zero_le _, by unfold Hid; decide, rfl, rfl, rfl, by intro x hx; simp at hx, by simp [Hid, val], by simpa [Hid] using HB.out, World.grownBy.refl _ _⟩
 case round =>
  obtain ⟨i, cr, seg, hi, hcr, rfl, rfl, hsl, hsg, hval, hblk, hgr⟩ := hrel
  by_cases hlt : i < k
  ·have hiy : i < ys.length := by rw [← HK.out]; exact hlt
   have hil : o + i < l.length := by have := HO.out; omega
   obtain ⟨y, hye⟩ : ∃ y, y = ys[i] := ⟨_, rfl⟩
   obtain ⟨s, hse⟩ : ∃ s, s = l[o + i] := ⟨_, rfl⟩
   obtain ⟨ad, rfl, hab, hcy⟩ := (HR.out.grown hgr.out hB).at_ hiy
   have hsL : l[o + i]? = some s := by rw [hse]; exact List.getElem?_eq_getElem hil
   have hcs : wr.cell? ⟨g, o + i, none⟩ = some (U32 s) := hblk.out.cell (by rw [get_mid (by rw [List.length_take]; omega) hsl.out, hsL])
   have hfz := hblk.out.frozen (o + i)
   rw [← hye] at hcy
   have hyW : y < W32 := by rw [hye]; exact HY.out _ (List.getElem_mem _)
   have hsW : s < W32 := by rw [hse]; exact HL.out _ (List.getElem_mem _)
   have RL := hide (val_take_succ W32 (L := l.drop o) (i := i) (x := s) (by rw [List.getElem?_drop]; exact hsL))
   have RY := hide (val_take_succ W32 (L := ys) (i := i) (x := y) (by rw [hye]; exact List.getElem?_eq_getElem hiy))
   have Rm := hide (fun v => set_mid (seg := seg) (v := v) (show (l.take o).length = o by rw [List.length_take]; omega) hsl.out hil)
   have RW := hide (submul_wrap hyW HF.out hcr.out)
   have RP := hide (submul_prod hyW HF.out hcr.out)
   have HSW := hide hsW
   unfold U32 at hcs hcy
   clear hye hse hiy hil hyW hsW hsL
   go_wp2
   ·rename_i hh
    rw [RW.out] at hh
    obtain ⟨s', b, q1, q2, q3, q4, q5⟩ := submul_yes RP.out HSW.out hh
    rw [RW.out]
    refine ⟨⟨i + 1, (cr + y * f) / W32 + b, seg ++ [s'], by omega, q2, by go_num, by rw [q4], by unfold Hid; simp [hsl.out], good_snoc hsg.out q1, ?_, ?_, ?_⟩, ?_⟩
    ·unfold Hid
     rw [val_snoc, hsl.out, Nat.pow_succ, RL.out, RY.out]
     exact submul_math hval.out rfl (lohi _) q3
    ·have hb := hblk.out.set_ (o + i) s'
     rw [Rm.out] at hb
     rw [q5]
     exact hb
    ·exact grown_set hgr.out _ _
    ·simp [intOf]; omega
   ·rename_i hh
    rw [RW.out] at hh
    obtain ⟨s', b, q1, q2, q3, q4, q5⟩ := submul_no RP.out HSW.out (Int.not_lt.mpr hh)
    rw [RW.out]
    refine ⟨⟨i + 1, (cr + y * f) / W32 + b, seg ++ [s'], by omega, q2, by go_num, by rw [q4], by unfold Hid; simp [hsl.out], good_snoc hsg.out q1, ?_, ?_, ?_⟩, ?_⟩
    ·unfold Hid
     rw [val_snoc, hsl.out, Nat.pow_succ, RL.out, RY.out]
     exact submul_math hval.out rfl (lohi _) q3
    ·have hb := hblk.out.set_ (o + i) s'
     rw [Rm.out] at hb
     rw [q5]
     exact hb
    ·exact grown_set hgr.out _ _
    ·simp [intOf]; omega
  ·obtain rfl : i = k := by omega
   have hct : wr.cell? ⟨g, o + i, none⟩ = some (U32 t) := hblk.out.cell (by rw [get_mid (by rw [List.length_take]; have := HO.out; omega) hsl.out]; exact HT.out)
   have htW : t ≤ 4294967295 := word_le (HL.out _ (List.mem_of_getElem? HT.out))
   have hcw : cr ≤ 4294967296 := by have := hcr.out; rw [W32_eq] at this; exact this
   unfold U32 at hct
   go_wp2
   go_ret
   refine ⟨seg, cr, rfl, hsl.out, hsg.out, hcr.out, ?_, hblk.out, hgr.out⟩
   have := hval.out
   rwa [List.take_of_length_le (show ys.length ≤ i by rw [HK.out]; exact Nat.le_refl _)] at this
def GuessPost (w : World) (u2 u1 u0 hi lo : Nat) (e : Ending) (w' : World) : Prop :=
 ∃ D : Nat, e = .returned (.int .u32 (D : Int)) ∧ (∃ q, w' = w.drewN q) ∧ D < W32 ∧ D * (hi * W32 + lo) ≤ (u2 * W32 + u1) * W32 + u0 ∧ (D + 1 = W32 ∨ (u2 * W32 + u1) * W32 + u0 < (D + 1) * (hi * W32 + lo))
theorem guess_mul {D hi R T lo W : Nat} (h : D * hi + R = T) : D * (hi * W + lo) + R * W = T * W + D * lo := by
 rw [← h, Nat.mul_add, Nat.add_mul, Nat.mul_assoc]; omega
theorem guess_aux {X Y Z V u0 : Nat} (h : X + V = Z + Y) (hc : V + u0 < Y) : Z + u0 < X := by omega
theorem guess_step {D hi R T lo u0 : Nat} (h : D * hi + R = T) (h1 : 1 ≤ D) (hc : W32 ≤ D ∨ R * 4294967296 + u0 < D * lo) : W32 ≤ D - 1 + 1 ∨ T * W32 + u0 < (D - 1 + 1) * (hi * W32 + lo) := by
 rw [show D - 1 + 1 = D by omega]
 rcases hc with hc | hc
 ·exact Or.inl hc
 ·have h3 := guess_mul (lo := lo) (W := W32) h
  exact Or.inr (guess_aux h3 hc)
theorem guess_end {D hi R T lo u0 : Nat} (h : D * hi + R = T) (hc : D * lo ≤ R * 4294967296 + u0) : D * (hi * W32 + lo) ≤ T * W32 + u0 := by
 have := guess_mul (lo := lo) (W := W32) h
 rw [W32_eq] at *; omega
theorem guess_less {D hi R T u2 u1 : Nat} (h : D * hi + R = T) (hR : 4294967295 < R) (hT : T = u2 * 4294967296 + u1) (hu1 : u1 < W32) (hu2 : u2 ≤ hi) : D < W32 := by
 rcases Nat.lt_or_ge D W32 with h1 | h1
 ·exact h1
 ·have h2 := Nat.mul_le_mul h1 hu2
  rw [W32_eq] at *; omega
theorem guess_break {D hi R T lo u0 : Nat} (h : D * hi + R = T) (hR : 4294967295 < R) (hD : D < W32) (hlo : lo < W32) : D * (hi * W32 + lo) ≤ T * W32 + u0 := by
 have h1 := Nat.mul_le_mul (Nat.le_of_lt hD) (Nat.le_of_lt hlo)
 have := guess_mul (lo := lo) (W := W32) h
 rw [W32_eq] at *; omega
theorem guess_dec {D hi R T : Nat} (h : D * hi + R = T) (h1 : 1 ≤ D) : (D - 1) * hi + (R + hi) = T := by
 obtain ⟨E, rfl⟩ : ∃ E, D = E + 1 := ⟨D - 1, by omega⟩
 rw [Nat.add_mul, Nat.one_mul] at h
 rw [Nat.add_sub_cancel]; omega
theorem guess_fin {w w' : World} {D T u2 u1 u0 hi lo n : Nat} {e : Ending} (hT : u2 * W32 + u1 = T) (he : e = .returned (.int .u32 (D : Int))) (hw : w' = w.drewN n) (hD : D < W32) (h1 : D * (hi * W32 + lo) ≤ T * W32 + u0) (h2 : W32 ≤ D + 1 ∨ T * W32 + u0 < (D + 1) * (hi * W32 + lo)) : GuessPost w u2 u1 u0 hi lo e w' := by
 subst hT
 exact ⟨D, he, ⟨n, hw⟩, hD, h1, h2.imp (fun h => by omega) id⟩
theorem guess_start {T hi lo u0 : Nat} (hh : 0 < hi) (hu0 : u0 < W32) : T * W32 + u0 < (T / hi + 1) * (hi * W32 + lo) := by
 have h1 : T < (T / hi + 1) * hi := by
  have h2 := Nat.mod_add_div T hi
  have h3 := Nat.mod_lt T hh
  rw [Nat.add_mul, Nat.one_mul, Nat.mul_comm]; omega
 have h2 : (T + 1) * W32 ≤ (T / hi + 1) * hi * W32 := Nat.mul_le_mul_right _ h1
 rw [Nat.add_mul, Nat.one_mul] at h2
 rw [Nat.mul_add, ← Nat.mul_assoc]; omega
theorem guess_top {T hi u2 u1 : Nat} (hT : T = u2 * 4294967296 + u1) (hu1 : u1 < W32) (hu2 : u2 ≤ hi) (hh : 2147483648 ≤ hi) : T / hi ≤ 4294967297 := by
 refine Nat.le_of_lt_succ ?_
 rw [Nat.div_lt_iff_lt_mul (by omega)]
 rw [W32_eq] at hu1; omega
theorem guessDigit_any {ad : Addr} {g o k i1 i2 c c' u2 u1 u0 hi lo : Nat} {w : World} (hk : k ≤ 1000000) (hi1 : i1 + 1 = k) (hi2 : i2 + 2 = k)
 (h2 : w.cell? ⟨g, o + k, none⟩ = some (.int .u32 (u2 : Int))) (h1 : w.cell? ⟨g, o + i1, none⟩ = some (.int .u32 (u1 : Int))) (h0 : w.cell? ⟨g, o + i2, none⟩ = some (.int .u32 (u0 : Int)))
 (hh : w.cell? (ad.add i1) = some (.int .u32 (hi : Int))) (hl : w.cell? (ad.add i2) = some (.int .u32 (lo : Int)))
 (hu2 : u2 ≤ hi) (hu1 : u1 < W32) (hu0 : u0 < W32) (hhi : hi < W32) (hlo : lo < W32) (htop : 2147483648 ≤ hi) :
 Calls Tryz.prog 198 #[.slice (some ⟨g, o, none⟩) (k + 1) c, .slice (some ad) k c'] w (GuessPost w u2 u1 u0 hi lo) := by
 have hhz : ¬ (hi : Int) = 0 := by omega
 go_enter Tryz.func198, Tryz.ntmps198
 have a1 : IntKind.i64.wrap ((k : Int) - 1) = (i1 : Int) := by rw [IntWalk.i64_in _ (by omega)]; omega
 have a2 : IntKind.i64.wrap ((k : Int) - 2) = (i2 : Int) := by rw [IntWalk.i64_in _ (by omega)]; omega
 have a3 : (i1 : Int) < (k : Int) := by omega
 have a4 : (i2 : Int) < (k : Int) := by omega
 have b1 : IntKind.u64.wrap (hi : Int) = (hi : Int) := u64_word hhi
 have b2 : IntKind.u64.wrap (lo : Int) = (lo : Int) := u64_word hlo
 have c1 : IntKind.u64.wrap (u1 : Int) = (u1 : Int) := u64_word hu1
 have c2 : IntKind.u64.wrap (u2 : Int) = (u2 : Int) := u64_word (by omega)
 obtain ⟨T, HT⟩ : ∃ T, Hid (T = u2 * 4294967296 + u1) := ⟨_, rfl⟩
 have HTW : Hid (u2 * W32 + u1 = T) := by unfold Hid; rw [W32_eq]; exact HT.out.symm
 have hu2l : u2 ≤ 4294967295 := word_le (by omega)
 have C3 : Hid (bits .or .u64 ((u2 : Int) * 4294967296) (u1 : Int) = (T : Int)) := by
  unfold Hid
  rw [HT.out]
  exact or64 hu2l (word_le hu1)
 have hT : T ≤ 18446744073709551615 := by have := HT.out; have := word_le hu1; omega
 have hq : IntKind.u64.wrap ((T : Int) / (hi : Int)) = ((T / hi : Nat) : Int) := by
  rw [← Int.natCast_ediv]; exact u64_nat (Nat.le_trans (Nat.div_le_self _ _) hT)
 have hr : IntKind.u64.wrap ((T : Int).tmod (hi : Int)) = ((T % hi : Nat) : Int) := by
  rw [← Int.ofNat_tmod]; exact u64_nat (Nat.le_trans (Nat.mod_le _ _) hT)
 have hr' : (T : Int).tmod (hi : Int) = ((T % hi : Nat) : Int) := (Int.ofNat_tmod _ _).symm
 go_wp2_with fail
 go_quiet (fail)
 rename_i nq
 obtain ⟨W2, hW2⟩ : ∃ W2, W2 = w.drewN nq := ⟨_, rfl⟩
 rw [← hW2]
 have h2' := drew_cell hW2 h2
 have h1' := drew_cell hW2 h1
 have h0' := drew_cell hW2 h0
 have HW2 := hide hW2
 have HC0 : Hid (w.cell? ⟨g, o + i2, none⟩ = some (.int .u32 (u0 : Int))) := h0
 clear hW2 h2 h1 h0 hh hl
 go_wp2_with fail
 go_quiet (fail)
 go_wp2_with fail
 rw [C3.out]
 go_quiet (fail)
 go_wp2_with fail
 go_loopw [9, 10] (fun dv rv wr => ∃ D R n : Nat, dv = .int .u64 (D : Int) ∧ rv = .int .u64 (R : Int) ∧ Hid (wr = w.drewN n) ∧ Hid (D * hi + R = T) ∧ R ≤ 4294967295 ∧ D ≤ 4294967297 ∧ Hid (W32 ≤ D + 1 ∨ T * W32 + u0 < (D + 1) * (hi * W32 + lo)))
  (fun dv _ _ => (intOf dv).toNat)
 case atStart =>
  refine ⟨T / hi, T % hi, _, by rw [Int.natCast_ediv], by rw [Int.natCast_emod], drew_more (drew_more HW2), ?_, ?_, guess_top HT.out hu1 hu2 htop, Or.inr (guess_start (by omega) hu0)⟩
  ·unfold Hid
   rw [Nat.mul_comm, Nat.div_add_mod]
  ·have := Nat.mod_lt T (show 0 < hi by omega)
   have := word_le hhi
   omega
 case round =>
  obtain ⟨D, R, n, rfl, rfl, hw, hsum, hR, hD, hgr⟩ := hrel
  have h0' : wr.cell? ⟨g, o + i2, none⟩ = some (.int .u32 (u0 : Int)) := by rw [hw.out]; exact HC0.out
  have hhl := word_le hhi
  have d2 : IntKind.u64.wrap ((R : Int) + (hi : Int)) = ((R + hi : Nat) : Int) := by rw [← Int.natCast_add]; exact u64_nat (by omega)
  by_cases hbig : 4294967295 < D
  ·have HG := hide (guess_step (lo := lo) (u0 := u0) hsum.out (by omega) (Or.inl (by rw [W32_eq]; omega)))
   have HS := hide (guess_dec hsum.out (by omega))
   go_wp2
   ·go_ret
    refine guess_fin (D := D - 1) HTW.out ?_ hw.out (guess_less HS.out (by omega) HT.out hu1 hu2) (guess_break HS.out (by omega) (guess_less HS.out (by omega) HT.out hu1 hu2) hlo) HG.out
    have hl := guess_less HS.out (by omega) HT.out hu1 hu2
    rw [W32_eq] at hl
    show Ending.returned (.int .u32 _) = _
    congr 2; omega
   ·exact ⟨⟨D - 1, R + hi, n, by go_num, by go_num, hw, HS, by omega, by omega, HG⟩, by simp [intOf]; omega⟩
  ·have e2 : bits .or .u64 ((R : Int) * 4294967296) (u0 : Int) = ((R * 4294967296 + u0 : Nat) : Int) := or64 hR (word_le hu0)
   have hp := Nat.mul_le_mul (show D ≤ 4294967295 by omega) (word_le hlo)
   have e3 : IntKind.u64.wrap ((D : Int) * (lo : Int)) = ((D * lo : Nat) : Int) := by rw [← Int.natCast_mul]; exact u64_nat (by omega)
   by_cases hc : R * 4294967296 + u0 < D * lo
   ·have h1 : 1 ≤ D := by
     rcases Nat.eq_zero_or_pos D with h | h
     ·rw [h, Nat.zero_mul] at hc; omega
     ·exact h
    have HG := hide (guess_step (lo := lo) (u0 := u0) hsum.out h1 (Or.inr hc))
    have HS := hide (guess_dec hsum.out h1)
    have d1 : IntKind.u64.wrap ((D : Int) - 1) = ((D - 1 : Nat) : Int) := by rw [← u64_nat (n := D - 1) (by omega)]; congr 1; omega
    have D1 := hide d1
    clear d1
    go_wp2
    ·go_ret
     refine guess_fin (D := D - 1) HTW.out ?_ hw.out (guess_less HS.out (by omega) HT.out hu1 hu2) (guess_break HS.out (by omega) (guess_less HS.out (by omega) HT.out hu1 hu2) hlo) HG.out
     have hl := guess_less HS.out (by omega) HT.out hu1 hu2
     rw [W32_eq] at hl
     show Ending.returned (.int .u32 _) = _
     first | rw [D1.out] | skip
     congr 2; omega
    ·refine ⟨⟨D - 1, R + hi, n, by first | rw [D1.out] | go_num, by go_num, hw, HS, by omega, by omega, HG⟩, ?_⟩
     first | rw [D1.out] | skip
     simp [intOf]; omega
   ·have HE := hide (guess_end (lo := lo) (u0 := u0) hsum.out (by omega))
    have hc' : D * lo ≤ R * 4294967296 + u0 := by omega
    have c0 : IntKind.u64.wrap (u0 : Int) = (u0 : Int) := u64_word hu0
    go_wp2
    all_goals try (exfalso; rename_i hx1 hx2; rw [c0, e2, e3] at hx1; omega)
    all_goals try (exfalso; rename_i hx1; rw [c0, e2, e3] at hx1; omega)
    all_goals try (exfalso; omega)
    go_ret
    refine guess_fin (D := D) HTW.out ?_ hw.out (by rw [W32_eq]; omega) HE.out hgr.out
    show Ending.returned (.int .u32 _) = _
    congr 2 <;> omega
theorem val_three (b : Nat) {L : List Nat} {k i1 i2 u0 u1 u2 : Nat} (h1 : i1 + 1 = k) (h2 : i2 + 2 = k) (e0 : L[i2]? = some u0) (e1 : L[i1]? = some u1) (e2 : L[k]? = some u2) :
 val b (L.take (k + 1)) = val b (L.take i2) + b ^ i2 * ((u2 * b + u1) * b + u0) := by
 obtain rfl : i1 = i2 + 1 := by omega
 obtain rfl : k = i2 + 2 := by omega
 rw [val_take_succ b e2, val_take_succ b e1, val_take_succ b e0, Nat.pow_succ b (i2 + 1), Nat.pow_succ]
 have a1 : b ^ i2 * b * b * u2 = b ^ i2 * (u2 * b * b) := by rw [Nat.mul_assoc, Nat.mul_assoc, Nat.mul_comm u2 b, Nat.mul_assoc, Nat.mul_comm u2 b]
 have a2 : b ^ i2 * b * u1 = b ^ i2 * (u1 * b) := by rw [Nat.mul_assoc, Nat.mul_comm b]
 rw [a1, a2, Nat.add_mul, Nat.mul_add, Nat.mul_add]; omega
theorem val_two (b : Nat) {L : List Nat} {k i1 i2 u0 u1 : Nat} (h1 : i1 + 1 = k) (h2 : i2 + 2 = k) (hk : L.length = k) (e0 : L[i2]? = some u0) (e1 : L[i1]? = some u1) :
 val b L = val b (L.take i2) + b ^ i2 * (u1 * b + u0) := by
 obtain rfl : i1 = i2 + 1 := by omega
 obtain rfl : k = i2 + 2 := by omega
 have h : val b L = val b (L.take (i2 + 1 + 1)) := by rw [List.take_of_length_le (by omega)]
 rw [h, val_take_succ b e1, val_take_succ b e0, Nat.pow_succ, Nat.mul_add]
 have a2 : b ^ i2 * b * u1 = b ^ i2 * (u1 * b) := by rw [Nat.mul_assoc, Nat.mul_comm b]
 rw [a2]; omega
theorem val_take_lt {L : List Nat} (h : Good32 L) (i : Nat) : val W32 (L.take i) < W32 ^ i :=
 Nat.lt_of_lt_of_le (val_lt _ (good_take h i)) (Nat.pow_le_pow_right (by decide) (by rw [List.length_take]; omega))
theorem guess_digit {U V T D P hi lo U' V' : Nat} (hU : U = U' + P * T) (hV : V = V' + P * (hi * W32 + lo)) (hU' : U' < P) (hV' : V' < P) (hhi : 1 ≤ hi) (hD : D < W32) (hUV : U < V * W32)
 (h1 : D * (hi * W32 + lo) ≤ T) (h2 : D + 1 = W32 ∨ T < (D + 1) * (hi * W32 + lo)) : U < (D + 1) * V ∧ D * V ≤ U + V := by
 constructor
 ·rcases h2 with h2 | h2
  ·rw [h2, Nat.mul_comm]; exact hUV
  ·have h3 : P * (T + 1) ≤ P * ((D + 1) * (hi * W32 + lo)) := Nat.mul_le_mul_left _ h2
   have h4 : (D + 1) * (P * (hi * W32 + lo)) ≤ (D + 1) * V := Nat.mul_le_mul_left _ (by omega)
   rw [Nat.mul_left_comm] at h4
   rw [Nat.mul_add, Nat.mul_one] at h3
   omega
 ·have h3 : P * (D * (hi * W32 + lo)) ≤ P * T := Nat.mul_le_mul_left _ h1
  have h4 : D * V' ≤ W32 * P := Nat.mul_le_mul (Nat.le_of_lt hD) (Nat.le_of_lt hV')
  have h5 : P * W32 ≤ P * (hi * W32 + lo) := Nat.mul_le_mul_left _ (Nat.le_trans (Nat.le_mul_of_pos_left _ hhi) (Nat.le_add_right _ _))
  rw [Nat.mul_comm] at h5
  rw [hV, Nat.mul_add, Nat.mul_left_comm]
  omega
theorem step_right {U V D s low P t c : Nat} (hVP : V ≤ P) (hU : U = low + P * t) (hsub : s + D * V = low + P * c) (h1 : U < (D + 1) * V) (hct : c ≤ t) : U / V = D ∧ U % V = s := by
 have hV : 0 < V := by
  rcases Nat.eq_zero_or_pos V with h | h
  ·rw [h, Nat.mul_zero] at h1; omega
  ·exact h
 rw [Nat.add_mul, Nat.one_mul] at h1
 have e : c = t := by
  rcases Nat.eq_or_lt_of_le hct with h | h
  ·exact h
  ·have := Nat.mul_le_mul_left P h
   rw [Nat.mul_succ] at this
   omega
 subst e
 have hU2 : U = s + V * D := by rw [Nat.mul_comm]; omega
 have hsV : s < V := by rw [Nat.mul_comm] at hU2; omega
 rw [hU2, Nat.add_mul_div_left _ _ hV, Nat.add_mul_mod_self_left, Nat.div_eq_of_lt hsV, Nat.mod_eq_of_lt hsV]
 exact ⟨by omega, rfl⟩
theorem step_over {U V D s s2 low P t c c2 : Nat} (hs : s < P) (hs2 : s2 < P) (hVP : V ≤ P) (hU : U = low + P * t) (hlow : low < P) (hsub : s + D * V = low + P * c) (h2 : D * V ≤ U + V) (hct : t < c) (hadd : s2 + P * c2 = s + V) :
 1 ≤ D ∧ U / V = D - 1 ∧ U % V = s2 := by
 have h3 := Nat.mul_le_mul_left P hct
 rw [Nat.mul_succ] at h3
 have hD : 1 ≤ D := by
  rcases Nat.eq_zero_or_pos D with h | h
  ·subst h; rw [Nat.zero_mul] at hsub; omega
  ·exact h
 have hc : P * c = P * t + P := by
  have h4 : c = t + 1 := by
   rcases Nat.eq_or_lt_of_le hct with h | h
   ·exact h.symm
   ·have h5 := Nat.mul_le_mul_left P h
    rw [Nat.mul_succ, Nat.mul_succ] at h5
    omega
  rw [h4, Nat.mul_succ]
 obtain ⟨E, rfl⟩ : ∃ E, D = E + 1 := ⟨D - 1, by omega⟩
 rw [Nat.add_mul, Nat.one_mul] at hsub h2
 have hc2 : c2 = 1 := by
  rcases Nat.lt_trichotomy c2 1 with h | h | h
  ·obtain rfl : c2 = 0 := by omega
   rw [Nat.mul_zero] at hadd; omega
  ·exact h
  ·have h5 := Nat.mul_le_mul_left P (show 2 ≤ c2 from h)
   omega
 subst hc2
 rw [Nat.mul_one] at hadd
 have hU2 : U = s2 + V * E := by rw [Nat.mul_comm]; omega
 have hsV : s2 < V := by omega
 have hV : 0 < V := by omega
 rw [hU2, Nat.add_mul_div_left _ _ hV, Nat.add_mul_mod_self_left, Nat.div_eq_of_lt hsV, Nat.mod_eq_of_lt hsV]
 exact ⟨hD, by omega, rfl⟩
theorem top_le {U V hi U' P T u2 r lo : Nat} (hU : U = U' + P * T) (hT : T = (u2 * W32 + r) * W32 + lo) (hV : V ≤ P * W32 * (hi + 1)) (hUV : U < V * W32) : u2 ≤ hi := by
 rcases Nat.lt_or_ge hi u2 with h | h
 ·exfalso
  have h1 : P * W32 * (hi + 1) * W32 ≤ P * W32 * u2 * W32 := Nat.mul_le_mul_right _ (Nat.mul_le_mul_left _ h)
  have h2 := Nat.mul_le_mul_right W32 hV
  have h3 : P * W32 * u2 * W32 = P * (u2 * W32 * W32) := by simp only [Nat.mul_assoc, Nat.mul_left_comm, Nat.mul_comm]
  have h4 : P * (u2 * W32 * W32) ≤ P * T := Nat.mul_le_mul_left _ (by rw [hT, Nat.add_mul]; omega)
  omega
 ·exact h
theorem long_step {X V H low P U : Nat} (hX : X = V * (P * W32 * H) + (low + P * U)) (hlt : low + P * U < V * (P * W32)) (hlow : low < P) (hV : 0 < V) :
 U < V * W32 ∧ X = V * (P * (U / V + W32 * H)) + (low + P * (U % V)) ∧ low + P * (U % V) < V * P := by
 refine ⟨?_, ?_, ?_⟩
 ·rcases Nat.lt_or_ge U (V * W32) with h | h
  ·exact h
  ·have h1 := Nat.mul_le_mul_left P h
   rw [Nat.mul_left_comm] at h1
   omega
 ·have h1 := Nat.mod_add_div U V
  have h2 : P * U = P * (U % V) + V * (P * (U / V)) := by
   rw [Nat.mul_left_comm V, ← Nat.mul_add, h1]
  rw [hX, h2, Nat.mul_add P, Nat.mul_add V, ← Nat.mul_assoc P W32 H]
  omega
 ·have h1 : P * (U % V + 1) ≤ P * V := Nat.mul_le_mul_left _ (Nat.mod_lt _ hV)
  rw [Nat.mul_add, Nat.mul_one, Nat.mul_comm P V] at h1
  omega
theorem long_take {l : List Nat} {i n : Nat} (h : i + n < l.length) : val W32 (l.take (n + (i + 1))) = val W32 (l.take i) + W32 ^ i * val W32 ((l.drop i).take (n + 1)) := by
 have e : l.take (n + (i + 1)) = l.take i ++ (l.drop i).take (n + 1) := by
  rw [show n + (i + 1) = i + (n + 1) by omega, List.take_add]
 rw [e, val_append, List.length_take, Nat.min_eq_left (by omega)]
theorem long_left {l seg : List Nat} {i n : Nat} (h : i + n < l.length) (hs : seg.length = n) : val W32 ((l.take i ++ (seg ++ l.drop (i + n))).take (n + i)) = val W32 (l.take i) + W32 ^ i * val W32 seg := by
 have e : (l.take i ++ (seg ++ l.drop (i + n))).take (n + i) = l.take i ++ seg := by
  rw [← List.append_assoc, List.take_append_of_le_length (by rw [List.length_append, List.length_take]; omega), List.take_of_length_le (by rw [List.length_append, List.length_take]; omega)]
 rw [e, val_append, List.length_take, Nat.min_eq_left (by omega)]
theorem long_set {h : List Nat} {i q : Nat} : (List.replicate (i + 1) 0 ++ h).set i q = List.replicate i 0 ++ (q :: h) := by
 have e : List.replicate (i + 1) 0 ++ h = List.replicate i 0 ++ (0 :: h) := by
  rw [List.replicate_succ', List.append_assoc]; rfl
 rw [e, List.set_append, if_neg (by simp), List.length_replicate, Nat.sub_self, List.set_cons_zero]
theorem long_get {h : List Nat} {i : Nat} : (List.replicate (i + 1) 0 ++ h)[i]? = some 0 := by
 rw [List.getElem?_append_left (by simp)]; simp
theorem norm_bits {t L : Nat} (h1 : 1 ≤ L) (h2 : 2 ^ (L - 1) ≤ t) (h3 : t < 2 ^ L) (hL : L ≤ 32) : 2147483648 ≤ t * 2 ^ (32 - L) ∧ t * 2 ^ (32 - L) < W32 := by
 constructor
 ·have h4 := Nat.mul_le_mul_right (2 ^ (32 - L)) h2
  rw [← Nat.pow_add, show L - 1 + (32 - L) = 31 by omega] at h4
  exact h4
 ·have h4 := Nat.mul_lt_mul_of_pos_right h3 (Nat.pow_pos (n := 32 - L) (show 0 < 2 by decide))
  rw [← Nat.pow_add, show L + (32 - L) = 32 by omega] at h4
  exact h4
theorem top_word {m n i1 : Nat} (h : dl m = n) (hi : i1 + 1 = n) : ∃ t, (digs W32 m)[i1]? = some t ∧ 1 ≤ t ∧ t < W32 ∧ t * W32 ^ i1 ≤ m ∧ m < (t + 1) * W32 ^ i1 := by
 have hl : (digs W32 m).length = i1 + 1 := by unfold dl at h; omega
 obtain ⟨t, ht⟩ : ∃ t, (digs W32 m)[i1]? = some t := ⟨_, List.getElem?_eq_getElem (by omega)⟩
 have e := val_take_succ W32 ht
 rw [List.take_of_length_le (by omega), val_digs32] at e
 have hlt := val_take_lt (good_digs m) i1
 have hne : t ≠ 0 := digs_last (b := W32) (by decide) m t (by rw [List.getLast?_eq_getElem?, hl, Nat.add_sub_cancel]; exact ht)
 refine ⟨t, ht, by omega, good_digs m t (List.mem_of_getElem? ht), ?_, ?_⟩
 ·rw [Nat.mul_comm]; omega
 ·rw [Nat.add_mul, Nat.one_mul, Nat.mul_comm]; omega
theorem norm_list {R : List Nat} {m n i1 t s : Nat} (hR : R.length = n + 1) (hg : Good32 R) (hv : val W32 R = m * 2 ^ s) (hi : i1 + 1 = n) (h1 : t * W32 ^ i1 ≤ m) (h2 : m < (t + 1) * W32 ^ i1) (hb : 2147483648 ≤ t * 2 ^ s) (ht : t * 2 ^ s < W32) (hs : s ≤ 31) :
 val W32 (R.take n) = m * 2 ^ s ∧ (R.take n).length = n ∧ Good32 (R.take n) ∧ ∀ x, (R.take n)[i1]? = some x → 2147483648 ≤ x := by
 have hlen : (R.take n).length = n := by rw [List.length_take]; omega
 have hgt := good_take hg n
 obtain ⟨z, hz⟩ : ∃ z, R[n]? = some z := ⟨_, List.getElem?_eq_getElem (by omega)⟩
 have e := val_take_succ W32 hz
 rw [List.take_of_length_le (by omega), hv] at e
 have hlt := val_take_lt hg n
 have hsp := W32_split hs
 have hm : m * 2 ^ s < W32 ^ n := by
  have h3 := Nat.mul_lt_mul_of_pos_right h2 (Nat.pow_pos (n := s) (show 0 < 2 by decide))
  have h4 : (t + 1) * 2 ^ s ≤ W32 := by
   have h5 : t < 2 ^ (32 - s) := by
    rw [hsp, Nat.mul_comm] at ht
    exact Nat.lt_of_mul_lt_mul_left ht
   have h6 := Nat.mul_le_mul_right (2 ^ s) (show t + 1 ≤ 2 ^ (32 - s) from h5)
   rw [Nat.mul_comm (2 ^ (32 - s)), ← hsp] at h6
   exact h6
  have h7 := Nat.mul_le_mul_right (W32 ^ i1) h4
  rw [← hi, Nat.pow_succ, Nat.mul_comm (W32 ^ i1)]
  rw [Nat.mul_right_comm] at h7
  omega
 have hz0 : z = 0 := by
  rcases Nat.eq_zero_or_pos z with h | h
  ·exact h
  ·have := Nat.mul_le_mul_left (W32 ^ n) h
   omega
 rw [hz0, Nat.mul_zero, Nat.add_zero] at e
 refine ⟨e.symm, hlen, hgt, fun x hx => ?_⟩
 rcases Nat.lt_or_ge x 2147483648 with hxl | hxl
 ·exfalso
  have e2 := val_take_succ W32 hx
  rw [List.take_of_length_le (by omega), ← e] at e2
  have h3 := val_take_lt hgt i1
  have h4 := Nat.mul_le_mul_right (2 ^ s) h1
  rw [Nat.mul_right_comm] at h4
  have h5 := Nat.mul_le_mul_right (W32 ^ i1) (show x + 1 ≤ t * 2 ^ s by omega)
  rw [Nat.add_mul, Nat.one_mul, Nat.mul_comm x] at h5
  omega
 ·exact hxl
theorem long_start {m m' a b s : Nat} (ha : m < W32 ^ a) (hb : W32 ^ b ≤ m') (hab : b ≤ a) : m * 2 ^ s < m' * 2 ^ s * W32 ^ (a - b) := by
 have h1 := Nat.mul_le_mul_right (W32 ^ (a - b)) hb
 rw [← Nat.pow_add, show b + (a - b) = a by omega] at h1
 rw [Nat.mul_right_comm]
 exact Nat.mul_lt_mul_of_pos_right (Nat.lt_of_lt_of_le ha h1) (Nat.pow_pos (by decide))
theorem long_end {X V H r m m' s : Nat} (hX : X = V * H + r) (hr : r < V) (h1 : X = m * 2 ^ s) (h2 : V = m' * 2 ^ s) : H = m / m' ∧ r / 2 ^ s = m % m' := by
 have hp : 0 < 2 ^ s := Nat.pow_pos (by decide)
 have e1 : X / V = m / m' := by rw [h1, h2, Nat.mul_div_mul_right _ _ hp]
 have e2 : X % V = m % m' * 2 ^ s := by rw [h1, h2, Nat.mul_mod_mul_right]
 constructor
 ·rw [← e1, hX, Nat.mul_add_div (by omega), Nat.div_eq_of_lt hr, Nat.add_zero]
 ·rw [hX, Nat.mul_add_mod, Nat.mod_eq_of_lt hr] at e2
  rw [e2, Nat.mul_div_cancel _ hp]
end Go.Proofs.YtfflmmbhpchloaaGreatDoor
end
