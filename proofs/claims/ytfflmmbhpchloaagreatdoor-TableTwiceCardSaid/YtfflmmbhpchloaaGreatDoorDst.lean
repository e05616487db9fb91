/- Each theorem here says its own conditions. -/
import Derived.Test.YtfflmmbhpchloaaGreatDoorGTtc6
set_option maxRecDepth 100000
set_option maxHeartbeats 16000000
section
open Go.RowKit
namespace Go.Proofs.YtfflmmbhpchloaaGreatDoor
def StepPost (w : World) (g o k U V : Nat) (l : List Nat) (e : Ending) (w' : World) : Prop :=
 ∃ (seg : List Nat), e = .returned (.int .u32 ((U / V : Nat) : Int)) ∧ Hid (U / V < W32) ∧ Hid (seg.length = k) ∧ Hid (Good32 seg) ∧ Hid (val W32 seg = U % V) ∧
  Hid (Blk U32 142 w' g (l.take o ++ (seg ++ l.drop (o + k)))) ∧ Hid (w.grownBy w' (some g))
structure Guess (U V D : Nat) : Prop where
 lt : D < W32
 hi : U < (D + 1) * V
 lo : D * V ≤ U + V
theorem grown_of_drew {w w' : World} {g q : Nat} (h : (w.drewN q).grownBy w' (some g)) : w.grownBy w' (some g) :=
 grown_trans (grown_drewN (World.grownBy.refl w (some g)) q) h
theorem guess_any {ad : Addr} {g o k i1 i2 c c' U V B : Nat} {l ys : List Nat} {w : World} (hk : k ≤ 1000000) (hi1 : i1 + 1 = k) (hi2 : i2 + 2 = k) (hb : Blk U32 142 w g l) (hr : Rd U32 w B (some ad) ys) (hys : ys.length = k) (ho : o + k < l.length) (hl : Good32 l) (hy : Good32 ys)
 (hU : val W32 ((l.drop o).take (k + 1)) = U) (hV : val W32 ys = V) (hUV : U < V * W32) (htop : ∀ x, ys[i1]? = some x → 2147483648 ≤ x) :
 Calls Tryz.prog 198 #[.slice (some ⟨g, o, none⟩) (k + 1) c, .slice (some ad) k c'] w fun e w' => ∃ D q, e = .returned (.int .u32 ((D : Nat) : Int)) ∧ w' = w.drewN q ∧ Hid (Guess U V D) := by
 have gl : ∀ i, i ≤ k → ∃ u, l[o + i]? = some u ∧ u < W32 ∧ (l.drop o)[i]? = some u := fun i hi => by
  have h1 : o + i < l.length := by omega
  exact ⟨l[o + i], List.getElem?_eq_getElem h1, hl _ (List.getElem_mem _), by rw [List.getElem?_drop]; exact List.getElem?_eq_getElem h1⟩
 have gy : ∀ i, i < k → ∃ u, ys[i]? = some u ∧ u < W32 ∧ w.cell? (ad.add i) = some (.int .u32 (u : Int)) := fun i hi => by
  have h1 : i < ys.length := by omega
  obtain ⟨ad', e, _, hc⟩ := hr.at_ h1
  injection e with e
  exact ⟨ys[i], List.getElem?_eq_getElem h1, hy _ (List.getElem_mem _), by rw [e]; exact hc⟩
 obtain ⟨u2, a2, b2, d2⟩ := gl k (Nat.le_refl _)
 obtain ⟨u1, a1, b1, d1⟩ := gl i1 (by omega)
 obtain ⟨u0, a0, b0, d0⟩ := gl i2 (by omega)
 obtain ⟨hi, x1, y1, z1⟩ := gy i1 (by omega)
 obtain ⟨lo, x0, y0, z0⟩ := gy i2 (by omega)
 have eU := val_three W32 hi1 hi2 d0 d1 d2
 have eV := val_two W32 hi1 hi2 hys x0 x1
 rw [hU] at eU
 rw [hV] at eV
 have hU' := val_take_lt (good_drop hl o) i2
 have hV' := val_take_lt hy i2
 have hh := htop hi x1
 have hVle : V ≤ W32 ^ i2 * W32 * (hi + 1) := by
  have h1 : W32 ^ i2 * (hi * W32 + lo + 1) ≤ W32 ^ i2 * (W32 * (hi + 1)) := Nat.mul_le_mul_left _ (by rw [Nat.mul_add, Nat.mul_one, Nat.mul_comm]; omega)
  rw [Nat.mul_add, Nat.mul_one, ← Nat.mul_assoc] at h1
  omega
 have hle : u2 ≤ hi := top_le (U' := val W32 ((l.drop o).take i2)) (P := W32 ^ i2) eU rfl hVle hUV
 refine (guessDigit_any hk hi1 hi2 (hb.cell a2) (hb.cell a1) (hb.cell a0) z1 z0 hle b1 b0 y1 y0 hh).mono ?_
 rintro e w' ⟨D, rfl, ⟨q, rfl⟩, hD, h1, h2⟩
 obtain ⟨r1, r2⟩ := guess_digit eU eV hU' hV' (by omega) hD hUV h1 h2
 exact ⟨D, q, rfl, rfl, ⟨hD, r1, r2⟩⟩
theorem take_step {l : List Nat} {o k t : Nat} (ht : l[o + k]? = some t) : val W32 ((l.drop o).take (k + 1)) = val W32 ((l.drop o).take k) + W32 ^ k * t :=
 val_take_succ W32 (by rw [List.getElem?_drop]; exact ht)
theorem mid_take {l seg : List Nat} {o k : Nat} (ho : o ≤ l.length) (hs : seg.length = k) : ((l.take o ++ (seg ++ l.drop (o + k))).drop o).take k = seg := by
 rw [List.drop_append_of_le_length (by rw [List.length_take]; omega), List.drop_of_length_le (by rw [List.length_take]; omega), List.nil_append, List.take_append_of_le_length (by omega), List.take_of_length_le (by omega)]
theorem mid_again {l seg seg2 : List Nat} {o k : Nat} (ho : o ≤ l.length) (hs : seg.length = k) :
 (l.take o ++ (seg ++ l.drop (o + k))).take o ++ (seg2 ++ (l.take o ++ (seg ++ l.drop (o + k))).drop (o + k)) = l.take o ++ (seg2 ++ l.drop (o + k)) := by
 have h1 : (l.take o).length = o := by rw [List.length_take]; omega
 rw [List.take_append_of_le_length (by omega), List.take_of_length_le (by omega)]
 congr 2
 rw [← List.append_assoc, List.drop_append, List.drop_of_length_le (by simp; omega), List.nil_append, List.length_append, h1, hs, Nat.sub_self, List.drop_zero]
theorem dec_mod {D : Nat} (h1 : 1 ≤ D) (h2 : D < W32) : ((D : Int) - 1) % 4294967296 = ((D - 1 : Nat) : Int) := by
 rw [W32_eq] at h2
 omega
theorem step_lt {seg : List Nat} {k : Nat} (h : seg.length = k) (hg : Good32 seg) : val W32 seg < W32 ^ k := by
 rw [← h]; exact val_lt seg hg
theorem divideStep_any {ad : Addr} {g o k i1 i2 c c' U V B : Nat} {l ys : List Nat} {w : World} (hk : k ≤ 100000) (hi1 : i1 + 1 = k) (hi2 : i2 + 2 = k) (hc : k + 1 ≤ c) (hb : Blk U32 142 w g l) (hr : Rd U32 w B (some ad) ys) (hB : B ≤ g) (hys : ys.length = k) (ho : o + k < l.length) (hlim : l.length ≤ 1000000) (hl : Good32 l) (hy : Good32 ys)
 (hU : val W32 ((l.drop o).take (k + 1)) = U) (hV : val W32 ys = V) (hUV : U < V * W32) (htop : ∀ x, ys[i1]? = some x → 2147483648 ≤ x) :
 Calls Tryz.prog 149 #[.slice (some ⟨g, o, none⟩) (k + 1) c, .slice (some ad) k c'] w (StepPost w g o k U V l) := by
 obtain ⟨t, ht⟩ : ∃ t, l[o + k]? = some t := ⟨_, List.getElem?_eq_getElem ho⟩
 have CG := hide (guess_any (c := c) (c' := c') (by omega) hi1 hi2 hb hr hys ho hl hy hU hV hUV htop)
 have CS : Hid (∀ (q D : Nat), D < W32 → Calls Tryz.prog 199 #[.slice (some ⟨g, o, none⟩) (k + 1) c, .slice (some ad) k c', .int .u32 (D : Int)] (w.drewN q) (SubMulPost (w.drewN q) g o k D t l ys)) := fun q D hD =>
  subMultiple_any (hb.drewN q) (hr.drewN q) hB hys.symm ho ht hl hy hD hlim
 have CA : Hid (∀ (W : World) (seg : List Nat) (d : Nat), seg.length = k → Good32 seg → Blk U32 142 W g (l.take o ++ (seg ++ l.drop (o + k))) → w.grownBy W (some g) → Calls Tryz.prog 187 #[.slice (some ⟨g, o, none⟩) k d, .slice (some ad) k c', .int .u32 1] W (AddMulPost W g o k 1 (l.take o ++ (seg ++ l.drop (o + k))) ys)) := fun W seg d hs hg hblk hgr =>
  addMultiple_any (f := 1) hblk (hr.grown hgr hB) hB hys.symm (by simp [hs]; omega) (good_app (good_take hl _) (good_app hg (good_drop hl _))) hy (by decide) (by simp [hs]; omega)
 have hU2 := hU
 rw [take_step ht] at hU2
 have HU := hide hU2
 have HLOW := hide (val_take_lt (good_drop hl o) k)
 have HVP : Hid (V ≤ W32 ^ k) := by
  have h := val_lt ys hy
  rw [hys, hV] at h
  exact Nat.le_of_lt h
 have HO := hide (show o ≤ l.length by omega)
 have HV := hide hV
 clear hU hU2 hV hUV htop hl hy hb hr ho ht hlim hys
 go_enter Tryz.func149, Tryz.ntmps149
 go_wp2_with (first | (go_at_call 198; go_must (refine CG.out.mono ?_); rintro e w1 ⟨D, q, rfl, rfl, HG⟩) | (go_at_call 199; go_must (refine (CS.out q D HG.out.lt).mono ?_); rintro e w2 ⟨seg, cr, rfl, hsl, hsg, hcr, hval, hblk, hgr⟩; have HBLK := hide hblk; have HGR := hide (grown_of_drew hgr); clear hblk hgr; by_cases hct : t < cr) | (go_at_call 187; go_must (refine (CA.out _ seg _ hsl.out hsg.out HBLK.out HGR.out).mono ?_); rintro e w3 ⟨seg2, c2, rfl, hsl2, hsg2, hcr2, hval2, hblk2, hgr2⟩))
 ·obtain ⟨hs1, hr1, hr2⟩ := step_over (s := val W32 seg) (s2 := val W32 seg2) (c2 := c2) (step_lt hsl.out hsg.out) (step_lt hsl2.out hsg2.out) HVP.out HU.out.symm HLOW.out (by rw [← HV.out]; exact hval.out) HG.out.lo hct (by
   have h1 := hval2.out
   rw [mid_take HO.out hsl.out, Nat.one_mul, HV.out] at h1
   exact h1)
  go_ret
  refine ⟨seg2, ?_, ?_, hsl2, hsg2, hr2.symm, ?_, grown_trans HGR.out hgr2⟩
  ·rw [hr1, ← dec_mod hs1 HG.out.lt]; rfl
  ·unfold Hid; rw [hr1]; exact Nat.lt_of_le_of_lt (Nat.sub_le _ _) HG.out.lt
  ·unfold Hid
   rw [← mid_again HO.out hsl.out]
   exact hblk2
 ·obtain ⟨hr1, hr2⟩ := step_right (s := val W32 seg) HVP.out HU.out.symm (by rw [← HV.out]; exact hval.out) HG.out.hi (by omega)
  go_ret
  exact ⟨seg, by rw [hr1]; rfl, by unfold Hid; rw [hr1]; exact HG.out.lt, hsl, hsg, hr2.symm, HBLK, HGR⟩
end Go.Proofs.YtfflmmbhpchloaaGreatDoor
end
