/- subMultiple: words in place. Conditions: at most 100000 words. -/
import Derived.Test.YtdjngaejdmlekaaDoorGNyc5
open Go.RowKit
set_option maxRecDepth 100000
namespace Go.Proofs.YtdjngaejdmlekaaDoor
def SubMulPost (w : World) (g o k f t : Nat) (l ys : List Nat) (e : Ending) (w' : World) : Prop :=
  ∃ (seg : List Nat) (c : Nat), e = .returned (.bool (decide (t < c))) ∧ Hid (seg.length = k) ∧ Hid (Good32 seg) ∧ Hid (c ≤ W32) ∧ Hid (val W32 seg + f * val W32 ys = val W32 ((l.drop o).take k) + W32 ^ k * c) ∧
    Blk U32 30 w' g (l.take o ++ (seg ++ l.drop (o + k))) ∧ w.grownBy w' (some g)
theorem submul_prod {y f cr : Nat} (hy : y < W32) (hf : f < W32) (hc : cr ≤ W32) : cr + y * f ≤ 18446744069414584321 := by
  have h := Nat.mul_le_mul (Nat.le_sub_one_of_lt hy) (Nat.le_sub_one_of_lt hf)
  rw [W32_eq] at *
  omega
theorem submul_wrap {y f cr : Nat} (hy : y < W32) (hf : f < W32) (hc : cr ≤ W32) :
    IntKind.u64.wrap ((cr : Int) + IntKind.u64.wrap (IntKind.u64.wrap (y : Int) * IntKind.u64.wrap (f : Int))) = ((cr + y * f : Nat) : Int) := by
  have h1 := submul_prod hy hf hc
  rw [u64_word hy, u64_word hf, ← Int.natCast_mul, u64_nat (by omega), ← Int.natCast_add, u64_nat (by omega)]
theorem submul_math {P V VL VY cr y f s s' T r q b W : Nat} (h : V + f * VY = VL + P * cr) (hT : T = cr + y * f) (hq : r + W * q = T) (hs : s' + r = s + W * b) : V + P * s' + f * (VY + P * y) = VL + P * s + P * W * (q + b) := by
  have e1 : P * s' + P * T = P * s + P * W * (q + b) := by
    rw [← Nat.mul_add, show s' + T = s + W * (q + b) by rw [Nat.mul_add]; omega, Nat.mul_add, Nat.mul_assoc]
  have e2 : P * T = P * cr + P * (y * f) := by rw [hT, Nat.mul_add]
  have e3 : f * (P * y) = P * (y * f) := by rw [Nat.mul_comm y f, Nat.mul_left_comm]
  rw [Nat.mul_add f, e3]; omega
theorem submul_yes {T s : Nat} (hT : T ≤ 18446744069414584321) (hs : s < W32) (h : (s : Int) < (T : Int) % 4294967296) :
    ∃ s' b, s' < W32 ∧ T / W32 + b ≤ W32 ∧ s' + T % W32 = s + W32 * b ∧ IntKind.u64.wrap ((T : Int) / 4294967296 + 1) = ((T / W32 + b : Nat) : Int) ∧ ((s : Int) - (T : Int)) % 4294967296 = (s' : Int) := by
  rw [W32_eq] at *
  refine ⟨s + 4294967296 - T % 4294967296, 1, by omega, by omega, by omega, ?_, by omega⟩
  rw [show (T : Int) / 4294967296 + 1 = ((T / 4294967296 + 1 : Nat) : Int) by omega]
  exact u64_nat (by omega)
theorem submul_no {T s : Nat} (hT : T ≤ 18446744069414584321) (hs : s < W32) (h : ¬ (s : Int) < (T : Int) % 4294967296) :
    ∃ s' b, s' < W32 ∧ T / W32 + b ≤ W32 ∧ s' + T % W32 = s + W32 * b ∧ (T : Int) / 4294967296 = ((T / W32 + b : Nat) : Int) ∧ ((s : Int) - (T : Int)) % 4294967296 = (s' : Int) := by
  rw [W32_eq] at *
  exact ⟨s - T % 4294967296, 0, by omega, by omega, by omega, by omega, by omega⟩
set_option maxHeartbeats 1000000 in
theorem subMultiple_any {A : Option Addr} {g o k c c' f t B : Nat} {l ys : List Nat} {w : World} (hb : Blk U32 30 w g l) (hr : Rd U32 w B A ys) (hB : B ≤ g) (hk : k = ys.length) (ho : o + k < l.length) (ht : l[o + k]? = some t)
    (hl : Good32 l) (hy : Good32 ys) (hf : f < W32) (hlim : l.length ≤ 1000000) :
    Calls Tryd.prog 124 #[.slice (some ⟨g, o, none⟩) (k + 1) c, .slice A k c', .int .u32 (f : Int)] w (SubMulPost w g o k f t l ys) := by
  have HB := hide hb; have HR := hide hr; have HK := hide hk; have HL := hide hl; have HY := hide hy; have HF := hide hf; have HO := hide ho; have HT := hide ht
  have hkl : k ≤ 1000000 := by omega
  clear hb hr hk hl hy hf hlim ho ht
  go_enter Tryd.func124, Tryd.ntmps124
  go_wp2
  go_loopw [7, 13] (fun cv iv wr => ∃ i cr : Nat, ∃ seg : List Nat, i ≤ k ∧ Hid (cr ≤ W32) ∧ iv = .int .i64 (i : Int) ∧ cv = .int .u64 (cr : Int) ∧ Hid (seg.length = i) ∧ Hid (Good32 seg) ∧
      Hid (val W32 seg + f * val W32 (ys.take i) = val W32 ((l.drop o).take i) + W32 ^ i * cr) ∧ Hid (Blk U32 30 wr g (l.take o ++ (seg ++ l.drop (o + i)))) ∧ Hid (w.grownBy wr (some g)))
    (fun _ iv _ => k - (intOf iv).toNat)
  case atStart => exact ⟨0, 0, [], Nat.zero_le _, by unfold Hid; decide, rfl, rfl, rfl, by intro x hx; simp at hx, by simp [Hid, val], by simpa [Hid] using HB.out, World.grownBy.refl _ _⟩
  case round =>
    obtain ⟨i, cr, seg, hi, hcr, rfl, rfl, hsl, hsg, hval, hblk, hgr⟩ := hrel
    by_cases hlt : i < k
    · have hiy : i < ys.length := by rw [← HK.out]; exact hlt
      have hil : o + i < l.length := by have := HO.out; omega
      obtain ⟨y, hye⟩ : ∃ y, y = ys[i] := ⟨_, rfl⟩
      obtain ⟨s, hse⟩ : ∃ s, s = l[o + i] := ⟨_, rfl⟩
      obtain ⟨ad, rfl, hab, hcy⟩ := (HR.out.grown hgr.out hB).at_ hiy
      have hsL : l[o + i]? = some s := by rw [hse]; exact List.getElem?_eq_getElem hil
      have hcs : wr.cell? ⟨g, o + i, none⟩ = some (U32 s) := hblk.out.cell (by rw [get_mid (by rw [List.length_take]; omega) hsl.out, hsL])
      have hfz := hblk.out.frozen (o + i)
      rw [← hye] at hcy
      have hyW : y < W32 := by rw [hye]; exact HY.out _ (List.getElem_mem _)
      have hsW : s < W32 := by rw [hse]; exact HL.out _ (List.getElem_mem _)
      have RL := hide (val_take_succ W32 (L := l.drop o) (i := i) (x := s) (by rw [List.getElem?_drop]; exact hsL))
      have RY := hide (val_take_succ W32 (L := ys) (i := i) (x := y) (by rw [hye]; exact List.getElem?_eq_getElem hiy))
      have Rm := hide (fun v => set_mid (seg := seg) (v := v) (show (l.take o).length = o by rw [List.length_take]; omega) hsl.out hil)
      have RW := hide (submul_wrap hyW HF.out hcr.out)
      have RP := hide (submul_prod hyW HF.out hcr.out)
      have HSW := hide hsW
      unfold U32 at hcs hcy
      clear hye hse hiy hil hyW hsW hsL
      go_wp2
      · rename_i hh
        rw [RW.out] at hh
        obtain ⟨s', b, q1, q2, q3, q4, q5⟩ := submul_yes RP.out HSW.out hh
        rw [RW.out]
        refine ⟨⟨i + 1, (cr + y * f) / W32 + b, seg ++ [s'], by omega, q2, by go_num, by rw [q4], by unfold Hid; simp [hsl.out], good_snoc hsg.out q1, ?_, ?_, ?_⟩, ?_⟩
        · unfold Hid
          rw [val_snoc, hsl.out, Nat.pow_succ, RL.out, RY.out]
          exact submul_math hval.out rfl (lohi _) q3
        · have hb := hblk.out.set_ (o + i) s'
          rw [Rm.out] at hb
          rw [q5]
          exact hb
        · exact grown_set hgr.out _ _
        · simp [intOf]; omega
      · rename_i hh
        rw [RW.out] at hh
        obtain ⟨s', b, q1, q2, q3, q4, q5⟩ := submul_no RP.out HSW.out (Int.not_lt.mpr hh)
        rw [RW.out]
        refine ⟨⟨i + 1, (cr + y * f) / W32 + b, seg ++ [s'], by omega, q2, by go_num, by rw [q4], by unfold Hid; simp [hsl.out], good_snoc hsg.out q1, ?_, ?_, ?_⟩, ?_⟩
        · unfold Hid
          rw [val_snoc, hsl.out, Nat.pow_succ, RL.out, RY.out]
          exact submul_math hval.out rfl (lohi _) q3
        · have hb := hblk.out.set_ (o + i) s'
          rw [Rm.out] at hb
          rw [q5]
          exact hb
        · exact grown_set hgr.out _ _
        · simp [intOf]; omega
    · obtain rfl : i = k := by omega
      have hct : wr.cell? ⟨g, o + i, none⟩ = some (U32 t) := hblk.out.cell (by rw [get_mid (by rw [List.length_take]; have := HO.out; omega) hsl.out]; exact HT.out)
      have htW : t ≤ 4294967295 := word_le (HL.out _ (List.mem_of_getElem? HT.out))
      have hcw : cr ≤ 4294967296 := by have := hcr.out; rw [W32_eq] at this; exact this
      unfold U32 at hct
      go_wp2
      go_ret
      refine ⟨seg, cr, rfl, hsl.out, hsg.out, hcr.out, ?_, hblk.out, hgr.out⟩
      have := hval.out
      rwa [List.take_of_length_le (show ys.length ≤ i by rw [HK.out]; exact Nat.le_refl _)] at this
end Go.Proofs.YtdjngaejdmlekaaDoor
