/- guessDigit: the greatest digit that the three highest words allow. -/
import Derived.Test.YtmiklffjffdkgaaGreatDoorGRwbc3
open Go.RowKit
set_option maxRecDepth 100000
namespace Go.Proofs.YtmiklffjffdkgaaGreatDoor
def GuessPost (w : World) (u2 u1 u0 hi lo : Nat) (e : Ending) (w' : World) : Prop :=
  ∃ D : Nat, e = .returned (.int .u32 (D : Int)) ∧ (∃ q, w' = w.drewN q) ∧ D < W32 ∧ D * (hi * W32 + lo) ≤ (u2 * W32 + u1) * W32 + u0 ∧ (D + 1 = W32 ∨ (u2 * W32 + u1) * W32 + u0 < (D + 1) * (hi * W32 + lo))
theorem guess_mul {D hi R T lo W : Nat} (h : D * hi + R = T) : D * (hi * W + lo) + R * W = T * W + D * lo := by
  rw [← h, Nat.mul_add, Nat.add_mul, Nat.mul_assoc]; omega
theorem guess_aux {X Y Z V u0 : Nat} (h : X + V = Z + Y) (hc : V + u0 < Y) : Z + u0 < X := by omega
theorem guess_step {D hi R T lo u0 : Nat} (h : D * hi + R = T) (h1 : 1 ≤ D) (hc : W32 ≤ D ∨ R * 4294967296 + u0 < D * lo) : W32 ≤ D - 1 + 1 ∨ T * W32 + u0 < (D - 1 + 1) * (hi * W32 + lo) := by
  rw [show D - 1 + 1 = D by omega]
  rcases hc with hc | hc
  · exact Or.inl hc
  · have h3 := guess_mul (lo := lo) (W := W32) h
    exact Or.inr (guess_aux h3 hc)
theorem guess_end {D hi R T lo u0 : Nat} (h : D * hi + R = T) (hc : D * lo ≤ R * 4294967296 + u0) : D * (hi * W32 + lo) ≤ T * W32 + u0 := by
  have := guess_mul (lo := lo) (W := W32) h
  rw [W32_eq] at *; omega
theorem guess_less {D hi R T u2 u1 : Nat} (h : D * hi + R = T) (hR : 4294967295 < R) (hT : T = u2 * 4294967296 + u1) (hu1 : u1 < W32) (hu2 : u2 ≤ hi) : D < W32 := by
  rcases Nat.lt_or_ge D W32 with h1 | h1
  · exact h1
  · have h2 := Nat.mul_le_mul h1 hu2
    rw [W32_eq] at *; omega
theorem guess_break {D hi R T lo u0 : Nat} (h : D * hi + R = T) (hR : 4294967295 < R) (hD : D < W32) (hlo : lo < W32) : D * (hi * W32 + lo) ≤ T * W32 + u0 := by
  have h1 := Nat.mul_le_mul (Nat.le_of_lt hD) (Nat.le_of_lt hlo)
  have := guess_mul (lo := lo) (W := W32) h
  rw [W32_eq] at *; omega
theorem guess_dec {D hi R T : Nat} (h : D * hi + R = T) (h1 : 1 ≤ D) : (D - 1) * hi + (R + hi) = T := by
  obtain ⟨E, rfl⟩ : ∃ E, D = E + 1 := ⟨D - 1, by omega⟩
  rw [Nat.add_mul, Nat.one_mul] at h
  rw [Nat.add_sub_cancel]; omega
theorem guess_fin {w w' : World} {D T u2 u1 u0 hi lo n : Nat} {e : Ending} (hT : u2 * W32 + u1 = T) (he : e = .returned (.int .u32 (D : Int))) (hw : w' = w.drewN n) (hD : D < W32) (h1 : D * (hi * W32 + lo) ≤ T * W32 + u0) (h2 : W32 ≤ D + 1 ∨ T * W32 + u0 < (D + 1) * (hi * W32 + lo)) : GuessPost w u2 u1 u0 hi lo e w' := by
  subst hT
  exact ⟨D, he, ⟨n, hw⟩, hD, h1, h2.imp (fun h => by omega) id⟩
theorem guess_start {T hi lo u0 : Nat} (hh : 0 < hi) (hu0 : u0 < W32) : T * W32 + u0 < (T / hi + 1) * (hi * W32 + lo) := by
  have h1 : T < (T / hi + 1) * hi := by
    have h2 := Nat.mod_add_div T hi
    have h3 := Nat.mod_lt T hh
    rw [Nat.add_mul, Nat.one_mul, Nat.mul_comm]; omega
  have h2 : (T + 1) * W32 ≤ (T / hi + 1) * hi * W32 := Nat.mul_le_mul_right _ h1
  rw [Nat.add_mul, Nat.one_mul] at h2
  rw [Nat.mul_add, ← Nat.mul_assoc]; omega
theorem guess_top {T hi u2 u1 : Nat} (hT : T = u2 * 4294967296 + u1) (hu1 : u1 < W32) (hu2 : u2 ≤ hi) (hh : 2147483648 ≤ hi) : T / hi ≤ 4294967297 := by
  refine Nat.le_of_lt_succ ?_
  rw [Nat.div_lt_iff_lt_mul (by omega)]
  rw [W32_eq] at hu1; omega
set_option maxHeartbeats 1000000 in
theorem guessDigit_any {ad : Addr} {g o k i1 i2 c c' u2 u1 u0 hi lo : Nat} {w : World} (hk : k ≤ 1000000) (hi1 : i1 + 1 = k) (hi2 : i2 + 2 = k)
    (h2 : w.cell? ⟨g, o + k, none⟩ = some (.int .u32 (u2 : Int))) (h1 : w.cell? ⟨g, o + i1, none⟩ = some (.int .u32 (u1 : Int))) (h0 : w.cell? ⟨g, o + i2, none⟩ = some (.int .u32 (u0 : Int)))
    (hh : w.cell? (ad.add i1) = some (.int .u32 (hi : Int))) (hl : w.cell? (ad.add i2) = some (.int .u32 (lo : Int)))
    (hu2 : u2 ≤ hi) (hu1 : u1 < W32) (hu0 : u0 < W32) (hhi : hi < W32) (hlo : lo < W32) (htop : 2147483648 ≤ hi) :
    Calls Tryz.prog 123 #[.slice (some ⟨g, o, none⟩) (k + 1) c, .slice (some ad) k c'] w (GuessPost w u2 u1 u0 hi lo) := by
  have hhz : ¬ (hi : Int) = 0 := by omega
  go_enter Tryz.func123, Tryz.ntmps123
  have a1 : IntKind.i64.wrap ((k : Int) - 1) = (i1 : Int) := by rw [IntWalk.i64_in _ (by omega)]; omega
  have a2 : IntKind.i64.wrap ((k : Int) - 2) = (i2 : Int) := by rw [IntWalk.i64_in _ (by omega)]; omega
  have a3 : (i1 : Int) < (k : Int) := by omega
  have a4 : (i2 : Int) < (k : Int) := by omega
  have b1 : IntKind.u64.wrap (hi : Int) = (hi : Int) := u64_word hhi
  have b2 : IntKind.u64.wrap (lo : Int) = (lo : Int) := u64_word hlo
  have c1 : IntKind.u64.wrap (u1 : Int) = (u1 : Int) := u64_word hu1
  have c2 : IntKind.u64.wrap (u2 : Int) = (u2 : Int) := u64_word (by omega)
  obtain ⟨T, HT⟩ : ∃ T, Hid (T = u2 * 4294967296 + u1) := ⟨_, rfl⟩
  have HTW : Hid (u2 * W32 + u1 = T) := by unfold Hid; rw [W32_eq]; exact HT.out.symm
  have hu2l : u2 ≤ 4294967295 := word_le (by omega)
  have C3 : Hid (bits .or .u64 ((u2 : Int) * 4294967296) (u1 : Int) = (T : Int)) := by
    unfold Hid
    rw [HT.out]
    exact or64 hu2l (word_le hu1)
  have hT : T ≤ 18446744073709551615 := by have := HT.out; have := word_le hu1; omega
  have hq : IntKind.u64.wrap ((T : Int) / (hi : Int)) = ((T / hi : Nat) : Int) := by
    rw [← Int.natCast_ediv]; exact u64_nat (Nat.le_trans (Nat.div_le_self _ _) hT)
  have hr : IntKind.u64.wrap ((T : Int).tmod (hi : Int)) = ((T % hi : Nat) : Int) := by
    rw [← Int.ofNat_tmod]; exact u64_nat (Nat.le_trans (Nat.mod_le _ _) hT)
  have hr' : (T : Int).tmod (hi : Int) = ((T % hi : Nat) : Int) := (Int.ofNat_tmod _ _).symm
  go_wp2_with fail
  go_quiet (fail)
  rename_i nq
  obtain ⟨W2, hW2⟩ : ∃ W2, W2 = w.drewN nq := ⟨_, rfl⟩
  rw [← hW2]
  have h2' := drew_cell hW2 h2
  have h1' := drew_cell hW2 h1
  have h0' := drew_cell hW2 h0
  have HW2 := hide hW2
  have HC0 : Hid (w.cell? ⟨g, o + i2, none⟩ = some (.int .u32 (u0 : Int))) := h0
  clear hW2 h2 h1 h0 hh hl
  go_wp2_with fail
  go_quiet (fail)
  go_wp2_with fail
  rw [C3.out]
  go_quiet (fail)
  go_wp2_with fail
  go_loopw [9, 10] (fun dv rv wr => ∃ D R n : Nat, dv = .int .u64 (D : Int) ∧ rv = .int .u64 (R : Int) ∧ Hid (wr = w.drewN n) ∧ Hid (D * hi + R = T) ∧ R ≤ 4294967295 ∧ D ≤ 4294967297 ∧ Hid (W32 ≤ D + 1 ∨ T * W32 + u0 < (D + 1) * (hi * W32 + lo)))
    (fun dv _ _ => (intOf dv).toNat)
  case atStart =>
    refine ⟨T / hi, T % hi, _, by rw [Int.natCast_ediv], by rw [Int.natCast_emod], drew_more (drew_more HW2), ?_, ?_, guess_top HT.out hu1 hu2 htop, Or.inr (guess_start (by omega) hu0)⟩
    · unfold Hid
      rw [Nat.mul_comm, Nat.div_add_mod]
    · have := Nat.mod_lt T (show 0 < hi by omega)
      have := word_le hhi
      omega
  case round =>
    obtain ⟨D, R, n, rfl, rfl, hw, hsum, hR, hD, hgr⟩ := hrel
    have h0' : wr.cell? ⟨g, o + i2, none⟩ = some (.int .u32 (u0 : Int)) := by rw [hw.out]; exact HC0.out
    have hhl := word_le hhi
    have d2 : IntKind.u64.wrap ((R : Int) + (hi : Int)) = ((R + hi : Nat) : Int) := by rw [← Int.natCast_add]; exact u64_nat (by omega)
    by_cases hbig : 4294967295 < D
    · have HG := hide (guess_step (lo := lo) (u0 := u0) hsum.out (by omega) (Or.inl (by rw [W32_eq]; omega)))
      have HS := hide (guess_dec hsum.out (by omega))
      go_wp2
      · go_ret
        refine guess_fin (D := D - 1) HTW.out ?_ hw.out (guess_less HS.out (by omega) HT.out hu1 hu2) (guess_break HS.out (by omega) (guess_less HS.out (by omega) HT.out hu1 hu2) hlo) HG.out
        have hl := guess_less HS.out (by omega) HT.out hu1 hu2
        rw [W32_eq] at hl
        show Ending.returned (.int .u32 _) = _
        congr 2; omega
      · exact ⟨⟨D - 1, R + hi, n, by go_num, by go_num, hw, HS, by omega, by omega, HG⟩, by simp [intOf]; omega⟩
    · have e2 : bits .or .u64 ((R : Int) * 4294967296) (u0 : Int) = ((R * 4294967296 + u0 : Nat) : Int) := or64 hR (word_le hu0)
      have hp := Nat.mul_le_mul (show D ≤ 4294967295 by omega) (word_le hlo)
      have e3 : IntKind.u64.wrap ((D : Int) * (lo : Int)) = ((D * lo : Nat) : Int) := by rw [← Int.natCast_mul]; exact u64_nat (by omega)
      by_cases hc : R * 4294967296 + u0 < D * lo
      · have h1 : 1 ≤ D := by
          rcases Nat.eq_zero_or_pos D with h | h
          · rw [h, Nat.zero_mul] at hc; omega
          · exact h
        have HG := hide (guess_step (lo := lo) (u0 := u0) hsum.out h1 (Or.inr hc))
        have HS := hide (guess_dec hsum.out h1)
        have d1 : IntKind.u64.wrap ((D : Int) - 1) = ((D - 1 : Nat) : Int) := by rw [← u64_nat (n := D - 1) (by omega)]; congr 1; omega
        have D1 := hide d1
        clear d1
        go_wp2
        · go_ret
          refine guess_fin (D := D - 1) HTW.out ?_ hw.out (guess_less HS.out (by omega) HT.out hu1 hu2) (guess_break HS.out (by omega) (guess_less HS.out (by omega) HT.out hu1 hu2) hlo) HG.out
          have hl := guess_less HS.out (by omega) HT.out hu1 hu2
          rw [W32_eq] at hl
          show Ending.returned (.int .u32 _) = _
          first | rw [D1.out] | skip
          congr 2; omega
        · refine ⟨⟨D - 1, R + hi, n, by first | rw [D1.out] | go_num, by go_num, hw, HS, by omega, by omega, HG⟩, ?_⟩
          first | rw [D1.out] | skip
          simp [intOf]; omega
      · have HE := hide (guess_end (lo := lo) (u0 := u0) hsum.out (by omega))
        have hc' : D * lo ≤ R * 4294967296 + u0 := by omega
        have c0 : IntKind.u64.wrap (u0 : Int) = (u0 : Int) := u64_word hu0
        go_wp2
        all_goals try (exfalso; rename_i hx1 hx2; rw [c0, e2, e3] at hx1; omega)
        all_goals try (exfalso; rename_i hx1; rw [c0, e2, e3] at hx1; omega)
        all_goals try (exfalso; omega)
        go_ret
        refine guess_fin (D := D) HTW.out ?_ hw.out (by rw [W32_eq]; omega) HE.out hgr.out
        show Ending.returned (.int .u32 _) = _
        congr 2 <;> omega
end Go.Proofs.YtmiklffjffdkgaaGreatDoor
