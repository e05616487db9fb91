/- Several texts in one, each with its own sentence and conditions. -/
import Derived.Test.YtfcamfkimnlfgaaGreatDoorGRsmc37
import Derived.Test.YtfcamfkimnlfgaaGreatDoorGRsmc2
import Derived.Test.YtfcamfkimnlfgaaGreatDoorGRsmc10
import Derived.Test.YtfcamfkimnlfgaaGreatDoorGRsmc18
import Derived.Test.YtfcamfkimnlfgaaGreatDoorGRsmc16
section
/- The document's own fractions: QPow to a power from 0 on. Conditions: terms of few words. -/
open Go.RowKit
set_option maxRecDepth 100000
namespace Go.Proofs.YtfcamfkimnlfgaaGreatDoor
theorem bd_rpow {r : Rat} {K : Nat} (h : Bd r K) (i : Nat) : Bd (r ^ i) (K * i + 1) := by
  have go : ∀ x : Nat, x < W32 ^ K → x ^ i < W32 ^ (K * i + 1) := fun x hx => by
    have h1 : x ^ i ≤ (W32 ^ K) ^ i := Nat.pow_le_pow_left (Nat.le_of_lt hx) i
    rw [← Nat.pow_mul] at h1
    have h3 : W32 ^ (K * i) < W32 ^ (K * i + 1) := Nat.pow_lt_pow_right (by decide) (by omega)
    omega
  refine ⟨?_, ?_⟩
  · rw [Rat.num_pow, Int.natAbs_pow]; exact go _ h.1
  · rw [Rat.den_pow]; exact go _ h.2
/-- What a power leaves. -/
def RQt (W : World) (s : Bool) (v : Int) (d : Nat) (e : Ending) (w' : World) : Prop := ∃ A c A' c', e = .returned (.tuple #[.agg #[.bool s, .slice A (dq v.natAbs) c, .slice A' (dq d) c'], .bool true]) ∧ Rz w' s A c v ∧ Rn w' A' c' d ∧ Hid (Below W.heap.size W w')
/-- A box holds a fraction. -/
def BoxQ (w : World) (p : Nat) (s : Bool) (x : Rat) : Prop := ∃ F f G g, At w p [.bool s, .slice F (dq x.num.natAbs) f, .slice G (dq x.den) g] ∧ Rz w s F f x.num ∧ Rn w G g x.den
section
variable {W : World} {b s : Bool} {A A' : Option Addr} {c c' K : Nat} {r : Rat}
set_option maxHeartbeats 8000000 in
theorem rqpow_p {k : Nat} (hb : Bd r K) (hK0 : 0 < K) (hK : K * k + K + 1 ≤ 1000) (h : Rz W b A c r.num) (h' : Rn W A' c' r.den) {q : Rat} (hq : r ^ k = q) (hs : s = decide (q.num < 0)) :
    Calls Tryz.prog 13 #[.agg #[.bool b, .slice A (dq r.num.natAbs) c, .slice A' (dq r.den) c'], .int .i64 (k : Int)] W (RQt W s q.num q.den) := by
  obtain ⟨y0, hy0⟩ : ∃ y, y = r ^ 0 := ⟨_, rfl⟩
  obtain ⟨s0, hs0⟩ : ∃ u, u = decide (y0.num < 0) := ⟨_, rfl⟩
  have CI : Hid (∀ W', Calls Tryz.prog 72 #[.int .i64 1] W' (RQm W' s0 y0.num y0.den)) := fun W' => by
    have h0 : y0 = 1 := by rw [hy0, Rat.pow_zero]
    rw [hs0, h0]
    exact (rqint_h (W := W') (z := 1) (sg := decide ((1 : Rat).num < 0)) (by decide) (by decide) rfl).mono fun _ _ ⟨A, c, A', c', he, n1, n2, hb⟩ => ⟨A, c, A', c', he, ⟨n1, rfl⟩, n2, hb⟩
  have CM : Hid (∀ i, i < k → ∀ W' si F f G g, Rz W' si F f (r ^ i).num → Rn W' G g (r ^ i).den → Rz W' b A c r.num → Rn W' A' c' r.den → Calls Tryz.prog 27 #[.agg #[.bool si, .slice F (dq (r ^ i).num.natAbs) f, .slice G (dq (r ^ i).den) g], .agg #[.bool b, .slice A (dq r.num.natAbs) c, .slice A' (dq r.den) c']] W' (RQm W' (decide ((r ^ (i + 1)).num < 0)) (r ^ (i + 1)).num (r ^ (i + 1)).den)) := fun i hi W' si F f G g g1 g2 g3 g4 => by
    have h1 : K * i ≤ K * k := Nat.mul_le_mul_left K (Nat.le_of_lt hi)
    rw [Rat.pow_succ]
    exact rqmul_c (K := K * k + K + 1) ((bd_rpow hb i).more (by omega)) (hb.more (by omega)) hK g1 g2 g3 g4
  have hk : (k : Int) ≤ 1000 := by
    have : 1 * k ≤ K * k := Nat.mul_le_mul_right k hK0
    omega
  have g1 : decide ((k : Int) < 0) = false := decide_eq_false (by omega)
  have HS := hide hs
  have HY := hide hy0
  have HQ := hide hq
  clear hb hK hs hK0 hy0 hs0 hq
  have HB := Bel.refl W
  go_enter Tryz.func13, Tryz.ntmps13
  go_wp2_with (first | (go_at_call 72; (with_reducible refine (CI.out _).mono ?_); rintro e w1 ⟨F, f, G, g, rfl, m1, m2, hbk⟩; (with_reducible (have HP : At w1 W.heap.size [.bool b, .slice A (dq r.num.natAbs) c, .slice A' (dq r.den) c'] := At.up ((at_new0 _ _ _).al _) hbk; have HR : At w1 (W.heap.size + 1) [.bool false, .slice none 0 0, .slice none 0 0] := At.up (at_new1 _ _ _ _) hbk; replace HB := ((HB.al _).al _).up hbk; replace h := ((h.al _).al _).up hbk; replace h' := ((h'.al _).al _).up hbk))) | fail)
  obtain ⟨W3, hW3⟩ : ∃ X, X = w1.alloc (.cells #[.bool s0, .slice F (dq y0.num.natAbs) f, .slice G (dq y0.den) g] 36) := ⟨_, rfl⟩
  rw [← hW3]
  obtain ⟨p, hp⟩ : ∃ p, p = w1.heap.size := ⟨_, rfl⟩
  rw [← hp]
  have HX3 : BoxQ W3 p s0 (r ^ 0) := by
    rw [← HY.out]
    exact ⟨F, f, G, g, by rw [hW3, hp]; exact at_new0 _ _ _, by rw [hW3]; exact m1.al _, by rw [hW3]; exact m2.al _⟩
  have HB3 : Bel w1 W3 := by rw [hW3]; exact (Bel.refl w1).al _
  have hpl : W.heap.size + 1 < p := by rw [hp]; exact HR.lt
  have hpw : w1.heap.size ≤ p := by omega
  clear hW3 m1 m2 hp
  go_loopw [7] (fun iv wr => ∃ (i : Nat) (si : Bool), i ≤ k ∧ iv = .int .i64 (i : Int) ∧ BoxQ wr p si (r ^ i) ∧ Hid (Bel w1 wr)) (fun iv _ => k - (intOf iv).toNat)
  case atStart => exact ⟨0, s0, Nat.zero_le _, rfl, HX3, HB3⟩
  case round =>
    obtain ⟨i, si, hi, rfl, HXB, HW0⟩ := hrel
    obtain ⟨x, hx⟩ : ∃ x, x = r ^ i := ⟨_, rfl⟩
    obtain ⟨y, hy⟩ : ∃ y, y = r ^ (i + 1) := ⟨_, rfl⟩
    obtain ⟨sy, hsy⟩ : ∃ u, u = decide (y.num < 0) := ⟨_, rfl⟩
    have CMi := CM.out i
    rw [← hx, ← hy, ← hsy] at CMi
    rw [← hx] at HXB
    have HXE := hide hx
    have HYE := hide hy
    clear hx hy hsy
    obtain ⟨F1, f1, G1, g1', HX, n1, n2⟩ := HXB
    have HW : Bel w1 wr := HW0
    have HP1 := At.up HP HW.hid
    have HR1 := At.up HR HW.hid
    have a1 := h.up HW.hid
    have a2 := h'.up HW.hid
    have hp_0 := HP1.c0
    have hp_1 := HP1.c1
    have hp_2 := HP1.c2
    have hp_l := HP1.lt
    have hx_0 := HX.c0
    have hx_1 := HX.c1
    have hx_2 := HX.c2
    have hx_l := HX.lt
    have zs := Below.size HW
    by_cases hlt : i < k
    · have hL1 : (i : Int) < (k : Int) := by omega
      have CMj := CMi hlt
      clear CMi
      go_wp2_with (first | (go_at_call 27; (with_reducible refine (CMj _ _ _ _ _ _ n1 n2 a1 a2).mono ?_); rintro e w2 ⟨F2, f2, G2, g2, rfl, m1, m2, hbk⟩; (with_reducible (replace HX := HX.up hbk; replace HW := HW.up hbk)); clear hx_0 hx_1 hx_2 hx_l; have hx_0 := HX.c0; have hx_1 := HX.c1; have hx_2 := HX.c2; have hx_l := HX.lt; have hx_f0 := HX.f0; have hx_f1 := HX.f1; have hx_f2 := HX.f2) | fail)
      go_roundw
      case rel => exact ⟨i + 1, sy, by omega, by go_num, by rw [← HYE.out]; exact ⟨F2, f2, G2, g2, HX.put3 _ _ _, ⟨m1.1.put3 HX, m1.2⟩, m2.put3 HX⟩, below3 HW (by omega) _ _ _⟩
      case measure => simp [intOf]; omega
    · obtain rfl : i = k := by omega
      have hL1 : ¬ (i : Int) < (i : Int) := by omega
      have hr_0 := HR1.c0
      have hr_1 := HR1.c1
      have hr_2 := HR1.c2
      have hr_l := HR1.lt
      have hr_f0 := HR1.f0
      have hr_f1 := HR1.f1
      have hr_f2 := HR1.f2
      have hxq : x = q := HXE.out.trans HQ.out
      subst hxq
      clear CMi
      go_wp2_with fail
      refine bodyPost_ret (v := .tuple #[.agg #[.bool si, .slice F1 (dq x.num.natAbs) f1, .slice G1 (dq x.den) g1'], .bool true]) (by simp [results, Tryz.results13, go_sem, hr_0, hr_1, hr_2]) rfl ?_
      have hsi : si = s := n1.2.out.trans HS.out.symm
      subst hsi
      exact ⟨F1, f1, G1, g1', rfl, ⟨n1.1.put3 HR1, n1.2⟩, n2.put3 HR1, below3 (HB.up HW.hid) (by omega) _ _ _⟩
end
end Go.Proofs.YtfcamfkimnlfgaaGreatDoor
end

section
/- The document's own fractions: QPow to a power below 0. Conditions: terms of few words. -/
open Go.RowKit
set_option maxRecDepth 100000
namespace Go.Proofs.YtfcamfkimnlfgaaGreatDoor
/-- What a refused power leaves. -/
def RQno (W : World) (e : Ending) (w' : World) : Prop := ∃ t A n c A' n' c', e = .returned (.tuple #[.agg #[.bool t, .slice A n c, .slice A' n' c'], .bool false]) ∧ Hid (Below W.heap.size W w')
section
variable {W : World} {b s : Bool} {A A' : Option Addr} {c c' K : Nat} {r : Rat}
set_option maxHeartbeats 4000000 in
theorem rqpow_0 {i : Int} (h : Rz W b A c r.num) (h' : Rn W A' c' r.den) (h0 : r = 0) (hi : i < 0) :
    Calls Tryz.prog 13 #[.agg #[.bool b, .slice A (dq r.num.natAbs) c, .slice A' (dq r.den) c'], .int .i64 i] W (RQno W) := by
  obtain ⟨z, hz⟩ : ∃ z, z = r.num := ⟨_, rfl⟩
  obtain ⟨d, hd⟩ : ∃ d, d = r.den := ⟨_, rfl⟩
  rw [← hz] at h ⊢
  rw [← hd] at h' ⊢
  have hz0 : z = 0 := by rw [hz, h0]; rfl
  have CS : Hid (∀ W', Rz W' b A c z → Calls Tryz.prog 14 #[.agg #[.bool b, .slice A (dq z.natAbs) c, .slice A' (dq d) c']] W' (IntPost W' 0)) := fun W' g => rqsign_h g (by rw [hz0]; rfl)
  have CI : Hid (∀ W', Calls Tryz.prog 72 #[.int .i64 0] W' (RQk W' false 0 1)) := fun W' => rqint_h (by decide) (by decide) rfl
  have g1 : decide (i < 0) = true := decide_eq_true hi
  clear hz hd h0 hz0 h'
  have HB := Bel.refl W
  go_enter Tryz.func13, Tryz.ntmps13
  go_wp2_with (first | (go_at_call 14; (with_reducible refine (CS.out _ ((h.al _).al _)).mono ?_); rintro e w1 ⟨rfl, hbk⟩; (with_reducible (have HR : At w1 (W.heap.size + 1) [.bool false, .slice none 0 0, .slice none 0 0] := At.up (at_new1 _ _ _ _) hbk; replace HB := ((HB.al _).al _).up hbk))) | (go_at_call 72; (with_reducible refine (CI.out _).mono ?_); rintro e w2 ⟨F, f, G, g, rfl, m1, m2, hbk⟩; (with_reducible (replace HR := HR.up hbk; replace HB := HB.up hbk)); have hr_0 := HR.c0; have hr_1 := HR.c1; have hr_2 := HR.c2; have hr_l := HR.lt; have hr_f0 := HR.f0; have hr_f1 := HR.f1; have hr_f2 := HR.f2) | fail)
  refine bodyPost_ret (v := .tuple #[.agg #[.bool false, .slice F (dq 0) f, .slice G (dq 1) g], .bool false]) (by simp [results, Tryz.results13, go_sem, hr_0, hr_1, hr_2]) rfl ?_
  exact ⟨_, _, _, _, _, _, _, rfl, below3 HB (by omega) _ _ _⟩
set_option maxHeartbeats 8000000 in
theorem rqpow_n {k : Nat} (hk0 : 0 < k) (h0 : r ≠ 0) (hb : Bd r⁻¹ K) (hK0 : 0 < K) (hK : K * k + K + 1 ≤ 1000) (h : Rz W b A c r.num) (h' : Rn W A' c' r.den) {q : Rat} (hq : r⁻¹ ^ k = q) (hs : s = decide (q.num < 0)) :
    Calls Tryz.prog 13 #[.agg #[.bool b, .slice A (dq r.num.natAbs) c, .slice A' (dq r.den) c'], .int .i64 (-(k : Int))] W (RQt W s q.num q.den) := by
  obtain ⟨ri, hri⟩ : ∃ x : Rat, r⁻¹ = x := ⟨_, rfl⟩
  obtain ⟨sb, hsb⟩ : ∃ u, u = decide (ri.num < 0) := ⟨_, rfl⟩
  obtain ⟨z, hz⟩ : ∃ z, z = r.num := ⟨_, rfl⟩
  obtain ⟨d, hd⟩ : ∃ d, d = r.den := ⟨_, rfl⟩
  have CV : Hid (∀ W', Rz W' b A c z → Rn W' A' c' d → Calls Tryz.prog 16 #[.agg #[.bool b, .slice A (dq z.natAbs) c, .slice A' (dq d) c']] W' (RQm W' sb ri.num ri.den)) := fun W' g g' => by
    rw [hz] at g ⊢
    rw [hd] at g' ⊢
    rw [← hri]
    exact rqinv_c g g' h0 (by rw [hri]; exact hsb)
  obtain ⟨sv, hsv⟩ : ∃ v, v = z.sign := ⟨_, rfl⟩
  have CS : Hid (∀ W', Rz W' b A c z → Calls Tryz.prog 14 #[.agg #[.bool b, .slice A (dq z.natAbs) c, .slice A' (dq d) c']] W' (IntPost W' sv)) := fun W' g => rqsign_h g hsv.symm
  have hsv0 : (sv == 0) = false := by
    cases e : (sv == 0) with
    | false => rfl
    | true =>
      have e2 : sv = 0 := by simpa using e
      rw [hsv, Int.sign_eq_zero_iff_zero, hz] at e2
      exact absurd (Rat.num_eq_zero.1 e2) h0
  rw [hri] at hb hq
  rw [← hz] at h ⊢
  rw [← hd] at h' ⊢
  clear hri hz hd hsv hsb h0
  obtain ⟨y0, hy0⟩ : ∃ y, y = ri ^ 0 := ⟨_, rfl⟩
  obtain ⟨s0, hs0⟩ : ∃ u, u = decide (y0.num < 0) := ⟨_, rfl⟩
  have CI : Hid (∀ W', Calls Tryz.prog 72 #[.int .i64 1] W' (RQm W' s0 y0.num y0.den)) := fun W' => by
    have h0 : y0 = 1 := by rw [hy0, Rat.pow_zero]
    rw [hs0, h0]
    exact (rqint_h (W := W') (z := 1) (sg := decide ((1 : Rat).num < 0)) (by decide) (by decide) rfl).mono fun _ _ ⟨A, c, A', c', he, n1, n2, hb⟩ => ⟨A, c, A', c', he, ⟨n1, rfl⟩, n2, hb⟩
  have CM : Hid (∀ i, i < k → ∀ W' si F f G g V v U u, Rz W' si F f (ri ^ i).num → Rn W' G g (ri ^ i).den → Rz W' sb V v ri.num → Rn W' U u ri.den → Calls Tryz.prog 27 #[.agg #[.bool si, .slice F (dq (ri ^ i).num.natAbs) f, .slice G (dq (ri ^ i).den) g], .agg #[.bool sb, .slice V (dq ri.num.natAbs) v, .slice U (dq ri.den) u]] W' (RQm W' (decide ((ri ^ (i + 1)).num < 0)) (ri ^ (i + 1)).num (ri ^ (i + 1)).den)) := fun i hi W' si F f G g V v U u g1 g2 g3 g4 => by
    have h1 : K * i ≤ K * k := Nat.mul_le_mul_left K (Nat.le_of_lt hi)
    rw [Rat.pow_succ]
    exact rqmul_c (K := K * k + K + 1) ((bd_rpow hb i).more (by omega)) (hb.more (by omega)) hK g1 g2 g3 g4
  have hk : (k : Int) ≤ 1000 := by
    have : 1 * k ≤ K * k := Nat.mul_le_mul_right k hK0
    omega
  have g1 : decide (-(k : Int) < 0) = true := decide_eq_true (by omega)
  have gneg : -(k : Int) < 0 := by omega
  have HS := hide hs
  have HY := hide hy0
  have HQ := hide hq
  clear hb hK hs hK0 hy0 hs0 hq
  have HB := Bel.refl W
  go_enter Tryz.func13, Tryz.ntmps13
  go_wp2_with (first | (go_at_call 14; (with_reducible refine (CS.out _ ((h.al _).al _)).mono ?_); rintro e w0 ⟨rfl, hbk⟩; (with_reducible (have HP : At w0 W.heap.size [.bool b, .slice A (dq z.natAbs) c, .slice A' (dq d) c'] := At.up ((at_new0 _ _ _).al _) hbk; have HR : At w0 (W.heap.size + 1) [.bool false, .slice none 0 0, .slice none 0 0] := At.up (at_new1 _ _ _ _) hbk; replace HB := ((HB.al _).al _).up hbk; replace h := ((h.al _).al _).up hbk; replace h' := ((h'.al _).al _).up hbk)); have hp_0 := HP.c0; have hp_1 := HP.c1; have hp_2 := HP.c2; have hp_l := HP.lt) | (go_at_call 16; (with_reducible refine (CV.out _ h h').mono ?_); rintro e wi ⟨V, v, U, u, rfl, a1, a2, hbk⟩; (with_reducible (replace HP := HP.up hbk; replace HR := HR.up hbk; replace HB := HB.up hbk)); clear hp_0 hp_1 hp_2 hp_l; have hp_0 := HP.c0; have hp_1 := HP.c1; have hp_2 := HP.c2; have hp_l := HP.lt; have hp_f0 := HP.f0; have hp_f1 := HP.f1; have hp_f2 := HP.f2) | (go_at_call 72; (with_reducible refine (CI.out _).mono ?_); rintro e w1 ⟨F, f, G, g, rfl, m1, m2, hbk⟩; have HP9 : At w1 W.heap.size [.bool sb, .slice V (dq ri.num.natAbs) v, .slice U (dq ri.den) u] := At.up (HP.put3 _ _ _) hbk; have HR9 : At w1 (W.heap.size + 1) [.bool false, .slice none 0 0, .slice none 0 0] := At.up (HR.far3 (by omega) _ _ _) hbk; have HB9 : Bel W w1 := Bel.up (Bel.of (below3 HB (Nat.le_refl _) _ _ _)) hbk; have a19 : Rz w1 sb V v ri.num := Rz.up ⟨a1.1.put3 HP, a1.2⟩ hbk; have a29 : Rn w1 U u ri.den := Rn.up (a2.put3 HP) hbk) | fail)
  clear hp_0 hp_1 hp_2 hp_l hp_f0 hp_f1 hp_f2 HP HR HB a1 a2 h h'
  have HP := HP9
  have HR := HR9
  have HB := HB9
  have h := a19
  have h' := a29
  clear HP9 HR9 HB9 a19 a29
  obtain ⟨W3, hW3⟩ : ∃ X, X = w1.alloc (.cells #[.bool s0, .slice F (dq y0.num.natAbs) f, .slice G (dq y0.den) g] 36) := ⟨_, rfl⟩
  rw [← hW3]
  obtain ⟨p, hp⟩ : ∃ p, p = w1.heap.size := ⟨_, rfl⟩
  rw [← hp]
  have HX3 : BoxQ W3 p s0 (ri ^ 0) := by
    rw [← HY.out]
    exact ⟨F, f, G, g, by rw [hW3, hp]; exact at_new0 _ _ _, by rw [hW3]; exact m1.al _, by rw [hW3]; exact m2.al _⟩
  have HB3 : Bel w1 W3 := by rw [hW3]; exact (Bel.refl w1).al _
  have hpl : W.heap.size + 1 < p := by rw [hp]; exact HR.lt
  have hpw : w1.heap.size ≤ p := by omega
  clear hW3 m1 m2 hp
  go_loopw [7] (fun iv wr => ∃ (i : Nat) (si : Bool), i ≤ k ∧ iv = .int .i64 (i : Int) ∧ BoxQ wr p si (ri ^ i) ∧ Hid (Bel w1 wr)) (fun iv _ => k - (intOf iv).toNat)
  case atStart => exact ⟨0, s0, Nat.zero_le _, rfl, HX3, HB3⟩
  case round =>
    obtain ⟨i, si, hi, rfl, HXB, HW0⟩ := hrel
    obtain ⟨x, hx⟩ : ∃ x, x = ri ^ i := ⟨_, rfl⟩
    obtain ⟨y, hy⟩ : ∃ y, y = ri ^ (i + 1) := ⟨_, rfl⟩
    obtain ⟨sy, hsy⟩ : ∃ u, u = decide (y.num < 0) := ⟨_, rfl⟩
    have CMi := CM.out i
    rw [← hx, ← hy, ← hsy] at CMi
    rw [← hx] at HXB
    have HXE := hide hx
    have HYE := hide hy
    clear hx hy hsy
    obtain ⟨F1, f1, G1, g1', HX, n1, n2⟩ := HXB
    have HW : Bel w1 wr := HW0
    have HP1 := At.up HP HW.hid
    have HR1 := At.up HR HW.hid
    have a1 := h.up HW.hid
    have a2 := h'.up HW.hid
    have hp_0 := HP1.c0
    have hp_1 := HP1.c1
    have hp_2 := HP1.c2
    have hp_l := HP1.lt
    have hx_0 := HX.c0
    have hx_1 := HX.c1
    have hx_2 := HX.c2
    have hx_l := HX.lt
    have zs := Below.size HW
    by_cases hlt : i < k
    · have hL1 : (i : Int) < (k : Int) := by omega
      have CMj := CMi hlt
      clear CMi
      go_wp2_with (first | (go_at_call 27; (with_reducible refine (CMj _ _ _ _ _ _ _ _ _ _ n1 n2 a1 a2).mono ?_); rintro e w2 ⟨F2, f2, G2, g2, rfl, m1, m2, hbk⟩; (with_reducible (replace HX := HX.up hbk; replace HW := HW.up hbk)); clear hx_0 hx_1 hx_2 hx_l; have hx_0 := HX.c0; have hx_1 := HX.c1; have hx_2 := HX.c2; have hx_l := HX.lt; have hx_f0 := HX.f0; have hx_f1 := HX.f1; have hx_f2 := HX.f2) | fail)
      go_roundw
      case rel => exact ⟨i + 1, sy, by omega, by go_num, by rw [← HYE.out]; exact ⟨F2, f2, G2, g2, HX.put3 _ _ _, ⟨m1.1.put3 HX, m1.2⟩, m2.put3 HX⟩, below3 HW (by omega) _ _ _⟩
      case measure => simp [intOf]; omega
    · obtain rfl : i = k := by omega
      have hL1 : ¬ (i : Int) < (i : Int) := by omega
      have hr_0 := HR1.c0
      have hr_1 := HR1.c1
      have hr_2 := HR1.c2
      have hr_l := HR1.lt
      have hr_f0 := HR1.f0
      have hr_f1 := HR1.f1
      have hr_f2 := HR1.f2
      have hxq : x = q := HXE.out.trans HQ.out
      subst hxq
      clear CMi
      go_wp2_with fail
      refine bodyPost_ret (v := .tuple #[.agg #[.bool si, .slice F1 (dq x.num.natAbs) f1, .slice G1 (dq x.den) g1'], .bool true]) (by simp [results, Tryz.results13, go_sem, hr_0, hr_1, hr_2]) rfl ?_
      have hsi : si = s := n1.2.out.trans HS.out.symm
      subst hsi
      exact ⟨F1, f1, G1, g1', rfl, ⟨n1.1.put3 HR1, n1.2⟩, n2.put3 HR1, below3 (HB.up HW.hid) (by omega) _ _ _⟩
end
end Go.Proofs.YtfcamfkimnlfgaaGreatDoor
end

section
/- The document's own Parse. Conditions: at most 100000 letters. -/
open Go.RowKit
set_option maxRecDepth 100000
namespace Go.Proofs.YtfcamfkimnlfgaaGreatDoor
def RefParse (w : World) (l : List UInt8) (e : Ending) (w' : World) : Prop :=
  if l.all isDig = true then ∃ A c, e = .returned (.tuple #[.slice A (dq (numL l)) c, .bool (!l.isEmpty)]) ∧ Hid (RN w' w'.heap.size A c (numL l)) ∧ Hid (Below w.heap.size w w')
  else e = .returned (.tuple #[.slice none 0 0, .bool false]) ∧ w = w'
theorem chunk_snoc {s : ByteArray} {i f : Nat} (h : i < s.size) (hf : f ≤ i) : (s.data.toList.take (i + 1)).drop f = (s.data.toList.take i).drop f ++ [s[i]] := by
  rw [take_snoc h, List.drop_append_of_le_length]
  rw [List.length_take, ← size_list]; omega
theorem chunk_lt {l : List UInt8} {i f : Nat} (h : l.all isDig = true) (hi : i - f ≤ 4) : numL ((l.take i).drop f) ≤ 9999 := by
  have h1 := numL_lt ((l.take i).drop f) (by rw [List.all_eq_true]; exact fun c hc => List.all_eq_true.1 h c (List.mem_of_mem_take (List.mem_of_mem_drop hc)))
  have h2 : 10 ^ ((l.take i).drop f).length ≤ 10 ^ 4 := Nat.pow_le_pow_right (by omega) (by rw [List.length_drop, List.length_take]; omega)
  omega
theorem good4_snoc {l : List Nat} {x : Nat} (h : Good4 l) (hx : x < D4) : Good4 (l ++ [x]) := by
  intro y hy
  rcases List.mem_append.1 hy with hy | hy
  · exact h y hy
  · simp at hy; subst hy; exact hx
set_option maxHeartbeats 4000000 in
theorem rParse_yes (s : ByteArray) (w : World) (hs : s.size ≤ 100000) (hall : s.data.toList.all isDig = true) :
    Calls Tryz.prog 80 #[.string s] w (RefParse w s.data.toList) := by
  have HA := hide hall
  obtain ⟨i0, hi0, hz0, hz1, hz2⟩ := info_parts Tryz.infoInt
  have I0 := hide hi0
  have Z0 := hide hz0
  have Z1 := hide hz1
  have Z2 := hide hz2
  clear hi0 hz0 hz1 hz2 hall
  go_enter Tryz.func80, Tryz.ntmps80
  go_wp2
  go_loop [5] (fun iv => ∃ k : Nat, k ≤ s.size ∧ iv = .int .i64 (k : Int)) (fun iv => s.size - (intOf iv).toNat)
  case atStart => exact ⟨0, Nat.zero_le _, rfl⟩
  case round =>
    obtain ⟨k, hk, rfl⟩ := hrel
    by_cases hlt : k < s.size
    · obtain ⟨hd1, hd2⟩ := (dig_iff s[k]).1 (List.all_eq_true.1 HA.out _ (List.getElem_mem (l := s.data.toList) hlt))
      go_wp2
      go_round
      case rel => exact ⟨k + 1, by omega, by go_num⟩
      case measure => simp [intOf]; omega
    · go_wp2_with fail
      go_loopw [4, 6] (fun dv ev wr => ∃ (rem : Nat) (z : Int) (dd : List Nat), rem ≤ s.size ∧ ev = .int .i64 z ∧ (0 < rem → z = rem) ∧ (rem = 0 → z ≤ 0) ∧ -4 ≤ z ∧ dd.length + rem ≤ s.size + 4 ∧ Hid (Good4 dd) ∧ Hid (val D4 dd + D4 ^ dd.length * numL (s.data.toList.take rem) = numL s.data.toList) ∧
          Hid (wr.ownsRow w.heap.size 3 1 dv dd.length (dd.map I64)) ∧ Hid (Below w.heap.size w wr))
        (fun _ ev _ => (intOf ev).toNat)
      case atStart => exact ⟨s.size, (s.size : Int), [], Nat.le_refl _, rfl, fun _ => rfl, fun h => by omega, by omega, by simp, by intro x hx; simp at hx, by unfold Hid; rw [size_list, List.take_length]; simp [val], World.ownsRow_nil _ _ _ _, Below.refl _ _⟩
      case round =>
        obtain ⟨rem, z, dd, hrs, rfl, hz1, hz2, hz3, hlen, hdg, hval, hown, hbel⟩ := hrel
        by_cases h0 : rem = 0
        · have hz0 := hz2 h0
          have HV : Hid (val D4 dd = numL s.data.toList) := by
            have h1 := hval.out
            rw [h0, List.take_zero] at h1
            simpa [Hid, numL] using h1
          obtain ⟨A2, c2, he, hc, hr⟩ := row_rd hown.out
          cases he
          have HR := hide hr
          have hdl2 : dd.length ≤ 300000 := by omega
          clear hz1 hz2 h0
          go_wp2_with (first | (go_at_call 136; go_must (refine (rtrim_post rfl HV.out HR.out hdg.out (by omega) hc).mono ?_); rintro e w2 ⟨rfl, rfl⟩))
          go_ret2
          unfold RefParse
          rw [if_pos HA.out]
          refine ⟨A2, c2, ?_, rn_of rfl HV.out HR.out hdg.out hc, hbel⟩
          rw [← Lib.toList_data]; rfl
        · have hrp : 0 < rem := by omega
          have hzr := hz1 hrp
          subst hzr
          have hf : ∃ f, (f + 4 = rem ∨ (f = 0 ∧ rem < 4)) := by
            rcases Nat.lt_or_ge rem 4 with h | h
            · exact ⟨0, .inr ⟨rfl, h⟩⟩
            · exact ⟨rem - 4, .inl (by omega)⟩
          obtain ⟨f, hf⟩ := hf
          have HF := hide hf
          have hfr : f < rem := by omega
          have HNV : Hid (∀ v, v = numL ((s.data.toList.take rem).drop f) → val D4 (dd ++ [v]) + D4 ^ (dd ++ [v]).length * numL (s.data.toList.take f) = numL s.data.toList) := fun v hv => by
            have h1 := numL_append ((s.data.toList.take rem).take f) ((s.data.toList.take rem).drop f)
            rw [List.take_append_drop, ← hv, List.take_take, Nat.min_eq_left (by omega)] at h1
            have h2 := hval.out
            rw [h1] at h2
            rw [val_snoc, List.length_append, List.length_singleton, Nat.pow_succ, ← h2]
            have h3 : numL (s.data.toList.take f) * 10 ^ ((s.data.toList.take rem).drop f).length = D4 * numL (s.data.toList.take f) := by
              rcases HF.out with h | ⟨h, _⟩
              · have : ((s.data.toList.take rem).drop f).length = 4 := by rw [List.length_drop, List.length_take, ← size_list]; omega
                rw [this, Nat.mul_comm]; rfl
              · rw [h, List.take_zero]; simp [numL]
            rw [h3]
            generalize D4 ^ dd.length = P
            rw [Nat.mul_add, Nat.mul_assoc]; omega
          have HB : Hid (∀ (W : World) (u : Value), Below w.heap.size w W → w.heap.size ≤ (W.alloc (.cells #[u] 3)).heap.size) := fun W u hb => by have := hb.size; simp; omega
          have H63 : Hid (dd.length + 1 ≤ maxLen) := by simp only [maxLen, Hid]; omega
          have hdl2 : dd.length ≤ 300000 := by omega
          clear h0 hz1 hz2
          rcases hf with hfa | ⟨rfl, hfa⟩
          · subst hfa
            go_wp2_with fail
            go_loopw [7, 9] (fun nv iv wr2 => ∃ i v : Nat, f ≤ i ∧ i ≤ f + 4 ∧ nv = .int .i64 (v : Int) ∧ iv = .int .i64 (i : Int) ∧ v ≤ 9999 ∧ Hid (v = numL ((s.data.toList.take i).drop f)) ∧ wr2 = wr)
              (fun _ iv _ => f + 4 - (intOf iv).toNat)
            case atStart => exact ⟨f, 0, Nat.le_refl _, by omega, rfl, by first | rfl | go_num, by omega, by unfold Hid; rw [List.drop_of_length_le (by rw [List.length_take]; omega)]; rfl, rfl⟩
            case round =>
              obtain ⟨i, v, hfi, hie, rfl, rfl, hv9, hv, rfl⟩ := hrel
              by_cases hlt2 : i < f + 4
              · have his : i < s.size := by omega
                have hdi := List.all_eq_true.1 HA.out _ (List.getElem_mem (l := s.data.toList) his)
                obtain ⟨hd1, hd2⟩ := (dig_iff s[i]).1 hdi
                have HSN : Hid (numL ((s.data.toList.take (i + 1)).drop f) = v * 10 + (s[i].toNat - 48)) := by
                  unfold Hid
                  rw [chunk_snoc his hfi, numL_snoc, ← hv.out]
                have H99 : Hid (v * 10 + (s[i].toNat - 48) ≤ 9999) := by
                  unfold Hid
                  rw [← HSN.out]
                  exact chunk_lt HA.out (by omega)
                clear hdi
                go_wp2
                go_roundw
                case rel => exact ⟨i + 1, v * 10 + (s[i].toNat - 48), by omega, by omega, congrArg (Value.int .i64) (show _ = (((v * 10 + (s[i].toNat - 48) : Nat)) : Int) by omega), by go_num, H99.out, HSN.out.symm, by first | rfl | trivial⟩
                case measure => simp [intOf]; omega
              · obtain rfl : i = f + 4 := by omega
                have HN := hide (HNV.out v hv.out)
                have HB2 := hide (HB.out wr (.int .i64 (v : Int)) hbel.out)
                go_wp2_with (first | (at_builtin; go_must (refine wpList_append_own _ rfl (.tmp 50) (.tmp 52) 32 rfl w.heap.size 3 i0 (.int .i64 0) 1 8 Tryz.underlying32 I0.out Z0.out Z1.out Z2.out rfl (by decide) _ _ _ rfl (hown.out.alloc _) ⟨wr.heap.size, 0, none⟩ 1 1 [.int .i64 (v : Int)] rfl rfl (cell_one_new _ _ _) (by intro u hu; simp at hu; subst hu; rfl) H63.out (by omega) HB2.out ?_; intro v2 w3 hown' hgrow hnil)))
                go_roundw
                case rel =>
                  refine ⟨f, _, dd ++ [v], by omega, rfl, by omega, by omega, by omega, by rw [List.length_append, List.length_singleton]; omega, ?_, HN, ?_, app_below hown.out hbel.out (Nat.le_refl _) hgrow⟩
                  · exact good4_snoc hdg.out (by rw [D4_eq]; omega)
                  · unfold Hid; rw [List.length_append, List.map_append]; exact hown'
                case measure => simp [intOf]; omega
          · have hrem := hfa
            go_wp2_with fail
            go_loopw [7, 9] (fun nv iv wr2 => ∃ i v : Nat, 0 ≤ i ∧ i ≤ rem ∧ nv = .int .i64 (v : Int) ∧ iv = .int .i64 (i : Int) ∧ v ≤ 9999 ∧ Hid (v = numL ((s.data.toList.take i).drop 0)) ∧ wr2 = wr)
              (fun _ iv _ => rem - (intOf iv).toNat)
            case atStart => exact ⟨0, 0, Nat.le_refl _, by omega, rfl, by first | rfl | go_num, by omega, by unfold Hid; rw [List.drop_of_length_le (by rw [List.length_take]; omega)]; rfl, rfl⟩
            case round =>
              obtain ⟨i, v, hfi, hie, rfl, rfl, hv9, hv, rfl⟩ := hrel
              by_cases hlt2 : i < rem
              · have his : i < s.size := by omega
                have hdi := List.all_eq_true.1 HA.out _ (List.getElem_mem (l := s.data.toList) his)
                obtain ⟨hd1, hd2⟩ := (dig_iff s[i]).1 hdi
                have HSN : Hid (numL ((s.data.toList.take (i + 1)).drop 0) = v * 10 + (s[i].toNat - 48)) := by
                  unfold Hid
                  rw [chunk_snoc his hfi, numL_snoc, ← hv.out]
                have H99 : Hid (v * 10 + (s[i].toNat - 48) ≤ 9999) := by
                  unfold Hid
                  rw [← HSN.out]
                  exact chunk_lt HA.out (by omega)
                clear hdi
                go_wp2
                go_roundw
                case rel => exact ⟨i + 1, v * 10 + (s[i].toNat - 48), by omega, by omega, congrArg (Value.int .i64) (show _ = (((v * 10 + (s[i].toNat - 48) : Nat)) : Int) by omega), by go_num, H99.out, HSN.out.symm, by first | rfl | trivial⟩
                case measure => simp [intOf]; omega
              · obtain rfl : i = rem := by omega
                have HN := hide (HNV.out v hv.out)
                have HB2 := hide (HB.out wr (.int .i64 (v : Int)) hbel.out)
                go_wp2_with (first | (at_builtin; go_must (refine wpList_append_own _ rfl (.tmp 50) (.tmp 52) 32 rfl w.heap.size 3 i0 (.int .i64 0) 1 8 Tryz.underlying32 I0.out Z0.out Z1.out Z2.out rfl (by decide) _ _ _ rfl (hown.out.alloc _) ⟨wr.heap.size, 0, none⟩ 1 1 [.int .i64 (v : Int)] rfl rfl (cell_one_new _ _ _) (by intro u hu; simp at hu; subst hu; rfl) H63.out (by omega) HB2.out ?_; intro v2 w3 hown' hgrow hnil)))
                go_roundw
                case rel =>
                  refine ⟨0, _, dd ++ [v], by omega, rfl, by omega, by omega, by omega, by rw [List.length_append, List.length_singleton]; omega, ?_, HN, ?_, app_below hown.out hbel.out (Nat.le_refl _) hgrow⟩
                  · exact good4_snoc hdg.out (by rw [D4_eq]; omega)
                  · unfold Hid; rw [List.length_append, List.map_append]; exact hown'
                case measure => simp [intOf]; omega
set_option maxHeartbeats 1000000 in
theorem rParse_no (s : ByteArray) (w : World) (hs : s.size ≤ 100000) (hno : ¬ s.data.toList.all isDig = true) :
    Calls Tryz.prog 80 #[.string s] w (RefParse w s.data.toList) := by
  have HA := hide hno
  clear hno
  go_enter Tryz.func80, Tryz.ntmps80
  go_wp2
  go_loop [5] (fun iv => ∃ k : Nat, k ≤ s.size ∧ iv = .int .i64 (k : Int) ∧ Hid ((s.data.toList.take k).all isDig = true)) (fun iv => s.size - (intOf iv).toNat)
  case atStart => exact ⟨0, Nat.zero_le _, rfl, rfl⟩
  case round =>
    obtain ⟨k, hk, rfl, hall⟩ := hrel
    by_cases hlt : k < s.size
    · have HT := hide (take_snoc hlt)
      by_cases hd : isDig s[k] = true
      · obtain ⟨hd1, hd2⟩ := (dig_iff _).1 hd
        have HD := hide hd
        clear hd
        go_wp2
        go_round
        case rel => exact ⟨k + 1, by omega, by go_num, by unfold Hid; rw [HT.out, List.all_append, hall.out]; simp [HD.out]⟩
        case measure => simp [intOf]; omega
      · have hd' : ¬ (48 ≤ (s[k].toNat : Int) ∧ (s[k].toNat : Int) ≤ 57) := fun h => hd ((dig_iff _).2 h)
        clear hd
        by_cases h48 : 48 ≤ (s[k].toNat : Int)
        · have h57 : ¬ (s[k].toNat : Int) ≤ 57 := fun h => hd' ⟨h48, h⟩
          clear hd'
          go_wp2
          go_ret2
          unfold RefParse
          rw [if_neg HA.out]
          exact ⟨rfl, rfl⟩
        · clear hd'
          go_wp2
          go_ret2
          unfold RefParse
          rw [if_neg HA.out]
          exact ⟨rfl, rfl⟩
    · exact absurd (by have h := hall.out; rwa [List.take_of_length_le (by rw [← size_list]; omega)] at h) HA.out
theorem rParse_any (s : ByteArray) (w : World) (hs : s.size ≤ 100000) : Calls Tryz.prog 80 #[.string s] w (RefParse w s.data.toList) := by
  by_cases h : s.data.toList.all isDig = true
  · exact rParse_yes s w hs h
  · exact rParse_no s w hs h
end Go.Proofs.YtfcamfkimnlfgaaGreatDoor
end

section
/- The document's own integers: ZParse. Conditions: texts of at most 99999 letters. -/
open Go.RowKit
set_option maxRecDepth 100000
namespace Go.Proofs.YtfcamfkimnlfgaaGreatDoor
def RzY (W : World) (v : Int) (e : Ending) (w' : World) : Prop := ∃ A c, e = .returned (.tuple #[.agg #[.bool (decide (v < 0)), .slice A (dq v.natAbs) c], .bool true]) ∧ Rz w' (decide (v < 0)) A c v ∧ Hid (Below W.heap.size W w')
def RzN (W : World) (e : Ending) (w' : World) : Prop := e = .returned (.tuple #[.agg #[.bool false, .slice none 0 0], .bool false]) ∧ Hid (Below W.heap.size W w')
def RpY (w : World) (v : Nat) (e : Ending) (w' : World) : Prop := ∃ A c, e = .returned (.tuple #[.slice A (dq v) c, .bool true]) ∧ Rn w' A c v ∧ Hid (Below w.heap.size w w')
def RpN (w : World) (e : Ending) (w' : World) : Prop := ∃ A n c, e = .returned (.tuple #[.slice A n c, .bool false]) ∧ Hid (Below w.heap.size w w')
theorem rp_yes (s : ByteArray) (w : World) (hs : s.size ≤ 100000) (h : digB s.data.toList = true) : Calls Tryz.prog 80 #[.string s] w (RpY w (numL s.data.toList)) :=
  (rParse_any s w hs).mono fun e w' h1 => by
    unfold digB at h
    rw [Bool.and_eq_true] at h
    unfold RefParse at h1
    rw [if_pos h.2, h.1] at h1
    obtain ⟨A, c, e1, e2, e3⟩ := h1
    exact ⟨A, c, e1, e2, e3⟩
theorem rp_no (s : ByteArray) (w : World) (hs : s.size ≤ 100000) (h : ¬ digB s.data.toList = true) : Calls Tryz.prog 80 #[.string s] w (RpN w) :=
  (rParse_any s w hs).mono fun e w' h1 => by
    unfold digB at h
    unfold RefParse at h1
    by_cases ha : s.data.toList.all isDig = true
    · rw [if_pos ha] at h1
      have hb : (!s.data.toList.isEmpty) = false := by
        rw [Bool.and_eq_true] at h
        cases hx : (!s.data.toList.isEmpty) with
        | false => rfl
        | true => exact absurd ⟨hx, ha⟩ h
      rw [hb] at h1
      obtain ⟨A, c, e1, e2, e3⟩ := h1
      exact ⟨A, _, c, e1, e3⟩
    · rw [if_neg ha] at h1
      obtain ⟨e1, e2⟩ := h1
      subst e2
      exact ⟨none, 0, 0, e1, Below.refl _ _⟩
section
variable {W : World} {s : ByteArray} {l : List UInt8}
theorem first_is {s : ByteArray} {c : UInt8} {l : List UInt8} (h : s.data.toList = c :: l) (h0 : 0 < s.size) : s[0] = c ∧ (s.extract 1 s.size).data.toList = l := by
  refine ⟨?_, ?_⟩
  · have h1 : s.data.toList[0]? = some s[0] := by
      rw [List.getElem?_eq_getElem (show 0 < s.data.toList.length from h0)]; rfl
    rw [h] at h1
    exact (Option.some.inj h1).symm
  · rw [extract_list, List.take_of_length_le (show s.data.toList.length ≤ s.size from Nat.le_refl _), h]; rfl
set_option maxHeartbeats 2000000 in
/-- A text of a minus and digits. -/
theorem rzparse_minus (v : Int) (hs : s.size ≤ 99999) (h : s.data.toList = 45 :: l) (hd : digB l = true) (hv : -(numL l : Int) = v) : Calls Tryz.prog 79 #[.string s] W (RzY W v) := by
  have h0 : 0 < s.size := by rw [size_list, h]; simp
  obtain ⟨f1, f2⟩ := first_is h h0
  have fl : l.length ≤ 99999 := by have := congrArg List.length h; rw [← size_list, List.length_cons] at this; omega
  have CP : Hid (∀ (W' : World) (t : ByteArray), t = s.extract 1 s.size → Calls Tryz.prog 80 #[.string t] W' (RpY W' v.natAbs)) := fun W' t ht => by
    have h1 := rp_yes t W' (by rw [ht, size_list, f2]; omega) (by rw [ht, f2]; exact hd)
    rw [ht, f2] at h1
    rw [ht, show v.natAbs = numL l by omega]
    exact h1
  have CZ : Hid (∀ W' B e, Rn W' B e v.natAbs → Calls Tryz.prog 73 #[.bool true, .slice B (dq v.natAbs) e] W' (RZb W' (decide (v < 0)) B (dq v.natAbs) e v.natAbs)) := fun W' B e hn => rzof_h hn (by rw [Bool.true_and]; exact decide_eq_decide.2 (by omega))
  have q1 : ((s[0].toNat : Int) == 45) = true := by rw [f1]; rfl
  have q2 : (0 : Int) < (s.size : Int) := by omega
  have q3 : (1 : Int) ≤ (s.size : Int) := by omega
  clear hs h hd hv f1 f2 fl
  have HB := Bel.refl W
  go_enter Tryz.func79, Tryz.ntmps79
  go_wp2_with (first | (go_at_call 80; (refine (CP.out _ _ (by first | rfl | simp)).mono ?_); rintro e w1 ⟨B, d, rfl, rn, hbk⟩; have HR := At.up (at_new0 _ _ _) hbk; replace HB := (HB.al _).up hbk; have hr_0 := HR.c0; have hr_1 := HR.c1; have hr_l := HR.lt; have hr_f0 := HR.f0; have hr_f1 := HR.f1) | (go_at_call 73; (with_reducible refine (CZ.out _ _ _ rn).mono ?_); rintro e w2 ⟨rfl, rn2, hbk2⟩; replace HB := HB.up hbk2; replace HR := HR.up hbk2; clear hr_0 hr_1 hr_l hr_f0 hr_f1; have hr_0 := HR.c0; have hr_1 := HR.c1; have hr_l := HR.lt; have hr_f0 := HR.f0; have hr_f1 := HR.f1) | fail)
  refine bodyPost_ret (v := .tuple #[.agg #[.bool (decide (v < 0)), .slice B (dq v.natAbs) d], .bool true]) (by simp [results, Tryz.results79, go_sem, hr_0, hr_1]) rfl ?_
  obtain ⟨_, g1, g2⟩ := rn_two HR rn2 HB (Nat.le_refl _) (decide (v < 0)) (dq v.natAbs)
  exact ⟨B, d, rfl, ⟨g1, rfl⟩, g2⟩
set_option maxHeartbeats 2000000 in
/-- A minus and no number. -/
theorem rzparse_minus_no (hs : s.size ≤ 99999) (h : s.data.toList = 45 :: l) (hd : ¬ digB l = true) : Calls Tryz.prog 79 #[.string s] W (RzN W) := by
  have h0 : 0 < s.size := by rw [size_list, h]; simp
  obtain ⟨f1, f2⟩ := first_is h h0
  have fl : l.length ≤ 99999 := by have := congrArg List.length h; rw [← size_list, List.length_cons] at this; omega
  have CP : Hid (∀ (W' : World) (t : ByteArray), t = s.extract 1 s.size → Calls Tryz.prog 80 #[.string t] W' (RpN W')) := fun W' t ht => by
    have h1 := rp_no t W' (by rw [ht, size_list, f2]; omega) (by rw [ht, f2]; exact hd)
    exact h1
  have q1 : ((s[0].toNat : Int) == 45) = true := by rw [f1]; rfl
  have q2 : (0 : Int) < (s.size : Int) := by omega
  have q3 : (1 : Int) ≤ (s.size : Int) := by omega
  clear hs h hd f1 f2 fl
  have HB := Bel.refl W
  go_enter Tryz.func79, Tryz.ntmps79
  go_wp2_with (first | (go_at_call 80; (refine (CP.out _ _ (by first | rfl | simp)).mono ?_); rintro e w1 ⟨B, k0, d, rfl, hbk⟩; have HR := At.up (at_new0 _ _ _) hbk; replace HB := (HB.al _).up hbk; have hr_0 := HR.c0; have hr_1 := HR.c1; have hr_l := HR.lt; have hr_f0 := HR.f0; have hr_f1 := HR.f1) | fail)
  refine bodyPost_ret (v := .tuple #[.agg #[.bool false, .slice none 0 0], .bool false]) (by simp [results, Tryz.results79, go_sem, hr_0, hr_1]) rfl ?_
  first | exact ⟨rfl, HB.hid⟩ | exact ⟨rfl, ((Below.setCell HB (Nat.le_refl _) _).setCell (Nat.le_refl _) _)⟩
set_option maxHeartbeats 2000000 in
/-- A text of digits. -/
theorem rzparse_plain (v : Int) (hs : s.size ≤ 99999) (hm : s.data.toList.head? ≠ some 45) (hd : digB s.data.toList = true) (hv : (numL s.data.toList : Int) = v) : Calls Tryz.prog 79 #[.string s] W (RzY W v) := by
  have CP : Hid (∀ (W' : World) (t : ByteArray), t = s → Calls Tryz.prog 80 #[.string t] W' (RpY W' v.natAbs)) := fun W' t ht => by
    subst ht
    have h1 := rp_yes t W' (by omega) hd
    rw [show v.natAbs = numL t.data.toList by omega]
    exact h1
  have CZ : Hid (∀ W' B e, Rn W' B e v.natAbs → Calls Tryz.prog 73 #[.bool false, .slice B (dq v.natAbs) e] W' (RZb W' (decide (v < 0)) B (dq v.natAbs) e v.natAbs)) := fun W' B e hn => rzof_h hn (by rw [Bool.false_and]; exact decide_eq_false (by omega))
  by_cases h0 : 0 < s.size
  · have f1 : s[0] ≠ 45 := fun e => hm (by rw [List.head?_eq_getElem?, List.getElem?_eq_getElem (show 0 < s.data.toList.length from h0)]; exact congrArg some e)
    have q1 : ((s[0].toNat : Int) == 45) = false := by
      rw [beq_eq_false_iff_ne]
      intro e
      exact f1 (UInt8.toNat_inj.1 (by simpa using (show s[0].toNat = 45 by omega)))
    have q2 : (0 : Int) < (s.size : Int) := by omega
    clear f1
    clear hs hm hd hv
    have HB := Bel.refl W
    go_enter Tryz.func79, Tryz.ntmps79
    go_wp2_with (first | (go_at_call 80; (refine (CP.out _ _ (by first | rfl | simp)).mono ?_); rintro e w1 ⟨B, d, rfl, rn, hbk⟩; have HR := At.up (at_new0 _ _ _) hbk; replace HB := (HB.al _).up hbk; have hr_0 := HR.c0; have hr_1 := HR.c1; have hr_l := HR.lt; have hr_f0 := HR.f0; have hr_f1 := HR.f1) | (go_at_call 73; (with_reducible refine (CZ.out _ _ _ rn).mono ?_); rintro e w2 ⟨rfl, rn2, hbk2⟩; replace HB := HB.up hbk2; replace HR := HR.up hbk2; clear hr_0 hr_1 hr_l hr_f0 hr_f1; have hr_0 := HR.c0; have hr_1 := HR.c1; have hr_l := HR.lt; have hr_f0 := HR.f0; have hr_f1 := HR.f1) | fail)
    refine bodyPost_ret (v := .tuple #[.agg #[.bool (decide (v < 0)), .slice B (dq v.natAbs) d], .bool true]) (by simp [results, Tryz.results79, go_sem, hr_0, hr_1]) rfl ?_
    obtain ⟨_, g1, g2⟩ := rn_two HR rn2 HB (Nat.le_refl _) (decide (v < 0)) (dq v.natAbs)
    exact ⟨B, d, rfl, ⟨g1, rfl⟩, g2⟩
  · exact absurd hd (by rw [List.eq_nil_of_length_eq_zero (show s.data.toList.length = 0 by rw [← size_list]; omega)]; decide)
set_option maxHeartbeats 2000000 in
/-- No minus and no number. -/
theorem rzparse_plain_no (hs : s.size ≤ 99999) (hm : s.data.toList.head? ≠ some 45) (hd : ¬ digB s.data.toList = true) : Calls Tryz.prog 79 #[.string s] W (RzN W) := by
  have CP : Hid (∀ (W' : World) (t : ByteArray), t = s → Calls Tryz.prog 80 #[.string t] W' (RpN W')) := fun W' t ht => by
    subst ht
    have h1 := rp_no t W' (by omega) hd
    exact h1
  by_cases h0 : 0 < s.size
  · have f1 : s[0] ≠ 45 := fun e => hm (by rw [List.head?_eq_getElem?, List.getElem?_eq_getElem (show 0 < s.data.toList.length from h0)]; exact congrArg some e)
    have q1 : ((s[0].toNat : Int) == 45) = false := by
      rw [beq_eq_false_iff_ne]
      intro e
      exact f1 (UInt8.toNat_inj.1 (by simpa using (show s[0].toNat = 45 by omega)))
    have q2 : (0 : Int) < (s.size : Int) := by omega
    clear f1
    clear hs hm hd
    have HB := Bel.refl W
    go_enter Tryz.func79, Tryz.ntmps79
    go_wp2_with (first | (go_at_call 80; (refine (CP.out _ _ (by first | rfl | simp)).mono ?_); rintro e w1 ⟨B, k0, d, rfl, hbk⟩; have HR := At.up (at_new0 _ _ _) hbk; replace HB := (HB.al _).up hbk; have hr_0 := HR.c0; have hr_1 := HR.c1; have hr_l := HR.lt; have hr_f0 := HR.f0; have hr_f1 := HR.f1) | fail)
    refine bodyPost_ret (v := .tuple #[.agg #[.bool false, .slice none 0 0], .bool false]) (by simp [results, Tryz.results79, go_sem, hr_0, hr_1]) rfl ?_
    first | exact ⟨rfl, HB.hid⟩ | exact ⟨rfl, ((Below.setCell HB (Nat.le_refl _) _).setCell (Nat.le_refl _) _)⟩
  · have q0 : s.size = 0 := by omega
    have q2 : ¬ (0 : Int) < (s.size : Int) := by omega
    clear q0
    clear hs hm hd
    have HB := Bel.refl W
    go_enter Tryz.func79, Tryz.ntmps79
    go_wp2_with (first | (go_at_call 80; (refine (CP.out _ _ (by first | rfl | simp)).mono ?_); rintro e w1 ⟨B, k0, d, rfl, hbk⟩; have HR := At.up (at_new0 _ _ _) hbk; replace HB := (HB.al _).up hbk; have hr_0 := HR.c0; have hr_1 := HR.c1; have hr_l := HR.lt; have hr_f0 := HR.f0; have hr_f1 := HR.f1) | fail)
    refine bodyPost_ret (v := .tuple #[.agg #[.bool false, .slice none 0 0], .bool false]) (by simp [results, Tryz.results79, go_sem, hr_0, hr_1]) rfl ?_
    first | exact ⟨rfl, HB.hid⟩ | exact ⟨rfl, ((Below.setCell HB (Nat.le_refl _) _).setCell (Nat.le_refl _) _)⟩
end
end Go.Proofs.YtfcamfkimnlfgaaGreatDoor
end
