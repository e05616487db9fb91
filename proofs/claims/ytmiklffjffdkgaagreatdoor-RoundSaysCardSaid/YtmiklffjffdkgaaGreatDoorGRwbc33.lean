/- Several texts in one, each with its own sentence and conditions. -/
import Derived.Test.YtmiklffjffdkgaaGreatDoorGRwbc31
import Derived.Test.YtmiklffjffdkgaaGreatDoorGRwbc30
import Derived.Test.YtmiklffjffdkgaaGreatDoorRie
section
/- The document's own fractions: QPow to a power below 0. Conditions: terms of few words. -/
open Go.RowKit
set_option maxRecDepth 100000
namespace Go.Proofs.YtmiklffjffdkgaaGreatDoor
/-- What a refused power leaves. -/
def RQno (W : World) (e : Ending) (w' : World) : Prop := ∃ t A n c A' n' c', e = .returned (.tuple #[.agg #[.bool t, .slice A n c, .slice A' n' c'], .bool false]) ∧ Hid (Below W.heap.size W w')
section
variable {W : World} {b s : Bool} {A A' : Option Addr} {c c' K : Nat} {r : Rat}
set_option maxHeartbeats 4000000 in
theorem rqpow_0 {i : Int} (h : Rz W b A c r.num) (h' : Rn W A' c' r.den) (h0 : r = 0) (hi : i < 0) :
    Calls Tryz.prog 45 #[.agg #[.bool b, .slice A (dq r.num.natAbs) c, .slice A' (dq r.den) c'], .int .i64 i] W (RQno W) := by
  obtain ⟨z, hz⟩ : ∃ z, z = r.num := ⟨_, rfl⟩
  obtain ⟨d, hd⟩ : ∃ d, d = r.den := ⟨_, rfl⟩
  rw [← hz] at h ⊢
  rw [← hd] at h' ⊢
  have hz0 : z = 0 := by rw [hz, h0]; rfl
  have CS : Hid (∀ W', Rz W' b A c z → Calls Tryz.prog 44 #[.agg #[.bool b, .slice A (dq z.natAbs) c, .slice A' (dq d) c']] W' (IntPost W' 0)) := fun W' g => rqsign_h g (by rw [hz0]; rfl)
  have CI : Hid (∀ W', Calls Tryz.prog 22 #[.int .i64 0] W' (RQk W' false 0 1)) := fun W' => rqint_h (by decide) (by decide) rfl
  have g1 : decide (i < 0) = true := decide_eq_true hi
  clear hz hd h0 hz0 h'
  have HB := Bel.refl W
  go_enter Tryz.func45, Tryz.ntmps45
  go_wp2_with (first | (go_at_call 44; (with_reducible refine (CS.out _ ((h.al _).al _)).mono ?_); rintro e w1 ⟨rfl, hbk⟩; (with_reducible (have HR : At w1 (W.heap.size + 1) [.bool false, .slice none 0 0, .slice none 0 0] := At.up (at_new1 _ _ _ _) hbk; replace HB := ((HB.al _).al _).up hbk))) | (go_at_call 22; (with_reducible refine (CI.out _).mono ?_); rintro e w2 ⟨F, f, G, g, rfl, m1, m2, hbk⟩; (with_reducible (replace HR := HR.up hbk; replace HB := HB.up hbk)); have hr_0 := HR.c0; have hr_1 := HR.c1; have hr_2 := HR.c2; have hr_l := HR.lt; have hr_f0 := HR.f0; have hr_f1 := HR.f1; have hr_f2 := HR.f2) | fail)
  refine bodyPost_ret (v := .tuple #[.agg #[.bool false, .slice F (dq 0) f, .slice G (dq 1) g], .bool false]) (by simp [results, Tryz.results45, go_sem, hr_0, hr_1, hr_2]) rfl ?_
  exact ⟨_, _, _, _, _, _, _, rfl, below3 HB (by omega) _ _ _⟩
set_option maxHeartbeats 8000000 in
theorem rqpow_n {k : Nat} (hk0 : 0 < k) (h0 : r ≠ 0) (hb : Bd r⁻¹ K) (hK0 : 0 < K) (hK : K * k + K + 1 ≤ 1000) (h : Rz W b A c r.num) (h' : Rn W A' c' r.den) {q : Rat} (hq : r⁻¹ ^ k = q) (hs : s = decide (q.num < 0)) :
    Calls Tryz.prog 45 #[.agg #[.bool b, .slice A (dq r.num.natAbs) c, .slice A' (dq r.den) c'], .int .i64 (-(k : Int))] W (RQt W s q.num q.den) := by
  obtain ⟨ri, hri⟩ : ∃ x : Rat, r⁻¹ = x := ⟨_, rfl⟩
  obtain ⟨sb, hsb⟩ : ∃ u, u = decide (ri.num < 0) := ⟨_, rfl⟩
  obtain ⟨z, hz⟩ : ∃ z, z = r.num := ⟨_, rfl⟩
  obtain ⟨d, hd⟩ : ∃ d, d = r.den := ⟨_, rfl⟩
  have CV : Hid (∀ W', Rz W' b A c z → Rn W' A' c' d → Calls Tryz.prog 48 #[.agg #[.bool b, .slice A (dq z.natAbs) c, .slice A' (dq d) c']] W' (RQm W' sb ri.num ri.den)) := fun W' g g' => by
    rw [hz] at g ⊢
    rw [hd] at g' ⊢
    rw [← hri]
    exact rqinv_c g g' h0 (by rw [hri]; exact hsb)
  obtain ⟨sv, hsv⟩ : ∃ v, v = z.sign := ⟨_, rfl⟩
  have CS : Hid (∀ W', Rz W' b A c z → Calls Tryz.prog 44 #[.agg #[.bool b, .slice A (dq z.natAbs) c, .slice A' (dq d) c']] W' (IntPost W' sv)) := fun W' g => rqsign_h g hsv.symm
  have hsv0 : (sv == 0) = false := by
    cases e : (sv == 0) with
    | false => rfl
    | true =>
      have e2 : sv = 0 := by simpa using e
      rw [hsv, Int.sign_eq_zero_iff_zero, hz] at e2
      exact absurd (Rat.num_eq_zero.1 e2) h0
  rw [hri] at hb hq
  rw [← hz] at h ⊢
  rw [← hd] at h' ⊢
  clear hri hz hd hsv hsb h0
  obtain ⟨y0, hy0⟩ : ∃ y, y = ri ^ 0 := ⟨_, rfl⟩
  obtain ⟨s0, hs0⟩ : ∃ u, u = decide (y0.num < 0) := ⟨_, rfl⟩
  have CI : Hid (∀ W', Calls Tryz.prog 22 #[.int .i64 1] W' (RQm W' s0 y0.num y0.den)) := fun W' => by
    have h0 : y0 = 1 := by rw [hy0, Rat.pow_zero]
    rw [hs0, h0]
    exact (rqint_h (W := W') (z := 1) (sg := decide ((1 : Rat).num < 0)) (by decide) (by decide) rfl).mono fun _ _ ⟨A, c, A', c', he, n1, n2, hb⟩ => ⟨A, c, A', c', he, ⟨n1, rfl⟩, n2, hb⟩
  have CM : Hid (∀ i, i < k → ∀ W' si F f G g V v U u, Rz W' si F f (ri ^ i).num → Rn W' G g (ri ^ i).den → Rz W' sb V v ri.num → Rn W' U u ri.den → Calls Tryz.prog 47 #[.agg #[.bool si, .slice F (dq (ri ^ i).num.natAbs) f, .slice G (dq (ri ^ i).den) g], .agg #[.bool sb, .slice V (dq ri.num.natAbs) v, .slice U (dq ri.den) u]] W' (RQm W' (decide ((ri ^ (i + 1)).num < 0)) (ri ^ (i + 1)).num (ri ^ (i + 1)).den)) := fun i hi W' si F f G g V v U u g1 g2 g3 g4 => by
    have h1 : K * i ≤ K * k := Nat.mul_le_mul_left K (Nat.le_of_lt hi)
    rw [Rat.pow_succ]
    exact rqmul_c (K := K * k + K + 1) ((bd_rpow hb i).more (by omega)) (hb.more (by omega)) hK g1 g2 g3 g4
  have hk : (k : Int) ≤ 1000 := by
    have : 1 * k ≤ K * k := Nat.mul_le_mul_right k hK0
    omega
  have g1 : decide (-(k : Int) < 0) = true := decide_eq_true (by omega)
  have gneg : -(k : Int) < 0 := by omega
  have HS := hide hs
  have HY := hide hy0
  have HQ := hide hq
  clear hb hK hs hK0 hy0 hs0 hq
  have HB := Bel.refl W
  go_enter Tryz.func45, Tryz.ntmps45
  go_wp2_with (first | (go_at_call 44; (with_reducible refine (CS.out _ ((h.al _).al _)).mono ?_); rintro e w0 ⟨rfl, hbk⟩; (with_reducible (have HP : At w0 W.heap.size [.bool b, .slice A (dq z.natAbs) c, .slice A' (dq d) c'] := At.up ((at_new0 _ _ _).al _) hbk; have HR : At w0 (W.heap.size + 1) [.bool false, .slice none 0 0, .slice none 0 0] := At.up (at_new1 _ _ _ _) hbk; replace HB := ((HB.al _).al _).up hbk; replace h := ((h.al _).al _).up hbk; replace h' := ((h'.al _).al _).up hbk)); have hp_0 := HP.c0; have hp_1 := HP.c1; have hp_2 := HP.c2; have hp_l := HP.lt) | (go_at_call 48; (with_reducible refine (CV.out _ h h').mono ?_); rintro e wi ⟨V, v, U, u, rfl, a1, a2, hbk⟩; (with_reducible (replace HP := HP.up hbk; replace HR := HR.up hbk; replace HB := HB.up hbk)); clear hp_0 hp_1 hp_2 hp_l; have hp_0 := HP.c0; have hp_1 := HP.c1; have hp_2 := HP.c2; have hp_l := HP.lt; have hp_f0 := HP.f0; have hp_f1 := HP.f1; have hp_f2 := HP.f2) | (go_at_call 22; (with_reducible refine (CI.out _).mono ?_); rintro e w1 ⟨F, f, G, g, rfl, m1, m2, hbk⟩; have HP9 : At w1 W.heap.size [.bool sb, .slice V (dq ri.num.natAbs) v, .slice U (dq ri.den) u] := At.up (HP.put3 _ _ _) hbk; have HR9 : At w1 (W.heap.size + 1) [.bool false, .slice none 0 0, .slice none 0 0] := At.up (HR.far3 (by omega) _ _ _) hbk; have HB9 : Bel W w1 := Bel.up (Bel.of (below3 HB (Nat.le_refl _) _ _ _)) hbk; have a19 : Rz w1 sb V v ri.num := Rz.up ⟨a1.1.put3 HP, a1.2⟩ hbk; have a29 : Rn w1 U u ri.den := Rn.up (a2.put3 HP) hbk) | fail)
  clear hp_0 hp_1 hp_2 hp_l hp_f0 hp_f1 hp_f2 HP HR HB a1 a2 h h'
  have HP := HP9
  have HR := HR9
  have HB := HB9
  have h := a19
  have h' := a29
  clear HP9 HR9 HB9 a19 a29
  obtain ⟨W3, hW3⟩ : ∃ X, X = w1.alloc (.cells #[.bool s0, .slice F (dq y0.num.natAbs) f, .slice G (dq y0.den) g] 38) := ⟨_, rfl⟩
  rw [← hW3]
  obtain ⟨p, hp⟩ : ∃ p, p = w1.heap.size := ⟨_, rfl⟩
  rw [← hp]
  have HX3 : BoxQ W3 p s0 (ri ^ 0) := by
    rw [← HY.out]
    exact ⟨F, f, G, g, by rw [hW3, hp]; exact at_new0 _ _ _, by rw [hW3]; exact m1.al _, by rw [hW3]; exact m2.al _⟩
  have HB3 : Bel w1 W3 := by rw [hW3]; exact (Bel.refl w1).al _
  have hpl : W.heap.size + 1 < p := by rw [hp]; exact HR.lt
  have hpw : w1.heap.size ≤ p := by omega
  clear hW3 m1 m2 hp
  go_loopw [7] (fun iv wr => ∃ (i : Nat) (si : Bool), i ≤ k ∧ iv = .int .i64 (i : Int) ∧ BoxQ wr p si (ri ^ i) ∧ Hid (Bel w1 wr)) (fun iv _ => k - (intOf iv).toNat)
  case atStart => exact ⟨0, s0, Nat.zero_le _, rfl, HX3, HB3⟩
  case round =>
    obtain ⟨i, si, hi, rfl, HXB, HW0⟩ := hrel
    obtain ⟨x, hx⟩ : ∃ x, x = ri ^ i := ⟨_, rfl⟩
    obtain ⟨y, hy⟩ : ∃ y, y = ri ^ (i + 1) := ⟨_, rfl⟩
    obtain ⟨sy, hsy⟩ : ∃ u, u = decide (y.num < 0) := ⟨_, rfl⟩
    have CMi := CM.out i
    rw [← hx, ← hy, ← hsy] at CMi
    rw [← hx] at HXB
    have HXE := hide hx
    have HYE := hide hy
    clear hx hy hsy
    obtain ⟨F1, f1, G1, g1', HX, n1, n2⟩ := HXB
    have HW : Bel w1 wr := HW0
    have HP1 := At.up HP HW.hid
    have HR1 := At.up HR HW.hid
    have a1 := h.up HW.hid
    have a2 := h'.up HW.hid
    have hp_0 := HP1.c0
    have hp_1 := HP1.c1
    have hp_2 := HP1.c2
    have hp_l := HP1.lt
    have hx_0 := HX.c0
    have hx_1 := HX.c1
    have hx_2 := HX.c2
    have hx_l := HX.lt
    have zs := Below.size HW
    by_cases hlt : i < k
    · have hL1 : (i : Int) < (k : Int) := by omega
      have CMj := CMi hlt
      clear CMi
      go_wp2_with (first | (go_at_call 47; (with_reducible refine (CMj _ _ _ _ _ _ _ _ _ _ n1 n2 a1 a2).mono ?_); rintro e w2 ⟨F2, f2, G2, g2, rfl, m1, m2, hbk⟩; (with_reducible (replace HX := HX.up hbk; replace HW := HW.up hbk)); clear hx_0 hx_1 hx_2 hx_l; have hx_0 := HX.c0; have hx_1 := HX.c1; have hx_2 := HX.c2; have hx_l := HX.lt; have hx_f0 := HX.f0; have hx_f1 := HX.f1; have hx_f2 := HX.f2) | fail)
      go_roundw
      case rel => exact ⟨i + 1, sy, by omega, by go_num, by rw [← HYE.out]; exact ⟨F2, f2, G2, g2, HX.put3 _ _ _, ⟨m1.1.put3 HX, m1.2⟩, m2.put3 HX⟩, below3 HW (by omega) _ _ _⟩
      case measure => simp [intOf]; omega
    · obtain rfl : i = k := by omega
      have hL1 : ¬ (i : Int) < (i : Int) := by omega
      have hr_0 := HR1.c0
      have hr_1 := HR1.c1
      have hr_2 := HR1.c2
      have hr_l := HR1.lt
      have hr_f0 := HR1.f0
      have hr_f1 := HR1.f1
      have hr_f2 := HR1.f2
      have hxq : x = q := HXE.out.trans HQ.out
      subst hxq
      clear CMi
      go_wp2_with fail
      refine bodyPost_ret (v := .tuple #[.agg #[.bool si, .slice F1 (dq x.num.natAbs) f1, .slice G1 (dq x.den) g1'], .bool true]) (by simp [results, Tryz.results45, go_sem, hr_0, hr_1, hr_2]) rfl ?_
      have hsi : si = s := n1.2.out.trans HS.out.symm
      subst hsi
      exact ⟨F1, f1, G1, g1', rfl, ⟨n1.1.put3 HR1, n1.2⟩, n2.put3 HR1, below3 (HB.up HW.hid) (by omega) _ _ _⟩
end
end Go.Proofs.YtmiklffjffdkgaaGreatDoor
end

section
/- RoundNear in numbers. No conditions. -/
open Go.RowKit
set_option maxRecDepth 100000
namespace Go.Proofs.YtmiklffjffdkgaaGreatDoor
theorem cmpR_lt {a b : Rat} (h : a < b) : cmpR a b = -1 := by unfold cmpR; rw [if_pos h]
theorem cmpR_self (a : Rat) : cmpR a a = 0 := by unfold cmpR; rw [if_neg Rat.lt_irrefl, if_neg Rat.lt_irrefl]
theorem cmpR_le {a b : Rat} (h : ¬ b < a) : cmpR a b ≤ 0 := by
  unfold cmpR
  split
  · decide
  · simp [h]
theorem zi_sign (t : Int) : zi (decide (t < 0)) t.natAbs = t := (zi_dec t).symm
theorem rd_abs {m p : Int} {q : Nat} : (rdZ m p q).natAbs ≤ p.natAbs + 1 := by
  have h1 := nabs_div_le p q
  unfold rdZ
  split
  · simp
  · split
    · omega
    · split <;> omega
/-- What stands off: a over the denominator and the power of ten, a less than the denominator. -/
theorem off_mk {r : Rat} {P : Nat} {t : Int} (hP : 0 < P) : mkRat t P + -r = mkRat (t * ((r * mkRat (P : Int) 1).den : Int) - (r * mkRat (P : Int) 1).num) (P * (r * mkRat (P : Int) 1).den) := by
  obtain ⟨X, hX⟩ : ∃ X, X = r * mkRat (P : Int) 1 := ⟨_, rfl⟩
  rw [← hX]
  have hP' : (P : Int) ≠ 0 := by omega
  have hr : r = mkRat X.num (X.den * P) := by
    have h1 : mkRat (P : Int) 1 * mkRat 1 P = 1 := by
      rw [mul_mk, Int.mul_one, Nat.one_mul]
      have := Rat.mkRat_mul_right (n := 1) (d := 1) (a := P) (by omega)
      rw [Int.one_mul, Nat.one_mul] at this
      rw [this]; rfl
    calc r = r * (mkRat (P : Int) 1 * mkRat 1 P) := by rw [h1, Rat.mul_one]
      _ = X * mkRat 1 P := by rw [← Rat.mul_assoc, ← hX]
      _ = mkRat X.num X.den * mkRat 1 P := by rw [Rat.mkRat_self]
      _ = mkRat X.num (X.den * P) := by rw [mul_mk, Int.mul_one]
  have hd : 0 < X.den := X.den_pos
  conv => lhs; rw [hr, neg_mk, add_mk hP (Nat.mul_pos hd hP)]
  have e1 : t * ((X.den * P : Nat) : Int) + -X.num * (P : Int) = (t * (X.den : Int) - X.num) * (P : Int) := by
    rw [Int.natCast_mul, Int.sub_mul, Int.neg_mul, Int.mul_assoc]; rfl
  have e2 : P * (X.den * P) = P * X.den * P := by rw [Nat.mul_assoc]
  rw [e1, e2]
  exact Rat.mkRat_mul_right (by omega)
structure Near (r rD un off ab : Rat) (t m : Int) (P : Nat) : Prop where
  lt : cmpR ab un = -1
  half : 5 ≤ m → cmpR (ab + ab) un ≤ 0
  again : rdR m (rD * mkRat (P : Int) 1) = t
theorem near_of {r rD un off ab : Rat} {t m : Int} {P : Nat} (hP : 0 < P) (ht : rdR m (r * mkRat (P : Int) 1) = t) (hD : mkRat t P = rD) (hu : mkRat 1 P = un) (ho : rD + -r = off) (ha : ab = if off.num < 0 then -off else off) : Near r rD un off ab t m P := by
  have h1 := off_mk (r := r) (t := t) hP
  rw [hD, ho] at h1
  obtain ⟨X, hX⟩ : ∃ X, X = r * mkRat (P : Int) 1 := ⟨_, rfl⟩
  rw [← hX] at h1 ht
  have hd : 0 < X.den := X.den_pos
  obtain ⟨n1, n2, n3⟩ := rd_near (m := m) (p := X.num) hd
  unfold rdR at ht
  rw [ht] at n1 n2 n3
  obtain ⟨a, hA⟩ : ∃ a, a = t * (X.den : Int) - X.num := ⟨_, rfl⟩
  rw [← hA] at h1 n1 n2 n3
  have hQ : 0 < P * X.den := Nat.mul_pos hP hd
  have hsg : off.num < 0 ↔ a < 0 := by
    have h2 := sign_mk (z := a) hQ
    rw [← h1] at h2
    rw [← Int.sign_neg_iff, h2, Int.sign_neg_iff]
  have hab : ab = mkRat (a.natAbs : Int) (P * X.den) := by
    rw [ha]
    by_cases h3 : a < 0
    · rw [if_pos (hsg.2 h3), h1, neg_mk, show -a = (a.natAbs : Int) by omega]
    · rw [if_neg (fun h => h3 (hsg.1 h)), h1, show a = (a.natAbs : Int) by omega]; simp
  have hPi : (0 : Int) < (P : Int) := by omega
  refine ⟨?_, fun h5 => ?_, ?_⟩
  · refine cmpR_lt ?_
    rw [hab, ← hu, mk_lt hQ hP, Int.one_mul, Int.natCast_mul, Int.mul_comm (P : Int)]
    exact Int.mul_lt_mul_of_pos_right (by omega) hPi
  · refine cmpR_le ?_
    have h6 := n3 h5
    rw [hab, ← hu, add_mk hQ hQ, mk_lt hP (Nat.mul_pos hQ hQ)]
    have e1 : ((a.natAbs : Int) * ((P * X.den : Nat) : Int) + (a.natAbs : Int) * ((P * X.den : Nat) : Int)) = ((a.natAbs : Int) + (a.natAbs : Int)) * ((P * X.den : Nat) : Int) := by rw [Int.add_mul]
    have e2 : ((P * X.den * (P * X.den) : Nat) : Int) = (X.den : Int) * (P : Int) * ((P * X.den : Nat) : Int) := by rw [Int.natCast_mul, Int.natCast_mul, Int.mul_comm (P : Int)]
    rw [e1, e2, Int.one_mul, Int.mul_assoc, Int.mul_assoc, Int.mul_comm ((P * X.den : Nat) : Int), ← Int.mul_assoc, ← Int.mul_assoc]
    refine Int.not_lt.2 (Int.mul_le_mul_of_nonneg_right (Int.mul_le_mul_of_nonneg_right (by omega) (by omega)) (by omega))
  · rw [← hD]
    have e : mkRat t P * mkRat (P : Int) 1 = (t : Rat) := by
      rw [mul_mk, Nat.mul_one]
      have := Rat.mkRat_mul_right (n := t) (d := 1) (a := P) (by omega)
      rw [Nat.one_mul] at this
      rw [this, Rat.mkRat_one]
    rw [e, rdR_int]
end Go.Proofs.YtmiklffjffdkgaaGreatDoor
end

section
/- The exponent of a fraction: from the lengths of its terms' texts and one comparison. No conditions. -/
open Go.RowKit
set_option maxRecDepth 100000
namespace Go.Proofs.YtmiklffjffdkgaaGreatDoor
theorem decL_bounds {m : Nat} (hm : 0 < m) : 10 ^ ((decL m).length - 1) ≤ m ∧ m < 10 ^ (decL m).length ∧ 0 < (decL m).length := by
  have hl : (decL m).length = (digs 10 m).length := by unfold decL; rw [if_neg (by omega)]; simp
  have h0 : (digs 10 m).length ≠ 0 := fun h => by have := (digs_len_pos (b := 10) (n := m) (by decide)).1 h; omega
  rw [hl]
  refine ⟨?_, lt_pow_digs (b := 10) (by decide) m, by omega⟩
  refine Nat.le_of_not_lt fun h => ?_
  have h1 : ∀ (j n : Nat), n < 10 ^ j → (digs 10 n).length ≤ j := by
    intro j
    induction j with
    | zero => intro n hn; have : n = 0 := by simpa using hn
              subst this; rw [digs_zero]; exact Nat.le_refl _
    | succ j ih =>
      intro n hn
      by_cases hz : n = 0
      · subst hz; rw [digs_zero]; exact Nat.zero_le _
      · rw [digs_pos (by decide) (by omega), List.length_cons]
        have := ih (n / 10) (by rw [Nat.div_lt_iff_lt_mul (by decide), ← Nat.pow_succ]; exact hn)
        omega
  have := h1 _ m h
  omega
theorem pow10_pos (k : Nat) : (0 : Int) < ((10 ^ k : Nat) : Int) := by have : 0 < 10 ^ k := Nat.pow_pos (by decide); omega
/-- A fraction p / d of terms with a and b digits lies above 10^(a - 1) / 10^b and below 10^a / 10^(b - 1). -/
theorem expo_between {p d : Nat} (hp : 0 < p) (hd : 0 < d) : 10 ^ ((decL p).length - 1) * d < p * 10 ^ (decL d).length ∧ p * 10 ^ ((decL d).length - 1) < 10 ^ (decL p).length * d := by
  obtain ⟨p1, p2, p3⟩ := decL_bounds hp
  obtain ⟨d1, d2, d3⟩ := decL_bounds hd
  refine ⟨?_, ?_⟩
  · exact Nat.lt_of_lt_of_le (Nat.mul_lt_mul_of_pos_left d2 (Nat.pow_pos (by decide))) (Nat.mul_le_mul_right _ p1)
  · exact Nat.lt_of_le_of_lt (Nat.mul_le_mul_left p d1) (Nat.mul_lt_mul_of_pos_right p2 hd)
/-- 10^e is below p / d, or not above it, or above it: without fractions, for e of any sign. -/
def le10 (e : Int) (p d : Nat) : Prop := 10 ^ e.toNat * d ≤ p * 10 ^ (-e).toNat
def lt10 (e : Int) (p d : Nat) : Prop := p * 10 ^ (-e).toNat < 10 ^ e.toNat * d
theorem cancel_lt {x y p d : Nat} {e : Int} (h : 10 ^ x * d < p * 10 ^ y) (he : (x : Int) - (y : Int) = e) : 10 ^ e.toNat * d < p * 10 ^ (-e).toNat := by
  by_cases h0 : 0 ≤ e
  · have h1 : x = y + e.toNat := by omega
    have h2 : (-e).toNat = 0 := by omega
    rw [h2, Nat.pow_zero, Nat.mul_one]
    rw [h1, Nat.pow_add, Nat.mul_assoc, Nat.mul_comm p] at h
    exact Nat.lt_of_mul_lt_mul_left h
  · have h1 : y = x + (-e).toNat := by omega
    have h2 : e.toNat = 0 := by omega
    rw [h2, Nat.pow_zero, Nat.one_mul]
    rw [h1, Nat.pow_add, ← Nat.mul_assoc, Nat.mul_comm p, Nat.mul_assoc] at h
    exact Nat.lt_of_mul_lt_mul_left h
theorem cancel_gt {x y p d : Nat} {e : Int} (h : p * 10 ^ y < 10 ^ x * d) (he : (x : Int) - (y : Int) = e) : p * 10 ^ (-e).toNat < 10 ^ e.toNat * d := by
  by_cases h0 : 0 ≤ e
  · have h1 : x = y + e.toNat := by omega
    have h2 : (-e).toNat = 0 := by omega
    rw [h2, Nat.pow_zero, Nat.mul_one]
    rw [h1, Nat.pow_add, Nat.mul_assoc, Nat.mul_comm p] at h
    exact Nat.lt_of_mul_lt_mul_left h
  · have h1 : y = x + (-e).toNat := by omega
    have h2 : e.toNat = 0 := by omega
    rw [h2, Nat.pow_zero, Nat.one_mul]
    rw [h1, Nat.pow_add, ← Nat.mul_assoc, Nat.mul_comm p, Nat.mul_assoc] at h
    exact Nat.lt_of_mul_lt_mul_left h
/-- The exponent as it is reckoned is the exponent: 10^e ≤ p / d < 10^(e + 1). -/
theorem expo_spec {p d : Nat} {e0 e : Int} (hp : 0 < p) (hd : 0 < d) (he0 : ((decL p).length : Int) - ((decL d).length : Int) = e0)
    (he : (if cmpR (mkRat (p : Int) d) (mkRat ((10 ^ e0.toNat : Nat) : Int) (10 ^ (-e0).toNat)) < 0 then e0 - 1 else e0) = e) : le10 e p d ∧ lt10 (e + 1) p d := by
  obtain ⟨b1, b2⟩ := expo_between hp hd
  obtain ⟨_, _, p3⟩ := decL_bounds hp
  obtain ⟨_, _, d3⟩ := decL_bounds hd
  have hP : 0 < 10 ^ (-e0).toNat := Nat.pow_pos (by decide)
  have hc := cmp_mk (z := (p : Int)) (z' := ((10 ^ e0.toNat : Nat) : Int)) hd hP
  rw [hc] at he
  have e1 : ((p : Int) * ((10 ^ (-e0).toNat : Nat) : Int) < ((10 ^ e0.toNat : Nat) : Int) * (d : Int)) = (p * 10 ^ (-e0).toNat < 10 ^ e0.toNat * d) := by
    rw [← Int.natCast_mul, ← Int.natCast_mul]; exact propext Int.ofNat_lt
  by_cases h1 : p * 10 ^ (-e0).toNat < 10 ^ e0.toNat * d
  · rw [if_pos (e1.mpr h1), if_pos (by decide)] at he
    subst he
    refine ⟨Nat.le_of_lt (cancel_lt b1 (by omega)), ?_⟩
    show lt10 (e0 - 1 + 1) p d
    rw [show e0 - 1 + 1 = e0 by omega]
    exact h1
  · have h2 : ¬ (if (p : Int) * ((10 ^ (-e0).toNat : Nat) : Int) < ((10 ^ e0.toNat : Nat) : Int) * (d : Int) then (-1 : Int) else if ((10 ^ e0.toNat : Nat) : Int) * (d : Int) < (p : Int) * ((10 ^ (-e0).toNat : Nat) : Int) then 1 else 0) < 0 := by
      rw [if_neg (fun g => h1 (e1.mp g))]
      split <;> decide
    rw [if_neg h2] at he
    subst he
    exact ⟨Nat.le_of_not_lt h1, cancel_gt b2 (by omega)⟩
end Go.Proofs.YtmiklffjffdkgaaGreatDoor
end

section
/- RoundOrder in numbers: rounding keeps the order, and turns with the sign. No conditions. -/
open Go.RowKit
set_option maxRecDepth 100000
namespace Go.Proofs.YtmiklffjffdkgaaGreatDoor
theorem rdUp_mono {m f : Int} {r r' q : Nat} (h : r ≤ r') (hu : rdUp m f r q = true) : rdUp m f r' q = true := by
  unfold rdUp at *
  by_cases h4 : m ≤ 4
  · rw [if_pos h4] at *; exact hu
  · rw [if_neg h4] at *
    by_cases h1 : r + r < q
    · rw [if_pos h1] at hu; cases hu
    · rw [if_neg h1] at hu
      rw [if_neg (by omega)]
      by_cases h2 : q < r' + r'
      · rw [if_pos h2]
      · rw [if_neg h2]
        rw [if_neg (by omega)] at hu
        exact hu
theorem rdZ_mono {m p p' : Int} {q : Nat} (h : p ≤ p') : rdZ m p q ≤ rdZ m p' q := by
  by_cases hq : q = 0
  · unfold rdZ; rw [if_pos hq, if_pos hq]; exact Int.le_refl _
  have hq0 : (0 : Int) < (q : Int) := by omega
  have h1 := Int.emod_add_mul_ediv p (q : Int)
  have h2 := Int.emod_nonneg p (by omega : (q : Int) ≠ 0)
  have h3 := Int.emod_lt_of_pos p hq0
  have h1' := Int.emod_add_mul_ediv p' (q : Int)
  have h2' := Int.emod_nonneg p' (by omega : (q : Int) ≠ 0)
  have h3' := Int.emod_lt_of_pos p' hq0
  have hfg : p / (q : Int) ≤ p' / (q : Int) := Int.ediv_le_ediv hq0 h
  obtain ⟨f, hf⟩ : ∃ f, f = p / (q : Int) := ⟨_, rfl⟩
  obtain ⟨g, hg⟩ : ∃ g, g = p' / (q : Int) := ⟨_, rfl⟩
  obtain ⟨r, hr⟩ : ∃ r, r = p % (q : Int) := ⟨_, rfl⟩
  obtain ⟨r', hr'⟩ : ∃ r, r = p' % (q : Int) := ⟨_, rfl⟩
  unfold rdZ
  rw [if_neg hq, if_neg hq, ← hf, ← hg, ← hr, ← hr']
  rw [← hf, ← hr] at h1
  rw [← hg, ← hr'] at h1'
  rw [← hr] at h2 h3
  rw [← hr'] at h2' h3'
  rw [← hf, ← hg] at hfg
  rcases Int.lt_or_eq_of_le hfg with hlt | heq
  · split <;> split <;> (try split) <;> (try split) <;> omega
  · subst heq
    have hrr : r ≤ r' := by omega
    by_cases h0 : r = 0
    · rw [if_pos h0]
      split
      · omega
      · split <;> omega
    · rw [if_neg h0, if_neg (show ¬ r' = 0 by omega)]
      by_cases hu : rdUp m f r.natAbs q = true
      · rw [if_pos hu, if_pos (rdUp_mono (by omega) hu)]; exact Int.le_refl _
      · rw [if_neg hu]; split <;> omega
theorem rdR_mono {m : Int} {X Y : Rat} (h : X ≤ Y) : rdR m X ≤ rdR m Y := by
  have hx := X.den_pos
  have hy := Y.den_pos
  have e1 : X = mkRat (X.num * (Y.den : Int)) (X.den * Y.den) := by
    rw [Rat.mkRat_mul_right (by omega)]; exact (Rat.mkRat_self X).symm
  have e2 : Y = mkRat (Y.num * (X.den : Int)) (X.den * Y.den) := by
    rw [Nat.mul_comm X.den, Rat.mkRat_mul_right (by omega)]; exact (Rat.mkRat_self Y).symm
  have h1 : X.num * (Y.den : Int) ≤ Y.num * (X.den : Int) := (Rat.le_iff X Y).1 h
  have k1 : rdR m X = rdZ m (X.num * (Y.den : Int)) (X.den * Y.den) := by rw [rdZ_mk, ← e1]
  have k2 : rdR m Y = rdZ m (Y.num * (X.den : Int)) (X.den * Y.den) := by rw [rdZ_mk, ← e2]
  rw [k1, k2]
  exact rdZ_mono h1
/-- The mode that is turned about with the sign. -/
def turn (m : Int) : Int := if m = 3 then 4 else if m = 4 then 3 else m
theorem lnUp_turn {m f : Int} (hm : 1 ≤ m ∧ m ≤ 7) : lnUp (turn m) (-f - 1) = !lnUp m f := by
  have hmm : m = 1 ∨ m = 2 ∨ m = 3 ∨ m = 4 ∨ m = 5 ∨ m = 6 ∨ m = 7 := by omega
  have a1 : decide (-f - 1 < 0) = !decide (f < 0) := by
    by_cases h : f < 0
    · rw [decide_eq_true h, decide_eq_false (by omega)]; rfl
    · rw [decide_eq_false h, decide_eq_true (by omega)]; rfl
  have a2 : decide ((-f - 1) % 2 ≠ 0) = !decide (f % 2 ≠ 0) := by
    by_cases h : f % 2 ≠ 0
    · rw [decide_eq_true h, decide_eq_false (by omega)]; rfl
    · rw [decide_eq_false h, decide_eq_true (by omega)]; rfl
  rcases hmm with rfl | rfl | rfl | rfl | rfl | rfl | rfl
  · show decide (-f - 1 < 0) = !decide (f < 0); exact a1
  · show (!decide (-f - 1 < 0)) = !!decide (f < 0); rw [a1]
  · rfl
  · rfl
  · show decide (-f - 1 < 0) = !decide (f < 0); exact a1
  · show (!decide (-f - 1 < 0)) = !!decide (f < 0); rw [a1]
  · show decide ((-f - 1) % 2 ≠ 0) = !decide (f % 2 ≠ 0); exact a2
theorem turn_le {m : Int} (hm : 1 ≤ m ∧ m ≤ 7) : (turn m ≤ 4 ↔ m ≤ 4) ∧ 1 ≤ turn m ∧ turn m ≤ 7 := by
  unfold turn
  split
  · omega
  · split <;> omega
theorem rdZ_neg {m p : Int} {q : Nat} (hm : 1 ≤ m ∧ m ≤ 7) : rdZ (turn m) (-p) q = -rdZ m p q := by
  by_cases hq : q = 0
  · unfold rdZ; rw [if_pos hq, if_pos hq]; rfl
  have hq0 : (0 : Int) < (q : Int) := by omega
  have h1 := Int.emod_add_mul_ediv p (q : Int)
  have h2 := Int.emod_nonneg p (by omega : (q : Int) ≠ 0)
  have h3 := Int.emod_lt_of_pos p hq0
  obtain ⟨f, hf⟩ : ∃ f, f = p / (q : Int) := ⟨_, rfl⟩
  obtain ⟨r, hr⟩ : ∃ r, r = p % (q : Int) := ⟨_, rfl⟩
  rw [← hf, ← hr] at h1
  rw [← hr] at h2 h3
  by_cases h0 : r = 0
  · have u := unique_pos (a := -p) (q := -f) (r := 0) (k := q) (by omega) (by rw [Int.mul_neg]; omega) (by omega) (by omega)
    unfold rdZ
    rw [if_neg hq, if_neg hq, u.1, u.2, ← hf, ← hr, if_pos rfl, if_pos h0]
  · have u := unique_pos (a := -p) (q := -f - 1) (r := (q : Int) - r) (k := q) (by omega) (by rw [Int.mul_sub, Int.mul_neg]; omega) (by omega) (by omega)
    unfold rdZ
    rw [if_neg hq, if_neg hq, u.1, u.2, ← hf, ← hr, if_neg (by omega), if_neg h0]
    have hup : rdUp (turn m) (-f - 1) ((q : Int) - r).natAbs q = !rdUp m f r.natAbs q := by
      unfold rdUp
      by_cases h4 : m ≤ 4
      · rw [if_pos ((turn_le hm).1.2 h4), if_pos h4]; exact lnUp_turn hm
      · rw [if_neg (fun h => h4 ((turn_le hm).1.1 h)), if_neg h4]
        by_cases c1 : r.natAbs + r.natAbs < q
        · rw [if_neg (by omega), if_pos (by omega), if_pos c1]; rfl
        · by_cases c2 : q < r.natAbs + r.natAbs
          · rw [if_pos (by omega), if_neg c1, if_pos c2]; rfl
          · rw [if_neg (by omega), if_neg (by omega), if_neg c1, if_neg c2]; exact lnUp_turn hm
    rw [hup]
    cases rdUp m f r.natAbs q
    · rw [if_pos (by rfl), if_neg (by decide)]; omega
    · rw [if_neg (by decide), if_pos rfl]; omega
theorem rdR_neg {m : Int} {X : Rat} (hm : 1 ≤ m ∧ m ≤ 7) : rdR (turn m) (-X) = -rdR m X := by
  unfold rdR
  rw [Rat.neg_num, Rat.neg_den]
  exact rdZ_neg hm
end Go.Proofs.YtmiklffjffdkgaaGreatDoor
end

section
/- Rounding to so many digits, in numbers: how many digits are left. No conditions. -/
open Go.RowKit
set_option maxRecDepth 100000
namespace Go.Proofs.YtmiklffjffdkgaaGreatDoor
theorem rdZ_at (m : Int) (a : Int) {q : Nat} (hq : 0 < q) : rdZ m (a * (q : Int)) q = a := by
  unfold rdZ
  rw [if_neg (by omega), if_pos (Int.mul_emod_left _ _), Int.mul_ediv_cancel _ (by omega)]
theorem rd_low {m z : Int} {q a : Nat} (hq : 0 < q) (h : a * q ≤ z.natAbs) : a ≤ (rdZ m z q).natAbs := by
  by_cases hz : 0 ≤ z
  · have h1 : (a : Int) * (q : Int) ≤ z := by rw [← Int.natCast_mul]; omega
    have h2 := rdZ_mono (m := m) (q := q) h1
    rw [rdZ_at m _ hq] at h2
    omega
  · have h1 : z ≤ (-(a : Int)) * (q : Int) := by rw [Int.neg_mul, ← Int.natCast_mul]; omega
    have h2 := rdZ_mono (m := m) (q := q) h1
    rw [rdZ_at m _ hq] at h2
    omega
theorem rd_high {m z : Int} {q a : Nat} (hq : 0 < q) (h : z.natAbs ≤ a * q) : (rdZ m z q).natAbs ≤ a := by
  have h1 : z ≤ (a : Int) * (q : Int) := by rw [← Int.natCast_mul]; omega
  have h2 : (-(a : Int)) * (q : Int) ≤ z := by rw [Int.neg_mul, ← Int.natCast_mul]; omega
  have h3 := rdZ_mono (m := m) (q := q) h1
  have h4 := rdZ_mono (m := m) (q := q) h2
  rw [rdZ_at m _ hq] at h3 h4
  omega
/-- With s digits behind the point. -/
theorem digits_p {m z : Int} {d : Nat} {e : Int} {dg s : Nat} (hd : 0 < d) (hdg : 1 ≤ dg) (hs : ((dg : Int) - 1) - e = (s : Int)) (hl : le10 e z.natAbs d) (hg : lt10 (e + 1) z.natAbs d) :
    10 ^ (dg - 1) ≤ (rdR m (mkRat z d * mkRat ((10 ^ s : Nat) : Int) 1)).natAbs ∧ (rdR m (mkRat z d * mkRat ((10 ^ s : Nat) : Int) 1)).natAbs ≤ 10 ^ dg := by
  have hX : rdR m (mkRat z d * mkRat ((10 ^ s : Nat) : Int) 1) = rdZ m (z * ((10 ^ s : Nat) : Int)) d := by
    rw [rdZ_mk]
    congr 1
    rw [mul_mk, Nat.mul_one]
  have hn : (z * ((10 ^ s : Nat) : Int)).natAbs = z.natAbs * 10 ^ s := by rw [Int.natAbs_mul, Int.natAbs_natCast]
  rw [hX]
  unfold le10 at hl
  unfold lt10 at hg
  refine ⟨rd_low hd ?_, rd_high hd ?_⟩
  · rw [hn]
    by_cases h0 : 0 ≤ e
    · rw [show (-e).toNat = 0 by omega, Nat.pow_zero, Nat.mul_one] at hl
      rw [show dg - 1 = s + e.toNat by omega, Nat.pow_add, Nat.mul_assoc, Nat.mul_comm z.natAbs]
      exact Nat.mul_le_mul_left _ hl
    · rw [show e.toNat = 0 by omega, Nat.pow_zero, Nat.one_mul] at hl
      rw [show s = (-e).toNat + (dg - 1) by omega, Nat.pow_add, ← Nat.mul_assoc, Nat.mul_comm (10 ^ (dg - 1))]
      exact Nat.mul_le_mul_right _ hl
  · rw [hn]
    refine Nat.le_of_lt ?_
    by_cases h0 : 0 ≤ e + 1
    · rw [show (-(e + 1)).toNat = 0 by omega, Nat.pow_zero, Nat.mul_one] at hg
      rw [show dg = s + (e + 1).toNat by omega, Nat.pow_add, Nat.mul_assoc, Nat.mul_comm z.natAbs]
      exact Nat.mul_lt_mul_of_pos_left hg (Nat.pow_pos (by decide))
    · rw [show (e + 1).toNat = 0 by omega, Nat.pow_zero, Nat.one_mul] at hg
      rw [show s = (-(e + 1)).toNat + dg by omega, Nat.pow_add, ← Nat.mul_assoc, Nat.mul_comm (10 ^ dg)]
      exact Nat.mul_lt_mul_of_pos_right hg (Nat.pow_pos (by decide))
/-- With k noughts behind the digits. -/
theorem digits_n {m z : Int} {d : Nat} {e : Int} {dg k : Nat} (hd0 : 0 < d) (hdg : 1 ≤ dg) (hk : ((dg : Int) - 1) - e = -(k : Int)) (hl : le10 e z.natAbs d) (hg : lt10 (e + 1) z.natAbs d) :
    10 ^ (dg - 1) ≤ (rdR m (mkRat z d * mkRat ((10 ^ 0 : Nat) : Int) (10 ^ k))).natAbs ∧ (rdR m (mkRat z d * mkRat ((10 ^ 0 : Nat) : Int) (10 ^ k))).natAbs ≤ 10 ^ dg := by
  have hd : 0 < d * 10 ^ k := Nat.mul_pos hd0 (Nat.pow_pos (by decide))
  have hX : rdR m (mkRat z d * mkRat ((10 ^ 0 : Nat) : Int) (10 ^ k)) = rdZ m z (d * 10 ^ k) := by
    rw [rdZ_mk]
    congr 1
    rw [mul_mk, Nat.pow_zero]
    simp
  rw [hX]
  unfold le10 at hl
  unfold lt10 at hg
  rw [show (-e).toNat = 0 by omega, Nat.pow_zero, Nat.mul_one] at hl
  rw [show (-(e + 1)).toNat = 0 by omega, Nat.pow_zero, Nat.mul_one] at hg
  refine ⟨rd_low hd ?_, rd_high hd ?_⟩
  · rw [show e.toNat = (dg - 1) + k by omega, Nat.pow_add, Nat.mul_assoc, Nat.mul_comm (10 ^ k)] at hl
    exact hl
  · rw [show (e + 1).toNat = dg + k by omega, Nat.pow_add, Nat.mul_assoc, Nat.mul_comm (10 ^ k)] at hg
    exact Nat.le_of_lt hg
end Go.Proofs.YtmiklffjffdkgaaGreatDoor
end

section
/- Rounding to so many digits: the call Sig for any fraction of six words that is not 0. No conditions. -/
open Go.RowKit
set_option maxRecDepth 100000
namespace Go.Proofs.YtmiklffjffdkgaaGreatDoor
theorem ten_is : ten_ = mkRat 10 1 := by decide +kernel
theorem teni_is : ten_⁻¹ = mkRat 1 10 := by decide +kernel
theorem ten_pow_ (k : Nat) : ten_ ^ k = mkRat ((10 ^ k : Nat) : Int) 1 := by
  induction k with
  | zero => decide +kernel
  | succ k ih => rw [Rat.pow_succ, ih, ten_is, mul_mk, Nat.pow_succ, Nat.mul_one, Int.natCast_mul]; rfl
theorem teni_pow_ (k : Nat) : ten_⁻¹ ^ k = mkRat 1 (10 ^ k) := by
  induction k with
  | zero => decide +kernel
  | succ k ih => rw [Rat.pow_succ, ih, teni_is, mul_mk, Nat.pow_succ]; rfl
theorem pow57 {k : Nat} (h : k ≤ 57) : 10 ^ k < W32 ^ 6 := Nat.lt_of_le_of_lt (Nat.pow_le_pow_right (by decide) h) (show 10 ^ 57 < W32 ^ 6 by decide)
theorem bd_of {z : Int} {d : Nat} {K : Nat} (hd : 0 < d) (h1 : z.natAbs < W32 ^ K) (h2 : d < W32 ^ K) : Bd (mkRat z d) K := tt_bd (z := z) (d := d) ⟨hd, rfl, h1, h2⟩
theorem len58 {m : Nat} (hm : 0 < m) (h : m < W32 ^ 6) : 1 ≤ (decL m).length ∧ (decL m).length ≤ 58 := by
  obtain ⟨h1, _, h3⟩ := decL_bounds hm
  refine ⟨h3, Nat.le_of_not_lt fun h4 => ?_⟩
  have h5 : 10 ^ 58 ≤ 10 ^ ((decL m).length - 1) := Nat.pow_le_pow_right (by decide) (by omega)
  have h6 : W32 ^ 6 < 10 ^ 58 := by decide
  omega
/-- What Sig leaves: digits of just so many, and noughts behind them only where there is no point. -/
def SigOk (dg v : Nat) (us : Int) : Prop := ∃ j t, v = t * 10 ^ j ∧ 10 ^ (dg - 1) ≤ t ∧ t < 10 ^ dg ∧ (us ≠ 0 → j = 0) ∧ j ≤ 200
theorem pow_step {dg : Nat} (h : 1 ≤ dg) : 10 ^ dg = 10 ^ (dg - 1) * 10 := by rw [← Nat.pow_succ, show (dg - 1).succ = dg by omega]
theorem sigok_n {dg X k : Nat} (hdg : 1 ≤ dg) (hk : k ≤ 100) (h1 : 10 ^ (dg - 1) ≤ X) (h2 : X ≤ 10 ^ dg) : SigOk dg (X * 10 ^ k) 0 := by
  have hp := pow_step hdg
  have h0 : 0 < 10 ^ (dg - 1) := Nat.pow_pos (by decide)
  by_cases h : X < 10 ^ dg
  · exact ⟨k, X, rfl, h1, h, fun g => absurd rfl g, by omega⟩
  · have hX : X = 10 ^ dg := by omega
    exact ⟨k + 1, 10 ^ (dg - 1), by rw [hX, hp, Nat.pow_succ, Nat.mul_assoc, Nat.mul_comm 10], Nat.le_refl _, by omega, fun g => absurd rfl g, by omega⟩
theorem sigok_lt {dg X : Nat} {us : Int} (h1 : 10 ^ (dg - 1) ≤ X) (h2 : X < 10 ^ dg) : SigOk dg X us := ⟨0, X, by rw [Nat.pow_zero, Nat.mul_one], h1, h2, fun _ => rfl, by omega⟩
theorem sigok_ge {dg X : Nat} {us : Int} (hdg : 1 ≤ dg) (h2 : X ≤ 10 ^ dg) (h : ¬ X < 10 ^ dg) : SigOk dg (X / 10) us := by
  have hp := pow_step hdg
  have h0 : 0 < 10 ^ (dg - 1) := Nat.pow_pos (by decide)
  have hX : X / 10 = 10 ^ (dg - 1) := by omega
  exact ⟨0, 10 ^ (dg - 1), by rw [hX, Nat.pow_zero, Nat.mul_one], Nat.le_refl _, by omega, fun _ => rfl, by omega⟩
section
variable {W : World} {b : Bool} {A A' : Option Addr} {n n' c c' d : Nat} {z : Int}
theorem powp_ {k : Nat} (hk : k ≤ 100) (W' : World) (B : Option Addr) (f : Nat) (B' : Option Addr) (f' : Nat) (h2 : ZA W' false B (dl ten_.num.natAbs) f ten_.num) (h3 : Nm W' B' (dl ten_.den) f' ten_.den) : Calls Tryz.prog 70 #[.agg #[.bool false, .slice B (dl ten_.num.natAbs) f, .slice B' (dl ten_.den) f'], .int .i64 (k : Int)] W' (OfYw W' false (ten_ ^ k)) := rpow_p (qa_self h2 h3 ten_bd) (by decide +kernel) ten_bd (by decide) (by decide) (by omega)
theorem teni_b : Bd ten_⁻¹ 1 := bd_lit (a := 1) (b := 10) (by decide +kernel) (by decide +kernel) (by decide) (by decide)
theorem pown_ {k : Nat} {i : Int} (hi : -(k : Int) = i) (h0 : 0 < k) (hk : k ≤ 100) (W' : World) (B : Option Addr) (f : Nat) (B' : Option Addr) (f' : Nat) (h2 : ZA W' false B (dl ten_.num.natAbs) f ten_.num) (h3 : Nm W' B' (dl ten_.den) f' ten_.den) : Calls Tryz.prog 70 #[.agg #[.bool false, .slice B (dl ten_.num.natAbs) f, .slice B' (dl ten_.den) f'], .int .i64 i] W' (OfYw W' false (ten_⁻¹ ^ k)) := rpow_n hi h0 (qa_self h2 h3 ten_bd) (by decide +kernel) ten_bd teni_b (by decide) (by decide) (by omega)
theorem pow_any {e0 : Int} (h : -57 ≤ e0 ∧ e0 ≤ 57) (W' : World) (B : Option Addr) (f : Nat) (B' : Option Addr) (f' : Nat) (h2 : ZA W' false B (dl ten_.num.natAbs) f ten_.num) (h3 : Nm W' B' (dl ten_.den) f' ten_.den) :
    Calls Tryz.prog 70 #[.agg #[.bool false, .slice B (dl ten_.num.natAbs) f, .slice B' (dl ten_.den) f'], .int .i64 e0] W' (OfYw W' false (mkRat ((10 ^ e0.toNat : Nat) : Int) (10 ^ (-e0).toNat))) := by
  by_cases h0 : 0 ≤ e0
  · have h1 := powp_ (k := e0.toNat) (by omega) W' B f B' f' h2 h3
    rw [ten_pow_, show ((e0.toNat : Nat) : Int) = e0 by omega] at h1
    rw [show (-e0).toNat = 0 by omega, Nat.pow_zero]
    exact h1
  · have h1 := pown_ (k := (-e0).toNat) (i := e0) (by omega) (by omega) (by omega) W' B f B' f' h2 h3
    rw [teni_pow_] at h1
    rw [show e0.toNat = 0 by omega, Nat.pow_zero]
    exact h1
theorem qz {W' : World} (nz : ZA W b A n c z) (nd : Nm W A' n' c' d) (br : z.natAbs < W32 ^ 6 ∧ d < W32 ^ 6) (hw : Bel W W') : QA W' b A n c A' n' c' (mkRat z d) 6 := ⟨z, d, nz.up hw.hid, nd.up hw.hid, ⟨rfl, br.1, br.2⟩⟩
/-- The exponent of a fraction of six words. -/
theorem expo_any (nz : ZA W b A n c z) (nd : Nm W A' n' c' d) (hd0 : 0 < d) (br : z.natAbs < W32 ^ 6 ∧ d < W32 ^ 6) (hr : z ≠ 0) :
    ∃ e : Int, (-58 ≤ e ∧ e ≤ 57) ∧ le10 e z.natAbs d ∧ lt10 (e + 1) z.natAbs d ∧ ∀ W', Bel W W' → Calls Tryz.prog 29 #[.agg #[.bool b, .slice A n c, .slice A' n' c']] W' (IntPost W' e) := by
  have hp : 0 < z.natAbs := by omega
  obtain ⟨L1, h1⟩ : ∃ L, (decL z.natAbs).length = L := ⟨_, rfl⟩
  obtain ⟨L2, h2⟩ : ∃ L, (decL d).length = L := ⟨_, rfl⟩
  obtain ⟨e0, h0⟩ : ∃ e0 : Int, (L1 : Int) - (L2 : Int) = e0 := ⟨_, rfl⟩
  have b1 := len58 hp br.1
  have b2 := len58 hd0 br.2
  rw [h1] at b1
  rw [h2] at b2
  obtain ⟨e, he⟩ : ∃ e : Int, (if cmpR (mkRat (z.natAbs : Int) d) (mkRat ((10 ^ e0.toNat : Nat) : Int) (10 ^ (-e0).toNat)) < 0 then e0 - 1 else e0) = e := ⟨_, rfl⟩
  have hb : -58 ≤ e ∧ e ≤ 57 := by rw [← he]; split <;> omega
  obtain ⟨g1, g2⟩ := expo_spec hp hd0 (by rw [h1, h2]; exact h0) he
  refine ⟨e, hb, g1, g2, fun W' hw => ?_⟩
  have h3 := expo_h (W := W') (tn := ten_) (K := 6) (e := e0) rfl (nz.up hw.hid) (nd.up hw.hid) hd0 h1 h2 h0 (by omega) (by omega) (pow_any (by omega)) br.1 br.2 (bd_of (Nat.pow_pos (by decide)) (by rw [Int.natAbs_natCast]; exact pow57 (by omega)) (pow57 (by omega))) (by decide) (by decide)
  rwa [he] at h3
/-- Sig of a fraction of six words that is not 0. -/
theorem sig_gen {dg : Nat} {m : Int} (nz : ZA W b A n c z) (nd : Nm W A' n' c' d) (hd0 : 0 < d) (br : z.natAbs < W32 ^ 6 ∧ d < W32 ^ 6) (hr : z ≠ 0) (hdg : 1 ≤ dg ∧ dg ≤ 40) (hm : 1 ≤ m ∧ m ≤ 7) :
    (∀ W2, Bel W W2 → Calls Tryz.prog 9 #[.agg #[.bool b, .slice A n c, .slice A' n' c'], .int .i64 (dg : Int), .int .i64 m] W2 (DEr W2 11)) ∨
    ∃ sg v us, SigOk dg v us ∧ (∀ W2, Bel W W2 → Calls Tryz.prog 9 #[.agg #[.bool b, .slice A n c, .slice A' n' c'], .int .i64 (dg : Int), .int .i64 m] W2 (ToR W2 sg v us)) := by
  obtain ⟨e, be, hl, hg, hE⟩ := expo_any nz nd hd0 br hr
  have hS : ∀ W', Bel W W' → Calls Tryz.prog 28 #[.agg #[.bool b, .slice A n c, .slice A' n' c']] W' (IntPost W' (mkRat z d).num.sign) := fun W' hw => rsign_h (qz nz nd br hw) (by decide) rfl
  have hu : (mkRat z d).num.sign ≠ 0 := fun h => hr ((Rat.mkRat_eq_zero (by omega)).1 (Rat.num_eq_zero.1 (Int.sign_eq_zero_iff_zero.1 h)))
  have dmax : 10 ^ dg ≤ 10 ^ 40 := Nat.pow_le_pow_right (by decide) hdg.2
  have d40 : 10 ^ 40 < W32 ^ 6 := by decide
  by_cases h60 : 60 < (dg : Int) - 1 - e
  · exact .inl fun W2 hw2 => (sig_size hm (by omega) (fun W' hw => hS W' (hw2.up hw.hid)) hu (fun W' hw => hE W' (hw2.up hw.hid)) (by omega) h60)
  · refine .inr ?_
    by_cases h0 : 0 ≤ (dg : Int) - 1 - e
    · obtain ⟨s, hs⟩ : ∃ s : Nat, (dg : Int) - 1 - e = (s : Int) := ⟨((dg : Int) - 1 - e).toNat, by omega⟩
      obtain ⟨X, hX⟩ : ∃ X, rdR m (mkRat z d * mkRat ((10 ^ s : Nat) : Int) 1) = X := ⟨_, rfl⟩
      have hd := digits_p (m := m) hd0 hdg.1 hs hl hg
      rw [hX] at hd
      have hM : ∀ W' B f, Bel W W' → Nm W' B (dl 1) f 1 → Calls Tryz.prog 26 #[.agg #[.bool b, .slice A n c, .slice A' n' c'], .agg #[.bool false, .slice B (dl 1) f, .int .i64 (s : Int)], .int .i64 m] W' (DvR W' (decide (X < 0)) X.natAbs (s : Int)) := fun W' B f hw hn => by
        have h1 := multiple_h (W := W') (b' := false) (s := s) (m := m) (K := 6) (qz nz nd br hw) hn (show 1 < W32 ^ 6 by decide) (by omega) hm (by decide) (by decide)
        rw [hX, Nat.mul_one] at h1
        exact h1
      by_cases hs0 : s = 0
      · subst hs0
        refine ⟨decide (X < 0), X.natAbs, 0, by have := sigok_n (k := 0) hdg.1 (by decide) hd.1 hd.2; rwa [Nat.pow_zero, Nat.mul_one] at this, ?_⟩
        refine fun W2 hw2 => sig_walk (e := e) (sc := 0) hm (by omega) (fun W' hw => hS W' (hw2.up hw.hid)) hu (fun W' hw => hE W' (hw2.up hw.hid)) (by omega) (by omega) (by decide) (fun W' => unit_p (s := 0) (by decide)) (fun W' B f hw hn => hM W' B f (hw2.up hw.hid) hn) (fun W' B f hn => (limit_0 hn).mono fun _ _ ⟨h1, h2, h3⟩ => ⟨B, f, h1, h2, h3⟩)
      · by_cases hlt : X.natAbs < 10 ^ dg
        · refine ⟨decide (X < 0), X.natAbs, (s : Int), sigok_lt hd.1 hlt, ?_⟩
          refine fun W2 hw2 => sig_walk (e := e) (sc := (s : Int)) hm (by omega) (fun W' hw => hS W' (hw2.up hw.hid)) hu (fun W' hw => hE W' (hw2.up hw.hid)) (by omega) (by omega) (by omega) (fun W' => unit_p (s := s) (by omega)) (fun W' B f hw hn => hM W' B f (hw2.up hw.hid) hn) (fun W' B f hn => (limit_lt hn (by omega) (by omega) hlt).mono fun _ _ ⟨h1, h2, h3⟩ => ⟨B, f, h1, h2, h3⟩)
        · refine ⟨decide (X < 0), X.natAbs / 10, (s : Int) - 1, sigok_ge hdg.1 hd.2 hlt, ?_⟩
          refine fun W2 hw2 => sig_walk (e := e) (sc := (s : Int)) hm (by omega) (fun W' hw => hS W' (hw2.up hw.hid)) hu (fun W' hw => hE W' (hw2.up hw.hid)) (by omega) (by omega) (by omega) (fun W' => unit_p (s := s) (by omega)) (fun W' B f hw hn => hM W' B f (hw2.up hw.hid) hn) (fun W' B f hn => limit_ge hn (by omega) (by omega) (by omega) hlt (Nat.le_trans (dl_le (k := 6) (by omega)) (by decide)))
    · obtain ⟨k, hk⟩ : ∃ k : Nat, (dg : Int) - 1 - e = -(k : Int) := ⟨(-((dg : Int) - 1 - e)).toNat, by omega⟩
      obtain ⟨X, hX⟩ : ∃ X, rdR m (mkRat z d * mkRat ((10 ^ 0 : Nat) : Int) (10 ^ k)) = X := ⟨_, rfl⟩
      have hd := digits_n (m := m) hd0 hdg.1 hk hl hg
      rw [hX] at hd
      refine ⟨decide (X < 0), X.natAbs * 10 ^ k, 0, sigok_n hdg.1 (by omega) hd.1 hd.2, ?_⟩
      refine fun W2 hw2 => sig_walk (e := e) (sc := -(k : Int)) hm (by omega) (fun W' hw => hS W' (hw2.up hw.hid)) hu (fun W' hw => hE W' (hw2.up hw.hid)) (by omega) hk (by omega) (fun W' => unit_n (k := k) (by omega) rfl (by omega)) (fun W' B f hw hn => by
        have h1 := multiple_h (W := W') (b' := false) (s := 0) (m := m) (K := 6) (qz nz nd br (hw2.up hw.hid)) hn (pow57 (by omega)) (by decide) hm (by decide) (by decide)
        rw [hX] at h1
        exact h1) (fun W' B f hn => (limit_0 hn).mono fun _ _ ⟨h1, h2, h3⟩ => ⟨B, f, h1, h2, h3⟩)
end
end Go.Proofs.YtmiklffjffdkgaaGreatDoor
end

section
/- Rounding to so many digits: the call Sig for any fraction of twelve words that is not 0, just. No conditions. -/
open Go.RowKit
set_option maxRecDepth 100000
namespace Go.Proofs.YtmiklffjffdkgaaGreatDoor
theorem pow115 {k : Nat} (h : k ≤ 115) : 10 ^ k < W32 ^ 12 := Nat.lt_of_le_of_lt (Nat.pow_le_pow_right (by decide) h) (show 10 ^ 115 < W32 ^ 12 by decide)
theorem len116 {m : Nat} (hm : 0 < m) (h : m < W32 ^ 12) : 1 ≤ (decL m).length ∧ (decL m).length ≤ 116 := by
  obtain ⟨h1, _, h3⟩ := decL_bounds hm
  refine ⟨h3, Nat.le_of_not_lt fun h4 => ?_⟩
  have h5 : 10 ^ 116 ≤ 10 ^ ((decL m).length - 1) := Nat.pow_le_pow_right (by decide) (by omega)
  have h6 : W32 ^ 12 < 10 ^ 116 := by decide
  omega
section
variable {W : World} {b : Bool} {A A' : Option Addr} {n n' c c' d : Nat} {z : Int}
theorem powp12 {k : Nat} (hk : k ≤ 200) (W' : World) (B : Option Addr) (f : Nat) (B' : Option Addr) (f' : Nat) (h2 : ZA W' false B (dl ten_.num.natAbs) f ten_.num) (h3 : Nm W' B' (dl ten_.den) f' ten_.den) : Calls Tryz.prog 70 #[.agg #[.bool false, .slice B (dl ten_.num.natAbs) f, .slice B' (dl ten_.den) f'], .int .i64 (k : Int)] W' (OfYw W' false (ten_ ^ k)) := rpow_p (qa_self h2 h3 ten_bd) (by decide +kernel) ten_bd (by decide) (by decide) (by omega)
theorem pown12 {k : Nat} {i : Int} (hi : -(k : Int) = i) (h0 : 0 < k) (hk : k ≤ 200) (W' : World) (B : Option Addr) (f : Nat) (B' : Option Addr) (f' : Nat) (h2 : ZA W' false B (dl ten_.num.natAbs) f ten_.num) (h3 : Nm W' B' (dl ten_.den) f' ten_.den) : Calls Tryz.prog 70 #[.agg #[.bool false, .slice B (dl ten_.num.natAbs) f, .slice B' (dl ten_.den) f'], .int .i64 i] W' (OfYw W' false (ten_⁻¹ ^ k)) := rpow_n hi h0 (qa_self h2 h3 ten_bd) (by decide +kernel) ten_bd teni_b (by decide) (by decide) (by omega)
theorem pow12_any {e0 : Int} (h : -115 ≤ e0 ∧ e0 ≤ 115) (W' : World) (B : Option Addr) (f : Nat) (B' : Option Addr) (f' : Nat) (h2 : ZA W' false B (dl ten_.num.natAbs) f ten_.num) (h3 : Nm W' B' (dl ten_.den) f' ten_.den) :
    Calls Tryz.prog 70 #[.agg #[.bool false, .slice B (dl ten_.num.natAbs) f, .slice B' (dl ten_.den) f'], .int .i64 e0] W' (OfYw W' false (mkRat ((10 ^ e0.toNat : Nat) : Int) (10 ^ (-e0).toNat))) := by
  by_cases h0 : 0 ≤ e0
  · have h1 := powp12 (k := e0.toNat) (by omega) W' B f B' f' h2 h3
    rw [ten_pow_, show ((e0.toNat : Nat) : Int) = e0 by omega] at h1
    rw [show (-e0).toNat = 0 by omega, Nat.pow_zero]
    exact h1
  · have h1 := pown12 (k := (-e0).toNat) (i := e0) (by omega) (by omega) (by omega) W' B f B' f' h2 h3
    rw [teni_pow_] at h1
    rw [show e0.toNat = 0 by omega, Nat.pow_zero]
    exact h1
theorem qz12 {W' : World} (nz : ZA W b A n c z) (nd : Nm W A' n' c' d) (br : z.natAbs < W32 ^ 12 ∧ d < W32 ^ 12) (hw : Bel W W') : QA W' b A n c A' n' c' (mkRat z d) 12 := ⟨z, d, nz.up hw.hid, nd.up hw.hid, ⟨rfl, br.1, br.2⟩⟩
theorem expo12 (nz : ZA W b A n c z) (nd : Nm W A' n' c' d) (hd0 : 0 < d) (br : z.natAbs < W32 ^ 12 ∧ d < W32 ^ 12) (hr : z ≠ 0) :
    ∃ e : Int, (-116 ≤ e ∧ e ≤ 115) ∧ le10 e z.natAbs d ∧ lt10 (e + 1) z.natAbs d ∧ ∀ W', Bel W W' → Calls Tryz.prog 29 #[.agg #[.bool b, .slice A n c, .slice A' n' c']] W' (IntPost W' e) := by
  have hp : 0 < z.natAbs := by omega
  obtain ⟨L1, h1⟩ : ∃ L, (decL z.natAbs).length = L := ⟨_, rfl⟩
  obtain ⟨L2, h2⟩ : ∃ L, (decL d).length = L := ⟨_, rfl⟩
  obtain ⟨e0, h0⟩ : ∃ e0 : Int, (L1 : Int) - (L2 : Int) = e0 := ⟨_, rfl⟩
  have b1 := len116 hp br.1
  have b2 := len116 hd0 br.2
  rw [h1] at b1
  rw [h2] at b2
  obtain ⟨e, he⟩ : ∃ e : Int, (if cmpR (mkRat (z.natAbs : Int) d) (mkRat ((10 ^ e0.toNat : Nat) : Int) (10 ^ (-e0).toNat)) < 0 then e0 - 1 else e0) = e := ⟨_, rfl⟩
  have hb : -116 ≤ e ∧ e ≤ 115 := by rw [← he]; split <;> omega
  obtain ⟨g1, g2⟩ := expo_spec hp hd0 (by rw [h1, h2]; exact h0) he
  refine ⟨e, hb, g1, g2, fun W' hw => ?_⟩
  have h3 := expo_h (W := W') (tn := ten_) (K := 12) (e := e0) rfl (nz.up hw.hid) (nd.up hw.hid) hd0 h1 h2 h0 (by omega) (by omega) (pow12_any (by omega)) br.1 br.2 (bd_of (Nat.pow_pos (by decide)) (by rw [Int.natAbs_natCast]; exact pow115 (by omega)) (pow115 (by omega))) (by decide) (by decide)
  rwa [he] at h3
/-- Sig of a fraction that is not 0, with its exponent. -/
theorem sig12 {dg : Nat} {m : Int} (nz : ZA W b A n c z) (nd : Nm W A' n' c' d) (hd0 : 0 < d) (br : z.natAbs < W32 ^ 12 ∧ d < W32 ^ 12) (hr : z ≠ 0) (hdg : 1 ≤ dg ∧ dg ≤ 40) (hm : 1 ≤ m ∧ m ≤ 7) :
    ∃ e : Int, (-116 ≤ e ∧ e ≤ 115) ∧ le10 e z.natAbs d ∧ lt10 (e + 1) z.natAbs d ∧
      (60 < (dg : Int) - 1 - e → ∀ W2, Bel W W2 → Calls Tryz.prog 9 #[.agg #[.bool b, .slice A n c, .slice A' n' c'], .int .i64 (dg : Int), .int .i64 m] W2 (DEr W2 11)) ∧
      (∀ s : Nat, (dg : Int) - 1 - e = (s : Int) → s ≤ 60 → ∀ X, rdR m (mkRat z d * mkRat ((10 ^ s : Nat) : Int) 1) = X →
        ((X.natAbs < 10 ^ dg ∨ s = 0) → ∀ W2, Bel W W2 → Calls Tryz.prog 9 #[.agg #[.bool b, .slice A n c, .slice A' n' c'], .int .i64 (dg : Int), .int .i64 m] W2 (ToR W2 (decide (X < 0)) X.natAbs (s : Int))) ∧
        (¬ X.natAbs < 10 ^ dg → 0 < s → ∀ W2, Bel W W2 → Calls Tryz.prog 9 #[.agg #[.bool b, .slice A n c, .slice A' n' c'], .int .i64 (dg : Int), .int .i64 m] W2 (ToR W2 (decide (X < 0)) (X.natAbs / 10) ((s : Int) - 1)))) ∧
      (∀ k : Nat, 0 < k → (dg : Int) - 1 - e = -(k : Int) → ∀ X, rdR m (mkRat z d * mkRat ((10 ^ 0 : Nat) : Int) (10 ^ k)) = X →
        ∀ W2, Bel W W2 → Calls Tryz.prog 9 #[.agg #[.bool b, .slice A n c, .slice A' n' c'], .int .i64 (dg : Int), .int .i64 m] W2 (ToR W2 (decide (X < 0)) (X.natAbs * 10 ^ k) 0)) := by
  obtain ⟨e, be, hl, hg, hE⟩ := expo12 nz nd hd0 br hr
  have hS : ∀ W', Bel W W' → Calls Tryz.prog 28 #[.agg #[.bool b, .slice A n c, .slice A' n' c']] W' (IntPost W' (mkRat z d).num.sign) := fun W' hw => rsign_h (qz12 nz nd br hw) (by decide) rfl
  have hu : (mkRat z d).num.sign ≠ 0 := fun h => hr ((Rat.mkRat_eq_zero (by omega)).1 (Rat.num_eq_zero.1 (Int.sign_eq_zero_iff_zero.1 h)))
  have dmax : 10 ^ dg ≤ 10 ^ 40 := Nat.pow_le_pow_right (by decide) hdg.2
  have d40 : 10 ^ 40 < W32 ^ 6 := by decide
  refine ⟨e, be, hl, hg, fun h60 W2 hw2 => sig_size hm (by omega) (fun W' hw => hS W' (hw2.up hw.hid)) hu (fun W' hw => hE W' (hw2.up hw.hid)) (by omega) h60, fun s hs h6 X hX => ?_, fun k hk0 hk X hX => ?_⟩
  · have hd := digits_p (m := m) hd0 hdg.1 hs hl hg
    rw [hX] at hd
    have hM : ∀ W' B f, Bel W W' → Nm W' B (dl 1) f 1 → Calls Tryz.prog 26 #[.agg #[.bool b, .slice A n c, .slice A' n' c'], .agg #[.bool false, .slice B (dl 1) f, .int .i64 (s : Int)], .int .i64 m] W' (DvR W' (decide (X < 0)) X.natAbs (s : Int)) := fun W' B f hw hn => by
      have h1 := multiple_h (W := W') (b' := false) (s := s) (m := m) (K := 12) (qz12 nz nd br hw) hn (show 1 < W32 ^ 12 by decide) (by omega) hm (by decide) (by decide)
      rw [hX, Nat.mul_one] at h1
      exact h1
    refine ⟨fun h9 W2 hw2 => ?_, fun hlt hs0 W2 hw2 => ?_⟩
    · by_cases hs0 : s = 0
      · subst hs0
        exact sig_walk (e := e) (sc := 0) hm (by omega) (fun W' hw => hS W' (hw2.up hw.hid)) hu (fun W' hw => hE W' (hw2.up hw.hid)) (by omega) (by omega) (by decide) (fun W' => unit_p (s := 0) (by decide)) (fun W' B f hw hn => hM W' B f (hw2.up hw.hid) hn) (fun W' B f hn => (limit_0 hn).mono fun _ _ ⟨h1, h2, h3⟩ => ⟨B, f, h1, h2, h3⟩)
      · have hlt : X.natAbs < 10 ^ dg := h9.resolve_right hs0
        exact sig_walk (e := e) (sc := (s : Int)) hm (by omega) (fun W' hw => hS W' (hw2.up hw.hid)) hu (fun W' hw => hE W' (hw2.up hw.hid)) (by omega) (by omega) (by omega) (fun W' => unit_p (s := s) (by omega)) (fun W' B f hw hn => hM W' B f (hw2.up hw.hid) hn) (fun W' B f hn => (limit_lt hn (by omega) (by omega) hlt).mono fun _ _ ⟨h1, h2, h3⟩ => ⟨B, f, h1, h2, h3⟩)
    · exact sig_walk (e := e) (sc := (s : Int)) hm (by omega) (fun W' hw => hS W' (hw2.up hw.hid)) hu (fun W' hw => hE W' (hw2.up hw.hid)) (by omega) (by omega) (by omega) (fun W' => unit_p (s := s) (by omega)) (fun W' B f hw hn => hM W' B f (hw2.up hw.hid) hn) (fun W' B f hn => limit_ge hn (by omega) (by omega) (by omega) hlt (Nat.le_trans (dl_le (k := 6) (by omega)) (by decide)))
  · exact fun W2 hw2 => sig_walk (e := e) (sc := -(k : Int)) hm (by omega) (fun W' hw => hS W' (hw2.up hw.hid)) hu (fun W' hw => hE W' (hw2.up hw.hid)) (by omega) (by omega) (by omega) (fun W' => unit_n (k := k) (by omega) rfl (by omega)) (fun W' B f hw hn => by
        have h1 := multiple_h (W := W') (b' := false) (s := 0) (m := m) (K := 12) (qz12 nz nd br (hw2.up hw.hid)) hn (pow115 (by omega)) (by decide) hm (by decide) (by decide)
        rw [hX] at h1
        exact h1) (fun W' B f hn => (limit_0 hn).mono fun _ _ ⟨h1, h2, h3⟩ => ⟨B, f, h1, h2, h3⟩)
end
end Go.Proofs.YtmiklffjffdkgaaGreatDoor
end

section
/- The document's own Sig in numbers. Conditions: a fraction that is not 0, terms of at most 12 words. -/
open Go.RowKit
set_option maxRecDepth 100000
namespace Go.Proofs.YtmiklffjffdkgaaGreatDoor
theorem le10_down {e : Int} {p d : Nat} (h : le10 (e + 1) p d) : le10 e p d := by
  unfold le10 at *
  by_cases h0 : 0 ≤ e
  · rw [show (e + 1).toNat = e.toNat + 1 by omega, show (-(e + 1)).toNat = 0 by omega, Nat.pow_succ] at h
    rw [show (-e).toNat = 0 by omega]
    rw [Nat.mul_right_comm] at h
    generalize 10 ^ e.toNat * d = x at *
    omega
  · rw [show (e + 1).toNat = 0 by omega] at h
    rw [show e.toNat = 0 by omega, show (-e).toNat = (-(e + 1)).toNat + 1 by omega, Nat.pow_succ, ← Nat.mul_assoc]
    generalize p * 10 ^ (-(e + 1)).toNat = x at *
    omega
theorem le10_below {p d : Nat} : ∀ (k : Nat) {e : Int}, le10 (e + (k : Int)) p d → le10 e p d := by
  intro k
  induction k with
  | zero => intro e h; simpa using h
  | succ k ih => intro e h; exact ih (le10_down (by rw [show e + (k : Int) + 1 = e + ((k + 1 : Nat) : Int) by omega]; exact h))
theorem not_both {e : Int} {p d : Nat} (h : le10 e p d) (h' : lt10 e p d) : False := by unfold le10 at h; unfold lt10 at h'; omega
/-- There is one exponent alone. -/
theorem expo_one {e e' : Int} {p d : Nat} (h1 : le10 e p d) (h2 : lt10 (e + 1) p d) (h1' : le10 e' p d) (h2' : lt10 (e' + 1) p d) : e = e' := by
  rcases Int.lt_trichotomy e e' with h | h | h
  · exact (not_both (le10_below (e' - (e + 1)).toNat (by rw [show e + 1 + ((e' - (e + 1)).toNat : Int) = e' by omega]; exact h1')) h2).elim
  · exact h
  · exact (not_both (le10_below (e - (e' + 1)).toNat (by rw [show e' + 1 + ((e - (e' + 1)).toNat : Int) = e by omega]; exact h1)) h2').elim
theorem le10_cross {e : Int} {p d p' d' : Nat} (hd : 0 < d) (hc : p * d' = p' * d) (h : le10 e p d) : le10 e p' d' := by
  unfold le10 at *
  refine Nat.le_of_mul_le_mul_right (c := d) ?_ hd
  have h1 := Nat.mul_le_mul_right d' h
  have e1 : 10 ^ e.toNat * d' * d = 10 ^ e.toNat * d * d' := Nat.mul_right_comm _ _ _
  have e2 : p' * 10 ^ (-e).toNat * d = p * 10 ^ (-e).toNat * d' := by rw [Nat.mul_right_comm, ← hc, Nat.mul_right_comm]
  rw [e1, e2]; exact h1
theorem lt10_cross {e : Int} {p d p' d' : Nat} (hd' : 0 < d') (hc : p * d' = p' * d) (h : lt10 e p d) : lt10 e p' d' := by
  unfold lt10 at *
  have h1 := Nat.mul_lt_mul_of_pos_right h hd'
  have e1 : 10 ^ e.toNat * d' * d = 10 ^ e.toNat * d * d' := Nat.mul_right_comm _ _ _
  have e2 : p' * 10 ^ (-e).toNat * d = p * 10 ^ (-e).toNat * d' := by rw [Nat.mul_right_comm, ← hc, Nat.mul_right_comm]
  rw [← e1, ← e2] at h1
  exact Nat.lt_of_mul_lt_mul_right h1
/-- The exponent out of any words is that of the lowest terms. -/
theorem expo_low {e : Int} {z : Int} {d : Nat} {r : Rat} (hd : 0 < d) (hr : mkRat z d = r) : (le10 e z.natAbs d ↔ le10 e r.num.natAbs r.den) ∧ (lt10 e z.natAbs d ↔ lt10 e r.num.natAbs r.den) := by
  have h := congrArg Int.natAbs (mk_cross (z := z) hd)
  rw [hr, Int.natAbs_mul, Int.natAbs_mul, Int.natAbs_natCast, Int.natAbs_natCast] at h
  have h' : z.natAbs * r.den = r.num.natAbs * d := h.symm
  exact ⟨⟨le10_cross hd h', le10_cross r.den_pos h⟩, ⟨lt10_cross r.den_pos h', lt10_cross hd h⟩⟩
theorem len_over {v m : Nat} (hv : 0 < v) : (m : Int) < ((decL v).length : Int) ↔ ¬ v < 10 ^ m := by
  obtain ⟨b1, b2, b3⟩ := decL_bounds hv
  constructor
  · intro h g
    have h2 : 10 ^ m ≤ 10 ^ ((decL v).length - 1) := Nat.pow_le_pow_right (by decide) (by omega)
    omega
  · intro h
    by_cases g : m < (decL v).length
    · omega
    · exact (h (Nat.lt_of_lt_of_le b2 (Nat.pow_le_pow_right (by decide) (by omega)))).elim
theorem cmpR_num (x y : Rat) : ((x + -y).num.sign < 0) = (cmpR x y < 0) := by
  unfold cmpR
  have h1 : x + -y = x - y := (Rat.sub_eq_add_neg x y).symm
  rw [h1]
  by_cases h : x < y
  · rw [if_pos h]
    have h2 : (x - y) < 0 := by
      have h3 := Rat.add_lt_add_right (c := -y) |>.2 h
      rwa [Rat.add_neg_cancel, ← Rat.sub_eq_add_neg] at h3
    have h4 : (x - y).num < 0 := by
      rcases Int.lt_or_le (x - y).num 0 with g | g
      · exact g
      · exact absurd (Rat.num_nonneg.1 g) (Rat.not_le.2 h2)
    rw [Int.sign_eq_neg_one_of_neg h4]
  · have h5 : 0 ≤ (x - y).num := Rat.num_nonneg.2 (by
      have h3 := (Rat.add_le_add_right (c := -y)).2 (Rat.not_lt.1 h)
      rwa [Rat.add_neg_cancel, ← Rat.sub_eq_add_neg] at h3)
    have h6 : ¬ (x - y).num.sign < 0 := by rw [Int.sign_neg_iff]; omega
    rw [if_neg h]
    have h7 : ¬ (if y < x then (1 : Int) else 0) < 0 := by split <;> decide
    exact propext ⟨fun g => (h6 g).elim, fun g => (h7 g).elim⟩
section
variable {W : World} {b : Bool} {A A' : Option Addr} {c c' : Nat} {r : Rat} {mode : Int}
theorem qten_h (W' : World) : Calls Tryz.prog 22 #[.int .i64 10] W' (RQm W' false ten_.num ten_.den) := by
  have h1 : ten_.num = 10 := by decide +kernel
  have h2 : ten_.den = 1 := by decide +kernel
  rw [h1, h2]
  exact (rqint_h (W := W') (z := 10) (sg := false) (by decide) (by decide) (by decide)).mono fun _ _ ⟨A, c, A', c', he, n1, n2, hb⟩ => ⟨A, c, A', c', he, ⟨n1, (by decide : false = decide ((10 : Int) < 0))⟩, n2, hb⟩
theorem p10_sign (e0 : Int) : (false : Bool) = decide ((mkRat ((10 ^ e0.toNat : Nat) : Int) (10 ^ (-e0).toNat)).num < 0) := by
  have h1 := sign_mk (z := ((10 ^ e0.toNat : Nat) : Int)) (d := 10 ^ (-e0).toNat) (Nat.pow_pos (by decide))
  rw [Int.sign_eq_one_of_pos (pow10_pos _)] at h1
  have h2 := Int.sign_eq_one_iff_pos.1 h1
  exact (decide_eq_false (by omega)).symm
theorem qpow10_h {e0 : Int} (h : -115 ≤ e0 ∧ e0 ≤ 115) (W' : World) (B : Option Addr) (e : Nat) (B' : Option Addr) (e' : Nat) (g1 : Rz W' false B e ten_.num) (g2 : Rn W' B' e' ten_.den) :
    Calls Tryz.prog 45 #[.agg #[.bool false, .slice B (dq ten_.num.natAbs) e, .slice B' (dq ten_.den) e'], .int .i64 e0] W' (RQt W' false (mkRat ((10 ^ e0.toNat : Nat) : Int) (10 ^ (-e0).toNat)).num (mkRat ((10 ^ e0.toNat : Nat) : Int) (10 ^ (-e0).toNat)).den) := by
  have hs := p10_sign e0
  by_cases h0 : 0 ≤ e0
  · have h1 := rqpow_p (K := 1) (k := e0.toNat) ten_bd (by decide) (by omega) g1 g2 (q := mkRat ((10 ^ e0.toNat : Nat) : Int) (10 ^ (-e0).toNat)) (by rw [ten_pow_, show (-e0).toNat = 0 by omega, Nat.pow_zero]) hs
    rwa [show ((e0.toNat : Nat) : Int) = e0 by omega] at h1
  · have h1 := rqpow_n (K := 1) (k := (-e0).toNat) (by omega) (by decide +kernel) teni_b (by decide) (by omega) g1 g2 (q := mkRat ((10 ^ e0.toNat : Nat) : Int) (10 ^ (-e0).toNat)) (by rw [teni_pow_, show e0.toNat = 0 by omega, Nat.pow_zero]; rfl) hs
    rwa [show -(((-e0).toNat : Nat) : Int) = e0 by omega] at h1
theorem text_len {v : Nat} {B : Option Addr} {e : Nat} {W' : World} (h : Rn W' B e v) (hl : dq v ≤ 100000) : Calls Tryz.prog 35 #[.slice B (dq v) e] W' (LenR W' (decL v).length) :=
  (rText_any h hl).mono fun _ _ ⟨t, he, ht, hb⟩ => ⟨t, he, (by show t.size = _; rw [size_list]; exact congrArg List.length ht), hb⟩
theorem small_rz {n : Nat} (hn : n < 18446744073709551616) (W' : World) : Calls Tryz.prog 41 #[.int .u64 (n : Int)] W' (RefRz W' n) :=
  (Small_any hn).mono fun _ _ ⟨A, c, he, hr, hb⟩ => ⟨A, c, he, Rn.of hr, hb⟩
end
end Go.Proofs.YtmiklffjffdkgaaGreatDoor
end

section
/- The document's own Sig of a fraction that is not 0, in numbers. Conditions: terms of at most 12 words. -/
open Go.RowKit
set_option maxRecDepth 100000
namespace Go.Proofs.YtmiklffjffdkgaaGreatDoor
section
variable {W : World} {b : Bool} {A A' : Option Addr} {c c' dg : Nat} {r : Rat} {mode e : Int}
/-- What Sig's calls ahead of its three ways answer. -/
theorem sig_calls (h : Rz W b A c r.num) (h' : Rn W A' c' r.den) (hb : Bd r 12) (h0 : r ≠ 0) (hl : le10 e r.num.natAbs r.den) (hg : lt10 (e + 1) r.num.natAbs r.den) :
    ∃ (u lt e0 : Int) (L1 L2 : Nat) (p : Rat),
    (∀ W', Bel W W' → Calls Tryz.prog 44 #[.agg #[.bool b, .slice A (dq r.num.natAbs) c, .slice A' (dq r.den) c']] W' (IntPost W' u)) ∧
    (∀ W', Bel W W' → Calls Tryz.prog 24 #[.bool false, .slice A (dq r.num.natAbs) c] W' (RZb W' false A (dq r.num.natAbs) c r.num.natAbs)) ∧
    (∀ W', Bel W W' → Calls Tryz.prog 35 #[.slice A (dq r.num.natAbs) c] W' (LenR W' L1)) ∧
    (∀ W', Bel W W' → Calls Tryz.prog 35 #[.slice A' (dq r.den) c'] W' (LenR W' L2)) ∧
    (∀ W' B e B' e', Rz W' false B e ten_.num → Rn W' B' e' ten_.den → Calls Tryz.prog 45 #[.agg #[.bool false, .slice B (dq ten_.num.natAbs) e, .slice B' (dq ten_.den) e'], .int .i64 e0] W' (RQt W' false p.num p.den)) ∧
    (∀ W' B e B' e', Bel W W' → Rz W' false B e p.num → Rn W' B' e' p.den → Calls Tryz.prog 38 #[.agg #[.bool false, .slice A (dq r.num.natAbs) c, .slice A' (dq r.den) c'], .agg #[.bool false, .slice B (dq p.num.natAbs) e, .slice B' (dq p.den) e']] W' (IntPost W' lt)) ∧
    (u == 0) = false ∧ (L1 : Int) - (L2 : Int) = e0 ∧ (L1 ≤ 100000 ∧ L2 ≤ 100000) ∧ ((lt < 0 ∧ e = e0 - 1) ∨ (¬ lt < 0 ∧ e = e0)) ∧ (-116 ≤ e ∧ e ≤ 115) := by
  have hd := r.den_pos
  have hz : r.num ≠ 0 := fun g => h0 (Rat.num_eq_zero.1 g)
  have hp : 0 < r.num.natAbs := by omega
  have l1 : dq r.num.natAbs ≤ 300 := Nat.le_trans (dq_words hb.1) (by omega)
  have l2 : dq r.den ≤ 300 := Nat.le_trans (dq_words hb.2) (by omega)
  have b1 := len116 hp hb.1
  have b2 := len116 hd hb.2
  obtain ⟨e0, he0⟩ : ∃ e0 : Int, ((decL r.num.natAbs).length : Int) - ((decL r.den).length : Int) = e0 := ⟨_, rfl⟩
  have be : -115 ≤ e0 ∧ e0 ≤ 115 := by omega
  obtain ⟨ra, hra⟩ : ∃ x : Rat, x = mkRat (r.num.natAbs : Int) r.den := ⟨_, rfl⟩
  have en : ra.num = (r.num.natAbs : Int) := by
    have h1 := Rat.mk_eq_mkRat (r.num.natAbs : Int) r.den r.den_nz (by rw [Int.natAbs_natCast]; exact r.reduced)
    rw [hra, ← h1]
  have ed : ra.den = r.den := by
    have h1 := Rat.mk_eq_mkRat (r.num.natAbs : Int) r.den r.den_nz (by rw [Int.natAbs_natCast]; exact r.reduced)
    rw [hra, ← h1]
  have ea : ra.num.natAbs = r.num.natAbs := by rw [en, Int.natAbs_natCast]
  have bp : Bd (mkRat ((10 ^ e0.toNat : Nat) : Int) (10 ^ (-e0).toNat)) 12 := bd_of (Nat.pow_pos (by decide)) (by rw [Int.natAbs_natCast]; exact pow115 (by omega)) (pow115 (by omega))
  obtain ⟨e1, he1⟩ : ∃ e1 : Int, (if cmpR (mkRat (r.num.natAbs : Int) r.den) (mkRat ((10 ^ e0.toNat : Nat) : Int) (10 ^ (-e0).toNat)) < 0 then e0 - 1 else e0) = e1 := ⟨_, rfl⟩
  obtain ⟨g1, g2⟩ := expo_spec hp hd he0 he1
  have hee : e = e1 := expo_one hl hg g1 g2
  subst hee
  have hx := cmpR_num ra (mkRat ((10 ^ e0.toNat : Nat) : Int) (10 ^ (-e0).toNat))
  refine ⟨r.num.sign, (ra + -(mkRat ((10 ^ e0.toNat : Nat) : Int) (10 ^ (-e0).toNat))).num.sign, e0, _, _, mkRat ((10 ^ e0.toNat : Nat) : Int) (10 ^ (-e0).toNat), fun W' hW => rqsign_h (h.up hW.hid) rfl, fun W' hW => rzof_h (h.1.up hW.hid) rfl, fun W' hW => text_len (h.1.up hW.hid) (by omega), fun W' hW => text_len (h'.up hW.hid) (by omega),
    fun W' B e B' e' k1 k2 => qpow10_h be W' B e B' e' k1 k2, fun W' B e B' e' hW k1 k2 => ?_, ?_, he0, by omega, ?_, ?_⟩
  · have h3 := rqcmp_c (W := W') (r := ra) (b := false) (A := A) (A' := A') (c := c) (c' := c') (K := 12) ⟨by rw [ea]; exact hb.1, by rw [ed]; exact hb.2⟩ bp (by decide) ⟨by rw [ea]; exact h.1.up hW.hid, by rw [en]; exact (decide_eq_false (by omega)).symm⟩ (by rw [ed]; exact h'.up hW.hid) k1 k2 rfl
    rw [ea, ed] at h3
    exact h3
  · have h4 : r.num.sign ≠ 0 := fun g => hz (Int.sign_eq_zero_iff_zero.1 g)
    simpa using h4
  · rw [hx, hra]
    by_cases g : cmpR (mkRat (r.num.natAbs : Int) r.den) (mkRat ((10 ^ e0.toNat : Nat) : Int) (10 ^ (-e0).toNat)) < 0
    · rw [if_pos g] at he1; exact Or.inl ⟨g, he1.symm⟩
    · rw [if_neg g] at he1; exact Or.inr ⟨g, he1.symm⟩
  · rw [← he1]; split <;> omega
theorem sig11_doc (h : Rz W b A c r.num) (h' : Rn W A' c' r.den) (hb : Bd r 12) (h0 : r ≠ 0) (hl : le10 e r.num.natAbs r.den) (hg : lt10 (e + 1) r.num.natAbs r.den) (hdg : 1 ≤ dg ∧ dg ≤ 40) (hm : 1 ≤ mode ∧ mode ≤ 7) (h6 : 60 < (dg : Int) - 1 - e) :
    Calls Tryz.prog 15 #[.agg #[.bool b, .slice A (dq r.num.natAbs) c, .slice A' (dq r.den) c'], .int .i64 (dg : Int), .int .i64 mode] W (DSg W 11 false 0 0) := by
  obtain ⟨u, lt, e0, L1, L2, p, c1, c2, c3, c4, c5, c6, k1, k2, k3, k4, k5⟩ := sig_calls h h' hb h0 hl hg
  exact rsig_size (hide c1) (hide c2) (hide c3) (hide c4) (hide qten_h) (hide c5) (hide c6) (by omega) k1 k2 k3 k4 rfl h6
theorem x_mul {s : Nat} : mkRat (r.num * ((10 ^ s : Nat) : Int)) (r.den * 1) = r * mkRat ((10 ^ s : Nat) : Int) 1 := by
  rw [← mul_mk, Rat.mkRat_self]
theorem x_div {k : Nat} : mkRat (r.num * 1) (r.den * 10 ^ k) = r * mkRat ((10 ^ 0 : Nat) : Int) (10 ^ k) := by
  rw [← mul_mk, Rat.mkRat_self]; rfl
theorem d40_ {v dg : Nat} (hdg : dg ≤ 40) (h : v ≤ 10 ^ dg) : dq v ≤ 300 := by
  have h1 : 10 ^ dg ≤ 10 ^ 40 := Nat.pow_le_pow_right (by decide) hdg
  have h2 : 10 ^ 40 < W32 ^ 6 := by decide
  exact Nat.le_trans (dq_words (k := 6) (by omega)) (by decide)
theorem sigp_doc {q : Nat} {X : Int} (h : Rz W b A c r.num) (h' : Rn W A' c' r.den) (hb : Bd r 12) (h0 : r ≠ 0) (hl : le10 e r.num.natAbs r.den) (hg : lt10 (e + 1) r.num.natAbs r.den) (hdg : 1 ≤ dg ∧ dg ≤ 40) (hm : 1 ≤ mode ∧ mode ≤ 7)
    (hq : (dg : Int) - 1 - e = (q : Int)) (h6 : q ≤ 60) (hX : rdR mode (r * mkRat ((10 ^ q : Nat) : Int) 1) = X) :
    ((X.natAbs < 10 ^ dg ∨ q = 0) → Calls Tryz.prog 15 #[.agg #[.bool b, .slice A (dq r.num.natAbs) c, .slice A' (dq r.den) c'], .int .i64 (dg : Int), .int .i64 mode] W (DSg W 0 (decide (X < 0)) X.natAbs q)) ∧
    (¬ X.natAbs < 10 ^ dg → 0 < q → Calls Tryz.prog 15 #[.agg #[.bool b, .slice A (dq r.num.natAbs) c, .slice A' (dq r.den) c'], .int .i64 (dg : Int), .int .i64 mode] W (DSg W 0 (decide (X < 0)) (X.natAbs / 10) (q - 1))) := by
  obtain ⟨u, lt, e0, L1, L2, p, c1, c2, c3, c4, c5, c6, k1, k2, k3, k4, k5⟩ := sig_calls h h' hb h0 hl hg
  have hd := digits_p (m := mode) (z := r.num) (d := r.den) r.den_pos hdg.1 hq hl hg
  rw [Rat.mkRat_self, hX] at hd
  have hv : 0 < X.natAbs := Nat.lt_of_lt_of_le (Nat.pow_pos (by decide)) hd.1
  have bv := d40_ hdg.2 hd.2
  have cT : ∀ W', Bel W W' → Calls Tryz.prog 14 #[.agg #[.bool b, .slice A (dq r.num.natAbs) c, .slice A' (dq r.den) c'], .int .i64 (q : Int), .int .i64 mode] W' (DTo W' true (decide (X < 0)) X.natAbs q) := fun W' hW => rto_yes (h.up hW.hid) (h'.up hW.hid) hb (by decide) h6 hm x_mul hX
  have hL := len_over (v := X.natAbs) (m := dg) hv
  refine ⟨fun h9 => rsig_to (hide c1) (hide c2) (hide c3) (hide c4) (hide qten_h) (hide c5) (hide c6) (hide cT) (hide fun W' B e k => text_len k (by omega)) (by omega) k1 k2 k3 k4 hq rfl h6 ?_, fun h9 h8 => ?_⟩
  · by_cases g : X.natAbs < 10 ^ dg
    · exact Or.inl fun k => (hL.1 k) g
    · exact Or.inr ⟨hL.2 g, h9.resolve_left g⟩
  · exact rsig_more (rv := X.natAbs % 10) (n10 := 10) (hide c1) (hide c2) (hide c3) (hide c4) (hide qten_h) (hide c5) (hide c6) (hide cT) (hide fun W' B e k => text_len k (by omega)) (hide fun W' => small_rz (n := 10) (by decide) W') (hide fun W' B e C f k k' => rDivF_any k k' (by omega) (by decide +kernel) (by decide)) (by omega) k1 k2 k3 k4 hq rfl h6 (hL.2 h9) h8 (by omega)
theorem sign_x {k : Nat} {W' : World} {C : Option Addr} {f : Nat} {B : Option Addr} {e : Nat} (g1 : Rn W' B e (10 ^ k)) (g2 : Rn W' C f 1) :
    Calls Tryz.prog 48 #[.agg #[.bool false, .slice B (dq (10 ^ k)) e, .slice C (dq 1) f]] W' (RQm W' false 1 (10 ^ k)) := by
  have h1 := rqinv_h (W := W') (z := ((10 ^ k : Nat) : Int)) (v := 1) (d := 1) (s := false) (b := false) (A := B) (c := e) ⟨by rw [Int.natAbs_natCast]; exact g1, (decide_eq_false (Int.not_lt.2 (Int.natCast_nonneg _))).symm⟩ g2 rfl rfl (by decide)
  rw [Int.natAbs_natCast] at h1
  exact h1
theorem sign_doc {k : Nat} {X : Int} (h : Rz W b A c r.num) (h' : Rn W A' c' r.den) (hb : Bd r 12) (h0 : r ≠ 0) (hl : le10 e r.num.natAbs r.den) (hg : lt10 (e + 1) r.num.natAbs r.den) (hdg : 1 ≤ dg ∧ dg ≤ 40) (hm : 1 ≤ mode ∧ mode ≤ 7)
    (hk0 : 0 < k) (hk : (dg : Int) - 1 - e = -(k : Int)) (hX : rdR mode (r * mkRat ((10 ^ 0 : Nat) : Int) (10 ^ k)) = X) :
    Calls Tryz.prog 15 #[.agg #[.bool b, .slice A (dq r.num.natAbs) c, .slice A' (dq r.den) c'], .int .i64 (dg : Int), .int .i64 mode] W (DSg W 0 (decide (X < 0)) (X.natAbs * 10 ^ k) 0) := by
  obtain ⟨u, lt, e0, L1, L2, p, c1, c2, c3, c4, c5, c6, k1, k2, k3, k4, k5⟩ := sig_calls h h' hb h0 hl hg
  have hd := digits_n (m := mode) (z := r.num) (d := r.den) r.den_pos hdg.1 hk hl hg
  rw [Rat.mkRat_self, hX] at hd
  have bv := d40_ hdg.2 hd.2
  have hk1 : k ≤ 115 := by omega
  have bt : dq (10 ^ k) ≤ 300 := Nat.le_trans (dq_words (pow115 hk1)) (by omega)
  have l1 : dq r.num.natAbs ≤ 300 := Nat.le_trans (dq_words hb.1) (by omega)
  have l2 : dq r.den ≤ 300 := Nat.le_trans (dq_words hb.2) (by omega)
  have ht : 0 < 10 ^ k := Nat.pow_pos (by decide)
  obtain ⟨x, hx⟩ : ∃ x, mkRat (r.num * 1) (r.den * 10 ^ k) = x := ⟨_, rfl⟩
  have hX2 : rdR mode x = X := by rw [← hx, x_div]; exact hX
  have bm : r.den * 10 ^ k < W32 ^ (12 + 12) := by rw [Nat.pow_add]; exact Nat.mul_lt_mul'' hb.2 (pow115 hk1)
  have bx : Bd x 24 := by
    rw [← hx]
    exact bd_of (Nat.mul_pos r.den_pos ht) (by rw [Int.mul_one]; exact Nat.lt_of_lt_of_le hb.1 (Nat.pow_le_pow_right (by decide) (by decide))) bm
  refine rsig_big (tk := 10 ^ k) (nb := 1) (k := k) (i2 := 1) (x := x) (t := X) (hide c1) (hide c2) (hide c3) (hide c4) (hide qten_h) (hide c5) (hide c6)
    (hide fun W' => (rTen_any (by omega)).mono fun _ _ ⟨A, c, he, hr, hb⟩ => ⟨A, c, he, Rn.of hr, hb⟩) (hide fun W' => small_rz (n := 1) (by decide) W') (hide fun W' B e C f g1 g2 => sign_x g1 g2)
    (hide fun W' B e C f hW g1 g2 => rqmul_h (r := x) (h.up hW.hid) (h'.up hW.hid) g1 g2 r.den_pos ht (by omega) (by omega) (by decide +kernel) (by omega) (by rw [Int.mul_one]; omega) (Nat.le_trans (dq_words bm) (by omega)) hx)
    (hide fun W' B e C f g1 g2 => rint_doc g1 g2 bx (by decide) hm hX2)
    (hide fun W' B e C f g1 g2 => (rMul_any g1.1 g2 (by omega) (by omega)).mono fun _ _ ⟨A, c, he, hr, hb⟩ => ⟨A, c, he, Rn.of hr, hb⟩) (by omega) k1 k2 k3 k4 hk (by omega) (by omega)
end
end Go.Proofs.YtmiklffjffdkgaaGreatDoor
end

section
/- Package round: what is refused, in any mode. No conditions. -/
open Go.RowKit
set_option maxRecDepth 100000
namespace Go.Proofs.YtmiklffjffdkgaaGreatDoor
section
variable {W : World} {b b2 : Bool} {A A' A2 : Option Addr} {n n' n2 c c' c2 : Nat} {m sc k2 : Int}
set_option maxHeartbeats 4000000 in
theorem to_mode (hm : ¬ (1 ≤ m ∧ m ≤ 7)) : Calls Tryz.prog 8 #[.agg #[.bool b, .slice A n c, .slice A' n' c'], .int .i64 sc, .int .i64 m] W (DEr W 1) := by
  have CM : Hid (∀ W', Calls Tryz.prog 11 #[.int .i64 m] W' (RetB W' false)) := fun W' => by
    have h1 := mode_h (W := W') (m := m)
    rwa [decide_eq_false hm] at h1
  clear hm
  have HB := Bel.refl W
  go_enter Tryz.func8, Tryz.ntmps8
  go_wp2_with (first | (go_at_call 11; (with_reducible refine (CM.out _).mono ?_); rintro e w1 ⟨rfl, hbk⟩; replace hbk := Bel.hid hbk; (with_reducible (have HR : At w1 (W.heap.size + 1) [.bool false, .slice none 0 0, .int .i64 0] := At.up (at_new1 _ _ _ _) hbk; replace HB := ((HB.al _).al _).up hbk)); have hr_0 := HR.c0; have hr_1 := HR.c1; have hr_2 := HR.c2; have hr_l := HR.lt; have hr_f0 := HR.f0; have hr_f1 := HR.f1; have hr_f2 := HR.f2) | fail)
  refine bodyPost_ret (v := .tuple #[.agg #[.bool false, .slice none 0 0, .int .i64 0], .int .i64 1]) (by simp [results, Tryz.results8, go_sem, hr_0, hr_1, hr_2]) rfl ?_
  exact ⟨rfl, (HB.uput3 (by omega) _ _ _).hid⟩
set_option maxHeartbeats 4000000 in
theorem sig_mode (hm : ¬ (1 ≤ m ∧ m ≤ 7)) : Calls Tryz.prog 9 #[.agg #[.bool b, .slice A n c, .slice A' n' c'], .int .i64 sc, .int .i64 m] W (DEr W 1) := by
  have CM : Hid (∀ W', Calls Tryz.prog 11 #[.int .i64 m] W' (RetB W' false)) := fun W' => by
    have h1 := mode_h (W := W') (m := m)
    rwa [decide_eq_false hm] at h1
  clear hm
  have HB := Bel.refl W
  go_enter Tryz.func9, Tryz.ntmps9
  go_wp2_with (first | (go_at_call 11; (with_reducible refine (CM.out _).mono ?_); rintro e w1 ⟨rfl, hbk⟩; replace hbk := Bel.hid hbk; (with_reducible (have HR : At w1 (W.heap.size + 1) [.bool false, .slice none 0 0, .int .i64 0] := At.up (at_new1 _ _ _ _) hbk; replace HB := ((HB.al _).al _).up hbk)); have hr_0 := HR.c0; have hr_1 := HR.c1; have hr_2 := HR.c2; have hr_l := HR.lt; have hr_f0 := HR.f0; have hr_f1 := HR.f1; have hr_f2 := HR.f2) | fail)
  refine bodyPost_ret (v := .tuple #[.agg #[.bool false, .slice none 0 0, .int .i64 0], .int .i64 1]) (by simp [results, Tryz.results9, go_sem, hr_0, hr_1, hr_2]) rfl ?_
  exact ⟨rfl, (HB.uput3 (by omega) _ _ _).hid⟩
set_option maxHeartbeats 4000000 in
theorem int_mode (hm : ¬ (1 ≤ m ∧ m ≤ 7)) : Calls Tryz.prog 7 #[.agg #[.bool b, .slice A n c, .slice A' n' c'], .int .i64 m] W (fun e w' => e = .returned (.tuple #[.agg #[.bool false, .slice none 0 0], .int .i64 1]) ∧ Hid (Below W.heap.size W w')) := by
  have CM : Hid (∀ W', Calls Tryz.prog 11 #[.int .i64 m] W' (RetB W' false)) := fun W' => by
    have h1 := mode_h (W := W') (m := m)
    rwa [decide_eq_false hm] at h1
  clear hm
  have HB := Bel.refl W
  go_enter Tryz.func7, Tryz.ntmps7
  go_wp2_with (first | (go_at_call 11; (with_reducible refine (CM.out _).mono ?_); rintro e w1 ⟨rfl, hbk⟩; replace hbk := Bel.hid hbk; (with_reducible (have HR : At w1 (W.heap.size + 1) [.bool false, .slice none 0 0] := At.up (at_new1 _ _ _ _) hbk; replace HB := ((HB.al _).al _).up hbk)); have hr_0 := HR.c0; have hr_1 := HR.c1; have hr_l := HR.lt; have hr_f0 := HR.f0; have hr_f1 := HR.f1) | fail)
  refine bodyPost_ret (v := .tuple #[.agg #[.bool false, .slice none 0 0], .int .i64 1]) (by simp [results, Tryz.results7, go_sem, hr_0, hr_1]) rfl ?_
  exact ⟨rfl, (HB.put2 (by omega) _ _).hid⟩
set_option maxHeartbeats 4000000 in
theorem step_mode (hm : ¬ (1 ≤ m ∧ m ≤ 7)) : Calls Tryz.prog 10 #[.agg #[.bool b, .slice A n c, .slice A' n' c'], .agg #[.bool b2, .slice A2 n2 c2, .int .i64 k2], .int .i64 m] W (DEr W 1) := by
  have CM : Hid (∀ W', Calls Tryz.prog 11 #[.int .i64 m] W' (RetB W' false)) := fun W' => by
    have h1 := mode_h (W := W') (m := m)
    rwa [decide_eq_false hm] at h1
  clear hm
  have HB := Bel.refl W
  go_enter Tryz.func10, Tryz.ntmps10
  go_wp2_with (first | (go_at_call 11; (with_reducible refine (CM.out _).mono ?_); rintro e w1 ⟨rfl, hbk⟩; replace hbk := Bel.hid hbk; (with_reducible (have H1 : At w1 (W.heap.size + 1) [.bool b2, .slice A2 n2 c2, .int .i64 k2] := At.up ((at_new1 _ _ _ _).al _) hbk; have HR : At w1 (W.heap.size + 1 + 1) [.bool false, .slice none 0 0, .int .i64 0] := At.up (at_new2 _ _ _ _ _) hbk; replace HB := (((HB.al _).al _).al _).up hbk)); have h1_0 := H1.c0; have h1_1 := H1.c1; have h1_2 := H1.c2; have h1_l := H1.lt; have hr_0 := HR.c0; have hr_1 := HR.c1; have hr_2 := HR.c2; have hr_l := HR.lt; have hr_f0 := HR.f0; have hr_f1 := HR.f1; have hr_f2 := HR.f2) | fail)
  refine bodyPost_ret (v := .tuple #[.agg #[.bool false, .slice none 0 0, .int .i64 0], .int .i64 1]) (by simp [results, Tryz.results10, go_sem, hr_0, hr_1, hr_2]) rfl ?_
  exact ⟨rfl, (HB.uput3 (by omega) _ _ _).hid⟩
set_option maxHeartbeats 4000000 in
theorem step_bad (hm : 1 ≤ m ∧ m ≤ 7) (hG : ∀ W', Bel W W' → Calls Tryz.prog 16 #[.agg #[.bool b2, .slice A2 n2 c2, .int .i64 k2]] W' (RetB W' false)) : Calls Tryz.prog 10 #[.agg #[.bool b, .slice A n c, .slice A' n' c'], .agg #[.bool b2, .slice A2 n2 c2, .int .i64 k2], .int .i64 m] W (DEr W 1) := by
  have CM : Hid (∀ W', Calls Tryz.prog 11 #[.int .i64 m] W' (RetB W' true)) := fun W' => by
    have h1 := mode_h (W := W') (m := m)
    rwa [decide_eq_true hm] at h1
  have CG := hide hG
  clear hm hG
  have HB := Bel.refl W
  go_enter Tryz.func10, Tryz.ntmps10
  go_wp2_with (first | (go_at_call 11; (with_reducible refine (CM.out _).mono ?_); rintro e w1 ⟨rfl, hbk⟩; replace hbk := Bel.hid hbk; (with_reducible (have H1 : At w1 (W.heap.size + 1) [.bool b2, .slice A2 n2 c2, .int .i64 k2] := At.up ((at_new1 _ _ _ _).al _) hbk; have HR : At w1 (W.heap.size + 1 + 1) [.bool false, .slice none 0 0, .int .i64 0] := At.up (at_new2 _ _ _ _ _) hbk; replace HB := (((HB.al _).al _).al _).up hbk)); have h1_0 := H1.c0; have h1_1 := H1.c1; have h1_2 := H1.c2; have h1_l := H1.lt; have hr_0 := HR.c0; have hr_1 := HR.c1; have hr_2 := HR.c2; have hr_l := HR.lt; have hr_f0 := HR.f0; have hr_f1 := HR.f1; have hr_f2 := HR.f2) | (go_at_call 16; (with_reducible refine (CG.out _ HB).mono ?_); rintro e w2 ⟨rfl, hbk⟩; replace hbk := Bel.hid hbk; (with_reducible (replace HB := HB.up hbk; replace H1 := H1.up hbk; replace HR := HR.up hbk)); clear h1_0 h1_1 h1_2 h1_l hr_0 hr_1 hr_2 hr_l hr_f0 hr_f1 hr_f2; have h1_0 := H1.c0; have h1_1 := H1.c1; have h1_2 := H1.c2; have h1_l := H1.lt; have hr_0 := HR.c0; have hr_1 := HR.c1; have hr_2 := HR.c2; have hr_l := HR.lt; have hr_f0 := HR.f0; have hr_f1 := HR.f1; have hr_f2 := HR.f2) | fail)
  refine bodyPost_ret (v := .tuple #[.agg #[.bool false, .slice none 0 0, .int .i64 0], .int .i64 1]) (by simp [results, Tryz.results10, go_sem, hr_0, hr_1, hr_2]) rfl ?_
  exact ⟨rfl, (HB.uput3 (by omega) _ _ _).hid⟩
set_option maxHeartbeats 4000000 in
theorem step_neg (hm : 1 ≤ m ∧ m ≤ 7) (hG : ∀ W', Bel W W' → Calls Tryz.prog 16 #[.agg #[.bool true, .slice A2 n2 c2, .int .i64 k2]] W' (RetB W' true)) : Calls Tryz.prog 10 #[.agg #[.bool b, .slice A n c, .slice A' n' c'], .agg #[.bool true, .slice A2 n2 c2, .int .i64 k2], .int .i64 m] W (DEr W 1) := by
  have CM : Hid (∀ W', Calls Tryz.prog 11 #[.int .i64 m] W' (RetB W' true)) := fun W' => by
    have h1 := mode_h (W := W') (m := m)
    rwa [decide_eq_true hm] at h1
  have CG := hide hG
  clear hm hG
  have HB := Bel.refl W
  go_enter Tryz.func10, Tryz.ntmps10
  go_wp2_with (first | (go_at_call 11; (with_reducible refine (CM.out _).mono ?_); rintro e w1 ⟨rfl, hbk⟩; replace hbk := Bel.hid hbk; (with_reducible (have H1 : At w1 (W.heap.size + 1) [.bool true, .slice A2 n2 c2, .int .i64 k2] := At.up ((at_new1 _ _ _ _).al _) hbk; have HR : At w1 (W.heap.size + 1 + 1) [.bool false, .slice none 0 0, .int .i64 0] := At.up (at_new2 _ _ _ _ _) hbk; replace HB := (((HB.al _).al _).al _).up hbk)); have h1_0 := H1.c0; have h1_1 := H1.c1; have h1_2 := H1.c2; have h1_l := H1.lt; have hr_0 := HR.c0; have hr_1 := HR.c1; have hr_2 := HR.c2; have hr_l := HR.lt; have hr_f0 := HR.f0; have hr_f1 := HR.f1; have hr_f2 := HR.f2) | (go_at_call 16; (with_reducible refine (CG.out _ HB).mono ?_); rintro e w2 ⟨rfl, hbk⟩; replace hbk := Bel.hid hbk; (with_reducible (replace HB := HB.up hbk; replace H1 := H1.up hbk; replace HR := HR.up hbk)); clear h1_0 h1_1 h1_2 h1_l hr_0 hr_1 hr_2 hr_l hr_f0 hr_f1 hr_f2; have h1_0 := H1.c0; have h1_1 := H1.c1; have h1_2 := H1.c2; have h1_l := H1.lt; have hr_0 := HR.c0; have hr_1 := HR.c1; have hr_2 := HR.c2; have hr_l := HR.lt; have hr_f0 := HR.f0; have hr_f1 := HR.f1; have hr_f2 := HR.f2) | fail)
  refine bodyPost_ret (v := .tuple #[.agg #[.bool false, .slice none 0 0, .int .i64 0], .int .i64 1]) (by simp [results, Tryz.results10, go_sem, hr_0, hr_1, hr_2]) rfl ?_
  exact ⟨rfl, (HB.uput3 (by omega) _ _ _).hid⟩
set_option maxHeartbeats 4000000 in
theorem step_zero (hm : 1 ≤ m ∧ m ≤ 7) (h2 : Nm W A2 n2 c2 0) (hG : ∀ W', Bel W W' → Calls Tryz.prog 16 #[.agg #[.bool false, .slice A2 n2 c2, .int .i64 k2]] W' (RetB W' true)) : Calls Tryz.prog 10 #[.agg #[.bool b, .slice A n c, .slice A' n' c'], .agg #[.bool false, .slice A2 n2 c2, .int .i64 k2], .int .i64 m] W (DEr W 1) := by
  have CM : Hid (∀ W', Calls Tryz.prog 11 #[.int .i64 m] W' (RetB W' true)) := fun W' => by
    have h1 := mode_h (W := W') (m := m)
    rwa [decide_eq_true hm] at h1
  have CG := hide hG
  have CC : Hid (∀ W', Bel W W' → Calls Tryz.prog 31 #[.agg #[.slice A2 n2 c2], .agg #[.slice none 0 0]] W' (IntPost W' 0)) := fun W' hW => cmp_h (h2.up hW.hid) (nm_nil W' none 0) (cmpI_eq rfl)
  clear hm hG h2
  have HB := Bel.refl W
  go_enter Tryz.func10, Tryz.ntmps10
  go_wp2_with (first | (go_at_call 11; (with_reducible refine (CM.out _).mono ?_); rintro e w1 ⟨rfl, hbk⟩; replace hbk := Bel.hid hbk; (with_reducible (have H1 : At w1 (W.heap.size + 1) [.bool false, .slice A2 n2 c2, .int .i64 k2] := At.up ((at_new1 _ _ _ _).al _) hbk; have HR : At w1 (W.heap.size + 1 + 1) [.bool false, .slice none 0 0, .int .i64 0] := At.up (at_new2 _ _ _ _ _) hbk; replace HB := (((HB.al _).al _).al _).up hbk)); have h1_0 := H1.c0; have h1_1 := H1.c1; have h1_2 := H1.c2; have h1_l := H1.lt; have hr_0 := HR.c0; have hr_1 := HR.c1; have hr_2 := HR.c2; have hr_l := HR.lt; have hr_f0 := HR.f0; have hr_f1 := HR.f1; have hr_f2 := HR.f2) | (go_at_call 16; (with_reducible refine (CG.out _ HB).mono ?_); rintro e w2 ⟨rfl, hbk⟩; replace hbk := Bel.hid hbk; (with_reducible (replace HB := HB.up hbk; replace H1 := H1.up hbk; replace HR := HR.up hbk)); clear h1_0 h1_1 h1_2 h1_l hr_0 hr_1 hr_2 hr_l hr_f0 hr_f1 hr_f2; have h1_0 := H1.c0; have h1_1 := H1.c1; have h1_2 := H1.c2; have h1_l := H1.lt; have hr_0 := HR.c0; have hr_1 := HR.c1; have hr_2 := HR.c2; have hr_l := HR.lt; have hr_f0 := HR.f0; have hr_f1 := HR.f1; have hr_f2 := HR.f2) | (go_at_call 31; (with_reducible refine (CC.out _ HB).mono ?_); rintro e w3 ⟨rfl, hbk⟩; (with_reducible (replace HB := HB.up hbk; replace H1 := H1.up hbk; replace HR := HR.up hbk)); clear h1_0 h1_1 h1_2 h1_l hr_0 hr_1 hr_2 hr_l hr_f0 hr_f1 hr_f2; have h1_0 := H1.c0; have h1_1 := H1.c1; have h1_2 := H1.c2; have h1_l := H1.lt; have hr_0 := HR.c0; have hr_1 := HR.c1; have hr_2 := HR.c2; have hr_l := HR.lt; have hr_f0 := HR.f0; have hr_f1 := HR.f1; have hr_f2 := HR.f2) | fail)
  refine bodyPost_ret (v := .tuple #[.agg #[.bool false, .slice none 0 0, .int .i64 0], .int .i64 1]) (by simp [results, Tryz.results10, go_sem, hr_0, hr_1, hr_2]) rfl ?_
  exact ⟨rfl, (HB.uput3 (by omega) _ _ _).hid⟩
end
end Go.Proofs.YtmiklffjffdkgaaGreatDoor
end
