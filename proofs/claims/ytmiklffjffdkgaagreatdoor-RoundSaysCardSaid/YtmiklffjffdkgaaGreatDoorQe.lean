/- Package rat: Cmp, Neg, Add, Mul, Inv. Conditions: terms of at most 20000 words. -/
import Derived.Test.YtmiklffjffdkgaaGreatDoorGRwbc16
open Go.RowKit
set_option maxRecDepth 100000
namespace Go.Proofs.YtmiklffjffdkgaaGreatDoor
theorem bd_mul {x y K L : Nat} (hx : x < W32 ^ K) (hy : y < W32 ^ L) : x * y < W32 ^ (K + L) := by
  rw [Nat.pow_add]
  rcases Nat.eq_zero_or_pos y with h | h
  · subst h; rw [Nat.mul_zero]; exact Nat.mul_pos (Nat.pow_pos (by decide)) (Nat.pow_pos (by decide))
  · exact Nat.lt_of_lt_of_le (Nat.mul_lt_mul_of_pos_right hx h) (Nat.mul_le_mul_left _ (Nat.le_of_lt hy))
theorem bd_add {x y K : Nat} (hx : x < W32 ^ K) (hy : y < W32 ^ K) : x + y < W32 ^ (K + 1) := by
  rw [Nat.pow_succ, show W32 = 4294967296 from rfl] at *
  omega
theorem dl_bd2 {x K : Nat} (hx : x < W32 ^ K) (hK : K ≤ 99999) : dl x ≤ 99999 := Nat.le_trans (dl_le hx) hK
/-- What stands over and under a line. -/
def TT (z : Int) (d : Nat) (r : Rat) (K : Nat) : Prop := 0 < d ∧ mkRat z d = r ∧ z.natAbs < W32 ^ K ∧ d < W32 ^ K
section
variable {W : World} {b b' s s' : Bool} {A A' B B' : Option Addr} {n n' c c' m m' k k' e e' : Nat} {z z' : Int} {r r' : Rat} {K L d d' : Nat}
theorem times_b (hz : ZA W s B k e z) (hd : Nm W B' k' e' d) (bz : z.natAbs < W32 ^ K) (bd : d < W32 ^ L) (hK : K + L ≤ 99999) : Calls Tryz.prog 103 #[.agg #[.bool s, .slice B k e], .agg #[.slice B' k' e']] W (ZR W (z * (d : Int))) :=
  times_h hz hd rfl (by rw [Int.natAbs_mul, Int.natAbs_natCast]; exact Nat.le_trans (dl_le (bd_mul bz bd)) (by omega))
theorem bd_zmul {z : Int} (bz : z.natAbs < W32 ^ K) (bd : d < W32 ^ L) : (z * (d : Int)).natAbs < W32 ^ (K + L) := by rw [Int.natAbs_mul, Int.natAbs_natCast]; exact bd_mul bz bd
theorem bd_zadd {x y : Int} (hx : x.natAbs < W32 ^ K) (hy : y.natAbs < W32 ^ K) : (x + y).natAbs < W32 ^ (K + 1) := Nat.lt_of_le_of_lt (Int.natAbs_add_le x y) (bd_add hx hy)
theorem tt_add (h : TT z d r K) (h' : TT z' d' r' K) : 0 < d * d' ∧ mkRat (z * (d' : Int) + z' * (d : Int)) (d * d') = r + r' ∧ (z * (d' : Int) + z' * (d : Int)).natAbs < W32 ^ (K + K + 1) ∧ d * d' < W32 ^ (K + K) :=
  ⟨Nat.mul_pos h.1 h'.1, by rw [← h.2.1, ← h'.2.1, add_mk h.1 h'.1], bd_zadd (bd_zmul h.2.2.1 h'.2.2.2) (bd_zmul h'.2.2.1 h.2.2.2), bd_mul h.2.2.2 h'.2.2.2⟩
theorem tt_mul (h : TT z d r K) (h' : TT z' d' r' K) : 0 < d * d' ∧ mkRat (z * z') (d * d') = r * r' ∧ (z * z').natAbs < W32 ^ (K + K) ∧ d * d' < W32 ^ (K + K) :=
  ⟨Nat.mul_pos h.1 h'.1, by rw [← h.2.1, ← h'.2.1, mul_mk], by rw [Int.natAbs_mul]; exact bd_mul h.2.2.1 h'.2.2.1, bd_mul h.2.2.2 h'.2.2.2⟩
theorem tt_neg (h : TT z d r K) : TT (-z) d (-r) K := ⟨h.1, by rw [← h.2.1, neg_mk], by rw [Int.natAbs_neg]; exact h.2.2.1, h.2.2.2⟩
theorem lowest_t (hz : ZA W s B k e z) (hd : Nm W B' k' e' d) (h0 : 0 < d ∧ mkRat z d = r ∧ z.natAbs < W32 ^ K ∧ d < W32 ^ L) (hK : K ≤ 99999) (hL : L ≤ 99999) : Calls Tryz.prog 88 #[.agg #[.bool s, .slice B k e], .agg #[.slice B' k' e']] W (QR W r) :=
  lowest_h hz hd h0.1 h0.2.1 (dl_bd2 h0.2.2.1 hK) (dl_bd2 h0.2.2.2 hL)

set_option maxHeartbeats 4000000 in
theorem rcmp_h (h : QA W b A n c A' n' c' r K) (h' : QA W b' B k e B' k' e' r' K) (hK : 0 < K) (hK2 : K ≤ 20000) : Calls Tryz.prog 72 #[.agg #[.bool b, .slice A n c, .slice A' n' c'], .agg #[.bool b', .slice B k e, .slice B' k' e']] W (IntPost W (cmpR r r')) := by
  have CTa : Hid (∀ W', Bel W W' → Calls Tryz.prog 69 #[.agg #[.bool b, .slice A n c, .slice A' n' c']] W' (TermsR W' r K)) := fun W' hb => terms_h (h.up hb) hK
  have CTb : Hid (∀ W', Bel W W' → Calls Tryz.prog 69 #[.agg #[.bool b', .slice B k e, .slice B' k' e']] W' (TermsR W' r' K)) := fun W' hb => terms_h (h'.up hb) hK
  have CX : Hid (∀ W' s B k e B' k' e' (z : Int) (d : Nat) r1 r2 (z2 : Int) (d2 : Nat) (v : Int), Hid (v = z * (d : Int)) → ZA W' s B k e z → Nm W' B' k' e' d → Hid (TT z d2 r1 K) → Hid (TT z2 d r2 K) → Calls Tryz.prog 103 #[.agg #[.bool s, .slice B k e], .agg #[.slice B' k' e']] W' (ZR W' v)) := fun W' s B k e B' k' e' z d r1 r2 z2 d2 v hv hz hd h1 h2 => by rw [hv.out]; exact times_b hz hd h1.out.2.2.1 h2.out.2.2.2 (by omega)
  have CC : Hid (∀ W' s B k e s' B' k' e' (z : Int) (d : Nat) (z' : Int) (d' : Nat) (x y : Int), Hid (x = z * (d' : Int)) → Hid (y = z' * (d : Int)) → ZA W' s B k e x → ZA W' s' B' k' e' y → Hid (TT z d r K) → Hid (TT z' d' r' K) → Calls Tryz.prog 102 #[.agg #[.bool s, .slice B k e], .agg #[.bool s', .slice B' k' e']] W' (IntPost W' (cmpR r r'))) := fun W' s B k e s' B' k' e' z d z' d' x y hx hy h1 h2 t1 t2 => zcmp_h h1 h2 (by rw [hx.out, hy.out, ← t1.out.2.1, ← t2.out.2.1, cmp_mk t1.out.1 t2.out.1]; rfl)
  clear h h'
  have HB := Bel.refl W
  go_enter Tryz.func72, Tryz.ntmps72
  go_wp2_with (first | (go_at_call 69; (with_reducible refine (CTa.out _ ((HB.al _).al _)).mono ?_); rintro e w1 ⟨ps, pA, pn, pc, pB, pm, pe, pz, pd, rfl, pzz, pnn, ph, hbk⟩; have HX := At.up ((at_new0 _ _ _).al _) hbk; have HY := At.up (at_new1 _ _ _ _) hbk; replace HB := ((HB.al _).al _).up hbk; have hy_0 := HY.c0; have hy_1 := HY.c1; have hy_2 := HY.c2; have hy_l := HY.lt; have hy2 : W.heap.size < w1.heap.size := (by omega); replace ph : Hid (TT pz pd r K) := ph) | (go_at_call 69; (with_reducible refine (CTb.out _ ((HB.al _).al _)).mono ?_); rintro e w2 ⟨qs, qA, qn, qc, qB, qm, qe, qz, qd, rfl, qzz, qnn, qh, hbk⟩; have HP := At.up ((at_new0 _ _ _).al _) hbk; have HN := At.up (at_new1 _ _ _ _) hbk; replace HB := ((HB.al _).al _).up hbk; replace pzz := ((pzz.al _).al _).up hbk; replace pnn := ((pnn.al _).al _).up hbk; clear hy_0 hy_1 hy_2 hy_l hy2; have hp_l := HP.lt; have hn_l := HN.lt; replace qh : Hid (TT qz qd r' K) := qh) | fail)
  go_region_held3 (fun w' => w'.cell? ⟨w1.heap.size, 0, none⟩ = some (.bool ps) ∧ w'.cell? ⟨w1.heap.size, 1, none⟩ = some (.slice pA pn pc) ∧ w'.cell? ⟨w1.heap.size + 1, 0, none⟩ = some (.slice pB pm pe) ∧ w'.cell? ⟨w2.heap.size, 0, none⟩ = some (.bool qs) ∧ w'.cell? ⟨w2.heap.size, 1, none⟩ = some (.slice qA qn qc) ∧ w'.cell? ⟨w2.heap.size + 1, 0, none⟩ = some (.slice qB qm qe))
    (first | exact ⟨((HP.al _).al _).dr.c0, ((HP.al _).al _).dr.c1, ((HN.al _).al _).dr.c0, ((at_new0 _ _ _).al _).dr.c0, ((at_new0 _ _ _).al _).dr.c1, (at_new1 _ _ _ _).dr.c0⟩ | exact ⟨HP.c0, HP.c1, HN.c0, HV.c0, HV.c1, HM.c0⟩)
    (first | (go_at_call 103; obtain ⟨xv, hxv⟩ : ∃ v : Int, Hid (v = pz * (qd : Int)) := ⟨_, rfl⟩; (with_reducible refine (CX.out _ _ _ _ _ _ _ _ _ _ _ _ _ _ xv hxv ((pzz.al _).al _).dr ((qnn.al _).al _).dr ph qh).mono ?_); rintro e w3 ⟨xA, xc, rfl, x1, hbk⟩; have HV := At.up ((at_new0 _ _ _).al _).dr hbk; have HM := At.up (at_new1 _ _ _ _).dr hbk; replace HB := ((HB.al _).al _).dr.up hbk; replace HP := ((HP.al _).al _).dr.up hbk; replace HN := ((HN.al _).al _).dr.up hbk; replace pzz := ((pzz.al _).al _).dr.up hbk; replace pnn := ((pnn.al _).al _).dr.up hbk; replace qzz := ((qzz.al _).al _).dr.up hbk; replace qnn := ((qnn.al _).al _).dr.up hbk) | (go_at_call 103; obtain ⟨yv, hyv⟩ : ∃ v : Int, Hid (v = qz * (pd : Int)) := ⟨_, rfl⟩; (with_reducible refine (CX.out _ _ _ _ _ _ _ _ _ _ _ _ _ _ yv hyv qzz pnn qh ph).mono ?_); rintro e w4 ⟨yA, yc, rfl, y1, hbk⟩; replace HB := HB.up hbk; replace HP := HP.up hbk; replace HN := HN.up hbk; replace HV := HV.up hbk; replace HM := HM.up hbk; replace pzz := pzz.up hbk; replace pnn := pnn.up hbk; replace qzz := qzz.up hbk; replace qnn := qnn.up hbk; replace x1 := x1.up hbk) | (go_at_call 102; (with_reducible refine (CC.out _ _ _ _ _ _ _ _ _ _ _ _ _ _ _ hxv hyv x1 y1 ph qh).mono ?_); rintro e w5 ⟨rfl, hbk⟩; replace HB := HB.up hbk; replace HP := HP.up hbk; replace HN := HN.up hbk; replace HV := HV.up hbk; replace HM := HM.up hbk) | fail)
  go_wp2
  go_ret
  exact ⟨rfl, HB⟩

end
end Go.Proofs.YtmiklffjffdkgaaGreatDoor
