/- Several texts in one, each with its own sentence and conditions. -/
import Derived.Test.YtphnmccpcjecnaaGreatDoorGDsbc8
import Derived.Test.YtphnmccpcjecnaaGreatDoorGDsbc13
import Derived.Test.YtphnmccpcjecnaaGreatDoorGDsbc1
import Derived.Test.YtphnmccpcjecnaaGreatDoorGDsbc14
section
/- Parted from Rgc: by function. -/
open Go.RowKit
set_option maxRecDepth 100000
namespace Go.Proofs.YtphnmccpcjecnaaGreatDoor
section
set_option maxHeartbeats 2000000 in
theorem rGcd_any {A A' : Option Addr} {m n c c' : Nat} {w : World} (h : RN w w.heap.size A c m) (h' : RN w w.heap.size A' c' n) (hl : dq m ≤ 99999) (hl' : dq n ≤ 99999) :
    Calls Tryz.prog 109 #[.slice A (dq m) c, .slice A' (dq n) c'] w (RefPost w (Nat.gcd m n)) := by
  have HX := hide h
  have HY := hide h'
  have HL := hide hl
  have HL' := hide hl'
  clear h h' hl hl'
  go_enter Tryz.func109, Tryz.ntmps109
  go_wp2_with fail
  go_loopg [0, 1] n (fun K xv yv wr => ∃ (X Y : Nat) (A1 A2 : Option Addr) (c1 c2 : Nat), Hid (Y ≤ K) ∧ xv = .slice A1 (dq X) c1 ∧ yv = .slice A2 (dq Y) c2 ∧ Hid (RN wr wr.heap.size A1 c1 X) ∧ Hid (RN wr wr.heap.size A2 c2 Y) ∧ Hid (Nat.gcd X Y = Nat.gcd m n) ∧ Hid (dq X ≤ 99999 ∧ dq Y ≤ 99999) ∧ Hid (Below w.heap.size w wr))
  case atStart => exact ⟨m, n, _, _, _, _, Nat.le_refl _, rfl, rfl, HX, HY, rfl, ⟨HL.out, HL'.out⟩, Below.refl _ _⟩
  case round =>
    obtain ⟨X, Y, A1, A2, c1, c2, hK, rfl, rfl, hX, hY, hg, hd, hbl⟩ := hrel
    by_cases h0 : Y = 0
    · have hy0 : dq Y = 0 := by rw [h0]; exact dq_zero
      have HG : Hid (Nat.gcd m n = X) := by unfold Hid; rw [← hg.out, h0, Nat.gcd_zero_right]
      clear h0
      go_wp2_with fail
      go_ret
      rw [HG.out]
      exact ⟨A1, c1, rfl, hX, hbl⟩
    · have hy0 : 0 < dq Y := dq_pos.2 (by omega)
      have CD : Hid (Calls Tryz.prog 64 #[.slice A1 (dq X) c1, .slice A2 (dq Y) c2] wr (RDivR wr (X / Y) (X % Y))) := rDiv_any hX.out hY.out hd.out.1 hd.out.2 (by omega)
      have H0 := hide h0
      clear h0
      go_wp2_with (go_at_call 64; (with_reducible refine CD.out.mono ?_); rintro e w4 ⟨A3, c3, A4, c4, rfl, hq, hr, hb4⟩)
      go_roundg (X % Y)
      case measure => exact Nat.lt_of_lt_of_le (Nat.mod_lt _ (Nat.pos_of_ne_zero H0.out)) hK.out
      case rel =>
        refine ⟨Y, X % Y, A2, A4, c2, c4, Nat.le_refl _, rfl, rfl, (hY.out.below hb4.out).more hb4.out.size, hr, ?_, ⟨hd.out.2, Nat.le_trans (digs_len_mono (by decide) (Nat.mod_le _ _)) hd.out.1⟩, hbl.out.trans (hb4.out.mono hbl.out.size)⟩
        unfold Hid; rw [gcd_step]; exact hg.out
end
end Go.Proofs.YtphnmccpcjecnaaGreatDoor
end

section
/- Parted from Rgd: by function. -/
open Go.RowKit
set_option maxRecDepth 100000
namespace Go.Proofs.YtphnmccpcjecnaaGreatDoor
section
variable {W : World} {A A' : Option Addr} {c c' m : Nat} {z : Int}
set_option maxHeartbeats 2000000 in
theorem rqof_h {b : Bool} {d : Nat} {r : Rat} (h : Rn W A c z.natAbs) (h' : Rn W A' c' d) (hz : z = zi b z.natAbs) (h0 : 0 < d) (hr : mkRat z d = r) (hl : dq z.natAbs ≤ 99999) (hl' : dq d ≤ 99999) :
    Calls Tryz.prog 56 #[.agg #[.bool b, .slice A (dq z.natAbs) c], .slice A' (dq d) c'] W (RQ W r) := by
  obtain ⟨g, hg⟩ : ∃ g, g = Nat.gcd z.natAbs d := ⟨_, rfl⟩
  obtain ⟨hg0, e1, e2, e3, e4, e5⟩ := low_terms (z := z) h0 hg
  rw [hr] at e1 e2 e5
  obtain ⟨v, hv⟩ : ∃ v, v = r.num.natAbs := ⟨_, rfl⟩
  obtain ⟨u, hu⟩ : ∃ u, u = r.den := ⟨_, rfl⟩
  obtain ⟨m, hm⟩ : ∃ m, m = z.natAbs := ⟨_, rfl⟩
  rw [← hm] at h hl hg e1 e3 ⊢
  obtain ⟨s, hs⟩ : ∃ s, s = decide (r.num < 0) := ⟨_, rfl⟩
  have hgl : g ≤ d := Nat.le_of_dvd h0 (by rw [hg]; exact Nat.gcd_dvd_right _ _)
  have hgd : dq g ≤ 99999 := Nat.le_trans (dq_mono hgl) hl'
  have CG : Hid (∀ W', Bel W W' → Calls Tryz.prog 109 #[.slice A (dq m) c, .slice A' (dq d) c'] W' (RefPost W' g)) := fun W' hb => by
    have h1 := rGcd_any (h.up hb) (h'.up hb) hl hl'
    rw [← hg] at h1
    exact h1
  have CD : Hid (∀ W' B e, Bel W W' → Rn W' B e g → Calls Tryz.prog 64 #[.slice A (dq m) c, .slice B (dq g) e] W' (RDivR W' v 0)) := fun W' B e hb hn => by
    have h1 := rDiv_any (h.up hb) hn hl hgd hg0
    rw [e3, ← e1, ← hv] at h1
    exact h1
  have CE : Hid (∀ W' B e, Bel W W' → Rn W' B e g → Calls Tryz.prog 64 #[.slice A' (dq d) c', .slice B (dq g) e] W' (RDivR W' u 0)) := fun W' B e hb hn => by
    have h1 := rDiv_any (h'.up hb) hn hl' hgd hg0
    rw [e4, ← e2, ← hu] at h1
    exact h1
  have CZ : Hid (∀ W' B e, Rn W' B e v → Calls Tryz.prog 57 #[.bool b, .slice B (dq v) e] W' (RZb W' s B (dq v) e v)) := fun W' B e hn => rzof_h hn (by
    rw [hs, e5, zsig hz, ← hm]
    congr 1
    refine decide_eq_decide.2 ⟨fun h => ?_, fun h => ?_⟩
    · rw [hv, e1]; exact Nat.div_pos (Nat.le_of_dvd h (Nat.dvd_of_mod_eq_zero e3)) hg0
    · rcases Nat.eq_zero_or_pos m with hm0 | hm0
      · rw [hv, e1, hm0, Nat.zero_div] at h; exact absurd h (Nat.lt_irrefl 0)
      · exact hm0)
  have HV := hide hv
  have HU := hide hu
  have HS := hide hs
  clear h h' hz h0 hr hl hl' hg hg0 e1 e2 e3 e4 e5 hv hu hm hs hgd hgl
  have HB := Bel.refl W
  go_enter Tryz.func56, Tryz.ntmps56
  go_wp2_with (first | (go_at_call 109; (with_reducible refine (CG.out _ ((HB.al _).al _)).mono ?_); rintro e w1 ⟨Ag, cg, rfl, ng, hbk⟩; have HP := At.up ((at_new0 _ _ _).al _) hbk; have HR := At.up (at_new1 _ _ _ _) hbk; replace HB := ((HB.al _).al _).up hbk; have hp_0 := HP.c0; have hp_1 := HP.c1; have hp_l := HP.lt; replace ng := Rn.of ng) | (go_at_call 64; (with_reducible refine (CD.out _ _ _ HB ng).mono ?_); rintro e w2 ⟨Ao, co, Ax, cx, rfl, no, nx, hbk⟩; replace HB := HB.up hbk; replace HP := HP.up hbk; replace HR := HR.up hbk; replace ng := ng.up hbk; clear hp_0 hp_1 hp_l; have hp_0 := HP.c0; have hp_1 := HP.c1; have hp_l := HP.lt; replace no := Rn.of no) | (go_at_call 64; (with_reducible refine (CE.out _ _ _ HB ng).mono ?_); rintro e w3 ⟨Au, cu, Ay, cy, rfl, nu, ny, hbk⟩; replace HB := HB.up hbk; replace HP := HP.up hbk; replace HR := HR.up hbk; replace no := no.up hbk; clear hp_0 hp_1 hp_l; have hp_0 := HP.c0; have hp_1 := HP.c1; have hp_l := HP.lt; replace nu := Rn.of nu) | (go_at_call 57; (with_reducible refine (CZ.out _ _ _ no).mono ?_); rintro e w4 ⟨rfl, nz, hbk⟩; replace HB := HB.up hbk; replace HR := HR.up hbk; replace nu := nu.up hbk; clear hp_0 hp_1 hp_l; have hr_0 := HR.c0; have hr_1 := HR.c1; have hr_2 := HR.c2; have hr_l := HR.lt; have hr_f0 := HR.f0; have hr_f1 := HR.f1; have hr_f2 := HR.f2) | fail)
  refine bodyPost_ret (v := .agg #[.bool s, .slice Ao (dq v) co, .slice Au (dq u) cu]) (by simp [results, Tryz.results56, go_sem, hr_0, hr_1, hr_2]) rfl ?_
  have hv := HV.out
  have hu := HU.out
  have hs := HS.out
  subst hv
  subst hu
  subst hs
  exact ⟨Ao, co, Au, cu, rfl, nz.put3 HR, nu.put3 HR, below3 HB (by omega) _ _ _⟩
end
end Go.Proofs.YtphnmccpcjecnaaGreatDoor
end

section
/- The document's own numbers: Pow. Conditions: every power up to the last has at most 100000 fours of digits. -/
open Go.RowKit
set_option maxRecDepth 100000
namespace Go.Proofs.YtphnmccpcjecnaaGreatDoor
set_option maxHeartbeats 1000000 in
theorem rPow_any {A : Option Addr} {c m k : Nat} {w : World} (h : RN w w.heap.size A c m) (hk : k ≤ 1000000) (hb : ∀ i, i ≤ k → dq (m ^ i) ≤ 100000) (hm : dq m ≤ 100000) :
    Calls Tryz.prog 107 #[.slice A (dq m) c, .int .i64 (k : Int)] w (RefPost w (m ^ k)) := by
  have H := hide h
  have HB := hide hb
  have CO : Hid (∀ W, Calls Tryz.prog 42 #[.int .u64 1] W (RefPost W 1)) := fun W => Small_any (n := 1) (w := W) (by decide)
  clear h hb
  go_enter Tryz.func107, Tryz.ntmps107
  go_wp2_with (first | (go_at_call 42; go_must (refine (CO.out _).mono ?_); rintro e w1 ⟨A1, c1, rfl, hr1, hb1⟩))
  go_loopw [5, 6] (fun rv iv wr => ∃ (i : Nat) (B : Option Addr) (d : Nat), i ≤ k ∧ iv = .int .i64 (i : Int) ∧ rv = .slice B (dq (m ^ i)) d ∧ Hid (RN wr wr.heap.size B d (m ^ i)) ∧ Hid (Below w.heap.size w wr))
    (fun _ iv _ => k - (intOf iv).toNat)
  case atStart => exact ⟨0, A1, c1, Nat.zero_le _, rfl, by rw [Nat.pow_zero], by rw [Nat.pow_zero]; exact hr1, hb1⟩
  case round =>
    obtain ⟨i, B, d, hi, rfl, rfl, hr, hbel⟩ := hrel
    by_cases hlt : i < k
    · have CM : Hid (Calls Tryz.prog 87 #[.slice B (dq (m ^ i)) d, .slice A (dq m) c] wr (RefPost wr (m ^ (i + 1)))) := by
        unfold Hid
        rw [Nat.pow_succ]
        exact rMul_any hr.out ((H.out.below hbel.out).more hbel.out.size) (HB.out i hi) hm
      go_wp2_with (first | (go_at_call 87; go_must (refine CM.out.mono ?_); rintro e w2 ⟨B2, d2, rfl, hr2, hb2⟩))
      go_roundw
      case rel => exact ⟨i + 1, B2, d2, by omega, by go_num, rfl, hr2, hbel.out.trans (hb2.out.mono hbel.out.size)⟩
      case measure => simp [intOf]; omega
    · obtain rfl : i = k := by omega
      go_wp2
      go_ret
      exact ⟨B, d, rfl, hr, hbel⟩
set_option maxHeartbeats 1000000 in
/-- Of a power below 1: 1. -/
theorem rPow_low {A : Option Addr} {n c : Nat} {k : Int} {w : World} (hk : k ≤ 0) (hk2 : -9223372036854775808 ≤ k) : Calls Tryz.prog 107 #[.slice A n c, .int .i64 k] w (RefPost w 1) := by
  have CO : Hid (∀ W, Calls Tryz.prog 42 #[.int .u64 1] W (RefPost W 1)) := fun W => Small_any (n := 1) (w := W) (by decide)
  go_enter Tryz.func107, Tryz.ntmps107
  go_wp2_with (first | (go_at_call 42; go_must (refine (CO.out _).mono ?_); rintro e w1 ⟨A1, c1, rfl, hr1, hb1⟩))
  refine wp_loop_rounds 1 ?_; rw [rounds_succ]
  go_wp2
  go_ret
  exact ⟨A1, c1, rfl, hr1, hb1⟩
end Go.Proofs.YtphnmccpcjecnaaGreatDoor
end

section
/- The document's own Ten: a power of ten of at most 400000 digits. -/
open Go.RowKit
set_option maxRecDepth 100000
namespace Go.Proofs.YtphnmccpcjecnaaGreatDoor
theorem ten_lt (k : Nat) : 10 ^ k < D4 ^ (k + 1) := by
  have : 10 ^ k ≤ D4 ^ k := Nat.pow_le_pow_left (by decide) k
  have h2 : D4 ^ k < D4 ^ (k + 1) := Nat.pow_lt_pow_right (by decide) (by omega)
  omega
theorem rTen_any {k : Nat} {w : World} (hk : k ≤ 90000) :
    Calls Tryz.prog 53 #[.int .i64 (k : Int)] w (RefPost w (10 ^ k)) := by
  have HK := hide hk
  clear hk
  have CO : Hid (∀ W, Calls Tryz.prog 42 #[.int .u64 10] W (RefPost W 10)) := fun W => Small_any (n := 10) (w := W) (by decide)
  have CP : Hid (∀ (W : World) (A : Option Addr) (c : Nat), RN W W.heap.size A c 10 → Calls Tryz.prog 107 #[.slice A (dq 10) c, .int .i64 (k : Int)] W (RefPost W (10 ^ k))) := fun W A c h => rPow_any h (by have := HK.out; omega) (fun i hi => by have := HK.out; exact Nat.le_trans (dq_le (ten_lt i)) (by omega)) (Nat.le_trans (dq_le (show 10 < D4 ^ 1 by decide)) (by decide))
  go_enter Tryz.func53, Tryz.ntmps53
  go_wp2_with (first | (go_at_call 42; go_must (refine (CO.out _).mono ?_); rintro e w1 ⟨A1, c1, rfl, hr1, hb1⟩) | (go_at_call 107; go_must (refine (CP.out _ _ _ hr1.out).mono ?_); rintro e w2 ⟨A2, c2, rfl, hr2, hb2⟩))
  go_ret
  exact ⟨A2, c2, rfl, hr2, hb1.out.trans (hb2.out.mono hb1.out.size)⟩
end Go.Proofs.YtphnmccpcjecnaaGreatDoor
end

section
/- The document's own integers: ZAdd, ZCmp, ZText. Conditions: less than 99999 fours of digits. -/
open Go.RowKit
set_option maxRecDepth 100000
namespace Go.Proofs.YtphnmccpcjecnaaGreatDoor
theorem rcmp_z {W : World} {A A' : Option Addr} {c c' m n : Nat} {v : Int} (h : Rn W A c m) (h' : Rn W A' c' n) (hl : dq m ≤ 1000000) (hl' : dq n ≤ 1000000) (hv : cmpI m n = v) : Calls Tryz.prog 63 #[.slice A (dq m) c, .slice A' (dq n) c'] W (IntPost W v) := by
  subst hv
  refine (rCmp_any h h' hl hl').mono ?_
  rintro e w' ⟨he, q, rfl⟩
  exact ⟨he, below_drewN (Below.refl _ _) q⟩
section
variable {W : World} {b b' s : Bool} {A A' : Option Addr} {c c' : Nat} {z z' v : Int}
set_option maxHeartbeats 2000000 in
theorem rzadd_same_true_true (h : Rz W true A c z) (h' : Rz W true A' c' z') (hl : dq z.natAbs ≤ 99999) (hl' : dq z'.natAbs ≤ 99999) (hs : s = decide (v < 0)) (hv : v = z + z') : Calls Tryz.prog 78 #[.agg #[.bool true, .slice A (dq z.natAbs) c], .agg #[.bool true, .slice A' (dq z'.natAbs) c']] W (RZv W s v) := by
  have h1 := h.zi
  have h2 := h'.zi
  simp only [zi_true, zi_false] at h1 h2
  have ha : v.natAbs = z.natAbs + z'.natAbs := by omega
  have hzi : v = zi true v.natAbs := by simp only [zi_true, zi_false]; omega
  have CM : Hid (∀ W', Bel W W' → Calls Tryz.prog 88 #[.slice A (dq z.natAbs) c, .slice A' (dq z'.natAbs) c'] W' (RefRz W' v.natAbs)) := fun W' hb => by rw [ha]; exact rAdd_any (h.1.up hb) (h'.1.up hb) (by omega) (by omega)
  have CZ : Hid (∀ W' B e, Rn W' B e v.natAbs → Calls Tryz.prog 57 #[.bool true, .slice B (dq v.natAbs) e] W' (RZb W' s B (dq v.natAbs) e v.natAbs)) := fun W' B e hn => rzof_h hn (by rw [hs, sig_of hzi])
  have HS := hide hs
  clear h h' hl hl' hs hv ha hzi h1 h2
  have HB := Bel.refl W
  go_enter Tryz.func78, Tryz.ntmps78
  go_wp2_with fail
  go_region_held3 (fun w' => w'.cell? ⟨W.heap.size, 0, none⟩ = some (.bool true) ∧ w'.cell? ⟨W.heap.size, 1, none⟩ = some (.slice A (dq z.natAbs) c) ∧ w'.cell? ⟨W.heap.size + 1, 0, none⟩ = some (.bool true) ∧ w'.cell? ⟨W.heap.size + 1, 1, none⟩ = some (.slice A' (dq z'.natAbs) c'))
    (first | with_reducible exact ⟨(((at_new0 _ _ _).al _).al _).dr.c0, (((at_new0 _ _ _).al _).al _).dr.c1, ((at_new1 _ _ _ _).al _).dr.c0, ((at_new1 _ _ _ _).al _).dr.c1⟩ | with_reducible exact ⟨HP.c0, HP.c1, HQ.c0, HQ.c1⟩ | exact ⟨((HP.far (by omega) _).far (by omega) _).c0, ((HP.far (by omega) _).far (by omega) _).c1, ((HQ.far (by omega) _).far (by omega) _).c0, ((HQ.far (by omega) _).far (by omega) _).c1⟩)
    (first | (go_at_call 88; (with_reducible refine (CM.out _ (((HB.al _).al _).al _).dr).mono ?_); rintro e w1 ⟨mA, mc, rfl, rm, hbk⟩; (with_reducible (have HP : At w1 W.heap.size [.bool true, .slice A (dq z.natAbs) c] := At.up (((at_new0 _ _ _).al _).al _).dr hbk; have HQ : At w1 (W.heap.size + 1) [.bool true, .slice A' (dq z'.natAbs) c'] := At.up ((at_new1 _ _ _ _).al _).dr hbk; have HR : At w1 (W.heap.size + 1 + 1) [.bool false, .slice none 0 0] := At.up (at_new2 _ _ _ _ _).dr hbk; replace HB := (((HB.al _).al _).al _).dr.up hbk))) | (go_at_call 57; (with_reducible refine (CZ.out _ _ _ rm).mono ?_); rintro e w2 ⟨rfl, rn, hbk⟩; (with_reducible (replace HB := HB.up hbk; replace HP := HP.up hbk; replace HQ := HQ.up hbk; replace HR := HR.up hbk)); have hr_0 := HR.c0; have hr_1 := HR.c1; have hr_l := HR.lt; have hr_f0 := HR.f0; have hr_f1 := HR.f1) | fail)
  go_wp2_with fail
  refine bodyPost_ret (v := .agg #[.bool s, .slice mA (dq v.natAbs) mc]) (by simp [results, Tryz.results78, go_sem, hr_0, hr_1]) rfl ?_
  exact rz_two HR rn HS HB (by omega)
set_option maxHeartbeats 2000000 in
theorem rzadd_ge_true_false (h : Rz W true A c z) (h' : Rz W false A' c' z') (hl : dq z.natAbs ≤ 99999) (hl' : dq z'.natAbs ≤ 99999) (hs : s = decide (v < 0)) (hv : v = z + z') (hc : z'.natAbs ≤ z.natAbs) : Calls Tryz.prog 78 #[.agg #[.bool true, .slice A (dq z.natAbs) c], .agg #[.bool false, .slice A' (dq z'.natAbs) c']] W (RZv W s v) := by
  have h1 := h.zi
  have h2 := h'.zi
  simp only [zi_true, zi_false] at h1 h2
  have ha : v.natAbs = z.natAbs - z'.natAbs := by omega
  have hzi : v = zi true v.natAbs := by simp only [zi_true, zi_false]; omega
  obtain ⟨u, hu, hu0⟩ : ∃ u, cmpI z.natAbs z'.natAbs = u ∧ 0 ≤ u := ⟨_, rfl, by
    rcases Nat.lt_trichotomy z.natAbs z'.natAbs with h1 | h1 | h1
    · first | (rw [cmpI_lt h1]; decide) | (exfalso; omega)
    · first | (rw [cmpI_eq h1]; decide) | (exfalso; omega)
    · first | (rw [cmpI_gt h1]; decide) | (exfalso; omega)⟩
  have CC : Hid (∀ W', Bel W W' → Calls Tryz.prog 63 #[.slice A (dq z.natAbs) c, .slice A' (dq z'.natAbs) c'] W' (IntPost W' u)) := fun W' hb => rcmp_z (h.1.up hb) (h'.1.up hb) (by omega) (by omega) hu
  have CM : Hid (∀ W', Bel W W' → Calls Tryz.prog 111 #[.slice A (dq z.natAbs) c, .slice A' (dq z'.natAbs) c'] W' (RefRz W' v.natAbs)) := fun W' hb => by rw [ha]; exact rSub_any (h.1.up hb) (h'.1.up hb) (by omega) hc
  have CZ : Hid (∀ W' B e, Rn W' B e v.natAbs → Calls Tryz.prog 57 #[.bool true, .slice B (dq v.natAbs) e] W' (RZb W' s B (dq v.natAbs) e v.natAbs)) := fun W' B e hn => rzof_h hn (by rw [hs, sig_of hzi])
  have HS := hide hs
  clear h h' hl hl' hs hv ha hzi h1 h2 hc hu
  have HB := Bel.refl W
  go_enter Tryz.func78, Tryz.ntmps78
  go_wp2_with (first | (go_at_call 63; (with_reducible refine (CC.out _ (((HB.al _).al _).al _)).mono ?_); rintro e w1 ⟨rfl, hbk⟩; (with_reducible (have HP : At w1 W.heap.size [.bool true, .slice A (dq z.natAbs) c] := At.up (((at_new0 _ _ _).al _).al _) hbk; have HQ : At w1 (W.heap.size + 1) [.bool false, .slice A' (dq z'.natAbs) c'] := At.up ((at_new1 _ _ _ _).al _) hbk; have HR : At w1 (W.heap.size + 1 + 1) [.bool false, .slice none 0 0] := At.up (at_new2 _ _ _ _ _) hbk; replace HB := (((HB.al _).al _).al _).up hbk))) | fail)
  go_region_held3 (fun w' => w'.cell? ⟨W.heap.size, 0, none⟩ = some (.bool true) ∧ w'.cell? ⟨W.heap.size, 1, none⟩ = some (.slice A (dq z.natAbs) c) ∧ w'.cell? ⟨W.heap.size + 1, 0, none⟩ = some (.bool false) ∧ w'.cell? ⟨W.heap.size + 1, 1, none⟩ = some (.slice A' (dq z'.natAbs) c'))
    (first | with_reducible exact ⟨HP.dr.c0, HP.dr.c1, HQ.dr.c0, HQ.dr.c1⟩ | with_reducible exact ⟨HP.c0, HP.c1, HQ.c0, HQ.c1⟩ | exact ⟨((HP.far (by omega) _).far (by omega) _).c0, ((HP.far (by omega) _).far (by omega) _).c1, ((HQ.far (by omega) _).far (by omega) _).c0, ((HQ.far (by omega) _).far (by omega) _).c1⟩)
    (first | (go_at_call 111; (with_reducible refine (CM.out _ HB.dr).mono ?_); rintro e w2 ⟨mA, mc, rfl, rm, hbk⟩; (with_reducible (replace HB := HB.dr.up hbk; replace HP := HP.dr.up hbk; replace HQ := HQ.dr.up hbk; replace HR := HR.dr.up hbk))) | (go_at_call 57; (with_reducible refine (CZ.out _ _ _ rm).mono ?_); rintro e w3 ⟨rfl, rn, hbk⟩; (with_reducible (replace HB := HB.up hbk; replace HP := HP.up hbk; replace HQ := HQ.up hbk; replace HR := HR.up hbk)); have hr_0 := HR.c0; have hr_1 := HR.c1; have hr_l := HR.lt; have hr_f0 := HR.f0; have hr_f1 := HR.f1) | fail)
  go_wp2_with fail
  refine bodyPost_ret (v := .agg #[.bool s, .slice mA (dq v.natAbs) mc]) (by simp [results, Tryz.results78, go_sem, hr_0, hr_1]) rfl ?_
  exact rz_two HR rn HS HB (by omega)
set_option maxHeartbeats 2000000 in
theorem rzadd_lt_true_false (h : Rz W true A c z) (h' : Rz W false A' c' z') (hl : dq z.natAbs ≤ 99999) (hl' : dq z'.natAbs ≤ 99999) (hs : s = decide (v < 0)) (hv : v = z + z') (hc : ¬ z'.natAbs ≤ z.natAbs) : Calls Tryz.prog 78 #[.agg #[.bool true, .slice A (dq z.natAbs) c], .agg #[.bool false, .slice A' (dq z'.natAbs) c']] W (RZv W s v) := by
  have h1 := h.zi
  have h2 := h'.zi
  simp only [zi_true, zi_false] at h1 h2
  have ha : v.natAbs = z'.natAbs - z.natAbs := by omega
  have hzi : v = zi false v.natAbs := by simp only [zi_true, zi_false]; omega
  obtain ⟨u, hu, hu0⟩ : ∃ u, cmpI z.natAbs z'.natAbs = u ∧ ¬ 0 ≤ u := ⟨_, rfl, by
    rcases Nat.lt_trichotomy z.natAbs z'.natAbs with h1 | h1 | h1
    · first | (rw [cmpI_lt h1]; decide) | (exfalso; omega)
    · first | (rw [cmpI_eq h1]; decide) | (exfalso; omega)
    · first | (rw [cmpI_gt h1]; decide) | (exfalso; omega)⟩
  have CC : Hid (∀ W', Bel W W' → Calls Tryz.prog 63 #[.slice A (dq z.natAbs) c, .slice A' (dq z'.natAbs) c'] W' (IntPost W' u)) := fun W' hb => rcmp_z (h.1.up hb) (h'.1.up hb) (by omega) (by omega) hu
  have CM : Hid (∀ W', Bel W W' → Calls Tryz.prog 111 #[.slice A' (dq z'.natAbs) c', .slice A (dq z.natAbs) c] W' (RefRz W' v.natAbs)) := fun W' hb => by rw [ha]; exact rSub_any (h'.1.up hb) (h.1.up hb) (by omega) (by omega)
  have CZ : Hid (∀ W' B e, Rn W' B e v.natAbs → Calls Tryz.prog 57 #[.bool false, .slice B (dq v.natAbs) e] W' (RZb W' s B (dq v.natAbs) e v.natAbs)) := fun W' B e hn => rzof_h hn (by rw [hs, sig_of hzi])
  have HS := hide hs
  clear h h' hl hl' hs hv ha hzi h1 h2 hc hu
  have HB := Bel.refl W
  go_enter Tryz.func78, Tryz.ntmps78
  go_wp2_with (first | (go_at_call 63; (with_reducible refine (CC.out _ (((HB.al _).al _).al _)).mono ?_); rintro e w1 ⟨rfl, hbk⟩; (with_reducible (have HP : At w1 W.heap.size [.bool true, .slice A (dq z.natAbs) c] := At.up (((at_new0 _ _ _).al _).al _) hbk; have HQ : At w1 (W.heap.size + 1) [.bool false, .slice A' (dq z'.natAbs) c'] := At.up ((at_new1 _ _ _ _).al _) hbk; have HR : At w1 (W.heap.size + 1 + 1) [.bool false, .slice none 0 0] := At.up (at_new2 _ _ _ _ _) hbk; replace HB := (((HB.al _).al _).al _).up hbk))) | fail)
  go_region_held3 (fun w' => w'.cell? ⟨W.heap.size, 0, none⟩ = some (.bool true) ∧ w'.cell? ⟨W.heap.size, 1, none⟩ = some (.slice A (dq z.natAbs) c) ∧ w'.cell? ⟨W.heap.size + 1, 0, none⟩ = some (.bool false) ∧ w'.cell? ⟨W.heap.size + 1, 1, none⟩ = some (.slice A' (dq z'.natAbs) c'))
    (first | with_reducible exact ⟨HP.dr.c0, HP.dr.c1, HQ.dr.c0, HQ.dr.c1⟩ | with_reducible exact ⟨HP.c0, HP.c1, HQ.c0, HQ.c1⟩ | exact ⟨((HP.far (by omega) _).far (by omega) _).c0, ((HP.far (by omega) _).far (by omega) _).c1, ((HQ.far (by omega) _).far (by omega) _).c0, ((HQ.far (by omega) _).far (by omega) _).c1⟩)
    (first | (go_at_call 111; (with_reducible refine (CM.out _ HB.dr).mono ?_); rintro e w2 ⟨mA, mc, rfl, rm, hbk⟩; (with_reducible (replace HB := HB.dr.up hbk; replace HP := HP.dr.up hbk; replace HQ := HQ.dr.up hbk; replace HR := HR.dr.up hbk))) | (go_at_call 57; (with_reducible refine (CZ.out _ _ _ rm).mono ?_); rintro e w3 ⟨rfl, rn, hbk⟩; (with_reducible (replace HB := HB.up hbk; replace HP := HP.up hbk; replace HQ := HQ.up hbk; replace HR := HR.up hbk)); have hr_0 := HR.c0; have hr_1 := HR.c1; have hr_l := HR.lt; have hr_f0 := HR.f0; have hr_f1 := HR.f1) | fail)
  go_wp2_with fail
  refine bodyPost_ret (v := .agg #[.bool s, .slice mA (dq v.natAbs) mc]) (by simp [results, Tryz.results78, go_sem, hr_0, hr_1]) rfl ?_
  exact rz_two HR rn HS HB (by omega)
set_option maxHeartbeats 2000000 in
theorem rzadd_same_false_false (h : Rz W false A c z) (h' : Rz W false A' c' z') (hl : dq z.natAbs ≤ 99999) (hl' : dq z'.natAbs ≤ 99999) (hs : s = decide (v < 0)) (hv : v = z + z') : Calls Tryz.prog 78 #[.agg #[.bool false, .slice A (dq z.natAbs) c], .agg #[.bool false, .slice A' (dq z'.natAbs) c']] W (RZv W s v) := by
  have h1 := h.zi
  have h2 := h'.zi
  simp only [zi_true, zi_false] at h1 h2
  have ha : v.natAbs = z.natAbs + z'.natAbs := by omega
  have hzi : v = zi false v.natAbs := by simp only [zi_true, zi_false]; omega
  have CM : Hid (∀ W', Bel W W' → Calls Tryz.prog 88 #[.slice A (dq z.natAbs) c, .slice A' (dq z'.natAbs) c'] W' (RefRz W' v.natAbs)) := fun W' hb => by rw [ha]; exact rAdd_any (h.1.up hb) (h'.1.up hb) (by omega) (by omega)
  have CZ : Hid (∀ W' B e, Rn W' B e v.natAbs → Calls Tryz.prog 57 #[.bool false, .slice B (dq v.natAbs) e] W' (RZb W' s B (dq v.natAbs) e v.natAbs)) := fun W' B e hn => rzof_h hn (by rw [hs, sig_of hzi])
  have HS := hide hs
  clear h h' hl hl' hs hv ha hzi h1 h2
  have HB := Bel.refl W
  go_enter Tryz.func78, Tryz.ntmps78
  go_wp2_with fail
  go_region_held3 (fun w' => w'.cell? ⟨W.heap.size, 0, none⟩ = some (.bool false) ∧ w'.cell? ⟨W.heap.size, 1, none⟩ = some (.slice A (dq z.natAbs) c) ∧ w'.cell? ⟨W.heap.size + 1, 0, none⟩ = some (.bool false) ∧ w'.cell? ⟨W.heap.size + 1, 1, none⟩ = some (.slice A' (dq z'.natAbs) c'))
    (first | with_reducible exact ⟨(((at_new0 _ _ _).al _).al _).dr.c0, (((at_new0 _ _ _).al _).al _).dr.c1, ((at_new1 _ _ _ _).al _).dr.c0, ((at_new1 _ _ _ _).al _).dr.c1⟩ | with_reducible exact ⟨HP.c0, HP.c1, HQ.c0, HQ.c1⟩ | exact ⟨((HP.far (by omega) _).far (by omega) _).c0, ((HP.far (by omega) _).far (by omega) _).c1, ((HQ.far (by omega) _).far (by omega) _).c0, ((HQ.far (by omega) _).far (by omega) _).c1⟩)
    (first | (go_at_call 88; (with_reducible refine (CM.out _ (((HB.al _).al _).al _).dr).mono ?_); rintro e w1 ⟨mA, mc, rfl, rm, hbk⟩; (with_reducible (have HP : At w1 W.heap.size [.bool false, .slice A (dq z.natAbs) c] := At.up (((at_new0 _ _ _).al _).al _).dr hbk; have HQ : At w1 (W.heap.size + 1) [.bool false, .slice A' (dq z'.natAbs) c'] := At.up ((at_new1 _ _ _ _).al _).dr hbk; have HR : At w1 (W.heap.size + 1 + 1) [.bool false, .slice none 0 0] := At.up (at_new2 _ _ _ _ _).dr hbk; replace HB := (((HB.al _).al _).al _).dr.up hbk))) | (go_at_call 57; (with_reducible refine (CZ.out _ _ _ rm).mono ?_); rintro e w2 ⟨rfl, rn, hbk⟩; (with_reducible (replace HB := HB.up hbk; replace HP := HP.up hbk; replace HQ := HQ.up hbk; replace HR := HR.up hbk)); have hr_0 := HR.c0; have hr_1 := HR.c1; have hr_l := HR.lt; have hr_f0 := HR.f0; have hr_f1 := HR.f1) | fail)
  go_wp2_with fail
  refine bodyPost_ret (v := .agg #[.bool s, .slice mA (dq v.natAbs) mc]) (by simp [results, Tryz.results78, go_sem, hr_0, hr_1]) rfl ?_
  exact rz_two HR rn HS HB (by omega)
set_option maxHeartbeats 2000000 in
theorem rzadd_ge_false_true (h : Rz W false A c z) (h' : Rz W true A' c' z') (hl : dq z.natAbs ≤ 99999) (hl' : dq z'.natAbs ≤ 99999) (hs : s = decide (v < 0)) (hv : v = z + z') (hc : z'.natAbs ≤ z.natAbs) : Calls Tryz.prog 78 #[.agg #[.bool false, .slice A (dq z.natAbs) c], .agg #[.bool true, .slice A' (dq z'.natAbs) c']] W (RZv W s v) := by
  have h1 := h.zi
  have h2 := h'.zi
  simp only [zi_true, zi_false] at h1 h2
  have ha : v.natAbs = z.natAbs - z'.natAbs := by omega
  have hzi : v = zi false v.natAbs := by simp only [zi_true, zi_false]; omega
  obtain ⟨u, hu, hu0⟩ : ∃ u, cmpI z.natAbs z'.natAbs = u ∧ 0 ≤ u := ⟨_, rfl, by
    rcases Nat.lt_trichotomy z.natAbs z'.natAbs with h1 | h1 | h1
    · first | (rw [cmpI_lt h1]; decide) | (exfalso; omega)
    · first | (rw [cmpI_eq h1]; decide) | (exfalso; omega)
    · first | (rw [cmpI_gt h1]; decide) | (exfalso; omega)⟩
  have CC : Hid (∀ W', Bel W W' → Calls Tryz.prog 63 #[.slice A (dq z.natAbs) c, .slice A' (dq z'.natAbs) c'] W' (IntPost W' u)) := fun W' hb => rcmp_z (h.1.up hb) (h'.1.up hb) (by omega) (by omega) hu
  have CM : Hid (∀ W', Bel W W' → Calls Tryz.prog 111 #[.slice A (dq z.natAbs) c, .slice A' (dq z'.natAbs) c'] W' (RefRz W' v.natAbs)) := fun W' hb => by rw [ha]; exact rSub_any (h.1.up hb) (h'.1.up hb) (by omega) hc
  have CZ : Hid (∀ W' B e, Rn W' B e v.natAbs → Calls Tryz.prog 57 #[.bool false, .slice B (dq v.natAbs) e] W' (RZb W' s B (dq v.natAbs) e v.natAbs)) := fun W' B e hn => rzof_h hn (by rw [hs, sig_of hzi])
  have HS := hide hs
  clear h h' hl hl' hs hv ha hzi h1 h2 hc hu
  have HB := Bel.refl W
  go_enter Tryz.func78, Tryz.ntmps78
  go_wp2_with (first | (go_at_call 63; (with_reducible refine (CC.out _ (((HB.al _).al _).al _)).mono ?_); rintro e w1 ⟨rfl, hbk⟩; (with_reducible (have HP : At w1 W.heap.size [.bool false, .slice A (dq z.natAbs) c] := At.up (((at_new0 _ _ _).al _).al _) hbk; have HQ : At w1 (W.heap.size + 1) [.bool true, .slice A' (dq z'.natAbs) c'] := At.up ((at_new1 _ _ _ _).al _) hbk; have HR : At w1 (W.heap.size + 1 + 1) [.bool false, .slice none 0 0] := At.up (at_new2 _ _ _ _ _) hbk; replace HB := (((HB.al _).al _).al _).up hbk))) | fail)
  go_region_held3 (fun w' => w'.cell? ⟨W.heap.size, 0, none⟩ = some (.bool false) ∧ w'.cell? ⟨W.heap.size, 1, none⟩ = some (.slice A (dq z.natAbs) c) ∧ w'.cell? ⟨W.heap.size + 1, 0, none⟩ = some (.bool true) ∧ w'.cell? ⟨W.heap.size + 1, 1, none⟩ = some (.slice A' (dq z'.natAbs) c'))
    (first | with_reducible exact ⟨HP.dr.c0, HP.dr.c1, HQ.dr.c0, HQ.dr.c1⟩ | with_reducible exact ⟨HP.c0, HP.c1, HQ.c0, HQ.c1⟩ | exact ⟨((HP.far (by omega) _).far (by omega) _).c0, ((HP.far (by omega) _).far (by omega) _).c1, ((HQ.far (by omega) _).far (by omega) _).c0, ((HQ.far (by omega) _).far (by omega) _).c1⟩)
    (first | (go_at_call 111; (with_reducible refine (CM.out _ HB.dr).mono ?_); rintro e w2 ⟨mA, mc, rfl, rm, hbk⟩; (with_reducible (replace HB := HB.dr.up hbk; replace HP := HP.dr.up hbk; replace HQ := HQ.dr.up hbk; replace HR := HR.dr.up hbk))) | (go_at_call 57; (with_reducible refine (CZ.out _ _ _ rm).mono ?_); rintro e w3 ⟨rfl, rn, hbk⟩; (with_reducible (replace HB := HB.up hbk; replace HP := HP.up hbk; replace HQ := HQ.up hbk; replace HR := HR.up hbk)); have hr_0 := HR.c0; have hr_1 := HR.c1; have hr_l := HR.lt; have hr_f0 := HR.f0; have hr_f1 := HR.f1) | fail)
  go_wp2_with fail
  refine bodyPost_ret (v := .agg #[.bool s, .slice mA (dq v.natAbs) mc]) (by simp [results, Tryz.results78, go_sem, hr_0, hr_1]) rfl ?_
  exact rz_two HR rn HS HB (by omega)
set_option maxHeartbeats 2000000 in
theorem rzadd_lt_false_true (h : Rz W false A c z) (h' : Rz W true A' c' z') (hl : dq z.natAbs ≤ 99999) (hl' : dq z'.natAbs ≤ 99999) (hs : s = decide (v < 0)) (hv : v = z + z') (hc : ¬ z'.natAbs ≤ z.natAbs) : Calls Tryz.prog 78 #[.agg #[.bool false, .slice A (dq z.natAbs) c], .agg #[.bool true, .slice A' (dq z'.natAbs) c']] W (RZv W s v) := by
  have h1 := h.zi
  have h2 := h'.zi
  simp only [zi_true, zi_false] at h1 h2
  have ha : v.natAbs = z'.natAbs - z.natAbs := by omega
  have hzi : v = zi true v.natAbs := by simp only [zi_true, zi_false]; omega
  obtain ⟨u, hu, hu0⟩ : ∃ u, cmpI z.natAbs z'.natAbs = u ∧ ¬ 0 ≤ u := ⟨_, rfl, by
    rcases Nat.lt_trichotomy z.natAbs z'.natAbs with h1 | h1 | h1
    · first | (rw [cmpI_lt h1]; decide) | (exfalso; omega)
    · first | (rw [cmpI_eq h1]; decide) | (exfalso; omega)
    · first | (rw [cmpI_gt h1]; decide) | (exfalso; omega)⟩
  have CC : Hid (∀ W', Bel W W' → Calls Tryz.prog 63 #[.slice A (dq z.natAbs) c, .slice A' (dq z'.natAbs) c'] W' (IntPost W' u)) := fun W' hb => rcmp_z (h.1.up hb) (h'.1.up hb) (by omega) (by omega) hu
  have CM : Hid (∀ W', Bel W W' → Calls Tryz.prog 111 #[.slice A' (dq z'.natAbs) c', .slice A (dq z.natAbs) c] W' (RefRz W' v.natAbs)) := fun W' hb => by rw [ha]; exact rSub_any (h'.1.up hb) (h.1.up hb) (by omega) (by omega)
  have CZ : Hid (∀ W' B e, Rn W' B e v.natAbs → Calls Tryz.prog 57 #[.bool true, .slice B (dq v.natAbs) e] W' (RZb W' s B (dq v.natAbs) e v.natAbs)) := fun W' B e hn => rzof_h hn (by rw [hs, sig_of hzi])
  have HS := hide hs
  clear h h' hl hl' hs hv ha hzi h1 h2 hc hu
  have HB := Bel.refl W
  go_enter Tryz.func78, Tryz.ntmps78
  go_wp2_with (first | (go_at_call 63; (with_reducible refine (CC.out _ (((HB.al _).al _).al _)).mono ?_); rintro e w1 ⟨rfl, hbk⟩; (with_reducible (have HP : At w1 W.heap.size [.bool false, .slice A (dq z.natAbs) c] := At.up (((at_new0 _ _ _).al _).al _) hbk; have HQ : At w1 (W.heap.size + 1) [.bool true, .slice A' (dq z'.natAbs) c'] := At.up ((at_new1 _ _ _ _).al _) hbk; have HR : At w1 (W.heap.size + 1 + 1) [.bool false, .slice none 0 0] := At.up (at_new2 _ _ _ _ _) hbk; replace HB := (((HB.al _).al _).al _).up hbk))) | fail)
  go_region_held3 (fun w' => w'.cell? ⟨W.heap.size, 0, none⟩ = some (.bool false) ∧ w'.cell? ⟨W.heap.size, 1, none⟩ = some (.slice A (dq z.natAbs) c) ∧ w'.cell? ⟨W.heap.size + 1, 0, none⟩ = some (.bool true) ∧ w'.cell? ⟨W.heap.size + 1, 1, none⟩ = some (.slice A' (dq z'.natAbs) c'))
    (first | with_reducible exact ⟨HP.dr.c0, HP.dr.c1, HQ.dr.c0, HQ.dr.c1⟩ | with_reducible exact ⟨HP.c0, HP.c1, HQ.c0, HQ.c1⟩ | exact ⟨((HP.far (by omega) _).far (by omega) _).c0, ((HP.far (by omega) _).far (by omega) _).c1, ((HQ.far (by omega) _).far (by omega) _).c0, ((HQ.far (by omega) _).far (by omega) _).c1⟩)
    (first | (go_at_call 111; (with_reducible refine (CM.out _ HB.dr).mono ?_); rintro e w2 ⟨mA, mc, rfl, rm, hbk⟩; (with_reducible (replace HB := HB.dr.up hbk; replace HP := HP.dr.up hbk; replace HQ := HQ.dr.up hbk; replace HR := HR.dr.up hbk))) | (go_at_call 57; (with_reducible refine (CZ.out _ _ _ rm).mono ?_); rintro e w3 ⟨rfl, rn, hbk⟩; (with_reducible (replace HB := HB.up hbk; replace HP := HP.up hbk; replace HQ := HQ.up hbk; replace HR := HR.up hbk)); have hr_0 := HR.c0; have hr_1 := HR.c1; have hr_l := HR.lt; have hr_f0 := HR.f0; have hr_f1 := HR.f1) | fail)
  go_wp2_with fail
  refine bodyPost_ret (v := .agg #[.bool s, .slice mA (dq v.natAbs) mc]) (by simp [results, Tryz.results78, go_sem, hr_0, hr_1]) rfl ?_
  exact rz_two HR rn HS HB (by omega)
theorem rzadd_h (h : Rz W b A c z) (h' : Rz W b' A' c' z') (hl : dq z.natAbs ≤ 99999) (hl' : dq z'.natAbs ≤ 99999) (hs : s = decide (v < 0)) (hv : v = z + z') : Calls Tryz.prog 78 #[.agg #[.bool b, .slice A (dq z.natAbs) c], .agg #[.bool b', .slice A' (dq z'.natAbs) c']] W (RZv W s v) := by
  by_cases hc : z'.natAbs ≤ z.natAbs
  · cases b <;> cases b'
    · exact rzadd_same_false_false h h' hl hl' hs hv
    · exact rzadd_ge_false_true h h' hl hl' hs hv hc
    · exact rzadd_ge_true_false h h' hl hl' hs hv hc
    · exact rzadd_same_true_true h h' hl hl' hs hv
  · cases b <;> cases b'
    · exact rzadd_same_false_false h h' hl hl' hs hv
    · exact rzadd_lt_false_true h h' hl hl' hs hv hc
    · exact rzadd_lt_true_false h h' hl hl' hs hv hc
    · exact rzadd_same_true_true h h' hl hl' hs hv
end
end Go.Proofs.YtphnmccpcjecnaaGreatDoor
end

section
/- The document's own integers: ZDiv. Conditions: less than 99999 fours of digits. -/
open Go.RowKit
set_option maxRecDepth 100000
namespace Go.Proofs.YtphnmccpcjecnaaGreatDoor
def RzDv (w : World) (q r : Nat) (e : Ending) (w' : World) : Prop := ∃ A c A' c', e = .returned (.tuple #[.slice A (dq q) c, .slice A' (dq r) c']) ∧ Rn w' A c q ∧ Rn w' A' c' r ∧ Hid (Below w.heap.size w w')
def RzD (W : World) (s : Bool) (q r : Nat) (e : Ending) (w' : World) : Prop := ∃ A c A' c', e = .returned (.tuple #[.agg #[.bool s, .slice A (dq q) c], .agg #[.bool false, .slice A' (dq r) c']]) ∧ Rn w' A c q ∧ Rn w' A' c' r ∧ Hid (Below W.heap.size W w')
section
variable {W : World} {b b' : Bool} {A A' : Option Addr} {c c' m n : Nat}
set_option maxHeartbeats 4000000 in
theorem rzdiv_false_false (h : Rn W A c m) (h' : Rn W A' c' n) (hn : 0 < n) (hl : dq m ≤ 99999) (hl' : dq n ≤ 99999) {q r : Nat} (hq : q = m / n) (hr : r = m % n) {s : Bool} (hs : s = (false && decide (0 < q))) :
    Calls Tryz.prog 128 #[.agg #[.bool false, .slice A (dq m) c], .agg #[.bool false, .slice A' (dq n) c']] W (RzD W s q r) := by
  have CD : Hid (∀ W', Bel W W' → Calls Tryz.prog 64 #[.slice A (dq m) c, .slice A' (dq n) c'] W' (RzDv W' q r)) := fun W' hw => by rw [hq, hr]; exact rDiv_any (h.up hw.hid) (h'.up hw.hid) hl hl' hn
  have CZ : Hid (∀ W' B e, Rn W' B e q → Calls Tryz.prog 57 #[.bool false, .slice B (dq q) e] W' (RZb W' s B (dq q) e q)) := fun W' B e hn => rzof_h hn hs
  clear h h' hn hl hl' hq hr hs
  have HB := Bel.refl W
  go_enter Tryz.func128, Tryz.ntmps128
  go_wp2_with (first | (go_at_call 64; (with_reducible refine (CD.out _ ((((HB.al _).al _).al _).al _)).mono ?_); rintro e w1 ⟨B, e1, C, f1, rfl, rq, rr, hbk⟩; have HP : At w1 W.heap.size [.bool false, .slice A (dq m) c] := At.up ((((at_new0 _ _ _).al _).al _).al _) hbk; have HQ : At w1 (W.heap.size + 1) [.bool false, .slice A' (dq n) c'] := At.up (((at_new1 _ _ _ _).al _).al _) hbk; have HR : At w1 (W.heap.size + 1 + 1) [.bool false, .slice none 0 0] := At.up ((at_new2 _ _ _ _ _).al _) hbk; have HS : At w1 (W.heap.size + 1 + 1 + 1) [.bool false, .slice none 0 0] := At.up (at_size (at_new0 _ _ _) (by simp)) hbk; replace HB := ((((HB.al _).al _).al _).al _).up hbk; have hp_0 := HP.c0; have hp_1 := HP.c1; have hp_l := HP.lt; have hq_0 := HQ.c0; have hq_1 := HQ.c1; have hq_l := HQ.lt) | (go_at_call 57; (with_reducible refine (CZ.out _ _ _ rq).mono ?_); rintro e w2 ⟨rfl, rq2, hbk2⟩; replace HB := HB.up hbk2; replace HR := HR.up hbk2; replace HS := HS.up hbk2; replace rr := rr.up hbk2; clear hp_0 hp_1 hp_l hq_0 hq_1 hq_l HP HQ; have hr_0 := HR.c0; have hr_1 := HR.c1; have hr_l := HR.lt; have hr_f0 := HR.f0; have hr_f1 := HR.f1; have hs_0 := HS.c0; have hs_1 := HS.c1; have hs_l := HS.lt; have hs_f0 := HS.f0; have hs_f1 := HS.f1) | fail)
  refine bodyPost_ret (v := .tuple #[.agg #[.bool s, .slice B (dq q) e1], .agg #[.bool false, .slice C (dq r) f1]]) (by simp [results, Tryz.results128, go_sem, hr_0, hr_1, hs_0, hs_1]) rfl ?_
  have l2 : W.heap.size ≤ W.heap.size + 1 + 1 := by omega
  have l3 : W.heap.size ≤ W.heap.size + 1 + 1 + 1 := by omega
  have HS2 := (HS.far (q := W.heap.size + 1 + 1) (i := 0) (by omega) (.bool s)).far (q := W.heap.size + 1 + 1) (i := 1) (by omega) (.slice B (dq q) e1)
  exact ⟨B, e1, C, f1, rfl, (rq2.put2 HR).put2 HS2, (rr.put2 HR).put2 HS2, ((((Below.setCell HB l2 _).setCell l2 _).setCell l3 _).setCell l3 _)⟩
set_option maxHeartbeats 4000000 in
theorem rzdiv_false_true (h : Rn W A c m) (h' : Rn W A' c' n) (hn : 0 < n) (hl : dq m ≤ 99999) (hl' : dq n ≤ 99999) {q r : Nat} (hq : q = m / n) (hr : r = m % n) {s : Bool} (hs : s = (true && decide (0 < q))) :
    Calls Tryz.prog 128 #[.agg #[.bool false, .slice A (dq m) c], .agg #[.bool true, .slice A' (dq n) c']] W (RzD W s q r) := by
  have CD : Hid (∀ W', Bel W W' → Calls Tryz.prog 64 #[.slice A (dq m) c, .slice A' (dq n) c'] W' (RzDv W' q r)) := fun W' hw => by rw [hq, hr]; exact rDiv_any (h.up hw.hid) (h'.up hw.hid) hl hl' hn
  have CZ : Hid (∀ W' B e, Rn W' B e q → Calls Tryz.prog 57 #[.bool true, .slice B (dq q) e] W' (RZb W' s B (dq q) e q)) := fun W' B e hn => rzof_h hn hs
  clear h h' hn hl hl' hq hr hs
  have HB := Bel.refl W
  go_enter Tryz.func128, Tryz.ntmps128
  go_wp2_with (first | (go_at_call 64; (with_reducible refine (CD.out _ ((((HB.al _).al _).al _).al _)).mono ?_); rintro e w1 ⟨B, e1, C, f1, rfl, rq, rr, hbk⟩; have HP : At w1 W.heap.size [.bool false, .slice A (dq m) c] := At.up ((((at_new0 _ _ _).al _).al _).al _) hbk; have HQ : At w1 (W.heap.size + 1) [.bool true, .slice A' (dq n) c'] := At.up (((at_new1 _ _ _ _).al _).al _) hbk; have HR : At w1 (W.heap.size + 1 + 1) [.bool false, .slice none 0 0] := At.up ((at_new2 _ _ _ _ _).al _) hbk; have HS : At w1 (W.heap.size + 1 + 1 + 1) [.bool false, .slice none 0 0] := At.up (at_size (at_new0 _ _ _) (by simp)) hbk; replace HB := ((((HB.al _).al _).al _).al _).up hbk; have hp_0 := HP.c0; have hp_1 := HP.c1; have hp_l := HP.lt; have hq_0 := HQ.c0; have hq_1 := HQ.c1; have hq_l := HQ.lt) | (go_at_call 57; (with_reducible refine (CZ.out _ _ _ rq).mono ?_); rintro e w2 ⟨rfl, rq2, hbk2⟩; replace HB := HB.up hbk2; replace HR := HR.up hbk2; replace HS := HS.up hbk2; replace rr := rr.up hbk2; clear hp_0 hp_1 hp_l hq_0 hq_1 hq_l HP HQ; have hr_0 := HR.c0; have hr_1 := HR.c1; have hr_l := HR.lt; have hr_f0 := HR.f0; have hr_f1 := HR.f1; have hs_0 := HS.c0; have hs_1 := HS.c1; have hs_l := HS.lt; have hs_f0 := HS.f0; have hs_f1 := HS.f1) | fail)
  refine bodyPost_ret (v := .tuple #[.agg #[.bool s, .slice B (dq q) e1], .agg #[.bool false, .slice C (dq r) f1]]) (by simp [results, Tryz.results128, go_sem, hr_0, hr_1, hs_0, hs_1]) rfl ?_
  have l2 : W.heap.size ≤ W.heap.size + 1 + 1 := by omega
  have l3 : W.heap.size ≤ W.heap.size + 1 + 1 + 1 := by omega
  have HS2 := (HS.far (q := W.heap.size + 1 + 1) (i := 0) (by omega) (.bool s)).far (q := W.heap.size + 1 + 1) (i := 1) (by omega) (.slice B (dq q) e1)
  exact ⟨B, e1, C, f1, rfl, (rq2.put2 HR).put2 HS2, (rr.put2 HR).put2 HS2, ((((Below.setCell HB l2 _).setCell l2 _).setCell l3 _).setCell l3 _)⟩
set_option maxHeartbeats 4000000 in
theorem rzdiv_true_false (h : Rn W A c m) (h' : Rn W A' c' n) (hn : 0 < n) (hl : dq m ≤ 99999) (hl' : dq n ≤ 99999) {q r : Nat} (hq : q = m / n) (hr : r = m % n) (hc : r = 0) {s : Bool} (hs : s = (true && decide (0 < q))) :
    Calls Tryz.prog 128 #[.agg #[.bool true, .slice A (dq m) c], .agg #[.bool false, .slice A' (dq n) c']] W (RzD W s q r) := by
  have CD : Hid (∀ W', Bel W W' → Calls Tryz.prog 64 #[.slice A (dq m) c, .slice A' (dq n) c'] W' (RzDv W' q r)) := fun W' hw => by rw [hq, hr]; exact rDiv_any (h.up hw.hid) (h'.up hw.hid) hl hl' hn
  have CZ : Hid (∀ W' B e, Rn W' B e q → Calls Tryz.prog 57 #[.bool true, .slice B (dq q) e] W' (RZb W' s B (dq q) e q)) := fun W' B e hn => rzof_h hn hs
  have g0 : dq r = 0 := by have := dq_pos (n := r); omega
  have g1 : decide ((0 : Int) < (dq r : Int)) = false := decide_eq_false (by omega)
  have g2 : ¬ (0 : Int) < (dq r : Int) := by omega
  have g3 : ¬ 0 < dq r := by omega
  clear g0
  clear h h' hn hl hl' hq hr hc hs
  have HB := Bel.refl W
  go_enter Tryz.func128, Tryz.ntmps128
  go_wp2_with (first | (go_at_call 64; (with_reducible refine (CD.out _ ((((HB.al _).al _).al _).al _)).mono ?_); rintro e w1 ⟨B, e1, C, f1, rfl, rq, rr, hbk⟩; have HP : At w1 W.heap.size [.bool true, .slice A (dq m) c] := At.up ((((at_new0 _ _ _).al _).al _).al _) hbk; have HQ : At w1 (W.heap.size + 1) [.bool false, .slice A' (dq n) c'] := At.up (((at_new1 _ _ _ _).al _).al _) hbk; have HR : At w1 (W.heap.size + 1 + 1) [.bool false, .slice none 0 0] := At.up ((at_new2 _ _ _ _ _).al _) hbk; have HS : At w1 (W.heap.size + 1 + 1 + 1) [.bool false, .slice none 0 0] := At.up (at_size (at_new0 _ _ _) (by simp)) hbk; replace HB := ((((HB.al _).al _).al _).al _).up hbk; have hp_0 := HP.c0; have hp_1 := HP.c1; have hp_l := HP.lt; have hq_0 := HQ.c0; have hq_1 := HQ.c1; have hq_l := HQ.lt) | (go_at_call 57; (with_reducible refine (CZ.out _ _ _ rq).mono ?_); rintro e w2 ⟨rfl, rq2, hbk2⟩; replace HB := HB.up hbk2; replace HR := HR.up hbk2; replace HS := HS.up hbk2; replace rr := rr.up hbk2; clear hp_0 hp_1 hp_l hq_0 hq_1 hq_l HP HQ; have hr_0 := HR.c0; have hr_1 := HR.c1; have hr_l := HR.lt; have hr_f0 := HR.f0; have hr_f1 := HR.f1; have hs_0 := HS.c0; have hs_1 := HS.c1; have hs_l := HS.lt; have hs_f0 := HS.f0; have hs_f1 := HS.f1) | fail)
  refine bodyPost_ret (v := .tuple #[.agg #[.bool s, .slice B (dq q) e1], .agg #[.bool false, .slice C (dq r) f1]]) (by simp [results, Tryz.results128, go_sem, hr_0, hr_1, hs_0, hs_1]) rfl ?_
  have l2 : W.heap.size ≤ W.heap.size + 1 + 1 := by omega
  have l3 : W.heap.size ≤ W.heap.size + 1 + 1 + 1 := by omega
  have HS2 := (HS.far (q := W.heap.size + 1 + 1) (i := 0) (by omega) (.bool s)).far (q := W.heap.size + 1 + 1) (i := 1) (by omega) (.slice B (dq q) e1)
  exact ⟨B, e1, C, f1, rfl, (rq2.put2 HR).put2 HS2, (rr.put2 HR).put2 HS2, ((((Below.setCell HB l2 _).setCell l2 _).setCell l3 _).setCell l3 _)⟩
set_option maxHeartbeats 4000000 in
theorem rzdiv_true_true (h : Rn W A c m) (h' : Rn W A' c' n) (hn : 0 < n) (hl : dq m ≤ 99999) (hl' : dq n ≤ 99999) {q r : Nat} (hq : q = m / n) (hr : r = m % n) (hc : r = 0) {s : Bool} (hs : s = (false && decide (0 < q))) :
    Calls Tryz.prog 128 #[.agg #[.bool true, .slice A (dq m) c], .agg #[.bool true, .slice A' (dq n) c']] W (RzD W s q r) := by
  have CD : Hid (∀ W', Bel W W' → Calls Tryz.prog 64 #[.slice A (dq m) c, .slice A' (dq n) c'] W' (RzDv W' q r)) := fun W' hw => by rw [hq, hr]; exact rDiv_any (h.up hw.hid) (h'.up hw.hid) hl hl' hn
  have CZ : Hid (∀ W' B e, Rn W' B e q → Calls Tryz.prog 57 #[.bool false, .slice B (dq q) e] W' (RZb W' s B (dq q) e q)) := fun W' B e hn => rzof_h hn hs
  have g0 : dq r = 0 := by have := dq_pos (n := r); omega
  have g1 : decide ((0 : Int) < (dq r : Int)) = false := decide_eq_false (by omega)
  have g2 : ¬ (0 : Int) < (dq r : Int) := by omega
  have g3 : ¬ 0 < dq r := by omega
  clear g0
  clear h h' hn hl hl' hq hr hc hs
  have HB := Bel.refl W
  go_enter Tryz.func128, Tryz.ntmps128
  go_wp2_with (first | (go_at_call 64; (with_reducible refine (CD.out _ ((((HB.al _).al _).al _).al _)).mono ?_); rintro e w1 ⟨B, e1, C, f1, rfl, rq, rr, hbk⟩; have HP : At w1 W.heap.size [.bool true, .slice A (dq m) c] := At.up ((((at_new0 _ _ _).al _).al _).al _) hbk; have HQ : At w1 (W.heap.size + 1) [.bool true, .slice A' (dq n) c'] := At.up (((at_new1 _ _ _ _).al _).al _) hbk; have HR : At w1 (W.heap.size + 1 + 1) [.bool false, .slice none 0 0] := At.up ((at_new2 _ _ _ _ _).al _) hbk; have HS : At w1 (W.heap.size + 1 + 1 + 1) [.bool false, .slice none 0 0] := At.up (at_size (at_new0 _ _ _) (by simp)) hbk; replace HB := ((((HB.al _).al _).al _).al _).up hbk; have hp_0 := HP.c0; have hp_1 := HP.c1; have hp_l := HP.lt; have hq_0 := HQ.c0; have hq_1 := HQ.c1; have hq_l := HQ.lt) | (go_at_call 57; (with_reducible refine (CZ.out _ _ _ rq).mono ?_); rintro e w2 ⟨rfl, rq2, hbk2⟩; replace HB := HB.up hbk2; replace HR := HR.up hbk2; replace HS := HS.up hbk2; replace rr := rr.up hbk2; clear hp_0 hp_1 hp_l hq_0 hq_1 hq_l HP HQ; have hr_0 := HR.c0; have hr_1 := HR.c1; have hr_l := HR.lt; have hr_f0 := HR.f0; have hr_f1 := HR.f1; have hs_0 := HS.c0; have hs_1 := HS.c1; have hs_l := HS.lt; have hs_f0 := HS.f0; have hs_f1 := HS.f1) | fail)
  refine bodyPost_ret (v := .tuple #[.agg #[.bool s, .slice B (dq q) e1], .agg #[.bool false, .slice C (dq r) f1]]) (by simp [results, Tryz.results128, go_sem, hr_0, hr_1, hs_0, hs_1]) rfl ?_
  have l2 : W.heap.size ≤ W.heap.size + 1 + 1 := by omega
  have l3 : W.heap.size ≤ W.heap.size + 1 + 1 + 1 := by omega
  have HS2 := (HS.far (q := W.heap.size + 1 + 1) (i := 0) (by omega) (.bool s)).far (q := W.heap.size + 1 + 1) (i := 1) (by omega) (.slice B (dq q) e1)
  exact ⟨B, e1, C, f1, rfl, (rq2.put2 HR).put2 HS2, (rr.put2 HR).put2 HS2, ((((Below.setCell HB l2 _).setCell l2 _).setCell l3 _).setCell l3 _)⟩
set_option maxHeartbeats 8000000 in
theorem rzdiv_rest_false (h : Rn W A c m) (h' : Rn W A' c' n) (hn : 0 < n) (hl : dq m ≤ 99999) (hl' : dq n ≤ 99999) {q r Q R : Nat} (hq : q = m / n) (hr : r = m % n) (hc : 0 < r) (hQ : Q = q + 1) (hR : R = n - r) {s : Bool} (hs : s = (true && decide (0 < Q))) :
    Calls Tryz.prog 128 #[.agg #[.bool true, .slice A (dq m) c], .agg #[.bool false, .slice A' (dq n) c']] W (RzD W s Q R) := by
  obtain ⟨one, hone⟩ : ∃ x : Nat, x = 1 := ⟨_, rfl⟩
  have dq1 : dq q ≤ 100000 := Nat.le_trans (dq_mono (show q ≤ m by rw [hq]; exact Nat.div_le_self m n)) (by omega)
  have lrn : r ≤ n := by rw [hr]; exact Nat.le_of_lt (Nat.mod_lt _ hn)
  have CD : Hid (∀ W', Bel W W' → Calls Tryz.prog 64 #[.slice A (dq m) c, .slice A' (dq n) c'] W' (RzDv W' q r)) := fun W' hw => by rw [hq, hr]; exact rDiv_any (h.up hw.hid) (h'.up hw.hid) hl hl' hn
  have CS : Hid (∀ W', Calls Tryz.prog 42 #[.int .u64 1] W' (RefRz W' one)) := fun W' => by rw [hone]; exact Small_any (n := 1) (by decide)
  have CA : Hid (∀ W' B e C f, Rn W' B e q → Rn W' C f one → Calls Tryz.prog 88 #[.slice B (dq q) e, .slice C (dq one) f] W' (RefRz W' Q)) := fun W' B e C f h1 h2 => by rw [hQ, ← hone]; exact rAdd_any h1 h2 dq1 (by rw [hone]; exact Nat.le_trans (dq_u64 (by decide)) (by decide))
  have CB : Hid (∀ W' C f, Bel W W' → Rn W' C f r → Calls Tryz.prog 111 #[.slice A' (dq n) c', .slice C (dq r) f] W' (RefRz W' R)) := fun W' C f hw h1 => by rw [hR]; exact rSub_any (h'.up hw.hid) h1 (by omega) lrn
  have CZ : Hid (∀ W' B e, Rn W' B e Q → Calls Tryz.prog 57 #[.bool true, .slice B (dq Q) e] W' (RZb W' s B (dq Q) e Q)) := fun W' B e hn => rzof_h hn hs
  have g0 : 0 < dq r := dq_pos.2 hc
  have g1 : decide ((0 : Int) < (dq r : Int)) = true := decide_eq_true (by omega)
  have g2 : (0 : Int) < (dq r : Int) := by omega
  clear h h' hn hl hl' hq hr hc hs hQ hR hone dq1 lrn
  have HB := Bel.refl W
  go_enter Tryz.func128, Tryz.ntmps128
  go_wp2_with (first | (go_at_call 64; (with_reducible refine (CD.out _ ((((HB.al _).al _).al _).al _)).mono ?_); rintro e w1 ⟨B, e1, C, f1, rfl, rq, rr, hbk⟩; have HP : At w1 W.heap.size [.bool true, .slice A (dq m) c] := At.up ((((at_new0 _ _ _).al _).al _).al _) hbk; have HQ : At w1 (W.heap.size + 1) [.bool false, .slice A' (dq n) c'] := At.up (((at_new1 _ _ _ _).al _).al _) hbk; have HR : At w1 (W.heap.size + 1 + 1) [.bool false, .slice none 0 0] := At.up ((at_new2 _ _ _ _ _).al _) hbk; have HS : At w1 (W.heap.size + 1 + 1 + 1) [.bool false, .slice none 0 0] := At.up (at_size (at_new0 _ _ _) (by simp)) hbk; replace HB := ((((HB.al _).al _).al _).al _).up hbk; have hp_0 := HP.c0; have hp_1 := HP.c1; have hp_l := HP.lt; have hq_0 := HQ.c0; have hq_1 := HQ.c1; have hq_l := HQ.lt) | fail)
  go_region_held3 (fun w' => w'.cell? ⟨W.heap.size + 1, 1, none⟩ = some (.slice A' (dq n) c'))
    (first | with_reducible exact HQ.dr.c1 | with_reducible exact HQ.c1)
    (first | (go_at_call 42; (with_reducible refine (CS.out _).mono ?_); rintro e w2 ⟨D, d1, rfl, ro, hbk⟩; (with_reducible (replace HB := HB.dr.up hbk; replace HP := HP.dr.up hbk; replace HQ := HQ.dr.up hbk; replace HR := HR.dr.up hbk; replace HS := HS.dr.up hbk; replace rq := rq.dr.up hbk; replace rr := rr.dr.up hbk)); clear hp_0 hp_1 hp_l hq_0 hq_1 hq_l; have hp_0 := HP.c0; have hp_1 := HP.c1; have hp_l := HP.lt; have hq_0 := HQ.c0; have hq_1 := HQ.c1; have hq_l := HQ.lt) | (go_at_call 88; (with_reducible refine (CA.out _ _ _ _ _ rq ro).mono ?_); rintro e w3 ⟨D2, d2, rfl, rQ, hbk⟩; (with_reducible (replace HB := HB.up hbk; replace HP := HP.up hbk; replace HQ := HQ.up hbk; replace HR := HR.up hbk; replace HS := HS.up hbk; replace rq := rq.up hbk; replace rr := rr.up hbk)); clear hp_0 hp_1 hp_l hq_0 hq_1 hq_l; have hp_0 := HP.c0; have hp_1 := HP.c1; have hp_l := HP.lt; have hq_0 := HQ.c0; have hq_1 := HQ.c1; have hq_l := HQ.lt) | (go_at_call 111; (with_reducible refine (CB.out _ _ _ HB rr).mono ?_); rintro e w4 ⟨D3, d3, rfl, rR, hbk⟩; (with_reducible (replace HB := HB.up hbk; replace HP := HP.up hbk; replace HQ := HQ.up hbk; replace HR := HR.up hbk; replace HS := HS.up hbk; replace rq := rq.up hbk; replace rr := rr.up hbk; replace rQ := rQ.up hbk)); clear hp_0 hp_1 hp_l hq_0 hq_1 hq_l; have hp_0 := HP.c0; have hp_1 := HP.c1; have hp_l := HP.lt; have hq_0 := HQ.c0; have hq_1 := HQ.c1; have hq_l := HQ.lt) | fail)
  go_wp2_with (first | (go_at_call 57; (with_reducible refine (CZ.out _ _ _ rQ).mono ?_); rintro e w5 ⟨rfl, rq2, hbk2⟩; replace HB := HB.up hbk2; replace HR := HR.up hbk2; replace HS := HS.up hbk2; replace rR := rR.up hbk2; clear hp_0 hp_1 hp_l hq_0 hq_1 hq_l HP HQ; have hr_0 := HR.c0; have hr_1 := HR.c1; have hr_l := HR.lt; have hr_f0 := HR.f0; have hr_f1 := HR.f1; have hs_0 := HS.c0; have hs_1 := HS.c1; have hs_l := HS.lt; have hs_f0 := HS.f0; have hs_f1 := HS.f1) | fail)
  refine bodyPost_ret (v := .tuple #[.agg #[.bool s, .slice D2 (dq Q) d2], .agg #[.bool false, .slice D3 (dq R) d3]]) (by simp [results, Tryz.results128, go_sem, hr_0, hr_1, hs_0, hs_1]) rfl ?_
  have l2 : W.heap.size ≤ W.heap.size + 1 + 1 := by omega
  have l3 : W.heap.size ≤ W.heap.size + 1 + 1 + 1 := by omega
  have HS2 := (HS.far (q := W.heap.size + 1 + 1) (i := 0) (by omega) (.bool s)).far (q := W.heap.size + 1 + 1) (i := 1) (by omega) (.slice D2 (dq Q) d2)
  exact ⟨D2, d2, D3, d3, rfl, (rq2.put2 HR).put2 HS2, (rR.put2 HR).put2 HS2, ((((Below.setCell HB l2 _).setCell l2 _).setCell l3 _).setCell l3 _)⟩
set_option maxHeartbeats 8000000 in
theorem rzdiv_rest_true (h : Rn W A c m) (h' : Rn W A' c' n) (hn : 0 < n) (hl : dq m ≤ 99999) (hl' : dq n ≤ 99999) {q r Q R : Nat} (hq : q = m / n) (hr : r = m % n) (hc : 0 < r) (hQ : Q = q + 1) (hR : R = n - r) {s : Bool} (hs : s = (false && decide (0 < Q))) :
    Calls Tryz.prog 128 #[.agg #[.bool true, .slice A (dq m) c], .agg #[.bool true, .slice A' (dq n) c']] W (RzD W s Q R) := by
  obtain ⟨one, hone⟩ : ∃ x : Nat, x = 1 := ⟨_, rfl⟩
  have dq1 : dq q ≤ 100000 := Nat.le_trans (dq_mono (show q ≤ m by rw [hq]; exact Nat.div_le_self m n)) (by omega)
  have lrn : r ≤ n := by rw [hr]; exact Nat.le_of_lt (Nat.mod_lt _ hn)
  have CD : Hid (∀ W', Bel W W' → Calls Tryz.prog 64 #[.slice A (dq m) c, .slice A' (dq n) c'] W' (RzDv W' q r)) := fun W' hw => by rw [hq, hr]; exact rDiv_any (h.up hw.hid) (h'.up hw.hid) hl hl' hn
  have CS : Hid (∀ W', Calls Tryz.prog 42 #[.int .u64 1] W' (RefRz W' one)) := fun W' => by rw [hone]; exact Small_any (n := 1) (by decide)
  have CA : Hid (∀ W' B e C f, Rn W' B e q → Rn W' C f one → Calls Tryz.prog 88 #[.slice B (dq q) e, .slice C (dq one) f] W' (RefRz W' Q)) := fun W' B e C f h1 h2 => by rw [hQ, ← hone]; exact rAdd_any h1 h2 dq1 (by rw [hone]; exact Nat.le_trans (dq_u64 (by decide)) (by decide))
  have CB : Hid (∀ W' C f, Bel W W' → Rn W' C f r → Calls Tryz.prog 111 #[.slice A' (dq n) c', .slice C (dq r) f] W' (RefRz W' R)) := fun W' C f hw h1 => by rw [hR]; exact rSub_any (h'.up hw.hid) h1 (by omega) lrn
  have CZ : Hid (∀ W' B e, Rn W' B e Q → Calls Tryz.prog 57 #[.bool false, .slice B (dq Q) e] W' (RZb W' s B (dq Q) e Q)) := fun W' B e hn => rzof_h hn hs
  have g0 : 0 < dq r := dq_pos.2 hc
  have g1 : decide ((0 : Int) < (dq r : Int)) = true := decide_eq_true (by omega)
  have g2 : (0 : Int) < (dq r : Int) := by omega
  clear h h' hn hl hl' hq hr hc hs hQ hR hone dq1 lrn
  have HB := Bel.refl W
  go_enter Tryz.func128, Tryz.ntmps128
  go_wp2_with (first | (go_at_call 64; (with_reducible refine (CD.out _ ((((HB.al _).al _).al _).al _)).mono ?_); rintro e w1 ⟨B, e1, C, f1, rfl, rq, rr, hbk⟩; have HP : At w1 W.heap.size [.bool true, .slice A (dq m) c] := At.up ((((at_new0 _ _ _).al _).al _).al _) hbk; have HQ : At w1 (W.heap.size + 1) [.bool true, .slice A' (dq n) c'] := At.up (((at_new1 _ _ _ _).al _).al _) hbk; have HR : At w1 (W.heap.size + 1 + 1) [.bool false, .slice none 0 0] := At.up ((at_new2 _ _ _ _ _).al _) hbk; have HS : At w1 (W.heap.size + 1 + 1 + 1) [.bool false, .slice none 0 0] := At.up (at_size (at_new0 _ _ _) (by simp)) hbk; replace HB := ((((HB.al _).al _).al _).al _).up hbk; have hp_0 := HP.c0; have hp_1 := HP.c1; have hp_l := HP.lt; have hq_0 := HQ.c0; have hq_1 := HQ.c1; have hq_l := HQ.lt) | fail)
  go_region_held3 (fun w' => w'.cell? ⟨W.heap.size + 1, 1, none⟩ = some (.slice A' (dq n) c'))
    (first | with_reducible exact HQ.dr.c1 | with_reducible exact HQ.c1)
    (first | (go_at_call 42; (with_reducible refine (CS.out _).mono ?_); rintro e w2 ⟨D, d1, rfl, ro, hbk⟩; (with_reducible (replace HB := HB.dr.up hbk; replace HP := HP.dr.up hbk; replace HQ := HQ.dr.up hbk; replace HR := HR.dr.up hbk; replace HS := HS.dr.up hbk; replace rq := rq.dr.up hbk; replace rr := rr.dr.up hbk)); clear hp_0 hp_1 hp_l hq_0 hq_1 hq_l; have hp_0 := HP.c0; have hp_1 := HP.c1; have hp_l := HP.lt; have hq_0 := HQ.c0; have hq_1 := HQ.c1; have hq_l := HQ.lt) | (go_at_call 88; (with_reducible refine (CA.out _ _ _ _ _ rq ro).mono ?_); rintro e w3 ⟨D2, d2, rfl, rQ, hbk⟩; (with_reducible (replace HB := HB.up hbk; replace HP := HP.up hbk; replace HQ := HQ.up hbk; replace HR := HR.up hbk; replace HS := HS.up hbk; replace rq := rq.up hbk; replace rr := rr.up hbk)); clear hp_0 hp_1 hp_l hq_0 hq_1 hq_l; have hp_0 := HP.c0; have hp_1 := HP.c1; have hp_l := HP.lt; have hq_0 := HQ.c0; have hq_1 := HQ.c1; have hq_l := HQ.lt) | (go_at_call 111; (with_reducible refine (CB.out _ _ _ HB rr).mono ?_); rintro e w4 ⟨D3, d3, rfl, rR, hbk⟩; (with_reducible (replace HB := HB.up hbk; replace HP := HP.up hbk; replace HQ := HQ.up hbk; replace HR := HR.up hbk; replace HS := HS.up hbk; replace rq := rq.up hbk; replace rr := rr.up hbk; replace rQ := rQ.up hbk)); clear hp_0 hp_1 hp_l hq_0 hq_1 hq_l; have hp_0 := HP.c0; have hp_1 := HP.c1; have hp_l := HP.lt; have hq_0 := HQ.c0; have hq_1 := HQ.c1; have hq_l := HQ.lt) | fail)
  go_wp2_with (first | (go_at_call 57; (with_reducible refine (CZ.out _ _ _ rQ).mono ?_); rintro e w5 ⟨rfl, rq2, hbk2⟩; replace HB := HB.up hbk2; replace HR := HR.up hbk2; replace HS := HS.up hbk2; replace rR := rR.up hbk2; clear hp_0 hp_1 hp_l hq_0 hq_1 hq_l HP HQ; have hr_0 := HR.c0; have hr_1 := HR.c1; have hr_l := HR.lt; have hr_f0 := HR.f0; have hr_f1 := HR.f1; have hs_0 := HS.c0; have hs_1 := HS.c1; have hs_l := HS.lt; have hs_f0 := HS.f0; have hs_f1 := HS.f1) | fail)
  refine bodyPost_ret (v := .tuple #[.agg #[.bool s, .slice D2 (dq Q) d2], .agg #[.bool false, .slice D3 (dq R) d3]]) (by simp [results, Tryz.results128, go_sem, hr_0, hr_1, hs_0, hs_1]) rfl ?_
  have l2 : W.heap.size ≤ W.heap.size + 1 + 1 := by omega
  have l3 : W.heap.size ≤ W.heap.size + 1 + 1 + 1 := by omega
  have HS2 := (HS.far (q := W.heap.size + 1 + 1) (i := 0) (by omega) (.bool s)).far (q := W.heap.size + 1 + 1) (i := 1) (by omega) (.slice D2 (dq Q) d2)
  exact ⟨D2, d2, D3, d3, rfl, (rq2.put2 HR).put2 HS2, (rR.put2 HR).put2 HS2, ((((Below.setCell HB l2 _).setCell l2 _).setCell l3 _).setCell l3 _)⟩
end
end Go.Proofs.YtphnmccpcjecnaaGreatDoor
end

section
/- Plain mathematics of division with signs. No conditions on memory. -/
open Go.RowKit
namespace Go.Proofs.YtphnmccpcjecnaaGreatDoor
/-- Div whose quotient and rest are known. -/
def DivF (W : World) (q r : Nat) (e : Ending) (w' : World) : Prop :=
  ∃ A c A' c', e = .returned (.tuple #[.agg #[.slice A (dl q) c], .agg #[.slice A' (dl r) c'], .bool true]) ∧ Nm w' A (dl q) c q ∧ Nm w' A' (dl r) c' r ∧ Hid (Below W.heap.size W w')
theorem div_f {W : World} {A A' : Option Addr} {n n' c c' m m' q r : Nat} (h : Nm W A n c m) (h' : Nm W A' n' c' m') (h0 : 0 < m') (hd : dl m ≤ 99999) (hq : m / m' = q) (hr : m % m' = r) : Calls Tryz.prog 49 #[.agg #[.slice A n c], .agg #[.slice A' n' c']] W (DivF W q r) := by
  subst hq; subst hr
  exact div_h h h' h0 hd
theorem unique_pos {a q r : Int} {k : Nat} (hk : 0 < k) (h : r + (k : Int) * q = a) (h0 : 0 ≤ r) (h1 : r < k) : a / (k : Int) = q ∧ a % (k : Int) = r :=
  (Int.ediv_emod_unique (by omega)).2 ⟨h, h0, h1⟩
theorem zi_not (b : Bool) (m : Nat) : zi (!b) m = -zi b m := by cases b <;> simp [zi]
theorem div_sign {b b' : Bool} {m k q : Nat} {r : Int} (hk : 0 < k) (h : r + (k : Int) * zi b q = zi b m) (h0 : 0 ≤ r) (h1 : r < k) : zi b m / zi b' k = zi (b != b') q ∧ zi b m % zi b' k = r := by
  obtain ⟨e1, e2⟩ := unique_pos hk h h0 h1
  cases b'
  · rw [zi_false, show (b != false) = b by cases b <;> rfl]
    exact ⟨e1, e2⟩
  · rw [zi_true, Int.ediv_neg, Int.emod_neg, e1, e2, show (b != true) = !b by cases b <;> rfl, zi_not]
    exact ⟨rfl, rfl⟩
theorem div_plain {b b' : Bool} {m k : Nat} (hk : 0 < k) (h : b = false ∨ m % k = 0) : zi b m / zi b' k = zi (b != b') (m / k) ∧ zi b m % zi b' k = ((m % k : Nat) : Int) := by
  have e : m % k + k * (m / k) = m := Nat.mod_add_div m k
  have hlt := Nat.mod_lt m hk
  refine div_sign hk ?_ (by omega) (by omega)
  rcases h with h | h
  · subst h
    rw [zi_false, zi_false]
    have e2 := congrArg (fun x : Nat => (x : Int)) e
    simpa using e2
  · rw [h, Nat.zero_add] at e
    rw [h]
    cases b
    · rw [zi_false, zi_false]
      have e2 := congrArg (fun x : Nat => (x : Int)) e
      simpa using e2
    · rw [zi_true, zi_true]
      have e2 := congrArg (fun x : Nat => -(x : Int)) e
      simp only [Int.natCast_mul] at e2
      rw [Int.mul_neg]
      simpa using e2
theorem div_low {b' : Bool} {m k : Nat} (hk : 0 < k) (h : m % k ≠ 0) : zi true m / zi b' k = zi (true != b') (m / k + 1) ∧ zi true m % zi b' k = ((k - m % k : Nat) : Int) := by
  have e : m % k + k * (m / k) = m := Nat.mod_add_div m k
  have hlt := Nat.mod_lt m hk
  refine div_sign hk ?_ (by omega) (by omega)
  rw [zi_true, zi_true, Int.mul_neg]
  have e2 := congrArg (fun x : Nat => (x : Int)) e
  simp only [Int.natCast_add, Int.natCast_mul] at e2
  simp only [Int.natCast_add, Int.mul_add, Int.natCast_one, Int.mul_one]
  omega
theorem zi_lt_of (b : Bool) {m k : Nat} (h : m ≤ k) : (zi b m).natAbs ≤ k := by rw [zi_abs]; exact h
end Go.Proofs.YtphnmccpcjecnaaGreatDoor
end
