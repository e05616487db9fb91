/- NatGcds' walk. No conditions. -/
import Derived.Test.YtlmfkeicmldcnaaDoorKp
open Go.RowKit
set_option maxRecDepth 100000
namespace Go.Proofs.YtlmfkeicmldcnaaDoor
theorem gcd_left {m0 m1 g : Nat} (h : Nat.gcd m0 m1 = g) (hg : 0 < g) : m0 % g = 0 ∧ m1 % g = 0 ∧ Nat.gcd (m0 / g) (m1 / g) = 1 := by
  have h0 : g ∣ m0 := h ▸ Nat.gcd_dvd_left _ _
  have h1 : g ∣ m1 := h ▸ Nat.gcd_dvd_right _ _
  refine ⟨Nat.mod_eq_zero_of_dvd h0, Nat.mod_eq_zero_of_dvd h1, ?_⟩
  subst h
  rw [Nat.gcd_div h0 h1, Nat.div_self hg]
/-- Div whose quotient and rest are known. -/
def DivE (W : World) (q r : Nat) (e : Ending) (w' : World) : Prop :=
  ∃ A c A' c', e = .returned (.tuple #[.agg #[.slice A (dl q) c], .agg #[.slice A' (dl r) c'], .bool true]) ∧ Nm w' A (dl q) c q ∧ Nm w' A' (dl r) c' r ∧ Hid (Below W.heap.size W w')
theorem div_e {W : World} {A A' : Option Addr} {n n' c c' m m' q r : Nat} (h : Nm W A n c m) (h' : Nm W A' n' c' m') (h0 : 0 < m') (hd : dl m ≤ 99999) (hq : m / m' = q) (hr : m % m' = r) : Calls Tryd.prog 17 #[.agg #[.slice A n c], .agg #[.slice A' n' c']] W (DivE W q r) := by
  subst hq; subst hr
  exact div_h h h' h0 hd
set_option maxHeartbeats 8000000 in
theorem gcds_main {A0 A1 : Option Addr} {l0 l1 c0 c1 m0 m1 : Nat} (w : World) (h0 : Later w A0 l0 c0 m0) (h1 : Later w A1 l1 c1 m1) (hl0 : l0 ≤ 16) (hl1 : l1 ≤ 16) (hm0 : m0 < W32 ^ 16) (hm1 : m1 < W32 ^ 16) :
    Calls Tryd.prog 7 #[.slice A0 l0 c0, .slice A1 l1 c1] w fun e w' => e = .returned (.bool true) ∧ Below w.heap.size w w' := by
  have N0 := hide (fun (W : World) (hb : Below w.heap.size w W) => (nm_later h0 hb : Nm W A0 l0 c0 m0))
  have N1 := hide (fun (W : World) (hb : Below w.heap.size w W) => (nm_later h1 hb : Nm W A1 l1 c1 m1))
  have HD0 := hide (dl_bd hm0 (by omega))
  have HD1 := hide (dl_bd hm1 (by omega))
  clear h0 h1 hm0 hm1
  obtain ⟨g, hg⟩ : ∃ g, Nat.gcd m0 m1 = g := ⟨_, rfl⟩
  have CG := hide (fun (W : World) (hb : Below w.heap.size w W) => gcd_h (v := g) (N0.out W hb) (N1.out W hb) hg HD0.out HD1.out)
  have CG' := hide (fun (W : World) (hb : Below w.heap.size w W) => gcd_h (v := g) (N1.out W hb) (N0.out W hb) (by rw [Nat.gcd_comm]; exact hg) HD1.out HD0.out)
  by_cases hz : g = 0
  · subst hz
    have hz0 : m0 = 0 := Nat.eq_zero_of_gcd_eq_zero_left hg
    have hz1 : m1 = 0 := Nat.eq_zero_of_gcd_eq_zero_right hg
    have CD0 := hide (fun (W : World) (A : Option Addr) (n c : Nat) (hb : Below w.heap.size w W) (hn : Nm W A n c 0) => div_no (N0.out W hb) hn rfl)
    have CD1 := hide (fun (W : World) (A : Option Addr) (n c : Nat) (hb : Below w.heap.size w W) (hn : Nm W A n c 0) => div_no (N1.out W hb) hn rfl)
    have CC0 := hide (fun (W : World) (A : Option Addr) (n c : Nat) (hb : Below w.heap.size w W) (hn : Nm W A n c 0) => cmp_h (v := 0) (N0.out W hb) hn (cmpI_eq hz0))
    have CC1 := hide (fun (W : World) (A : Option Addr) (n c : Nat) (hb : Below w.heap.size w W) (hn : Nm W A n c 0) => cmp_h (v := 0) (N1.out W hb) hn (cmpI_eq hz1))
    have CO : Hid (∀ W : World, Calls Tryd.prog 14 #[.int .u64 0] W (NumR W 0)) := fun W => of_h (v := 0) (by omega)
    have CCG := hide (fun (W : World) (A : Option Addr) (n c : Nat) (A' : Option Addr) (n' c' : Nat) (hn : Nm W A n c 0) (hn' : Nm W A' n' c' 0) => cmp_h (v := 0) hn hn' (cmpI_eq rfl))
    clear hg hz0 hz1
    go_enter Tryd.func7, Tryd.ntmps7
    go_wp2_with (first | (go_at_call 13; go_must (refine (awake_any _).mono ?_); rintro e wa ⟨rfl, hba⟩; have HB := hide hba; clear hba) | (go_at_call 23; go_must (refine (CG.out _ (HB.out.trans ((new2 _ _ _ _).2.2.1.mono HB.out.size))).mono ?_); rintro e w3 ⟨Ag, cg, rfl, hng, hbk⟩; obtain ⟨e0, e1, hsz, hbx⟩ := bx2 hbk; have y1 : wa.heap.size < w3.heap.size := (by have := hsz.out; omega); have y2 : wa.heap.size + 1 < w3.heap.size := (by have := hsz.out; omega); clear hsz; have HB := chain HB hbx.out; clear hbk hbx) | (go_at_call 17; (with_reducible refine (CD0.out _ _ _ _ (HB.out.trans ((new1 _ _ _).2.1.mono HB.out.size)) (hng.al _)).mono ?_); rintro e w4 ⟨rfl, hbk⟩; obtain ⟨eg, hszg, hbx⟩ := bx1 hbk; replace hszg := hszg.out; have y3 : wa.heap.size < w4.heap.size := (by omega); have y4 : wa.heap.size + 1 < w4.heap.size := (by omega); have y5 : w3.heap.size < w4.heap.size := (by omega); have y6 : w3.heap.size < w4.heap.size + 1 := (by omega); have y7 : wa.heap.size < w4.heap.size + 1 := (by omega); clear hszg; replace e0 := cellUp e0 y1 hbx; replace e1 := cellUp e1 y2 hbx; replace hng := hng.up hbx; clear y1 y2; have HB := chain HB hbx.out; clear hbk hbx) | (go_at_call 17; (with_reducible refine (CD1.out _ _ _ _ (HB.out.trans ((new2 _ _ _ _).2.2.1.mono HB.out.size)) (hng.up (hide (new2 _ _ _ _).2.2.1))).mono ?_); rintro e w5 ⟨rfl, hbk⟩; obtain ⟨eq, er, hszq, hbx⟩ := bx2 hbk; replace hszq := hszq.out; replace e0 := cellUp e0 (by omega) hbx; replace e1 := cellUp e1 (by omega) hbx; replace eg := cellUp eg (by omega) hbx; replace hng := hng.up hbx; have HB := chain HB hbx.out; clear hbk hbx))
    have HP : Hid (wa.heap.size < w5.heap.size ∧ wa.heap.size + 1 < w5.heap.size ∧ w3.heap.size < w5.heap.size ∧ w4.heap.size < w5.heap.size ∧ w4.heap.size + 1 < w5.heap.size) := by unfold Hid; omega
    have HL : Hid (wa.heap.size < w5.heap.size + 2 ∧ wa.heap.size + 1 < w5.heap.size + 2 ∧ w3.heap.size < w5.heap.size + 2 ∧ w4.heap.size < w5.heap.size + 2 ∧ w4.heap.size + 1 < w5.heap.size + 2 ∧ w5.heap.size < w5.heap.size + 2 ∧ w5.heap.size + 1 < w5.heap.size + 2) := by unfold Hid; omega
    go_region_held3 (fun w' => w'.cell? ⟨wa.heap.size, 0, none⟩ = some (.slice A0 l0 c0) ∧ w'.cell? ⟨wa.heap.size + 1, 0, none⟩ = some (.slice A1 l1 c1) ∧ w'.cell? ⟨w3.heap.size, 0, none⟩ = some (.slice Ag (dl 0) cg) ∧ w'.cell? ⟨w4.heap.size, 0, none⟩ = some (.slice none 0 0) ∧ w'.cell? ⟨w4.heap.size + 1, 0, none⟩ = some (.slice none 0 0) ∧ w'.cell? ⟨w5.heap.size, 0, none⟩ = some (.slice none 0 0) ∧ w'.cell? ⟨w5.heap.size + 1, 0, none⟩ = some (.slice none 0 0) ∧ Below w5.heap.size w5 w' ∧ w5.heap.size + 2 ≤ w'.heap.size)
      (first | exact st5_2 e0 e1 eg eq er HP | exact kp7 HL hbk (by assumption))
      (first | (go_at_call 14; (with_reducible refine (CO.out _).mono ?_); rintro e w6 ⟨A6, c6, rfl, hn6, hbk⟩) | (go_at_call 26; (with_reducible refine (CC0.out _ _ _ _ (chainB HB (bl7 (by assumption))) hn6).mono ?_); rintro e w7 ⟨rfl, hbk⟩) | (go_at_call 26; (with_reducible refine (CC1.out _ _ _ _ (chainB HB (bl7 (by assumption))) hn6).mono ?_); rintro e w8 ⟨rfl, hbk⟩) | (go_at_call 26; (with_reducible refine (CCG.out _ _ _ _ _ _ _ (hng.up (bl7 (by assumption))) hn6).mono ?_); rintro e w9 ⟨rfl, hbk⟩))
    go_wp2
    go_ret
    exact ⟨rfl, chainB HB (bl7 ‹w9.cell? ⟨wa.heap.size, 0, none⟩ = _ ∧ _›)⟩
  · obtain ⟨q0, q1, q2⟩ := gcd_left hg (Nat.pos_of_ne_zero hz)
    obtain ⟨x0, hx0⟩ : ∃ x, x = m0 / g := ⟨_, rfl⟩
    obtain ⟨x1, hx1⟩ : ∃ x, x = m1 / g := ⟨_, rfl⟩
    have HX0 : Hid (dl x0 ≤ 99999) := by unfold Hid; rw [hx0]; exact Nat.le_trans (dl_mono (Nat.div_le_self _ _)) HD0.out
    have HX1 : Hid (dl x1 ≤ 99999) := by unfold Hid; rw [hx1]; exact Nat.le_trans (dl_mono (Nat.div_le_self _ _)) HD1.out
    rw [← hx0, ← hx1] at q2
    have CD0 := hide (fun (W : World) (A : Option Addr) (n c : Nat) (hb : Below w.heap.size w W) (hn : Nm W A n c g) => div_e (N0.out W hb) hn (Nat.pos_of_ne_zero hz) HD0.out hx0.symm q0)
    have CD1 := hide (fun (W : World) (A : Option Addr) (n c : Nat) (hb : Below w.heap.size w W) (hn : Nm W A n c g) => div_e (N1.out W hb) hn (Nat.pos_of_ne_zero hz) HD1.out hx1.symm q1)
    have CCR := hide (fun (W : World) (A : Option Addr) (n c : Nat) (A' : Option Addr) (n' c' : Nat) (hn : Nm W A n c 0) (hn' : Nm W A' n' c' 0) => cmp_h (v := 0) hn hn' (cmpI_eq rfl))
    have CCS := CCR
    have CC1 := hide (fun (W : World) (A : Option Addr) (n c : Nat) (A' : Option Addr) (n' c' : Nat) (hn : Nm W A n c 1) (hn' : Nm W A' n' c' 1) => cmp_h (v := 0) hn hn' (cmpI_eq rfl))
    have CCG := hide (fun (W : World) (A : Option Addr) (n c : Nat) (A' : Option Addr) (n' c' : Nat) (hn : Nm W A n c g) (hn' : Nm W A' n' c' g) => cmp_h (v := 0) hn hn' (cmpI_eq rfl))
    have CGQ := hide (fun (W : World) (A : Option Addr) (n c : Nat) (A' : Option Addr) (n' c' : Nat) (hn : Nm W A n c x0) (hn' : Nm W A' n' c' x1) => gcd_h (v := 1) hn hn' q2 HX0.out HX1.out)
    have CG2 := CG'
    have CO : Hid (∀ W : World, Calls Tryd.prog 14 #[.int .u64 0] W (NumR W 0)) := fun W => of_h (v := 0) (by omega)
    have CO1 : Hid (∀ W : World, Calls Tryd.prog 14 #[.int .u64 1] W (NumR W 1)) := fun W => of_h (v := 1) (by omega)
    clear hg q0 q1 q2 hx0 hx1 hz CG'
    go_enter Tryd.func7, Tryd.ntmps7
    go_wp2_with (first | (go_at_call 13; go_must (refine (awake_any _).mono ?_); rintro e wa ⟨rfl, hba⟩; have HB := hide hba; clear hba) | (go_at_call 23; go_must (refine (CG.out _ (HB.out.trans ((new2 _ _ _ _).2.2.1.mono HB.out.size))).mono ?_); rintro e w3 ⟨Ag, cg, rfl, hng, hbk⟩; obtain ⟨e0, e1, hsz, hbx⟩ := bx2 hbk; have y1 : wa.heap.size < w3.heap.size := (by have := hsz.out; omega); have y2 : wa.heap.size + 1 < w3.heap.size := (by have := hsz.out; omega); clear hsz; have HB := chain HB hbx.out; clear hbk hbx) | (go_at_call 17; (with_reducible refine (CD0.out _ _ _ _ (HB.out.trans ((new1 _ _ _).2.1.mono HB.out.size)) (hng.al _)).mono ?_); rintro e w4 ⟨Aq, cq, Ar, cr, rfl, hnq, hnr, hbk⟩; obtain ⟨eg, hszg, hbx⟩ := bx1 hbk; replace hszg := hszg.out; have y3 : wa.heap.size < w4.heap.size := (by omega); have y4 : wa.heap.size + 1 < w4.heap.size := (by omega); have y5 : w3.heap.size < w4.heap.size := (by omega); have y6 : w3.heap.size < w4.heap.size + 1 := (by omega); have y7 : wa.heap.size < w4.heap.size + 1 := (by omega); clear hszg; replace e0 := cellUp e0 y1 hbx; replace e1 := cellUp e1 y2 hbx; replace hng := hng.up hbx; clear y1 y2; have HB := chain HB hbx.out; clear hbk hbx) | (go_at_call 17; (with_reducible refine (CD1.out _ _ _ _ (HB.out.trans ((new2 _ _ _ _).2.2.1.mono HB.out.size)) (hng.up (hide (new2 _ _ _ _).2.2.1))).mono ?_); rintro e w5 ⟨AQ, cQ, AR, cR, rfl, hnQ, hnR, hbk⟩; obtain ⟨eq, er, hszq, hbx⟩ := bx2 hbk; replace hszq := hszq.out; replace e0 := cellUp e0 (by omega) hbx; replace e1 := cellUp e1 (by omega) hbx; replace eg := cellUp eg (by omega) hbx; replace hng := hng.up hbx; replace hnq := hnq.up hbx; replace hnr := hnr.up hbx; have HB := chain HB hbx.out; clear hbk hbx))
    have HP : Hid (wa.heap.size < w5.heap.size ∧ wa.heap.size + 1 < w5.heap.size ∧ w3.heap.size < w5.heap.size ∧ w4.heap.size < w5.heap.size ∧ w4.heap.size + 1 < w5.heap.size) := by unfold Hid; omega
    have HL : Hid (wa.heap.size < w5.heap.size + 2 ∧ wa.heap.size + 1 < w5.heap.size + 2 ∧ w3.heap.size < w5.heap.size + 2 ∧ w4.heap.size < w5.heap.size + 2 ∧ w4.heap.size + 1 < w5.heap.size + 2 ∧ w5.heap.size < w5.heap.size + 2 ∧ w5.heap.size + 1 < w5.heap.size + 2) := by unfold Hid; omega
    go_region_held3 (fun w' => w'.cell? ⟨wa.heap.size, 0, none⟩ = some (.slice A0 l0 c0) ∧ w'.cell? ⟨wa.heap.size + 1, 0, none⟩ = some (.slice A1 l1 c1) ∧ w'.cell? ⟨w3.heap.size, 0, none⟩ = some (.slice Ag (dl g) cg) ∧ w'.cell? ⟨w4.heap.size, 0, none⟩ = some (.slice Aq (dl x0) cq) ∧ w'.cell? ⟨w4.heap.size + 1, 0, none⟩ = some (.slice Ar (dl 0) cr) ∧ w'.cell? ⟨w5.heap.size, 0, none⟩ = some (.slice AQ (dl x1) cQ) ∧ w'.cell? ⟨w5.heap.size + 1, 0, none⟩ = some (.slice AR (dl 0) cR) ∧ Below w5.heap.size w5 w' ∧ w5.heap.size + 2 ≤ w'.heap.size)
      (first | exact st5_2 e0 e1 eg eq er HP | exact kp7 HL hbk (by assumption))
      (first | (go_at_call 14; (with_reducible refine (CO.out _).mono ?_); rintro e w6 ⟨A6, c6, rfl, hn6, hbk⟩) | (go_at_call 26; (with_reducible refine (CCR.out _ _ _ _ _ _ _ (hnr.up (bl7 (by assumption))) hn6).mono ?_); rintro e w7 ⟨rfl, hbk⟩) | (go_at_call 26; (with_reducible refine (CCS.out _ _ _ _ _ _ _ (hnR.up (bl7 (by assumption))) hn6).mono ?_); rintro e w8 ⟨rfl, hbk⟩) | (go_at_call 23; (with_reducible refine (CGQ.out _ _ _ _ _ _ _ (hnq.up (bl7 (by assumption))) (hnQ.up (bl7 (by assumption)))).mono ?_); rintro e wg ⟨A7, c7, rfl, hn7, hbk⟩) | (go_at_call 14; (with_reducible refine (CO1.out _).mono ?_); rintro e wf ⟨A8, c8, rfl, hn8, hbk⟩; have hn7 := hn7.up hbk) | (go_at_call 26; (with_reducible refine (CC1.out _ _ _ _ _ _ _ hn7 hn8).mono ?_); rintro e w9 ⟨rfl, hbk⟩) | (go_at_call 23; (with_reducible refine (CG2.out _ (chainB HB (bl7 (by assumption)))).mono ?_); rintro e wh ⟨A9, c9, rfl, hn9, hbk⟩) | (go_at_call 26; (with_reducible refine (CCG.out _ _ _ _ _ _ _ hn9 (hng.up (bl7 (by assumption)))).mono ?_); rintro e wz ⟨rfl, hbk⟩))
    go_wp2
    go_ret
    exact ⟨rfl, chainB HB (bl7 ‹wz.cell? ⟨wa.heap.size, 0, none⟩ = _ ∧ _›)⟩
theorem gcds_walk {A0 A1 : Option Addr} {l0 l1 c0 c1 : Nat} {z0 z1 : List Nat} (w : World) (w0 : l0 = z0.length ∧ l0 ≤ c0 ∧ Rd U32 w w.heap.size A0 z0 ∧ Good32 z0) (w1 : l1 = z1.length ∧ l1 ≤ c1 ∧ Rd U32 w w.heap.size A1 z1 ∧ Good32 z1) :
    Calls Tryd.prog 7 #[.slice A0 l0 c0, .slice A1 l1 c1] w fun e w' => e = .returned (.bool true) ∧ Below w.heap.size w w' := by
  by_cases hall : l0 ≤ 16 ∧ l1 ≤ 16
  · obtain ⟨h0, h1⟩ := hall
    exact gcds_main w (later_of w0 (by omega)) (later_of w1 (by omega)) h0 h1
      (Nat.lt_of_lt_of_le (val_lt z0 w0.2.2.2) (Nat.pow_le_pow_right (by decide) (by have := w0.1; omega)))
      (Nat.lt_of_lt_of_le (val_lt z1 w1.2.2.2) (Nat.pow_le_pow_right (by decide) (by have := w1.1; omega)))
  · have hc : (16 < l0) ∨ (¬ 16 < l0 ∧ 16 < l1) := by omega
    clear w0 w1 hall
    rcases hc with h0 | ⟨h0, h1⟩
    all_goals
      go_enter Tryd.func7, Tryd.ntmps7
      go_wp2_with (first | (go_at_call 13; go_must (refine (awake_any _).mono ?_); rintro e wa ⟨rfl, hba⟩; have HBA := hide hba; clear hba))
      go_ret
      exact ⟨rfl, HBA.out⟩
end Go.Proofs.YtlmfkeicmldcnaaDoor
