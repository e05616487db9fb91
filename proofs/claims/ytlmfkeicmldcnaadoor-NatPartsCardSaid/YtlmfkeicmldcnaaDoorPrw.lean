/- NatParts' walk. No conditions. -/
import Derived.Test.YtlmfkeicmldcnaaDoorKp
open Go.RowKit
set_option maxRecDepth 100000
namespace Go.Proofs.YtlmfkeicmldcnaaDoor
theorem cmpI_lt' {a b : Nat} (h : a < b) : cmpI a b = -1 := cmpI_lt h
set_option maxHeartbeats 4000000 in
theorem parts_main {A0 A1 : Option Addr} {l0 l1 c0 c1 m0 m1 : Nat} (w : World) (h0 : Later w A0 l0 c0 m0) (h1 : Later w A1 l1 c1 m1) (hl0 : l0 ≤ 40) (hl1 : l1 ≤ 40) (hm0 : m0 < W32 ^ 40) (hm1 : m1 < W32 ^ 40) :
    Calls Tryd.prog 5 #[.slice A0 l0 c0, .slice A1 l1 c1] w fun e w' => e = .returned (.bool true) ∧ Below w.heap.size w w' := by
  have N0 := hide (fun (W : World) (hb : Below w.heap.size w W) => (nm_later h0 hb : Nm W A0 l0 c0 m0))
  have N1 := hide (fun (W : World) (hb : Below w.heap.size w W) => (nm_later h1 hb : Nm W A1 l1 c1 m1))
  have HM0 := hide hm0
  have HM1 := hide hm1
  have HD0 := hide (dl_bd hm0 (by omega))
  clear h0 h1 hm0 hm1
  by_cases hz : m1 = 0
  · have CD := hide (fun (W : World) (hb : Below w.heap.size w W) => div_no (N0.out W hb) (N1.out W hb) hz)
    have CC := hide (fun (W : World) (A : Option Addr) (n c : Nat) (hb : Below w.heap.size w W) (hn : Nm W A n c 0) => cmp_h (v := 0) (N1.out W hb) hn (cmpI_eq hz))
    have CO : Hid (∀ W : World, Calls Tryd.prog 14 #[.int .u64 0] W (NumR W 0)) := fun W => of_h (v := 0) (by omega)
    clear hz
    go_enter Tryd.func5, Tryd.ntmps5
    go_wp2_with (first | (go_at_call 13; go_must (refine (awake_any _).mono ?_); rintro e wa ⟨rfl, hba⟩; have HB := hide hba; clear hba) | (go_at_call 17; go_must (refine (CD.out _ (HB.out.trans ((new2 _ _ _ _).2.2.1.mono HB.out.size))).mono ?_); rintro e w4 ⟨rfl, hbk⟩; obtain ⟨e0, e1, hsz, hbx⟩ := bx2 hbk; have HB := chain HB hbx.out; clear hbk hbx))
    have HP : Hid (wa.heap.size < w4.heap.size + 2 ∧ wa.heap.size + 1 < w4.heap.size + 2 ∧ w4.heap.size < w4.heap.size + 2 ∧ w4.heap.size + 1 < w4.heap.size + 2) := by have := hsz.out; unfold Hid; omega
    go_region_held3 (fun w' => w'.cell? ⟨wa.heap.size, 0, none⟩ = some (.slice A0 l0 c0) ∧ w'.cell? ⟨wa.heap.size + 1, 0, none⟩ = some (.slice A1 l1 c1) ∧ w'.cell? ⟨w4.heap.size, 0, none⟩ = some (.slice none 0 0) ∧ w'.cell? ⟨w4.heap.size + 1, 0, none⟩ = some (.slice none 0 0) ∧ Below w4.heap.size w4 w' ∧ w4.heap.size + 2 ≤ w'.heap.size)
      (first | exact st22 e0 e1 hsz | exact kp4 HP hbk (by assumption))
      (first | (go_at_call 14; (with_reducible refine (CO.out _).mono ?_); rintro e w5 ⟨A5, c5, rfl, hn5, hbk⟩) | (go_at_call 26; (with_reducible refine (CC.out _ _ _ _ (chainB HB (bl4 (by assumption))) hn5).mono ?_); rintro e w6 ⟨rfl, hbk⟩))
    go_wp2
    go_ret
    exact ⟨rfl, chainB HB (bl4 ‹w6.cell? ⟨wa.heap.size, 0, none⟩ = _ ∧ _›)⟩
  · have hz' : 0 < m1 := by omega
    have CD := hide (fun (W : World) (hb : Below w.heap.size w W) => div_h (N0.out W hb) (N1.out W hb) hz' HD0.out)
    have C1 := hide (fun (W : World) (A : Option Addr) (n c : Nat) (hb : Below w.heap.size w W) (hn : Nm W A n c (m0 % m1)) => cmp_h (v := -1) hn (N1.out W hb) (cmpI_lt (Nat.mod_lt _ hz')))
    have hmul : m0 / m1 * m1 ≤ m0 := Nat.div_mul_le_self _ _
    have C2 := hide (fun (W : World) (A : Option Addr) (n c : Nat) (hb : Below w.heap.size w W) (hn : Nm W A n c (m0 / m1)) => mul_h (v := m0 / m1 * m1) hn (N1.out W hb) rfl (Nat.le_trans (dl_mono hmul) (by have := HD0.out; omega)))
    have C3 := hide (fun (W : World) (A : Option Addr) (n c : Nat) (A' : Option Addr) (n' c' : Nat) (hn : Nm W A n c (m0 / m1 * m1)) (hn' : Nm W A' n' c' (m0 % m1)) => add_h (v := m0) hn hn' (by rw [Nat.mul_comm]; exact Nat.div_add_mod m0 m1) (by have := HD0.out; omega))
    have C4 := hide (fun (W : World) (A : Option Addr) (n c : Nat) (hb : Below w.heap.size w W) (hn : Nm W A n c m0) => cmp_h (v := 0) hn (N0.out W hb) (cmpI_eq rfl))
    clear hz hz' hmul
    go_enter Tryd.func5, Tryd.ntmps5
    go_wp2_with (first | (go_at_call 13; go_must (refine (awake_any _).mono ?_); rintro e wa ⟨rfl, hba⟩; have HB := hide hba; clear hba) | (go_at_call 17; go_must (refine (CD.out _ (HB.out.trans ((new2 _ _ _ _).2.2.1.mono HB.out.size))).mono ?_); rintro e w4 ⟨Aq, cq, Ar, cr, rfl, hnq, hnr, hbk⟩; obtain ⟨e0, e1, hsz, hbx⟩ := bx2 hbk; have HB := chain HB hbx.out; clear hbk hbx))
    have HP : Hid (wa.heap.size < w4.heap.size + 2 ∧ wa.heap.size + 1 < w4.heap.size + 2 ∧ w4.heap.size < w4.heap.size + 2 ∧ w4.heap.size + 1 < w4.heap.size + 2) := by have := hsz.out; unfold Hid; omega
    go_region_held3 (fun w' => w'.cell? ⟨wa.heap.size, 0, none⟩ = some (.slice A0 l0 c0) ∧ w'.cell? ⟨wa.heap.size + 1, 0, none⟩ = some (.slice A1 l1 c1) ∧ w'.cell? ⟨w4.heap.size, 0, none⟩ = some (.slice Aq (dl (m0 / m1)) cq) ∧ w'.cell? ⟨w4.heap.size + 1, 0, none⟩ = some (.slice Ar (dl (m0 % m1)) cr) ∧ Below w4.heap.size w4 w' ∧ w4.heap.size + 2 ≤ w'.heap.size)
      (first | exact st22 e0 e1 hsz | exact kp4 HP hbk (by assumption))
      (first | (go_at_call 26; (with_reducible refine (C1.out _ _ _ _ (chainB HB (bl4 (by assumption))) (hnr.up (bl4 (by assumption)))).mono ?_); rintro e w5 ⟨rfl, hbk⟩) | (go_at_call 33; (with_reducible refine (C2.out _ _ _ _ (chainB HB (bl4 (by assumption))) (hnq.up (bl4 (by assumption)))).mono ?_); rintro e w6 ⟨A6, c6, rfl, hn6, hbk⟩) | (go_at_call 31; (with_reducible refine (C3.out _ _ _ _ _ _ _ hn6 (hnr.up (bl4 (by assumption)))).mono ?_); rintro e w7 ⟨A7, c7, rfl, hn7, hbk⟩) | (go_at_call 26; (with_reducible refine (C4.out _ _ _ _ (chainB HB (bl4 (by assumption))) hn7).mono ?_); rintro e w8 ⟨rfl, hbk⟩) | (go_at_call 22; (with_reducible refine (good_h (hnq.up (bl4 (by assumption)))).mono ?_); rintro e w9 ⟨rfl, hbk⟩) | (go_at_call 22; (with_reducible refine (good_h (hnr.up (bl4 (by assumption)))).mono ?_); rintro e wz ⟨rfl, hbk⟩))
    go_wp2
    go_ret
    exact ⟨rfl, chainB HB (bl4 ‹wz.cell? ⟨wa.heap.size, 0, none⟩ = _ ∧ _›)⟩
theorem parts_walk {A0 A1 : Option Addr} {l0 l1 c0 c1 : Nat} {z0 z1 : List Nat} (w : World) (w0 : l0 = z0.length ∧ l0 ≤ c0 ∧ Rd U32 w w.heap.size A0 z0 ∧ Good32 z0) (w1 : l1 = z1.length ∧ l1 ≤ c1 ∧ Rd U32 w w.heap.size A1 z1 ∧ Good32 z1) :
    Calls Tryd.prog 5 #[.slice A0 l0 c0, .slice A1 l1 c1] w fun e w' => e = .returned (.bool true) ∧ Below w.heap.size w w' := by
  by_cases hall : l0 ≤ 40 ∧ l1 ≤ 40
  · obtain ⟨h0, h1⟩ := hall
    exact parts_main w (later_of w0 (by omega)) (later_of w1 (by omega)) h0 h1
      (Nat.lt_of_lt_of_le (val_lt z0 w0.2.2.2) (Nat.pow_le_pow_right (by decide) (by have := w0.1; omega)))
      (Nat.lt_of_lt_of_le (val_lt z1 w1.2.2.2) (Nat.pow_le_pow_right (by decide) (by have := w1.1; omega)))
  · have hc : (40 < l0) ∨ (¬ 40 < l0 ∧ 40 < l1) := by omega
    clear w0 w1 hall
    rcases hc with h0 | ⟨h0, h1⟩
    all_goals
      go_enter Tryd.func5, Tryd.ntmps5
      go_wp2_with (first | (go_at_call 13; go_must (refine (awake_any _).mono ?_); rintro e wa ⟨rfl, hba⟩; have HBA := hide hba; clear hba))
      go_ret
      exact ⟨rfl, HBA.out⟩
end Go.Proofs.YtlmfkeicmldcnaaDoor
