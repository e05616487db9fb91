/- RoundModes' walk: one case of two. -/
import Derived.Test.YteahcbeohopdlaaDoorGUwc30
open Go.RowKit
set_option maxRecDepth 100000
namespace Go.Proofs.YteahcbeohopdlaaDoor
section
variable {W w : World} {b : Bool} {A A' : Option Addr} {n c n' c' : Nat} {r : Rat}
set_option maxHeartbeats 64000000 in
theorem modes_p (w : World) (h : QA w b A n c A' n' c' r 12) (hn : n ≤ 12 ∧ n' ≤ 12) (hg : ∀ W, Bel w W → Calls Tryd.prog 44 #[.agg #[.bool b, .slice A n c, .slice A' n' c']] W (RetB W true)) (hneg : ¬ r.num < 0) : Calls Tryd.prog 5 #[.agg #[.bool b, .slice A n c, .slice A' n' c']] w fun e w' => e = .returned (.bool true) ∧ Below w.heap.size w w' := by
  have M := modes_of r
  obtain ⟨v, hv⟩ : ∃ v : Nat → Int, v = fun j : Nat => rdR (j : Int) r := ⟨_, rfl⟩
  obtain ⟨sg, hsg⟩ : ∃ s : Nat → Bool, s = fun j => decide (v j < 0) := ⟨_, rfl⟩
  have br : Bd r 12 := qa_bd h (by decide)
  have e3 : rdR 3 r = v 3 := by rw [hv]; rfl
  have e4 : rdR 4 r = v 4 := by rw [hv]; rfl
  obtain ⟨lo, hlo⟩ : ∃ x : Rat, x = ((v 3 : Int) : Rat) := ⟨_, rfl⟩
  obtain ⟨hi, hhi⟩ : ∃ x : Rat, x = ((v 4 : Int) : Rat) := ⟨_, rfl⟩
  obtain ⟨slo, hslo⟩ : ∃ x, x = decide (lo.num < 0) := ⟨_, rfl⟩
  obtain ⟨shi, hshi⟩ : ∃ x, x = decide (hi.num < 0) := ⟨_, rfl⟩
  obtain ⟨one, hone⟩ : ∃ x : Nat, x = 1 := ⟨_, rfl⟩
  have bv : ∀ j : Nat, (v j).natAbs < W32 ^ 13 := fun j => by
    have h1 := rd_abs (m := (j : Int)) (p := r.num) (q := r.den)
    have h2 : W32 ^ 12 + 1 ≤ W32 ^ 13 := Nat.pow_lt_pow_right (by decide) (by decide)
    have h3 := br.1
    rw [hv]
    show (rdR (j : Int) r).natAbs < _
    unfold rdR
    omega
  have blo : Bd lo 13 := by rw [hlo]; exact bd_int (bv 3) (by decide)
  have bhi : Bd hi 13 := by rw [hhi]; exact bd_int (bv 4) (by decide)
  obtain ⟨u1, hu1⟩ : ∃ u, cmpR lo r = u := ⟨_, rfl⟩
  obtain ⟨u2, hu2⟩ : ∃ u, cmpR r hi = u := ⟨_, rfl⟩
  have q1 : decide (0 < u1) = false := decide_eq_false (by have := M.lo; rw [e3, ← hlo, hu1] at this; omega)
  have q2 : decide (0 < u2) = false := decide_eq_false (by have := M.hi; rw [e4, ← hhi, hu2] at this; omega)
  have q1' : ¬ 0 < u1 := of_decide_eq_false q1
  have q2' : ¬ 0 < u2 := of_decide_eq_false q2
  obtain ⟨us, hus⟩ : ∃ u, r.num.sign = u := ⟨_, rfl⟩
  have CL : Hid (∀ W, Calls Tryd.prog 43 #[.agg #[.bool b, .slice A n c, .slice A' n' c']] W (BoolR W false)) := fun W => long5_h hn.1 hn.2
  have CG := hide hg
  have CI1 : Hid (∀ W, Bel w W → Calls Tryd.prog 41 #[.agg #[.bool b, .slice A n c, .slice A' n' c'], .int .i64 1] W (IntR W (sg 1) (v 1))) := fun W hw => by rw [hsg]; exact rint_h (m := 1) (h.up hw.hid) (by decide) (by decide) (by rw [hv]; rfl)
  have CI2 : Hid (∀ W, Bel w W → Calls Tryd.prog 41 #[.agg #[.bool b, .slice A n c, .slice A' n' c'], .int .i64 2] W (IntR W (sg 2) (v 2))) := fun W hw => by rw [hsg]; exact rint_h (m := 2) (h.up hw.hid) (by decide) (by decide) (by rw [hv]; rfl)
  have CI3 : Hid (∀ W, Bel w W → Calls Tryd.prog 41 #[.agg #[.bool b, .slice A n c, .slice A' n' c'], .int .i64 3] W (IntR W (sg 3) (v 3))) := fun W hw => by rw [hsg]; exact rint_h (m := 3) (h.up hw.hid) (by decide) (by decide) (by rw [hv]; rfl)
  have CI4 : Hid (∀ W, Bel w W → Calls Tryd.prog 41 #[.agg #[.bool b, .slice A n c, .slice A' n' c'], .int .i64 4] W (IntR W (sg 4) (v 4))) := fun W hw => by rw [hsg]; exact rint_h (m := 4) (h.up hw.hid) (by decide) (by decide) (by rw [hv]; rfl)
  have CI5 : Hid (∀ W, Bel w W → Calls Tryd.prog 41 #[.agg #[.bool b, .slice A n c, .slice A' n' c'], .int .i64 5] W (IntR W (sg 5) (v 5))) := fun W hw => by rw [hsg]; exact rint_h (m := 5) (h.up hw.hid) (by decide) (by decide) (by rw [hv]; rfl)
  have CI6 : Hid (∀ W, Bel w W → Calls Tryd.prog 41 #[.agg #[.bool b, .slice A n c, .slice A' n' c'], .int .i64 6] W (IntR W (sg 6) (v 6))) := fun W hw => by rw [hsg]; exact rint_h (m := 6) (h.up hw.hid) (by decide) (by decide) (by rw [hv]; rfl)
  have CI7 : Hid (∀ W, Bel w W → Calls Tryd.prog 41 #[.agg #[.bool b, .slice A n c, .slice A' n' c'], .int .i64 7] W (IntR W (sg 7) (v 7))) := fun W hw => by rw [hsg]; exact rint_h (m := 7) (h.up hw.hid) (by decide) (by decide) (by rw [hv]; rfl)
  have CO : Hid (∀ W, Calls Tryd.prog 40 #[.int .u64 1] W (NumR W one)) := fun W => by rw [hone]; exact of_h (v := 1) (by decide)
  have CF3 : Hid (∀ W B e B' e', ZA W (sg 3) B (dl (v 3).natAbs) e (v 3) → Nm W B' (dl one) e' one → Calls Tryd.prog 45 #[.agg #[.bool (sg 3), .slice B (dl (v 3).natAbs) e], .agg #[.slice B' (dl one) e']] W (OfYw W slo lo)) := fun W B e B' e' h1 h2 => by
    rw [hslo]
    exact of_yes h1 h2 (by rw [hone]; decide) (by rw [hlo, hone, Rat.mkRat_one]) (Nat.le_trans (dl_le (bv 3)) (by decide)) (by rw [hone, dl_one]; decide)
  have CF4 : Hid (∀ W B e B' e', ZA W (sg 4) B (dl (v 4).natAbs) e (v 4) → Nm W B' (dl one) e' one → Calls Tryd.prog 45 #[.agg #[.bool (sg 4), .slice B (dl (v 4).natAbs) e], .agg #[.slice B' (dl one) e']] W (OfYw W shi hi)) := fun W B e B' e' h1 h2 => by
    rw [hshi]
    exact of_yes h1 h2 (by rw [hone]; decide) (by rw [hhi, hone, Rat.mkRat_one]) (Nat.le_trans (dl_le (bv 4)) (by decide)) (by rw [hone, dl_one]; decide)
  have CC1 : Hid (∀ W B e B' e', Bel w W → ZA W slo B (dl lo.num.natAbs) e lo.num → Nm W B' (dl lo.den) e' lo.den → Calls Tryd.prog 46 #[.agg #[.bool slo, .slice B (dl lo.num.natAbs) e, .slice B' (dl lo.den) e'], .agg #[.bool b, .slice A n c, .slice A' n' c']] W (IntPost W u1)) := fun W B e B' e' hw h1 h2 => by
    rw [← hu1]
    exact rcmp_h (qa_self h1 h2 blo) (QA.more (h.up hw.hid) (by decide)) (by decide) (by decide)
  have CC2 : Hid (∀ W B e B' e', Bel w W → ZA W shi B (dl hi.num.natAbs) e hi.num → Nm W B' (dl hi.den) e' hi.den → Calls Tryd.prog 46 #[.agg #[.bool b, .slice A n c, .slice A' n' c'], .agg #[.bool shi, .slice B (dl hi.num.natAbs) e, .slice B' (dl hi.den) e']] W (IntPost W u2)) := fun W B e B' e' hw h1 h2 => by
    rw [← hu2]
    exact rcmp_h (QA.more (h.up hw.hid) (by decide)) (qa_self h1 h2 bhi) (by decide) (by decide)
  have CFl : Hid (∀ W, Bel w W → Calls Tryd.prog 47 #[.agg #[.bool b, .slice A n c, .slice A' n' c']] W (ZRu W (sg 3) (v 3))) := fun W hw => by
    rw [hsg]
    exact floor_h (h.up hw.hid) (by decide) (by decide) (by rw [← M.fl, e3])
  have CS : Hid (∀ W, Bel w W → Calls Tryd.prog 48 #[.agg #[.bool b, .slice A n c, .slice A' n' c']] W (IntPost W us)) := fun W hw => rsign_h (h.up hw.hid) (by decide) hus
  have CE : Hid (∀ i j : Nat, v i = v j → ∀ W B e B' e', ZA W (sg i) B (dl (v i).natAbs) e (v i) → ZA W (sg j) B' (dl (v j).natAbs) e' (v j) → Calls Tryd.prog 20 #[.agg #[.bool (sg i), .slice B (dl (v i).natAbs) e], .agg #[.bool (sg j), .slice B' (dl (v j).natAbs) e']] W (IntPost W 0)) := fun i j hij W B e B' e' h1 h2 => zcmp_h h1 h2 (by rw [hij]; unfold cmpZ; rw [if_neg (Int.lt_irrefl _), if_neg (Int.lt_irrefl _)])
  have CU : Hid (∀ i j : Nat, ∃ u, (v i ≠ v j → u ≠ 0) ∧ ∀ W B e B' e', ZA W (sg i) B (dl (v i).natAbs) e (v i) → ZA W (sg j) B' (dl (v j).natAbs) e' (v j) → Calls Tryd.prog 20 #[.agg #[.bool (sg i), .slice B (dl (v i).natAbs) e], .agg #[.bool (sg j), .slice B' (dl (v j).natAbs) e']] W (IntPost W u)) := fun i j => ⟨cmpZ (v i) (v j), fun hij => by
    unfold cmpZ
    split
    · decide
    · rw [if_pos (by omega)]; decide, fun W B e B' e' h1 h2 => zcmp_h h1 h2 rfl⟩
  have HH : Hid (∀ j : Nat, v j = v 3 ∨ v j = v 4) := fun j => by
    have := M.half (j : Int)
    rw [e3, e4] at this
    rw [hv] at this ⊢
    exact this
  have g1 : v 1 = v 3 := by have := (M.pos (by omega)).1; rw [hv]; exact this
  have g2 : v 2 = v 4 := by have := (M.pos (by omega)).2; rw [hv]; exact this
  have p1 : decide (0 ≤ us) = true := decide_eq_true (by rw [← hus]; exact Int.sign_nonneg_iff.2 (by omega))
  have p1' : 0 ≤ us := of_decide_eq_true p1
  have p2 : decide (us < 0) = false := decide_eq_false (by omega)
  have p2' : ¬ us < 0 := of_decide_eq_false p2
  have CE1 := hide (CE.out 1 3 g1)
  have CE2 := hide (CE.out 2 4 g2)
  have CE3 := hide (CE.out 3 3 rfl)
  clear h hn hg hneg M hv hsg br e3 e4 hlo hhi hslo hshi hone bv blo bhi hu1 hu2 hus g1 g2
  have HB := Bel.refl w
  go_enter Tryd.func5, Tryd.ntmps5
  go_wp2_with (first | (go_at_call 34; (with_reducible refine (awake5_any _).mono ?_); rintro e w1 ⟨rfl, hbk⟩; (with_reducible (have HA : At w1 w.heap.size [.bool b, .slice A n c, .slice A' n' c'] := At.up (at_new0 _ _ _) hbk; replace HB := (HB.al _).up hbk)); have ha_0 := HA.c0; have ha_1 := HA.c1; have ha_2 := HA.c2; have ha_l := HA.lt) | (go_at_call 43; (with_reducible refine (CL.out _).mono ?_); rintro e w2 ⟨rfl, hbk⟩; (with_reducible (replace HB := HB.up hbk; replace HA := HA.up hbk)); clear ha_0 ha_1 ha_2 ha_l; have ha_0 := HA.c0; have ha_1 := HA.c1; have ha_2 := HA.c2; have ha_l := HA.lt) | (go_at_call 44; (with_reducible refine (CG.out _ HB).mono ?_); rintro e w3 ⟨rfl, hbk⟩; replace hbk := Bel.hid hbk; (with_reducible (replace HB := HB.up hbk; replace HA := HA.up hbk)); clear ha_0 ha_1 ha_2 ha_l) | fail)
  obtain ⟨W1, hW1⟩ : ∃ X, X = w3.alloc (.cells #[.bool false, .slice none 0 0, .bool false, .slice none 0 0, .bool false, .slice none 0 0, .bool false, .slice none 0 0, .bool false, .slice none 0 0, .bool false, .slice none 0 0, .bool false, .slice none 0 0, .bool false, .slice none 0 0] 75) := ⟨_, rfl⟩
  rw [← hW1]
  obtain ⟨pa, hpa⟩ : ∃ p, p = w3.heap.size := ⟨_, rfl⟩
  rw [← hpa]
  have HR : At W1 pa [.bool false, .slice none 0 0, .bool false, .slice none 0 0, .bool false, .slice none 0 0, .bool false, .slice none 0 0, .bool false, .slice none 0 0, .bool false, .slice none 0 0, .bool false, .slice none 0 0, .bool false, .slice none 0 0] := by rw [hW1, hpa]; exact at_new0 _ _ _
  have hpw : w.heap.size < pa := by rw [hpa]; exact HA.lt
  replace HA : At W1 w.heap.size [.bool b, .slice A n c, .slice A' n' c'] := by rw [hW1]; exact HA.al _
  replace HB : Bel w W1 := by rw [hW1]; exact HB.al _
  clear hW1 hpa
  go_loopw [4] (fun iv w' => ∃ (k : Nat) (B : Nat → Option Addr) (E : Nat → Nat), 1 ≤ k ∧ k ≤ 8 ∧ iv = .int .i64 (k : Int) ∧ Hid (At w' pa (arr sg v B E k) ∧ At w' w.heap.size [.bool b, .slice A n c, .slice A' n' c'] ∧ (∀ j, 1 ≤ j → j < k → ZA w' (sg j) (B j) (dl (v j).natAbs) (E j) (v j)) ∧ Bel w w')) (fun iv _ => 8 - (intOf iv).toNat)
  case atStart => exact ⟨1, fun _ => none, fun _ => 0, by decide, by decide, rfl, HR, HA, fun j h1 h2 => by omega, HB⟩
  case round =>
    clear HR HA HB
    obtain ⟨k, B, E, hk1, hk8, rfl, hX⟩ := hrel
    obtain ⟨HR0, HA, HZ0, HB⟩ := hX.out
    have HZ := hide HZ0
    clear HZ0 hX
    by_cases hlt : k < 8
    · have hkk : k = 1 ∨ k = 2 ∨ k = 3 ∨ k = 4 ∨ k = 5 ∨ k = 6 ∨ k = 7 := by omega
      clear hk1 hk8 hlt
      rcases hkk with rfl | rfl | rfl | rfl | rfl | rfl | rfl
      · have HR : At wr pa [.bool false, .slice none 0 0, .bool false, .slice none 0 0, .bool false, .slice none 0 0, .bool false, .slice none 0 0, .bool false, .slice none 0 0, .bool false, .slice none 0 0, .bool false, .slice none 0 0, .bool false, .slice none 0 0] := HR0
        clear HR0
        have ha_0 := HA.c0
        have ha_1 := HA.c1
        have ha_2 := HA.c2
        have ha_l := HA.lt
        go_wp2_with (first | (go_at_call 41; (with_reducible refine (CI1.out _ HB).mono ?_); rintro e w4 ⟨Bn, en, rfl, zn, hbk⟩; replace HB := HB.up hbk; replace HA := HA.up hbk; replace HR := HR.up hbk; have HZ2 : Hid (∀ j, 1 ≤ j → j < 1 → ZA w4 (sg j) (B j) (dl (v j).natAbs) (E j) (v j)) := (fun j h1 h2 => (HZ.out j h1 h2).up hbk); have hc0 := HR.ci (i := 2) rfl; have hc1 := HR.ci (i := 3) rfl; have hf0 := HR.fi (i := 2) rfl; have hf1 := HR.fi (i := 3) rfl; have hrl := HR.lt) | fail)
        go_roundw
        case rel =>
          refine ⟨2, fun j => if j = 1 then Bn else B j, fun j => if j = 1 then en else E j, by decide, by decide, by go_num, ?_, ?_, ?_, ?_⟩
          · first
              | exact ((HR.put (i := 2) (by simp) _).put (i := 3) (by simp) _).al _
              | exact ((HR.al _).put (i := 2) (by simp) _).put (i := 3) (by simp) _
          · first
              | exact ((HA.far (by omega) _).far (by omega) _).al _
              | exact ((HA.al _).far (by omega) _).far (by omega) _
          · intro j h1 h2
            by_cases hj : j = 1
            · subst hj
              first
                | exact (za_put2 (i := 2) zn HR rfl rfl _ _).al _
                | exact za_put2 (i := 2) (zn.al _) (HR.al _) rfl rfl _ _
            · show ZA _ (sg j) (if j = 1 then Bn else B j) (dl (v j).natAbs) (if j = 1 then en else E j) (v j)
              rw [if_neg hj, if_neg hj]
              have zz := HZ2.out j h1 (by omega)
              first
                | exact (za_put2 (i := 2) zz HR rfl rfl _ _).al _
                | exact za_put2 (i := 2) (zz.al _) (HR.al _) rfl rfl _ _
          · first
              | exact ((HB.put (by omega) _).put (by omega) _).al _
              | exact ((HB.al _).put (by omega) _).put (by omega) _
        case measure => simp [intOf]
      · have HR : At wr pa [.bool false, .slice none 0 0, .bool (sg 1), .slice (B 1) (dl (v 1).natAbs) (E 1), .bool false, .slice none 0 0, .bool false, .slice none 0 0, .bool false, .slice none 0 0, .bool false, .slice none 0 0, .bool false, .slice none 0 0, .bool false, .slice none 0 0] := HR0
        clear HR0
        have ha_0 := HA.c0
        have ha_1 := HA.c1
        have ha_2 := HA.c2
        have ha_l := HA.lt
        go_wp2_with (first | (go_at_call 41; (with_reducible refine (CI2.out _ HB).mono ?_); rintro e w4 ⟨Bn, en, rfl, zn, hbk⟩; replace HB := HB.up hbk; replace HA := HA.up hbk; replace HR := HR.up hbk; have HZ2 : Hid (∀ j, 1 ≤ j → j < 2 → ZA w4 (sg j) (B j) (dl (v j).natAbs) (E j) (v j)) := (fun j h1 h2 => (HZ.out j h1 h2).up hbk); have hc0 := HR.ci (i := 4) rfl; have hc1 := HR.ci (i := 5) rfl; have hf0 := HR.fi (i := 4) rfl; have hf1 := HR.fi (i := 5) rfl; have hrl := HR.lt) | fail)
        go_roundw
        case rel =>
          refine ⟨3, fun j => if j = 2 then Bn else B j, fun j => if j = 2 then en else E j, by decide, by decide, by go_num, ?_, ?_, ?_, ?_⟩
          · first
              | exact ((HR.put (i := 4) (by simp) _).put (i := 5) (by simp) _).al _
              | exact ((HR.al _).put (i := 4) (by simp) _).put (i := 5) (by simp) _
          · first
              | exact ((HA.far (by omega) _).far (by omega) _).al _
              | exact ((HA.al _).far (by omega) _).far (by omega) _
          · intro j h1 h2
            by_cases hj : j = 2
            · subst hj
              first
                | exact (za_put2 (i := 4) zn HR rfl rfl _ _).al _
                | exact za_put2 (i := 4) (zn.al _) (HR.al _) rfl rfl _ _
            · show ZA _ (sg j) (if j = 2 then Bn else B j) (dl (v j).natAbs) (if j = 2 then en else E j) (v j)
              rw [if_neg hj, if_neg hj]
              have zz := HZ2.out j h1 (by omega)
              first
                | exact (za_put2 (i := 4) zz HR rfl rfl _ _).al _
                | exact za_put2 (i := 4) (zz.al _) (HR.al _) rfl rfl _ _
          · first
              | exact ((HB.put (by omega) _).put (by omega) _).al _
              | exact ((HB.al _).put (by omega) _).put (by omega) _
        case measure => simp [intOf]
      · have HR : At wr pa [.bool false, .slice none 0 0, .bool (sg 1), .slice (B 1) (dl (v 1).natAbs) (E 1), .bool (sg 2), .slice (B 2) (dl (v 2).natAbs) (E 2), .bool false, .slice none 0 0, .bool false, .slice none 0 0, .bool false, .slice none 0 0, .bool false, .slice none 0 0, .bool false, .slice none 0 0] := HR0
        clear HR0
        have ha_0 := HA.c0
        have ha_1 := HA.c1
        have ha_2 := HA.c2
        have ha_l := HA.lt
        go_wp2_with (first | (go_at_call 41; (with_reducible refine (CI3.out _ HB).mono ?_); rintro e w4 ⟨Bn, en, rfl, zn, hbk⟩; replace HB := HB.up hbk; replace HA := HA.up hbk; replace HR := HR.up hbk; have HZ2 : Hid (∀ j, 1 ≤ j → j < 3 → ZA w4 (sg j) (B j) (dl (v j).natAbs) (E j) (v j)) := (fun j h1 h2 => (HZ.out j h1 h2).up hbk); have hc0 := HR.ci (i := 6) rfl; have hc1 := HR.ci (i := 7) rfl; have hf0 := HR.fi (i := 6) rfl; have hf1 := HR.fi (i := 7) rfl; have hrl := HR.lt) | fail)
        go_roundw
        case rel =>
          refine ⟨4, fun j => if j = 3 then Bn else B j, fun j => if j = 3 then en else E j, by decide, by decide, by go_num, ?_, ?_, ?_, ?_⟩
          · first
              | exact ((HR.put (i := 6) (by simp) _).put (i := 7) (by simp) _).al _
              | exact ((HR.al _).put (i := 6) (by simp) _).put (i := 7) (by simp) _
          · first
              | exact ((HA.far (by omega) _).far (by omega) _).al _
              | exact ((HA.al _).far (by omega) _).far (by omega) _
          · intro j h1 h2
            by_cases hj : j = 3
            · subst hj
              first
                | exact (za_put2 (i := 6) zn HR rfl rfl _ _).al _
                | exact za_put2 (i := 6) (zn.al _) (HR.al _) rfl rfl _ _
            · show ZA _ (sg j) (if j = 3 then Bn else B j) (dl (v j).natAbs) (if j = 3 then en else E j) (v j)
              rw [if_neg hj, if_neg hj]
              have zz := HZ2.out j h1 (by omega)
              first
                | exact (za_put2 (i := 6) zz HR rfl rfl _ _).al _
                | exact za_put2 (i := 6) (zz.al _) (HR.al _) rfl rfl _ _
          · first
              | exact ((HB.put (by omega) _).put (by omega) _).al _
              | exact ((HB.al _).put (by omega) _).put (by omega) _
        case measure => simp [intOf]
      · have HR : At wr pa [.bool false, .slice none 0 0, .bool (sg 1), .slice (B 1) (dl (v 1).natAbs) (E 1), .bool (sg 2), .slice (B 2) (dl (v 2).natAbs) (E 2), .bool (sg 3), .slice (B 3) (dl (v 3).natAbs) (E 3), .bool false, .slice none 0 0, .bool false, .slice none 0 0, .bool false, .slice none 0 0, .bool false, .slice none 0 0] := HR0
        clear HR0
        have ha_0 := HA.c0
        have ha_1 := HA.c1
        have ha_2 := HA.c2
        have ha_l := HA.lt
        go_wp2_with (first | (go_at_call 41; (with_reducible refine (CI4.out _ HB).mono ?_); rintro e w4 ⟨Bn, en, rfl, zn, hbk⟩; replace HB := HB.up hbk; replace HA := HA.up hbk; replace HR := HR.up hbk; have HZ2 : Hid (∀ j, 1 ≤ j → j < 4 → ZA w4 (sg j) (B j) (dl (v j).natAbs) (E j) (v j)) := (fun j h1 h2 => (HZ.out j h1 h2).up hbk); have hc0 := HR.ci (i := 8) rfl; have hc1 := HR.ci (i := 9) rfl; have hf0 := HR.fi (i := 8) rfl; have hf1 := HR.fi (i := 9) rfl; have hrl := HR.lt) | fail)
        go_roundw
        case rel =>
          refine ⟨5, fun j => if j = 4 then Bn else B j, fun j => if j = 4 then en else E j, by decide, by decide, by go_num, ?_, ?_, ?_, ?_⟩
          · first
              | exact ((HR.put (i := 8) (by simp) _).put (i := 9) (by simp) _).al _
              | exact ((HR.al _).put (i := 8) (by simp) _).put (i := 9) (by simp) _
          · first
              | exact ((HA.far (by omega) _).far (by omega) _).al _
              | exact ((HA.al _).far (by omega) _).far (by omega) _
          · intro j h1 h2
            by_cases hj : j = 4
            · subst hj
              first
                | exact (za_put2 (i := 8) zn HR rfl rfl _ _).al _
                | exact za_put2 (i := 8) (zn.al _) (HR.al _) rfl rfl _ _
            · show ZA _ (sg j) (if j = 4 then Bn else B j) (dl (v j).natAbs) (if j = 4 then en else E j) (v j)
              rw [if_neg hj, if_neg hj]
              have zz := HZ2.out j h1 (by omega)
              first
                | exact (za_put2 (i := 8) zz HR rfl rfl _ _).al _
                | exact za_put2 (i := 8) (zz.al _) (HR.al _) rfl rfl _ _
          · first
              | exact ((HB.put (by omega) _).put (by omega) _).al _
              | exact ((HB.al _).put (by omega) _).put (by omega) _
        case measure => simp [intOf]
      · have HR : At wr pa [.bool false, .slice none 0 0, .bool (sg 1), .slice (B 1) (dl (v 1).natAbs) (E 1), .bool (sg 2), .slice (B 2) (dl (v 2).natAbs) (E 2), .bool (sg 3), .slice (B 3) (dl (v 3).natAbs) (E 3), .bool (sg 4), .slice (B 4) (dl (v 4).natAbs) (E 4), .bool false, .slice none 0 0, .bool false, .slice none 0 0, .bool false, .slice none 0 0] := HR0
        clear HR0
        have ha_0 := HA.c0
        have ha_1 := HA.c1
        have ha_2 := HA.c2
        have ha_l := HA.lt
        go_wp2_with (first | (go_at_call 41; (with_reducible refine (CI5.out _ HB).mono ?_); rintro e w4 ⟨Bn, en, rfl, zn, hbk⟩; replace HB := HB.up hbk; replace HA := HA.up hbk; replace HR := HR.up hbk; have HZ2 : Hid (∀ j, 1 ≤ j → j < 5 → ZA w4 (sg j) (B j) (dl (v j).natAbs) (E j) (v j)) := (fun j h1 h2 => (HZ.out j h1 h2).up hbk); have hc0 := HR.ci (i := 10) rfl; have hc1 := HR.ci (i := 11) rfl; have hf0 := HR.fi (i := 10) rfl; have hf1 := HR.fi (i := 11) rfl; have hrl := HR.lt) | fail)
        go_roundw
        case rel =>
          refine ⟨6, fun j => if j = 5 then Bn else B j, fun j => if j = 5 then en else E j, by decide, by decide, by go_num, ?_, ?_, ?_, ?_⟩
          · first
              | exact ((HR.put (i := 10) (by simp) _).put (i := 11) (by simp) _).al _
              | exact ((HR.al _).put (i := 10) (by simp) _).put (i := 11) (by simp) _
          · first
              | exact ((HA.far (by omega) _).far (by omega) _).al _
              | exact ((HA.al _).far (by omega) _).far (by omega) _
          · intro j h1 h2
            by_cases hj : j = 5
            · subst hj
              first
                | exact (za_put2 (i := 10) zn HR rfl rfl _ _).al _
                | exact za_put2 (i := 10) (zn.al _) (HR.al _) rfl rfl _ _
            · show ZA _ (sg j) (if j = 5 then Bn else B j) (dl (v j).natAbs) (if j = 5 then en else E j) (v j)
              rw [if_neg hj, if_neg hj]
              have zz := HZ2.out j h1 (by omega)
              first
                | exact (za_put2 (i := 10) zz HR rfl rfl _ _).al _
                | exact za_put2 (i := 10) (zz.al _) (HR.al _) rfl rfl _ _
          · first
              | exact ((HB.put (by omega) _).put (by omega) _).al _
              | exact ((HB.al _).put (by omega) _).put (by omega) _
        case measure => simp [intOf]
      · have HR : At wr pa [.bool false, .slice none 0 0, .bool (sg 1), .slice (B 1) (dl (v 1).natAbs) (E 1), .bool (sg 2), .slice (B 2) (dl (v 2).natAbs) (E 2), .bool (sg 3), .slice (B 3) (dl (v 3).natAbs) (E 3), .bool (sg 4), .slice (B 4) (dl (v 4).natAbs) (E 4), .bool (sg 5), .slice (B 5) (dl (v 5).natAbs) (E 5), .bool false, .slice none 0 0, .bool false, .slice none 0 0] := HR0
        clear HR0
        have ha_0 := HA.c0
        have ha_1 := HA.c1
        have ha_2 := HA.c2
        have ha_l := HA.lt
        go_wp2_with (first | (go_at_call 41; (with_reducible refine (CI6.out _ HB).mono ?_); rintro e w4 ⟨Bn, en, rfl, zn, hbk⟩; replace HB := HB.up hbk; replace HA := HA.up hbk; replace HR := HR.up hbk; have HZ2 : Hid (∀ j, 1 ≤ j → j < 6 → ZA w4 (sg j) (B j) (dl (v j).natAbs) (E j) (v j)) := (fun j h1 h2 => (HZ.out j h1 h2).up hbk); have hc0 := HR.ci (i := 12) rfl; have hc1 := HR.ci (i := 13) rfl; have hf0 := HR.fi (i := 12) rfl; have hf1 := HR.fi (i := 13) rfl; have hrl := HR.lt) | fail)
        go_roundw
        case rel =>
          refine ⟨7, fun j => if j = 6 then Bn else B j, fun j => if j = 6 then en else E j, by decide, by decide, by go_num, ?_, ?_, ?_, ?_⟩
          · first
              | exact ((HR.put (i := 12) (by simp) _).put (i := 13) (by simp) _).al _
              | exact ((HR.al _).put (i := 12) (by simp) _).put (i := 13) (by simp) _
          · first
              | exact ((HA.far (by omega) _).far (by omega) _).al _
              | exact ((HA.al _).far (by omega) _).far (by omega) _
          · intro j h1 h2
            by_cases hj : j = 6
            · subst hj
              first
                | exact (za_put2 (i := 12) zn HR rfl rfl _ _).al _
                | exact za_put2 (i := 12) (zn.al _) (HR.al _) rfl rfl _ _
            · show ZA _ (sg j) (if j = 6 then Bn else B j) (dl (v j).natAbs) (if j = 6 then en else E j) (v j)
              rw [if_neg hj, if_neg hj]
              have zz := HZ2.out j h1 (by omega)
              first
                | exact (za_put2 (i := 12) zz HR rfl rfl _ _).al _
                | exact za_put2 (i := 12) (zz.al _) (HR.al _) rfl rfl _ _
          · first
              | exact ((HB.put (by omega) _).put (by omega) _).al _
              | exact ((HB.al _).put (by omega) _).put (by omega) _
        case measure => simp [intOf]
      · have HR : At wr pa [.bool false, .slice none 0 0, .bool (sg 1), .slice (B 1) (dl (v 1).natAbs) (E 1), .bool (sg 2), .slice (B 2) (dl (v 2).natAbs) (E 2), .bool (sg 3), .slice (B 3) (dl (v 3).natAbs) (E 3), .bool (sg 4), .slice (B 4) (dl (v 4).natAbs) (E 4), .bool (sg 5), .slice (B 5) (dl (v 5).natAbs) (E 5), .bool (sg 6), .slice (B 6) (dl (v 6).natAbs) (E 6), .bool false, .slice none 0 0] := HR0
        clear HR0
        have ha_0 := HA.c0
        have ha_1 := HA.c1
        have ha_2 := HA.c2
        have ha_l := HA.lt
        go_wp2_with (first | (go_at_call 41; (with_reducible refine (CI7.out _ HB).mono ?_); rintro e w4 ⟨Bn, en, rfl, zn, hbk⟩; replace HB := HB.up hbk; replace HA := HA.up hbk; replace HR := HR.up hbk; have HZ2 : Hid (∀ j, 1 ≤ j → j < 7 → ZA w4 (sg j) (B j) (dl (v j).natAbs) (E j) (v j)) := (fun j h1 h2 => (HZ.out j h1 h2).up hbk); have hc0 := HR.ci (i := 14) rfl; have hc1 := HR.ci (i := 15) rfl; have hf0 := HR.fi (i := 14) rfl; have hf1 := HR.fi (i := 15) rfl; have hrl := HR.lt) | fail)
        go_roundw
        case rel =>
          refine ⟨8, fun j => if j = 7 then Bn else B j, fun j => if j = 7 then en else E j, by decide, by decide, by go_num, ?_, ?_, ?_, ?_⟩
          · first
              | exact ((HR.put (i := 14) (by simp) _).put (i := 15) (by simp) _).al _
              | exact ((HR.al _).put (i := 14) (by simp) _).put (i := 15) (by simp) _
          · first
              | exact ((HA.far (by omega) _).far (by omega) _).al _
              | exact ((HA.al _).far (by omega) _).far (by omega) _
          · intro j h1 h2
            by_cases hj : j = 7
            · subst hj
              first
                | exact (za_put2 (i := 14) zn HR rfl rfl _ _).al _
                | exact za_put2 (i := 14) (zn.al _) (HR.al _) rfl rfl _ _
            · show ZA _ (sg j) (if j = 7 then Bn else B j) (dl (v j).natAbs) (if j = 7 then en else E j) (v j)
              rw [if_neg hj, if_neg hj]
              have zz := HZ2.out j h1 (by omega)
              first
                | exact (za_put2 (i := 14) zz HR rfl rfl _ _).al _
                | exact za_put2 (i := 14) (zz.al _) (HR.al _) rfl rfl _ _
          · first
              | exact ((HB.put (by omega) _).put (by omega) _).al _
              | exact ((HB.al _).put (by omega) _).put (by omega) _
        case measure => simp [intOf]
    · obtain rfl : k = 8 := by omega
      obtain ⟨W2, hW2⟩ : ∃ X, X = wr := ⟨_, rfl⟩
      have HR : At W2 pa (arr sg v B E 8) := by rw [hW2]; exact HR0
      replace HA : At W2 w.heap.size [.bool b, .slice A n c, .slice A' n' c'] := by rw [hW2]; exact HA
      replace HB : Bel w W2 := by rw [hW2]; exact HB
      have z1 : ZA W2 (sg 1) (B 1) (dl (v 1).natAbs) (E 1) (v 1) := by rw [hW2]; exact HZ.out 1 (by decide) (by decide)
      have z2 : ZA W2 (sg 2) (B 2) (dl (v 2).natAbs) (E 2) (v 2) := by rw [hW2]; exact HZ.out 2 (by decide) (by decide)
      have z3 : ZA W2 (sg 3) (B 3) (dl (v 3).natAbs) (E 3) (v 3) := by rw [hW2]; exact HZ.out 3 (by decide) (by decide)
      have z4 : ZA W2 (sg 4) (B 4) (dl (v 4).natAbs) (E 4) (v 4) := by rw [hW2]; exact HZ.out 4 (by decide) (by decide)
      have z5 : ZA W2 (sg 5) (B 5) (dl (v 5).natAbs) (E 5) (v 5) := by rw [hW2]; exact HZ.out 5 (by decide) (by decide)
      have z6 : ZA W2 (sg 6) (B 6) (dl (v 6).natAbs) (E 6) (v 6) := by rw [hW2]; exact HZ.out 6 (by decide) (by decide)
      have z7 : ZA W2 (sg 7) (B 7) (dl (v 7).natAbs) (E 7) (v 7) := by rw [hW2]; exact HZ.out 7 (by decide) (by decide)
      rw [← hW2]
      clear hW2 HR0 HZ hk1 hk8 hlt
      have l0 := HR.lt
      go_wp2_with fail
      go_cut [7, 8] from 36 to 42 (fun o f w' => f = .bool true ∧ ∃ p X e X' e', o = .pointer (some ⟨p, 0, none⟩) ∧ At w' p [.bool slo, .slice X (dl lo.num.natAbs) e, .slice X' (dl lo.den) e'] ∧ ZA w' slo X (dl lo.num.natAbs) e lo.num ∧ Nm w' X' (dl lo.den) e' lo.den ∧ Bel W2 w')
      case first =>
        have HW := Bel.refl W2
        go_region_held3 (fun w' => w'.cell? ⟨pa, 6, none⟩ = some (.bool (sg 3)) ∧ w'.cell? ⟨pa, 7, none⟩ = some (.slice (B 3) (dl (v 3).natAbs) (E 3)))
          (refine ⟨(?_ : At _ pa (arr sg v B E 8)).ci (i := 6) rfl, (?_ : At _ pa (arr sg v B E 8)).ci (i := 7) rfl⟩ <;> (repeat (first | with_reducible exact HR | (with_reducible refine At.dr ?_) | (with_reducible refine At.al ?_ _) | (with_reducible refine At.far3 ?_ (by omega) _ _ _) | (with_reducible refine At.far ?_ (by omega) _))))
          (first | (go_at_call 40; (with_reducible refine (CO.out _).mono ?_); rintro e w4 ⟨Bo, eo, rfl, no1, hbk⟩; (with_reducible (replace HW := HW.dr.up hbk; replace HR := HR.dr.up hbk; replace z3 := z3.dr.up hbk)); have lz0 := HR.lt; (try have lz2 := HP0.lt); (try have lz3 := HQ0.lt); have zs1 := Below.size HW) | (go_at_call 40; (with_reducible refine (CO.out _).mono ?_); rintro e w4 ⟨Bo, eo, rfl, no1, hbk⟩; (with_reducible (have HP0 := At.up (at_new0 _ [.bool false, .slice none 0 0, .slice none 0 0] _).dr hbk; replace HW := (HW.al _).dr.up hbk; replace HR := (HR.al _).dr.up hbk; replace z3 := (z3.al _).dr.up hbk)); have lz0 := HR.lt; (try have lz2 := HP0.lt); (try have lz3 := HQ0.lt); have zs1 := Below.size HW) | (go_at_call 45; (with_reducible refine (CF3.out _ _ _ _ _ z3 no1).mono ?_); rintro e w5 ⟨Bx, ex, By, ey, rfl, zx, no, hbk⟩; (with_reducible (replace HW := HW.up hbk; replace HR := HR.up hbk)); (try (with_reducible replace HP0 := HP0.up hbk)); (try have hp0_0 := HP0.c0); (try have hp0_1 := HP0.c1); (try have hp0_2 := HP0.c2); (try have fhp0_0 := HP0.f0); (try have fhp0_1 := HP0.f1); (try have fhp0_2 := HP0.f2); (try have lhp0 := HP0.lt); (try have hq0_0 := HQ0.c0); (try have hq0_1 := HQ0.c1); (try have hq0_2 := HQ0.c2); (try have fhq0_0 := HQ0.f0); (try have fhq0_1 := HQ0.f1); (try have fhq0_2 := HQ0.f2); (try have lhq0 := HQ0.lt); have lz0 := HR.lt; (try have lz2 := HP0.lt); (try have lz3 := HQ0.lt); have zs2 := Below.size HW) | (go_at_call 45; (with_reducible refine (CF3.out _ _ _ _ _ (z3.al _) (no1.al _)).mono ?_); rintro e w5 ⟨Bx, ex, By, ey, rfl, zx, no, hbk⟩; (with_reducible (have HQ0 := At.up (at_new0 _ [.bool false, .slice none 0 0, .slice none 0 0] _) hbk; replace HW := (HW.al _).up hbk; replace HR := (HR.al _).up hbk)); (try (with_reducible replace HP0 := (HP0.al _).up hbk)); (try have hp0_0 := HP0.c0); (try have hp0_1 := HP0.c1); (try have hp0_2 := HP0.c2); (try have fhp0_0 := HP0.f0); (try have fhp0_1 := HP0.f1); (try have fhp0_2 := HP0.f2); (try have lhp0 := HP0.lt); (try have hq0_0 := HQ0.c0); (try have hq0_1 := HQ0.c1); (try have hq0_2 := HQ0.c2); (try have fhq0_0 := HQ0.f0); (try have fhq0_1 := HQ0.f1); (try have fhq0_2 := HQ0.f2); (try have lhq0 := HQ0.lt); have lz0 := HR.lt; (try have lz2 := HP0.lt); (try have lz3 := HQ0.lt); have zs2 := Below.size HW) | fail)
        all_goals
          go_wp2_with fail
          go_meet
          case rel =>
            have zn := zx.1
            refine ⟨rfl, _, Bx, ex, By, ey, rfl, ?_, zx.mv ?_, ?_, ?_⟩ <;> (repeat (first | with_reducible exact zn | with_reducible exact no | with_reducible exact HW | with_reducible exact HP0 | with_reducible exact HQ0 | with_reducible exact at_new0 _ _ _ | (with_reducible refine Bel.dr ?_) | (with_reducible refine Bel.al ?_ _) | (with_reducible refine Bel.uput3 ?_ (by omega) _ _ _) | (with_reducible refine Nm.dr ?_) | (with_reducible refine Nm.al ?_ _) | (with_reducible refine Nm.putq ?_ ?_ _ _ _ _ _ _ _) | (with_reducible refine At.dr ?_) | (with_reducible refine At.al ?_ _) | (with_reducible refine At.uput3 (v0 := .bool false) (v1 := .slice none 0 0) (v2 := .slice none 0 0) ?_ _ _ _) | (with_reducible refine At.far3 ?_ (by omega) _ _ _)))
      case rest =>
        obtain ⟨hf, plo, Xlo, elo, Ylo, flo, rfl, HL, zlo, nlo, hW⟩ := hcut
        subst hf
        replace HB := HB.up hW.hid
        replace HR := HR.up hW.hid
        replace HA := HA.up hW.hid
        replace z1 := z1.up hW.hid
        replace z2 := z2.up hW.hid
        replace z3 := z3.up hW.hid
        replace z4 := z4.up hW.hid
        replace z5 := z5.up hW.hid
        replace z6 := z6.up hW.hid
        replace z7 := z7.up hW.hid
        clear hW
        obtain ⟨W3, hW3⟩ : ∃ X, X = wc := ⟨_, rfl⟩
        rw [← hW3] at HB HR HA z1 z2 z3 z4 z5 z6 z7 HL zlo nlo ⊢
        clear hW3
        have llo := HR.lt
        have mlo := HL.lt
        go_wp2_with fail
        go_cut [9, 10] from 43 to 49 (fun o f w' => f = .bool true ∧ ∃ p X e X' e', o = .pointer (some ⟨p, 0, none⟩) ∧ At w' p [.bool shi, .slice X (dl hi.num.natAbs) e, .slice X' (dl hi.den) e'] ∧ ZA w' shi X (dl hi.num.natAbs) e hi.num ∧ Nm w' X' (dl hi.den) e' hi.den ∧ Bel W3 w')
        case first =>
          have HW := Bel.refl W3
          go_region_held3 (fun w' => w'.cell? ⟨pa, 8, none⟩ = some (.bool (sg 4)) ∧ w'.cell? ⟨pa, 9, none⟩ = some (.slice (B 4) (dl (v 4).natAbs) (E 4)))
            (refine ⟨(?_ : At _ pa (arr sg v B E 8)).ci (i := 8) rfl, (?_ : At _ pa (arr sg v B E 8)).ci (i := 9) rfl⟩ <;> (repeat (first | with_reducible exact HR | (with_reducible refine At.dr ?_) | (with_reducible refine At.al ?_ _) | (with_reducible refine At.far3 ?_ (by omega) _ _ _) | (with_reducible refine At.far ?_ (by omega) _))))
            (first | (go_at_call 40; (with_reducible refine (CO.out _).mono ?_); rintro e w4 ⟨Bo, eo, rfl, no1, hbk⟩; (with_reducible (replace HW := HW.dr.up hbk; replace HR := HR.dr.up hbk; replace z4 := z4.dr.up hbk)); have lz0 := HR.lt; (try have lz2 := HP0.lt); (try have lz3 := HQ0.lt); have zs1 := Below.size HW) | (go_at_call 40; (with_reducible refine (CO.out _).mono ?_); rintro e w4 ⟨Bo, eo, rfl, no1, hbk⟩; (with_reducible (have HP0 := At.up (at_new0 _ [.bool false, .slice none 0 0, .slice none 0 0] _).dr hbk; replace HW := (HW.al _).dr.up hbk; replace HR := (HR.al _).dr.up hbk; replace z4 := (z4.al _).dr.up hbk)); have lz0 := HR.lt; (try have lz2 := HP0.lt); (try have lz3 := HQ0.lt); have zs1 := Below.size HW) | (go_at_call 45; (with_reducible refine (CF4.out _ _ _ _ _ z4 no1).mono ?_); rintro e w5 ⟨Bx, ex, By, ey, rfl, zx, no, hbk⟩; (with_reducible (replace HW := HW.up hbk; replace HR := HR.up hbk)); (try (with_reducible replace HP0 := HP0.up hbk)); (try have hp0_0 := HP0.c0); (try have hp0_1 := HP0.c1); (try have hp0_2 := HP0.c2); (try have fhp0_0 := HP0.f0); (try have fhp0_1 := HP0.f1); (try have fhp0_2 := HP0.f2); (try have lhp0 := HP0.lt); (try have hq0_0 := HQ0.c0); (try have hq0_1 := HQ0.c1); (try have hq0_2 := HQ0.c2); (try have fhq0_0 := HQ0.f0); (try have fhq0_1 := HQ0.f1); (try have fhq0_2 := HQ0.f2); (try have lhq0 := HQ0.lt); have lz0 := HR.lt; (try have lz2 := HP0.lt); (try have lz3 := HQ0.lt); have zs2 := Below.size HW) | (go_at_call 45; (with_reducible refine (CF4.out _ _ _ _ _ (z4.al _) (no1.al _)).mono ?_); rintro e w5 ⟨Bx, ex, By, ey, rfl, zx, no, hbk⟩; (with_reducible (have HQ0 := At.up (at_new0 _ [.bool false, .slice none 0 0, .slice none 0 0] _) hbk; replace HW := (HW.al _).up hbk; replace HR := (HR.al _).up hbk)); (try (with_reducible replace HP0 := (HP0.al _).up hbk)); (try have hp0_0 := HP0.c0); (try have hp0_1 := HP0.c1); (try have hp0_2 := HP0.c2); (try have fhp0_0 := HP0.f0); (try have fhp0_1 := HP0.f1); (try have fhp0_2 := HP0.f2); (try have lhp0 := HP0.lt); (try have hq0_0 := HQ0.c0); (try have hq0_1 := HQ0.c1); (try have hq0_2 := HQ0.c2); (try have fhq0_0 := HQ0.f0); (try have fhq0_1 := HQ0.f1); (try have fhq0_2 := HQ0.f2); (try have lhq0 := HQ0.lt); have lz0 := HR.lt; (try have lz2 := HP0.lt); (try have lz3 := HQ0.lt); have zs2 := Below.size HW) | fail)
          all_goals
            go_wp2_with fail
            go_meet
            case rel =>
              have zn := zx.1
              refine ⟨rfl, _, Bx, ex, By, ey, rfl, ?_, zx.mv ?_, ?_, ?_⟩ <;> (repeat (first | with_reducible exact zn | with_reducible exact no | with_reducible exact HW | with_reducible exact HP0 | with_reducible exact HQ0 | with_reducible exact at_new0 _ _ _ | (with_reducible refine Bel.dr ?_) | (with_reducible refine Bel.al ?_ _) | (with_reducible refine Bel.uput3 ?_ (by omega) _ _ _) | (with_reducible refine Nm.dr ?_) | (with_reducible refine Nm.al ?_ _) | (with_reducible refine Nm.putq ?_ ?_ _ _ _ _ _ _ _) | (with_reducible refine At.dr ?_) | (with_reducible refine At.al ?_ _) | (with_reducible refine At.uput3 (v0 := .bool false) (v1 := .slice none 0 0) (v2 := .slice none 0 0) ?_ _ _ _) | (with_reducible refine At.far3 ?_ (by omega) _ _ _)))
        case rest =>
          obtain ⟨hf, phi, Xhi, ehi, Yhi, fhi, rfl, HI, zhi, nhi, hW⟩ := hcut
          subst hf
          replace HB := HB.up hW.hid
          replace HR := HR.up hW.hid
          replace HA := HA.up hW.hid
          replace z1 := z1.up hW.hid
          replace z2 := z2.up hW.hid
          replace z3 := z3.up hW.hid
          replace z4 := z4.up hW.hid
          replace z5 := z5.up hW.hid
          replace z6 := z6.up hW.hid
          replace z7 := z7.up hW.hid
          replace HL := HL.up hW.hid
          replace zlo := zlo.up hW.hid
          replace nlo := nlo.up hW.hid
          clear hW
          obtain ⟨W4, hW4⟩ : ∃ X, X = wc := ⟨_, rfl⟩
          rw [← hW4] at HB HR HA z1 z2 z3 z4 z5 z6 z7 HL zlo nlo HI zhi nhi ⊢
          clear hW4
          have lhi := HR.lt
          have mhi := HI.lt
          go_wp2_with fail
          refine wp_region_held_drew (S := fun w' => w'.cell? ⟨pa, 6, none⟩ = some (.bool (sg 3)) ∧ w'.cell? ⟨pa, 7, none⟩ = some (.slice (B 3) (dl (v 3).natAbs) (E 3)) ∧ w'.cell? ⟨plo, 0, none⟩ = some (.bool slo) ∧ w'.cell? ⟨plo, 1, none⟩ = some (.slice Xlo (dl lo.num.natAbs) elo) ∧ w'.cell? ⟨plo, 2, none⟩ = some (.slice Ylo (dl lo.den) flo) ∧ w'.cell? ⟨phi, 0, none⟩ = some (.bool shi) ∧ w'.cell? ⟨phi, 1, none⟩ = some (.slice Xhi (dl hi.num.natAbs) ehi) ∧ w'.cell? ⟨phi, 2, none⟩ = some (.slice Yhi (dl hi.den) fhi) ∧ w'.cell? ⟨w.heap.size, 0, none⟩ = some (.bool b) ∧ w'.cell? ⟨w.heap.size, 1, none⟩ = some (.slice A n c) ∧ w'.cell? ⟨w.heap.size, 2, none⟩ = some (.slice A' n' c')) (by kernel_rfl) ?_ (fun hHeld => ?_)
          · refine ⟨(?_ : At _ pa (arr sg v B E 8)).ci (i := 6) rfl, (?_ : At _ pa (arr sg v B E 8)).ci (i := 7) rfl, (?_ : At _ plo [.bool slo, .slice Xlo (dl lo.num.natAbs) elo, .slice Ylo (dl lo.den) flo]).c0, (?_ : At _ plo [.bool slo, .slice Xlo (dl lo.num.natAbs) elo, .slice Ylo (dl lo.den) flo]).c1, (?_ : At _ plo [.bool slo, .slice Xlo (dl lo.num.natAbs) elo, .slice Ylo (dl lo.den) flo]).c2, (?_ : At _ phi [.bool shi, .slice Xhi (dl hi.num.natAbs) ehi, .slice Yhi (dl hi.den) fhi]).c0, (?_ : At _ phi [.bool shi, .slice Xhi (dl hi.num.natAbs) ehi, .slice Yhi (dl hi.den) fhi]).c1, (?_ : At _ phi [.bool shi, .slice Xhi (dl hi.num.natAbs) ehi, .slice Yhi (dl hi.den) fhi]).c2, (?_ : At _ w.heap.size [.bool b, .slice A n c, .slice A' n' c']).c0, (?_ : At _ w.heap.size [.bool b, .slice A n c, .slice A' n' c']).c1, (?_ : At _ w.heap.size [.bool b, .slice A n c, .slice A' n' c']).c2⟩ <;> (repeat (first | with_reducible exact HR | with_reducible exact HL | with_reducible exact HI | with_reducible exact HA | (with_reducible refine At.dr ?_) | (with_reducible refine At.al ?_ _) | (with_reducible refine At.far3 ?_ (by omega) _ _ _) | (with_reducible refine At.far ?_ (by omega) _)))
          (refine wpAnyH_take (i := 0) (v := ?_) rfl (by decide +kernel) (by decide +kernel) (by decide +kernel) (fun _ _ _ h => h) (Or.inl ⟨by rfl, ?_⟩) (by assumption) ?_; rotate_left; (focus ((intro w hSw; (try dsimp only at hSw); go_simp); (try (with_reducible rfl)); done)); (try simp only [List.getElem_toArray, List.getElem_cons_zero, List.getElem_cons_succ, Act.put, List.setIfInBounds_toArray, List.set_cons_zero, List.set_cons_succ]))
          (refine wpAnyH_take (i := 1) (v := ?_) rfl (by decide +kernel) (by decide +kernel) (by decide +kernel) (fun _ _ _ h => h) (Or.inl ⟨by rfl, ?_⟩) (by assumption) ?_; rotate_left; (focus ((intro w hSw; (try dsimp only at hSw); go_simp); (try (with_reducible rfl)); done)); (try simp only [List.getElem_toArray, List.getElem_cons_zero, List.getElem_cons_succ, Act.put, List.setIfInBounds_toArray, List.set_cons_zero, List.set_cons_succ]))
          (refine wpAnyH_take (i := 2) (v := ?_) rfl (by decide +kernel) (by decide +kernel) (by decide +kernel) (fun _ _ _ h => h) (Or.inl ⟨by rfl, ?_⟩) (by assumption) ?_; rotate_left; (focus ((intro w hSw; (try dsimp only at hSw); go_simp); (try (with_reducible rfl)); done)); (try simp only [List.getElem_toArray, List.getElem_cons_zero, List.getElem_cons_succ, Act.put, List.setIfInBounds_toArray, List.set_cons_zero, List.set_cons_succ]))
          (refine wpAnyH_take (i := 3) (v := ?_) rfl (by decide +kernel) (by decide +kernel) (by decide +kernel) (fun _ _ _ h => h) (Or.inl ⟨by rfl, ?_⟩) (by assumption) ?_; rotate_left; (focus ((intro w hSw; (try dsimp only at hSw); go_simp); (try (with_reducible rfl)); done)); (try simp only [List.getElem_toArray, List.getElem_cons_zero, List.getElem_cons_succ, Act.put, List.setIfInBounds_toArray, List.set_cons_zero, List.set_cons_succ]))
          (refine wpAnyH_take (i := 4) (v := ?_) rfl (by decide +kernel) (by decide +kernel) (by decide +kernel) (fun _ _ _ h => h) (Or.inl ⟨by rfl, ?_⟩) (by assumption) ?_; rotate_left; (focus ((intro w hSw; (try dsimp only at hSw); go_simp); (try (with_reducible rfl)); done)); (try simp only [List.getElem_toArray, List.getElem_cons_zero, List.getElem_cons_succ, Act.put, List.setIfInBounds_toArray, List.set_cons_zero, List.set_cons_succ]))
          (refine wpAnyH_take (i := 5) (v := ?_) rfl (by decide +kernel) (by decide +kernel) (by decide +kernel) (fun _ _ _ h => h) (Or.inl ⟨by rfl, ?_⟩) (by assumption) ?_; rotate_left; (focus ((intro w hSw; (try dsimp only at hSw); go_simp); (try (with_reducible rfl)); done)); (try simp only [List.getElem_toArray, List.getElem_cons_zero, List.getElem_cons_succ, Act.put, List.setIfInBounds_toArray, List.set_cons_zero, List.set_cons_succ]))
          (refine wpAnyH_take (i := 6) (v := ?_) rfl (by decide +kernel) (by decide +kernel) (by decide +kernel) (fun _ _ _ h => h) (Or.inl ⟨by rfl, ?_⟩) (by assumption) ?_; rotate_left; (focus ((intro w hSw; (try dsimp only at hSw); go_simp); (try (with_reducible rfl)); done)); (try simp only [List.getElem_toArray, List.getElem_cons_zero, List.getElem_cons_succ, Act.put, List.setIfInBounds_toArray, List.set_cons_zero, List.set_cons_succ]))
          (refine wpAnyH_take (i := 7) (v := ?_) rfl (by decide +kernel) (by decide +kernel) (by decide +kernel) (fun _ _ _ h => h) (Or.inl ⟨by rfl, ?_⟩) (by assumption) ?_; rotate_left; (focus ((intro w hSw; (try dsimp only at hSw); go_simp); (try (with_reducible rfl)); done)); (try simp only [List.getElem_toArray, List.getElem_cons_zero, List.getElem_cons_succ, Act.put, List.setIfInBounds_toArray, List.set_cons_zero, List.set_cons_succ]))
          (refine wpAnyH_take (i := 8) (v := ?_) rfl (by decide +kernel) (by decide +kernel) (by decide +kernel) (fun _ _ _ h => h) (Or.inl ⟨by rfl, ?_⟩) (by assumption) ?_; rotate_left; (focus ((intro w hSw; (try dsimp only at hSw); go_simp); (try (with_reducible rfl)); done)); (try simp only [List.getElem_toArray, List.getElem_cons_zero, List.getElem_cons_succ, Act.put, List.setIfInBounds_toArray, List.set_cons_zero, List.set_cons_succ]))
          (refine wpAnyH_ready (rs := [9]) (by decide +kernel) (by simp) ?_; refine AllReadyH.cons rfl (fun K hK => ?_) AllReadyH.nil; go_simp; (first | (go_at_call 46; (with_reducible refine (CC1.out _ _ _ _ _ HB.dr zlo.dr nlo.dr).mono ?_); rintro e x1 ⟨rfl, hbk⟩; (with_reducible (replace HB := HB.dr.up hbk; replace HR := HR.dr.up hbk; replace HA := HA.dr.up hbk; replace HL := HL.dr.up hbk; replace HI := HI.dr.up hbk; replace zlo := zlo.dr.up hbk; replace nlo := nlo.dr.up hbk; replace zhi := zhi.dr.up hbk; replace nhi := nhi.dr.up hbk; replace z1 := z1.dr.up hbk; replace z2 := z2.dr.up hbk; replace z3 := z3.dr.up hbk; replace z4 := z4.dr.up hbk; replace z5 := z5.dr.up hbk; replace z6 := z6.dr.up hbk; replace z7 := z7.dr.up hbk))) | (go_at_call 46; (with_reducible refine (CC2.out _ _ _ _ _ HB zhi nhi).mono ?_); rintro e x2 ⟨rfl, hbk⟩; (with_reducible (replace HB := HB.up hbk; replace HR := HR.up hbk; replace HA := HA.up hbk; replace HL := HL.up hbk; replace HI := HI.up hbk; replace zlo := zlo.up hbk; replace nlo := nlo.up hbk; replace zhi := zhi.up hbk; replace nhi := nhi.up hbk; replace z1 := z1.up hbk; replace z2 := z2.up hbk; replace z3 := z3.up hbk; replace z4 := z4.up hbk; replace z5 := z5.up hbk; replace z6 := z6.up hbk; replace z7 := z7.up hbk))) | (go_at_call 47; (with_reducible refine (CFl.out _ HB).mono ?_); rintro e x3 ⟨Bf, ef, rfl, zf, hbk⟩; (with_reducible (replace HB := HB.up hbk; replace HR := HR.up hbk; replace HA := HA.up hbk; replace HL := HL.up hbk; replace HI := HI.up hbk; replace zlo := zlo.up hbk; replace nlo := nlo.up hbk; replace zhi := zhi.up hbk; replace nhi := nhi.up hbk; replace z1 := z1.up hbk; replace z2 := z2.up hbk; replace z3 := z3.up hbk; replace z4 := z4.up hbk; replace z5 := z5.up hbk; replace z6 := z6.up hbk; replace z7 := z7.up hbk))) | (go_at_call 20; (with_reducible refine (CE3.out _ _ _ _ _ z3 zf).mono ?_); rintro e x4 ⟨rfl, hbk⟩; (with_reducible (replace HB := HB.up hbk; replace HR := HR.up hbk; replace HA := HA.up hbk; replace HL := HL.up hbk; replace HI := HI.up hbk; replace zlo := zlo.up hbk; replace nlo := nlo.up hbk; replace zhi := zhi.up hbk; replace nhi := nhi.up hbk; replace z1 := z1.up hbk; replace z2 := z2.up hbk; replace z3 := z3.up hbk; replace z4 := z4.up hbk; replace z5 := z5.up hbk; replace z6 := z6.up hbk; replace z7 := z7.up hbk))) | fail); (try (go_wp2_with fail)); refine hK.out _ _ ?_ (fun hHeld => ?_); (focus ((try dsimp only); refine ⟨(?_ : At _ pa (arr sg v B E 8)).ci (i := 6) rfl, (?_ : At _ pa (arr sg v B E 8)).ci (i := 7) rfl, (?_ : At _ plo [.bool slo, .slice Xlo (dl lo.num.natAbs) elo, .slice Ylo (dl lo.den) flo]).c0, (?_ : At _ plo [.bool slo, .slice Xlo (dl lo.num.natAbs) elo, .slice Ylo (dl lo.den) flo]).c1, (?_ : At _ plo [.bool slo, .slice Xlo (dl lo.num.natAbs) elo, .slice Ylo (dl lo.den) flo]).c2, (?_ : At _ phi [.bool shi, .slice Xhi (dl hi.num.natAbs) ehi, .slice Yhi (dl hi.den) fhi]).c0, (?_ : At _ phi [.bool shi, .slice Xhi (dl hi.num.natAbs) ehi, .slice Yhi (dl hi.den) fhi]).c1, (?_ : At _ phi [.bool shi, .slice Xhi (dl hi.num.natAbs) ehi, .slice Yhi (dl hi.den) fhi]).c2, (?_ : At _ w.heap.size [.bool b, .slice A n c, .slice A' n' c']).c0, (?_ : At _ w.heap.size [.bool b, .slice A n c, .slice A' n' c']).c1, (?_ : At _ w.heap.size [.bool b, .slice A n c, .slice A' n' c']).c2⟩ <;> (repeat (first | with_reducible exact HR | with_reducible exact HL | with_reducible exact HI | with_reducible exact HA | (with_reducible refine At.dr ?_) | (with_reducible refine At.al ?_ _) | (with_reducible refine At.far3 ?_ (by omega) _ _ _) | (with_reducible refine At.far ?_ (by omega) _))))); clear hK K; (try simp only [List.getElem_toArray, List.getElem_cons_zero, List.getElem_cons_succ, Act.put, List.setIfInBounds_toArray, List.set_cons_zero, List.set_cons_succ]))
          (refine wpAnyH_take (i := 10) (v := ?_) rfl (by decide +kernel) (by decide +kernel) (by decide +kernel) (fun _ _ _ h => h) (Or.inl ⟨by rfl, ?_⟩) (by assumption) ?_; rotate_left; (focus ((intro w hSw; (try dsimp only at hSw); go_simp); (try (with_reducible rfl)); done)); (try simp only [List.getElem_toArray, List.getElem_cons_zero, List.getElem_cons_succ, Act.put, List.setIfInBounds_toArray, List.set_cons_zero, List.set_cons_succ]))
          (refine wpAnyH_take (i := 11) (v := ?_) rfl (by decide +kernel) (by decide +kernel) (by decide +kernel) (fun _ _ _ h => h) (Or.inl ⟨by rfl, ?_⟩) (by assumption) ?_; rotate_left; (focus ((intro w hSw; (try dsimp only at hSw); go_simp); (try (with_reducible rfl)); done)); (try simp only [List.getElem_toArray, List.getElem_cons_zero, List.getElem_cons_succ, Act.put, List.setIfInBounds_toArray, List.set_cons_zero, List.set_cons_succ]))
          (refine wpAnyH_take (i := 12) (v := ?_) rfl (by decide +kernel) (by decide +kernel) (by decide +kernel) (fun _ _ _ h => h) (Or.inl ⟨by rfl, ?_⟩) (by assumption) ?_; rotate_left; (focus ((intro w hSw; (try dsimp only at hSw); go_simp); (try (with_reducible rfl)); done)); (try simp only [List.getElem_toArray, List.getElem_cons_zero, List.getElem_cons_succ, Act.put, List.setIfInBounds_toArray, List.set_cons_zero, List.set_cons_succ]))
          (refine wpAnyH_take (i := 13) (v := ?_) rfl (by decide +kernel) (by decide +kernel) (by decide +kernel) (fun _ _ _ h => h) (Or.inl ⟨by rfl, ?_⟩) (by assumption) ?_; rotate_left; (focus ((intro w hSw; (try dsimp only at hSw); go_simp); (try (with_reducible rfl)); done)); (try simp only [List.getElem_toArray, List.getElem_cons_zero, List.getElem_cons_succ, Act.put, List.setIfInBounds_toArray, List.set_cons_zero, List.set_cons_succ]))
          (refine wpAnyH_take (i := 14) (v := ?_) rfl (by decide +kernel) (by decide +kernel) (by decide +kernel) (fun _ _ _ h => h) (Or.inl ⟨by rfl, ?_⟩) (by assumption) ?_; rotate_left; (focus ((intro w hSw; (try dsimp only at hSw); go_simp); (try (with_reducible rfl)); done)); (try simp only [List.getElem_toArray, List.getElem_cons_zero, List.getElem_cons_succ, Act.put, List.setIfInBounds_toArray, List.set_cons_zero, List.set_cons_succ]))
          (refine wpAnyH_ready (rs := [15]) (by decide +kernel) (by simp) ?_; refine AllReadyH.cons rfl (fun K hK => ?_) AllReadyH.nil; go_simp; (first | (go_at_call 46; (with_reducible refine (CC1.out _ _ _ _ _ HB.dr zlo.dr nlo.dr).mono ?_); rintro e x1 ⟨rfl, hbk⟩; (with_reducible (replace HB := HB.dr.up hbk; replace HR := HR.dr.up hbk; replace HA := HA.dr.up hbk; replace HL := HL.dr.up hbk; replace HI := HI.dr.up hbk; replace zlo := zlo.dr.up hbk; replace nlo := nlo.dr.up hbk; replace zhi := zhi.dr.up hbk; replace nhi := nhi.dr.up hbk; replace z1 := z1.dr.up hbk; replace z2 := z2.dr.up hbk; replace z3 := z3.dr.up hbk; replace z4 := z4.dr.up hbk; replace z5 := z5.dr.up hbk; replace z6 := z6.dr.up hbk; replace z7 := z7.dr.up hbk))) | (go_at_call 46; (with_reducible refine (CC2.out _ _ _ _ _ HB zhi nhi).mono ?_); rintro e x2 ⟨rfl, hbk⟩; (with_reducible (replace HB := HB.up hbk; replace HR := HR.up hbk; replace HA := HA.up hbk; replace HL := HL.up hbk; replace HI := HI.up hbk; replace zlo := zlo.up hbk; replace nlo := nlo.up hbk; replace zhi := zhi.up hbk; replace nhi := nhi.up hbk; replace z1 := z1.up hbk; replace z2 := z2.up hbk; replace z3 := z3.up hbk; replace z4 := z4.up hbk; replace z5 := z5.up hbk; replace z6 := z6.up hbk; replace z7 := z7.up hbk))) | (go_at_call 47; (with_reducible refine (CFl.out _ HB).mono ?_); rintro e x3 ⟨Bf, ef, rfl, zf, hbk⟩; (with_reducible (replace HB := HB.up hbk; replace HR := HR.up hbk; replace HA := HA.up hbk; replace HL := HL.up hbk; replace HI := HI.up hbk; replace zlo := zlo.up hbk; replace nlo := nlo.up hbk; replace zhi := zhi.up hbk; replace nhi := nhi.up hbk; replace z1 := z1.up hbk; replace z2 := z2.up hbk; replace z3 := z3.up hbk; replace z4 := z4.up hbk; replace z5 := z5.up hbk; replace z6 := z6.up hbk; replace z7 := z7.up hbk))) | (go_at_call 20; (with_reducible refine (CE3.out _ _ _ _ _ z3 zf).mono ?_); rintro e x4 ⟨rfl, hbk⟩; (with_reducible (replace HB := HB.up hbk; replace HR := HR.up hbk; replace HA := HA.up hbk; replace HL := HL.up hbk; replace HI := HI.up hbk; replace zlo := zlo.up hbk; replace nlo := nlo.up hbk; replace zhi := zhi.up hbk; replace nhi := nhi.up hbk; replace z1 := z1.up hbk; replace z2 := z2.up hbk; replace z3 := z3.up hbk; replace z4 := z4.up hbk; replace z5 := z5.up hbk; replace z6 := z6.up hbk; replace z7 := z7.up hbk))) | fail); (try (go_wp2_with fail)); refine hK.out _ _ ?_ (fun hHeld => ?_); (focus ((try dsimp only); refine ⟨(?_ : At _ pa (arr sg v B E 8)).ci (i := 6) rfl, (?_ : At _ pa (arr sg v B E 8)).ci (i := 7) rfl, (?_ : At _ plo [.bool slo, .slice Xlo (dl lo.num.natAbs) elo, .slice Ylo (dl lo.den) flo]).c0, (?_ : At _ plo [.bool slo, .slice Xlo (dl lo.num.natAbs) elo, .slice Ylo (dl lo.den) flo]).c1, (?_ : At _ plo [.bool slo, .slice Xlo (dl lo.num.natAbs) elo, .slice Ylo (dl lo.den) flo]).c2, (?_ : At _ phi [.bool shi, .slice Xhi (dl hi.num.natAbs) ehi, .slice Yhi (dl hi.den) fhi]).c0, (?_ : At _ phi [.bool shi, .slice Xhi (dl hi.num.natAbs) ehi, .slice Yhi (dl hi.den) fhi]).c1, (?_ : At _ phi [.bool shi, .slice Xhi (dl hi.num.natAbs) ehi, .slice Yhi (dl hi.den) fhi]).c2, (?_ : At _ w.heap.size [.bool b, .slice A n c, .slice A' n' c']).c0, (?_ : At _ w.heap.size [.bool b, .slice A n c, .slice A' n' c']).c1, (?_ : At _ w.heap.size [.bool b, .slice A n c, .slice A' n' c']).c2⟩ <;> (repeat (first | with_reducible exact HR | with_reducible exact HL | with_reducible exact HI | with_reducible exact HA | (with_reducible refine At.dr ?_) | (with_reducible refine At.al ?_ _) | (with_reducible refine At.far3 ?_ (by omega) _ _ _) | (with_reducible refine At.far ?_ (by omega) _))))); clear hK K; (try simp only [List.getElem_toArray, List.getElem_cons_zero, List.getElem_cons_succ, Act.put, List.setIfInBounds_toArray, List.set_cons_zero, List.set_cons_succ]))
          (refine wpAnyH_take (i := 16) (v := ?_) rfl (by decide +kernel) (by decide +kernel) (by decide +kernel) (fun _ _ _ h => h) (Or.inl ⟨by rfl, ?_⟩) (by assumption) ?_; rotate_left; (focus ((intro w hSw; (try dsimp only at hSw); go_simp); (try (with_reducible rfl)); done)); (try simp only [List.getElem_toArray, List.getElem_cons_zero, List.getElem_cons_succ, Act.put, List.setIfInBounds_toArray, List.set_cons_zero, List.set_cons_succ]))
          (refine wpAnyH_take (i := 17) (v := ?_) rfl (by decide +kernel) (by decide +kernel) (by decide +kernel) (fun _ _ _ h => h) (Or.inl ⟨by rfl, ?_⟩) (by assumption) ?_; rotate_left; (focus ((intro w hSw; (try dsimp only at hSw); go_simp); (try (with_reducible rfl)); done)); (try simp only [List.getElem_toArray, List.getElem_cons_zero, List.getElem_cons_succ, Act.put, List.setIfInBounds_toArray, List.set_cons_zero, List.set_cons_succ]))
          (refine wpAnyH_take (i := 18) (v := ?_) rfl (by decide +kernel) (by decide +kernel) (by decide +kernel) (fun _ _ _ h => h) (Or.inl ⟨by rfl, ?_⟩) (by assumption) ?_; rotate_left; (focus ((intro w hSw; (try dsimp only at hSw); go_simp); (try (with_reducible rfl)); done)); (try simp only [List.getElem_toArray, List.getElem_cons_zero, List.getElem_cons_succ, Act.put, List.setIfInBounds_toArray, List.set_cons_zero, List.set_cons_succ]))
          (refine wpAnyH_take (i := 19) (v := ?_) rfl (by decide +kernel) (by decide +kernel) (by decide +kernel) (fun _ _ _ h => h) (Or.inl ⟨by rfl, ?_⟩) (by assumption) ?_; rotate_left; (focus ((intro w hSw; (try dsimp only at hSw); go_simp); (try (with_reducible rfl)); done)); (try simp only [List.getElem_toArray, List.getElem_cons_zero, List.getElem_cons_succ, Act.put, List.setIfInBounds_toArray, List.set_cons_zero, List.set_cons_succ]))
          (refine wpAnyH_take (i := 20) (v := ?_) rfl (by decide +kernel) (by decide +kernel) (by decide +kernel) (fun _ _ _ h => h) (Or.inl ⟨by rfl, ?_⟩) (by assumption) ?_; rotate_left; (focus ((intro w hSw; (try dsimp only at hSw); go_simp); (try (with_reducible rfl)); done)); (try simp only [List.getElem_toArray, List.getElem_cons_zero, List.getElem_cons_succ, Act.put, List.setIfInBounds_toArray, List.set_cons_zero, List.set_cons_succ]))
          (refine wpAnyH_take (i := 21) (v := ?_) rfl (by decide +kernel) (by decide +kernel) (by decide +kernel) (fun _ _ _ h => h) (Or.inl ⟨by rfl, ?_⟩) (by assumption) ?_; rotate_left; (focus ((intro w hSw; (try dsimp only at hSw); go_simp); (try (with_reducible rfl)); done)); (try simp only [List.getElem_toArray, List.getElem_cons_zero, List.getElem_cons_succ, Act.put, List.setIfInBounds_toArray, List.set_cons_zero, List.set_cons_succ]))
          (refine wpAnyH_ready (rs := [22]) (by decide +kernel) (by simp) ?_; refine AllReadyH.cons rfl (fun K hK => ?_) AllReadyH.nil; go_simp; (first | (go_at_call 46; (with_reducible refine (CC1.out _ _ _ _ _ HB.dr zlo.dr nlo.dr).mono ?_); rintro e x1 ⟨rfl, hbk⟩; (with_reducible (replace HB := HB.dr.up hbk; replace HR := HR.dr.up hbk; replace HA := HA.dr.up hbk; replace HL := HL.dr.up hbk; replace HI := HI.dr.up hbk; replace zlo := zlo.dr.up hbk; replace nlo := nlo.dr.up hbk; replace zhi := zhi.dr.up hbk; replace nhi := nhi.dr.up hbk; replace z1 := z1.dr.up hbk; replace z2 := z2.dr.up hbk; replace z3 := z3.dr.up hbk; replace z4 := z4.dr.up hbk; replace z5 := z5.dr.up hbk; replace z6 := z6.dr.up hbk; replace z7 := z7.dr.up hbk))) | (go_at_call 46; (with_reducible refine (CC2.out _ _ _ _ _ HB zhi nhi).mono ?_); rintro e x2 ⟨rfl, hbk⟩; (with_reducible (replace HB := HB.up hbk; replace HR := HR.up hbk; replace HA := HA.up hbk; replace HL := HL.up hbk; replace HI := HI.up hbk; replace zlo := zlo.up hbk; replace nlo := nlo.up hbk; replace zhi := zhi.up hbk; replace nhi := nhi.up hbk; replace z1 := z1.up hbk; replace z2 := z2.up hbk; replace z3 := z3.up hbk; replace z4 := z4.up hbk; replace z5 := z5.up hbk; replace z6 := z6.up hbk; replace z7 := z7.up hbk))) | (go_at_call 47; (with_reducible refine (CFl.out _ HB).mono ?_); rintro e x3 ⟨Bf, ef, rfl, zf, hbk⟩; (with_reducible (replace HB := HB.up hbk; replace HR := HR.up hbk; replace HA := HA.up hbk; replace HL := HL.up hbk; replace HI := HI.up hbk; replace zlo := zlo.up hbk; replace nlo := nlo.up hbk; replace zhi := zhi.up hbk; replace nhi := nhi.up hbk; replace z1 := z1.up hbk; replace z2 := z2.up hbk; replace z3 := z3.up hbk; replace z4 := z4.up hbk; replace z5 := z5.up hbk; replace z6 := z6.up hbk; replace z7 := z7.up hbk))) | (go_at_call 20; (with_reducible refine (CE3.out _ _ _ _ _ z3 zf).mono ?_); rintro e x4 ⟨rfl, hbk⟩; (with_reducible (replace HB := HB.up hbk; replace HR := HR.up hbk; replace HA := HA.up hbk; replace HL := HL.up hbk; replace HI := HI.up hbk; replace zlo := zlo.up hbk; replace nlo := nlo.up hbk; replace zhi := zhi.up hbk; replace nhi := nhi.up hbk; replace z1 := z1.up hbk; replace z2 := z2.up hbk; replace z3 := z3.up hbk; replace z4 := z4.up hbk; replace z5 := z5.up hbk; replace z6 := z6.up hbk; replace z7 := z7.up hbk))) | fail); (try (go_wp2_with fail)); refine hK.out _ _ ?_ (fun hHeld => ?_); (focus ((try dsimp only); refine ⟨(?_ : At _ pa (arr sg v B E 8)).ci (i := 6) rfl, (?_ : At _ pa (arr sg v B E 8)).ci (i := 7) rfl, (?_ : At _ plo [.bool slo, .slice Xlo (dl lo.num.natAbs) elo, .slice Ylo (dl lo.den) flo]).c0, (?_ : At _ plo [.bool slo, .slice Xlo (dl lo.num.natAbs) elo, .slice Ylo (dl lo.den) flo]).c1, (?_ : At _ plo [.bool slo, .slice Xlo (dl lo.num.natAbs) elo, .slice Ylo (dl lo.den) flo]).c2, (?_ : At _ phi [.bool shi, .slice Xhi (dl hi.num.natAbs) ehi, .slice Yhi (dl hi.den) fhi]).c0, (?_ : At _ phi [.bool shi, .slice Xhi (dl hi.num.natAbs) ehi, .slice Yhi (dl hi.den) fhi]).c1, (?_ : At _ phi [.bool shi, .slice Xhi (dl hi.num.natAbs) ehi, .slice Yhi (dl hi.den) fhi]).c2, (?_ : At _ w.heap.size [.bool b, .slice A n c, .slice A' n' c']).c0, (?_ : At _ w.heap.size [.bool b, .slice A n c, .slice A' n' c']).c1, (?_ : At _ w.heap.size [.bool b, .slice A n c, .slice A' n' c']).c2⟩ <;> (repeat (first | with_reducible exact HR | with_reducible exact HL | with_reducible exact HI | with_reducible exact HA | (with_reducible refine At.dr ?_) | (with_reducible refine At.al ?_ _) | (with_reducible refine At.far3 ?_ (by omega) _ _ _) | (with_reducible refine At.far ?_ (by omega) _))))); clear hK K; (try simp only [List.getElem_toArray, List.getElem_cons_zero, List.getElem_cons_succ, Act.put, List.setIfInBounds_toArray, List.set_cons_zero, List.set_cons_succ]))
          (refine wpAnyH_ready (rs := [23]) (by decide +kernel) (by simp) ?_; refine AllReadyH.cons rfl (fun K hK => ?_) AllReadyH.nil; go_simp; (first | (go_at_call 46; (with_reducible refine (CC1.out _ _ _ _ _ HB.dr zlo.dr nlo.dr).mono ?_); rintro e x1 ⟨rfl, hbk⟩; (with_reducible (replace HB := HB.dr.up hbk; replace HR := HR.dr.up hbk; replace HA := HA.dr.up hbk; replace HL := HL.dr.up hbk; replace HI := HI.dr.up hbk; replace zlo := zlo.dr.up hbk; replace nlo := nlo.dr.up hbk; replace zhi := zhi.dr.up hbk; replace nhi := nhi.dr.up hbk; replace z1 := z1.dr.up hbk; replace z2 := z2.dr.up hbk; replace z3 := z3.dr.up hbk; replace z4 := z4.dr.up hbk; replace z5 := z5.dr.up hbk; replace z6 := z6.dr.up hbk; replace z7 := z7.dr.up hbk))) | (go_at_call 46; (with_reducible refine (CC2.out _ _ _ _ _ HB zhi nhi).mono ?_); rintro e x2 ⟨rfl, hbk⟩; (with_reducible (replace HB := HB.up hbk; replace HR := HR.up hbk; replace HA := HA.up hbk; replace HL := HL.up hbk; replace HI := HI.up hbk; replace zlo := zlo.up hbk; replace nlo := nlo.up hbk; replace zhi := zhi.up hbk; replace nhi := nhi.up hbk; replace z1 := z1.up hbk; replace z2 := z2.up hbk; replace z3 := z3.up hbk; replace z4 := z4.up hbk; replace z5 := z5.up hbk; replace z6 := z6.up hbk; replace z7 := z7.up hbk))) | (go_at_call 47; (with_reducible refine (CFl.out _ HB).mono ?_); rintro e x3 ⟨Bf, ef, rfl, zf, hbk⟩; (with_reducible (replace HB := HB.up hbk; replace HR := HR.up hbk; replace HA := HA.up hbk; replace HL := HL.up hbk; replace HI := HI.up hbk; replace zlo := zlo.up hbk; replace nlo := nlo.up hbk; replace zhi := zhi.up hbk; replace nhi := nhi.up hbk; replace z1 := z1.up hbk; replace z2 := z2.up hbk; replace z3 := z3.up hbk; replace z4 := z4.up hbk; replace z5 := z5.up hbk; replace z6 := z6.up hbk; replace z7 := z7.up hbk))) | (go_at_call 20; (with_reducible refine (CE3.out _ _ _ _ _ z3 zf).mono ?_); rintro e x4 ⟨rfl, hbk⟩; (with_reducible (replace HB := HB.up hbk; replace HR := HR.up hbk; replace HA := HA.up hbk; replace HL := HL.up hbk; replace HI := HI.up hbk; replace zlo := zlo.up hbk; replace nlo := nlo.up hbk; replace zhi := zhi.up hbk; replace nhi := nhi.up hbk; replace z1 := z1.up hbk; replace z2 := z2.up hbk; replace z3 := z3.up hbk; replace z4 := z4.up hbk; replace z5 := z5.up hbk; replace z6 := z6.up hbk; replace z7 := z7.up hbk))) | fail); (try (go_wp2_with fail)); refine hK.out _ _ ?_ (fun hHeld => ?_); (focus ((try dsimp only); refine ⟨(?_ : At _ pa (arr sg v B E 8)).ci (i := 6) rfl, (?_ : At _ pa (arr sg v B E 8)).ci (i := 7) rfl, (?_ : At _ plo [.bool slo, .slice Xlo (dl lo.num.natAbs) elo, .slice Ylo (dl lo.den) flo]).c0, (?_ : At _ plo [.bool slo, .slice Xlo (dl lo.num.natAbs) elo, .slice Ylo (dl lo.den) flo]).c1, (?_ : At _ plo [.bool slo, .slice Xlo (dl lo.num.natAbs) elo, .slice Ylo (dl lo.den) flo]).c2, (?_ : At _ phi [.bool shi, .slice Xhi (dl hi.num.natAbs) ehi, .slice Yhi (dl hi.den) fhi]).c0, (?_ : At _ phi [.bool shi, .slice Xhi (dl hi.num.natAbs) ehi, .slice Yhi (dl hi.den) fhi]).c1, (?_ : At _ phi [.bool shi, .slice Xhi (dl hi.num.natAbs) ehi, .slice Yhi (dl hi.den) fhi]).c2, (?_ : At _ w.heap.size [.bool b, .slice A n c, .slice A' n' c']).c0, (?_ : At _ w.heap.size [.bool b, .slice A n c, .slice A' n' c']).c1, (?_ : At _ w.heap.size [.bool b, .slice A n c, .slice A' n' c']).c2⟩ <;> (repeat (first | with_reducible exact HR | with_reducible exact HL | with_reducible exact HI | with_reducible exact HA | (with_reducible refine At.dr ?_) | (with_reducible refine At.al ?_ _) | (with_reducible refine At.far3 ?_ (by omega) _ _ _) | (with_reducible refine At.far ?_ (by omega) _))))); clear hK K; (try simp only [List.getElem_toArray, List.getElem_cons_zero, List.getElem_cons_succ, Act.put, List.setIfInBounds_toArray, List.set_cons_zero, List.set_cons_succ]))
          (refine wpAnyH_take (i := 24) (v := ?_) rfl (by decide +kernel) (by decide +kernel) (by decide +kernel) (fun _ _ _ h => h) (Or.inl ⟨by rfl, ?_⟩) (by assumption) ?_; rotate_left; (focus ((intro w hSw; (try dsimp only at hSw); go_simp); (try (with_reducible rfl)); done)); (try simp only [List.getElem_toArray, List.getElem_cons_zero, List.getElem_cons_succ, Act.put, List.setIfInBounds_toArray, List.set_cons_zero, List.set_cons_succ]))
          (refine wpAnyH_take (i := 25) (v := ?_) rfl (by decide +kernel) (by decide +kernel) (by decide +kernel) (fun _ _ _ h => h) (Or.inl ⟨by rfl, ?_⟩) (by assumption) ?_; rotate_left; (focus ((intro w hSw; (try dsimp only at hSw); go_simp); (try (with_reducible rfl)); done)); (try simp only [List.getElem_toArray, List.getElem_cons_zero, List.getElem_cons_succ, Act.put, List.setIfInBounds_toArray, List.set_cons_zero, List.set_cons_succ]))
          refine wpAnyH_done (by decide +kernel) ?_ _
          have ha_0 := HA.c0
          have ha_1 := HA.c1
          have ha_2 := HA.c2
          have ha_l := HA.lt
          have ar_2 := HR.ci (i := 2) (v := .bool (sg 1)) rfl
          have ar_3 := HR.ci (i := 3) (v := .slice (B 1) (dl (v 1).natAbs) (E 1)) rfl
          have ar_4 := HR.ci (i := 4) (v := .bool (sg 2)) rfl
          have ar_5 := HR.ci (i := 5) (v := .slice (B 2) (dl (v 2).natAbs) (E 2)) rfl
          have ar_6 := HR.ci (i := 6) (v := .bool (sg 3)) rfl
          have ar_7 := HR.ci (i := 7) (v := .slice (B 3) (dl (v 3).natAbs) (E 3)) rfl
          have ar_8 := HR.ci (i := 8) (v := .bool (sg 4)) rfl
          have ar_9 := HR.ci (i := 9) (v := .slice (B 4) (dl (v 4).natAbs) (E 4)) rfl
          have har_l := HR.lt
          go_wp2_with (first | (go_at_call 48; (with_reducible refine (CS.out _ HB).mono ?_); rintro e y1 ⟨rfl, hbk⟩; (with_reducible (replace HB := HB.up hbk; replace HR := HR.up hbk; replace HA := HA.up hbk; replace z1 := z1.up hbk; replace z2 := z2.up hbk; replace z3 := z3.up hbk; replace z4 := z4.up hbk; replace z5 := z5.up hbk; replace z6 := z6.up hbk; replace z7 := z7.up hbk)); clear ha_0 ha_1 ha_2 ha_l ar_2 ar_3 ar_4 ar_5 ar_6 ar_7 ar_8 ar_9 har_l; have ha_0 := HA.c0; have ha_1 := HA.c1; have ha_2 := HA.c2; have ha_l := HA.lt; have ar_2 := HR.ci (i := 2) (v := .bool (sg 1)) rfl; have ar_3 := HR.ci (i := 3) (v := .slice (B 1) (dl (v 1).natAbs) (E 1)) rfl; have ar_4 := HR.ci (i := 4) (v := .bool (sg 2)) rfl; have ar_5 := HR.ci (i := 5) (v := .slice (B 2) (dl (v 2).natAbs) (E 2)) rfl; have ar_6 := HR.ci (i := 6) (v := .bool (sg 3)) rfl; have ar_7 := HR.ci (i := 7) (v := .slice (B 3) (dl (v 3).natAbs) (E 3)) rfl; have ar_8 := HR.ci (i := 8) (v := .bool (sg 4)) rfl; have ar_9 := HR.ci (i := 9) (v := .slice (B 4) (dl (v 4).natAbs) (E 4)) rfl; have har_l := HR.lt) | (go_at_call 20; (with_reducible refine (CE1.out _ _ _ _ _ z1 z3).mono ?_); rintro e y2 ⟨rfl, hbk⟩; (with_reducible (replace HB := HB.up hbk; replace HR := HR.up hbk; replace HA := HA.up hbk; replace z1 := z1.up hbk; replace z2 := z2.up hbk; replace z3 := z3.up hbk; replace z4 := z4.up hbk; replace z5 := z5.up hbk; replace z6 := z6.up hbk; replace z7 := z7.up hbk)); clear ha_0 ha_1 ha_2 ha_l ar_2 ar_3 ar_4 ar_5 ar_6 ar_7 ar_8 ar_9 har_l; have ha_0 := HA.c0; have ha_1 := HA.c1; have ha_2 := HA.c2; have ha_l := HA.lt; have ar_2 := HR.ci (i := 2) (v := .bool (sg 1)) rfl; have ar_3 := HR.ci (i := 3) (v := .slice (B 1) (dl (v 1).natAbs) (E 1)) rfl; have ar_4 := HR.ci (i := 4) (v := .bool (sg 2)) rfl; have ar_5 := HR.ci (i := 5) (v := .slice (B 2) (dl (v 2).natAbs) (E 2)) rfl; have ar_6 := HR.ci (i := 6) (v := .bool (sg 3)) rfl; have ar_7 := HR.ci (i := 7) (v := .slice (B 3) (dl (v 3).natAbs) (E 3)) rfl; have ar_8 := HR.ci (i := 8) (v := .bool (sg 4)) rfl; have ar_9 := HR.ci (i := 9) (v := .slice (B 4) (dl (v 4).natAbs) (E 4)) rfl; have har_l := HR.lt) | (go_at_call 20; (with_reducible refine (CE2.out _ _ _ _ _ z2 z4).mono ?_); rintro e y3 ⟨rfl, hbk⟩; (with_reducible (replace HB := HB.up hbk; replace HR := HR.up hbk; replace HA := HA.up hbk; replace z1 := z1.up hbk; replace z2 := z2.up hbk; replace z3 := z3.up hbk; replace z4 := z4.up hbk; replace z5 := z5.up hbk; replace z6 := z6.up hbk; replace z7 := z7.up hbk)); clear ha_0 ha_1 ha_2 ha_l ar_2 ar_3 ar_4 ar_5 ar_6 ar_7 ar_8 ar_9 har_l; have ha_0 := HA.c0; have ha_1 := HA.c1; have ha_2 := HA.c2; have ha_l := HA.lt; have ar_2 := HR.ci (i := 2) (v := .bool (sg 1)) rfl; have ar_3 := HR.ci (i := 3) (v := .slice (B 1) (dl (v 1).natAbs) (E 1)) rfl; have ar_4 := HR.ci (i := 4) (v := .bool (sg 2)) rfl; have ar_5 := HR.ci (i := 5) (v := .slice (B 2) (dl (v 2).natAbs) (E 2)) rfl; have ar_6 := HR.ci (i := 6) (v := .bool (sg 3)) rfl; have ar_7 := HR.ci (i := 7) (v := .slice (B 3) (dl (v 3).natAbs) (E 3)) rfl; have ar_8 := HR.ci (i := 8) (v := .bool (sg 4)) rfl; have ar_9 := HR.ci (i := 9) (v := .slice (B 4) (dl (v 4).natAbs) (E 4)) rfl; have har_l := HR.lt) | fail)
          obtain ⟨W9, hW9⟩ : ∃ X, X = y1 := ⟨_, rfl⟩
          rw [← hW9] at HB HR z1 z2 z3 z4 z5 z6 z7 ⊢
          clear hW9 HA ha_0 ha_1 ha_2 ha_l ar_2 ar_3 ar_4 ar_5 ar_6 ar_7 ar_8 ar_9 har_l
          go_loopw [11] (fun iv w' => ∃ k : Nat, 5 ≤ k ∧ k ≤ 8 ∧ iv = .int .i64 (k : Int) ∧ Hid (Bel W9 w')) (fun iv _ => 8 - (intOf iv).toNat)
          case atStart => exact ⟨5, by decide, by decide, rfl, Bel.refl W9⟩
          case round =>
            obtain ⟨k, hk5, hk8, rfl, HW0⟩ := hrel
            have HW : Bel W9 wr := HW0
            clear HW0
            replace HB := HB.up HW.hid
            replace HR := HR.up HW.hid
            replace z1 := z1.up HW.hid
            replace z2 := z2.up HW.hid
            replace z3 := z3.up HW.hid
            replace z4 := z4.up HW.hid
            replace z5 := z5.up HW.hid
            replace z6 := z6.up HW.hid
            replace z7 := z7.up HW.hid
            by_cases hlt : k < 8
            · have hkk : k = 5 ∨ k = 6 ∨ k = 7 := by omega
              clear hk5 hk8 hlt
              rcases hkk with rfl | rfl | rfl
              · by_cases heq : v 5 = v 3
                · have CQ := hide (CE.out 5 3 heq)
                  clear heq
                  go_wp2_with fail
                  refine wp_region_held_drew (S := fun w' => w'.cell? ⟨pa, 10, none⟩ = some (.bool (sg 5)) ∧ w'.cell? ⟨pa, 11, none⟩ = some (.slice (B 5) (dl (v 5).natAbs) (E 5)) ∧ w'.cell? ⟨pa, 6, none⟩ = some (.bool (sg 3)) ∧ w'.cell? ⟨pa, 7, none⟩ = some (.slice (B 3) (dl (v 3).natAbs) (E 3)) ∧ w'.cell? ⟨pa, 8, none⟩ = some (.bool (sg 4)) ∧ w'.cell? ⟨pa, 9, none⟩ = some (.slice (B 4) (dl (v 4).natAbs) (E 4))) (by kernel_rfl) ?_ (fun hHeld => ?_)
                  · refine ⟨(?_ : At _ pa (arr sg v B E 8)).ci (i := 10) rfl, (?_ : At _ pa (arr sg v B E 8)).ci (i := 11) rfl, (?_ : At _ pa (arr sg v B E 8)).ci (i := 6) rfl, (?_ : At _ pa (arr sg v B E 8)).ci (i := 7) rfl, (?_ : At _ pa (arr sg v B E 8)).ci (i := 8) rfl, (?_ : At _ pa (arr sg v B E 8)).ci (i := 9) rfl⟩ <;> (repeat (first | with_reducible exact HR | (with_reducible refine At.dr ?_) | (with_reducible refine At.al ?_ _) | (with_reducible refine At.far3 ?_ (by omega) _ _ _) | (with_reducible refine At.far ?_ (by omega) _)))
                  (refine wpAnyH_take (i := 0) (v := ?_) rfl (by decide +kernel) (by decide +kernel) (by decide +kernel) (fun _ _ _ h => h) (Or.inl ⟨by rfl, ?_⟩) (by assumption) ?_; rotate_left; (focus ((intro w hSw; (try dsimp only at hSw); go_simp); (try (with_reducible rfl)); done)); (try simp only [List.getElem_toArray, List.getElem_cons_zero, List.getElem_cons_succ, Act.put, List.setIfInBounds_toArray, List.set_cons_zero, List.set_cons_succ]))
                  (refine wpAnyH_take (i := 1) (v := ?_) rfl (by decide +kernel) (by decide +kernel) (by decide +kernel) (fun _ _ _ h => h) (Or.inl ⟨by rfl, ?_⟩) (by assumption) ?_; rotate_left; (focus ((intro w hSw; (try dsimp only at hSw); go_simp); (try (with_reducible rfl)); done)); (try simp only [List.getElem_toArray, List.getElem_cons_zero, List.getElem_cons_succ, Act.put, List.setIfInBounds_toArray, List.set_cons_zero, List.set_cons_succ]))
                  (refine wpAnyH_take (i := 2) (v := ?_) rfl (by decide +kernel) (by decide +kernel) (by decide +kernel) (fun _ _ _ h => h) (Or.inl ⟨by rfl, ?_⟩) (by assumption) ?_; rotate_left; (focus ((intro w hSw; (try dsimp only at hSw); go_simp); (try (with_reducible rfl)); done)); (try simp only [List.getElem_toArray, List.getElem_cons_zero, List.getElem_cons_succ, Act.put, List.setIfInBounds_toArray, List.set_cons_zero, List.set_cons_succ]))
                  (refine wpAnyH_take (i := 3) (v := ?_) rfl (by decide +kernel) (by decide +kernel) (by decide +kernel) (fun _ _ _ h => h) (Or.inl ⟨by rfl, ?_⟩) (by assumption) ?_; rotate_left; (focus ((intro w hSw; (try dsimp only at hSw); go_simp); (try (with_reducible rfl)); done)); (try simp only [List.getElem_toArray, List.getElem_cons_zero, List.getElem_cons_succ, Act.put, List.setIfInBounds_toArray, List.set_cons_zero, List.set_cons_succ]))
                  (refine wpAnyH_take (i := 4) (v := ?_) rfl (by decide +kernel) (by decide +kernel) (by decide +kernel) (fun _ _ _ h => h) (Or.inl ⟨by rfl, ?_⟩) (by assumption) ?_; rotate_left; (focus ((intro w hSw; (try dsimp only at hSw); go_simp); (try (with_reducible rfl)); done)); (try simp only [List.getElem_toArray, List.getElem_cons_zero, List.getElem_cons_succ, Act.put, List.setIfInBounds_toArray, List.set_cons_zero, List.set_cons_succ]))
                  (refine wpAnyH_ready (rs := [5]) (by decide +kernel) (by simp) ?_; refine AllReadyH.cons rfl (fun K hK => ?_) AllReadyH.nil; go_simp; (first | (go_at_call 20; (with_reducible refine (CQ.out _ _ _ _ _ z5.dr z3.dr).mono ?_); rintro e q1 ⟨rfl, hbk⟩; (with_reducible (replace HW := HW.dr.up hbk; replace HB := HB.dr.up hbk; replace HR := HR.dr.up hbk; replace z1 := z1.dr.up hbk; replace z2 := z2.dr.up hbk; replace z3 := z3.dr.up hbk; replace z4 := z4.dr.up hbk; replace z5 := z5.dr.up hbk; replace z6 := z6.dr.up hbk; replace z7 := z7.dr.up hbk))) | fail); (try (go_wp2_with fail)); refine hK.out _ _ ?_ (fun hHeld => ?_); (focus ((try dsimp only); refine ⟨(?_ : At _ pa (arr sg v B E 8)).ci (i := 10) rfl, (?_ : At _ pa (arr sg v B E 8)).ci (i := 11) rfl, (?_ : At _ pa (arr sg v B E 8)).ci (i := 6) rfl, (?_ : At _ pa (arr sg v B E 8)).ci (i := 7) rfl, (?_ : At _ pa (arr sg v B E 8)).ci (i := 8) rfl, (?_ : At _ pa (arr sg v B E 8)).ci (i := 9) rfl⟩ <;> (repeat (first | with_reducible exact HR | (with_reducible refine At.dr ?_) | (with_reducible refine At.al ?_ _) | (with_reducible refine At.far3 ?_ (by omega) _ _ _) | (with_reducible refine At.far ?_ (by omega) _))))); clear hK K; (try simp only [List.getElem_toArray, List.getElem_cons_zero, List.getElem_cons_succ, Act.put, List.setIfInBounds_toArray, List.set_cons_zero, List.set_cons_succ]))
                  (refine wpAnyH_take (i := 6) (v := ?_) rfl (by decide +kernel) (by decide +kernel) (by decide +kernel) (fun _ _ _ h => h) (Or.inl ⟨by rfl, ?_⟩) (by assumption) ?_; rotate_left; (focus ((intro w hSw; (try dsimp only at hSw); go_simp); (try (with_reducible rfl)); done)); (try simp only [List.getElem_toArray, List.getElem_cons_zero, List.getElem_cons_succ, Act.put, List.setIfInBounds_toArray, List.set_cons_zero, List.set_cons_succ]))
                  (refine wpAnyH_take (i := 7) (v := ?_) rfl (by decide +kernel) (by decide +kernel) (by decide +kernel) (fun _ _ _ h => h) (Or.inl ⟨by rfl, ?_⟩) (by assumption) ?_; rotate_left; (focus ((intro w hSw; (try dsimp only at hSw); go_simp); (try (with_reducible rfl)); done)); (try simp only [List.getElem_toArray, List.getElem_cons_zero, List.getElem_cons_succ, Act.put, List.setIfInBounds_toArray, List.set_cons_zero, List.set_cons_succ]))
                  (refine wpAnyH_take (i := 8) (v := undef) rfl (by decide +kernel) (by decide +kernel) (by decide +kernel) (fun _ _ _ h => h) (Or.inr ⟨by rfl, rfl⟩) (by assumption) ?_; (try simp only [List.getElem_toArray, List.getElem_cons_zero, List.getElem_cons_succ, Act.put, List.setIfInBounds_toArray, List.set_cons_zero, List.set_cons_succ]))
                  (refine wpAnyH_take (i := 9) (v := undef) rfl (by decide +kernel) (by decide +kernel) (by decide +kernel) (fun _ _ _ h => h) (Or.inr ⟨by rfl, rfl⟩) (by assumption) ?_; (try simp only [List.getElem_toArray, List.getElem_cons_zero, List.getElem_cons_succ, Act.put, List.setIfInBounds_toArray, List.set_cons_zero, List.set_cons_succ]))
                  (refine wpAnyH_take (i := 10) (v := undef) rfl (by decide +kernel) (by decide +kernel) (by decide +kernel) (fun _ _ _ h => h) (Or.inr ⟨by rfl, rfl⟩) (by assumption) ?_; (try simp only [List.getElem_toArray, List.getElem_cons_zero, List.getElem_cons_succ, Act.put, List.setIfInBounds_toArray, List.set_cons_zero, List.set_cons_succ]))
                  (refine wpAnyH_take (i := 11) (v := undef) rfl (by decide +kernel) (by decide +kernel) (by decide +kernel) (fun _ _ _ h => h) (Or.inr ⟨by rfl, rfl⟩) (by assumption) ?_; (try simp only [List.getElem_toArray, List.getElem_cons_zero, List.getElem_cons_succ, Act.put, List.setIfInBounds_toArray, List.set_cons_zero, List.set_cons_succ]))
                  (refine wpAnyH_take (i := 12) (v := undef) rfl (by decide +kernel) (by decide +kernel) (by decide +kernel) (fun _ _ _ h => h) (Or.inr ⟨by rfl, rfl⟩) (by assumption) ?_; (try simp only [List.getElem_toArray, List.getElem_cons_zero, List.getElem_cons_succ, Act.put, List.setIfInBounds_toArray, List.set_cons_zero, List.set_cons_succ]))
                  (refine wpAnyH_take (i := 13) (v := undef) rfl (by decide +kernel) (by decide +kernel) (by decide +kernel) (fun _ _ _ h => h) (Or.inr ⟨by rfl, rfl⟩) (by assumption) ?_; (try simp only [List.getElem_toArray, List.getElem_cons_zero, List.getElem_cons_succ, Act.put, List.setIfInBounds_toArray, List.set_cons_zero, List.set_cons_succ]))
                  (refine wpAnyH_take (i := 14) (v := undef) rfl (by decide +kernel) (by decide +kernel) (by decide +kernel) (fun _ _ _ h => h) (Or.inr ⟨by rfl, rfl⟩) (by assumption) ?_; (try simp only [List.getElem_toArray, List.getElem_cons_zero, List.getElem_cons_succ, Act.put, List.setIfInBounds_toArray, List.set_cons_zero, List.set_cons_succ]))
                  (refine wpAnyH_take (i := 15) (v := ?_) rfl (by decide +kernel) (by decide +kernel) (by decide +kernel) (fun _ _ _ h => h) (Or.inl ⟨by rfl, ?_⟩) (by assumption) ?_; rotate_left; (focus ((intro w hSw; (try dsimp only at hSw); go_simp); (try (with_reducible rfl)); done)); (try simp only [List.getElem_toArray, List.getElem_cons_zero, List.getElem_cons_succ, Act.put, List.setIfInBounds_toArray, List.set_cons_zero, List.set_cons_succ]))
                  refine wpAnyH_done (by decide +kernel) ?_ _
                  go_wp2
                  go_roundw
                  case rel => exact ⟨6, by decide, by decide, by go_num, HW⟩
                  case measure => simp [intOf]
                · obtain ⟨u, hu, CU2⟩ := CU.out 5 3
                  have hu0 : (u == 0) = false := by simpa using hu heq
                  have hu1 : (u != 0) = true := by simpa using hu heq
                  have hu2 : u ≠ 0 := hu heq
                  have CQ := hide CU2
                  have CQ2 := hide (CE.out 5 4 ((HH.out 5).resolve_left heq))
                  clear CU2 hu heq
                  go_wp2_with fail
                  refine wp_region_held_drew (S := fun w' => w'.cell? ⟨pa, 10, none⟩ = some (.bool (sg 5)) ∧ w'.cell? ⟨pa, 11, none⟩ = some (.slice (B 5) (dl (v 5).natAbs) (E 5)) ∧ w'.cell? ⟨pa, 6, none⟩ = some (.bool (sg 3)) ∧ w'.cell? ⟨pa, 7, none⟩ = some (.slice (B 3) (dl (v 3).natAbs) (E 3)) ∧ w'.cell? ⟨pa, 8, none⟩ = some (.bool (sg 4)) ∧ w'.cell? ⟨pa, 9, none⟩ = some (.slice (B 4) (dl (v 4).natAbs) (E 4))) (by kernel_rfl) ?_ (fun hHeld => ?_)
                  · refine ⟨(?_ : At _ pa (arr sg v B E 8)).ci (i := 10) rfl, (?_ : At _ pa (arr sg v B E 8)).ci (i := 11) rfl, (?_ : At _ pa (arr sg v B E 8)).ci (i := 6) rfl, (?_ : At _ pa (arr sg v B E 8)).ci (i := 7) rfl, (?_ : At _ pa (arr sg v B E 8)).ci (i := 8) rfl, (?_ : At _ pa (arr sg v B E 8)).ci (i := 9) rfl⟩ <;> (repeat (first | with_reducible exact HR | (with_reducible refine At.dr ?_) | (with_reducible refine At.al ?_ _) | (with_reducible refine At.far3 ?_ (by omega) _ _ _) | (with_reducible refine At.far ?_ (by omega) _)))
                  (refine wpAnyH_take (i := 0) (v := ?_) rfl (by decide +kernel) (by decide +kernel) (by decide +kernel) (fun _ _ _ h => h) (Or.inl ⟨by rfl, ?_⟩) (by assumption) ?_; rotate_left; (focus ((intro w hSw; (try dsimp only at hSw); go_simp); (try (with_reducible rfl)); done)); (try simp only [List.getElem_toArray, List.getElem_cons_zero, List.getElem_cons_succ, Act.put, List.setIfInBounds_toArray, List.set_cons_zero, List.set_cons_succ]))
                  (refine wpAnyH_take (i := 1) (v := ?_) rfl (by decide +kernel) (by decide +kernel) (by decide +kernel) (fun _ _ _ h => h) (Or.inl ⟨by rfl, ?_⟩) (by assumption) ?_; rotate_left; (focus ((intro w hSw; (try dsimp only at hSw); go_simp); (try (with_reducible rfl)); done)); (try simp only [List.getElem_toArray, List.getElem_cons_zero, List.getElem_cons_succ, Act.put, List.setIfInBounds_toArray, List.set_cons_zero, List.set_cons_succ]))
                  (refine wpAnyH_take (i := 2) (v := ?_) rfl (by decide +kernel) (by decide +kernel) (by decide +kernel) (fun _ _ _ h => h) (Or.inl ⟨by rfl, ?_⟩) (by assumption) ?_; rotate_left; (focus ((intro w hSw; (try dsimp only at hSw); go_simp); (try (with_reducible rfl)); done)); (try simp only [List.getElem_toArray, List.getElem_cons_zero, List.getElem_cons_succ, Act.put, List.setIfInBounds_toArray, List.set_cons_zero, List.set_cons_succ]))
                  (refine wpAnyH_take (i := 3) (v := ?_) rfl (by decide +kernel) (by decide +kernel) (by decide +kernel) (fun _ _ _ h => h) (Or.inl ⟨by rfl, ?_⟩) (by assumption) ?_; rotate_left; (focus ((intro w hSw; (try dsimp only at hSw); go_simp); (try (with_reducible rfl)); done)); (try simp only [List.getElem_toArray, List.getElem_cons_zero, List.getElem_cons_succ, Act.put, List.setIfInBounds_toArray, List.set_cons_zero, List.set_cons_succ]))
                  (refine wpAnyH_take (i := 4) (v := ?_) rfl (by decide +kernel) (by decide +kernel) (by decide +kernel) (fun _ _ _ h => h) (Or.inl ⟨by rfl, ?_⟩) (by assumption) ?_; rotate_left; (focus ((intro w hSw; (try dsimp only at hSw); go_simp); (try (with_reducible rfl)); done)); (try simp only [List.getElem_toArray, List.getElem_cons_zero, List.getElem_cons_succ, Act.put, List.setIfInBounds_toArray, List.set_cons_zero, List.set_cons_succ]))
                  (refine wpAnyH_ready (rs := [5]) (by decide +kernel) (by simp) ?_; refine AllReadyH.cons rfl (fun K hK => ?_) AllReadyH.nil; go_simp; (first | (go_at_call 20; (with_reducible refine (CQ.out _ _ _ _ _ z5.dr z3.dr).mono ?_); rintro e q1 ⟨rfl, hbk⟩; (with_reducible (replace HW := HW.dr.up hbk; replace HB := HB.dr.up hbk; replace HR := HR.dr.up hbk; replace z1 := z1.dr.up hbk; replace z2 := z2.dr.up hbk; replace z3 := z3.dr.up hbk; replace z4 := z4.dr.up hbk; replace z5 := z5.dr.up hbk; replace z6 := z6.dr.up hbk; replace z7 := z7.dr.up hbk))) | (go_at_call 20; (with_reducible refine (CQ2.out _ _ _ _ _ z5 z4).mono ?_); rintro e q2 ⟨rfl, hbk⟩; (with_reducible (replace HW := HW.up hbk; replace HB := HB.up hbk; replace HR := HR.up hbk; replace z1 := z1.up hbk; replace z2 := z2.up hbk; replace z3 := z3.up hbk; replace z4 := z4.up hbk; replace z5 := z5.up hbk; replace z6 := z6.up hbk; replace z7 := z7.up hbk))) | fail); (try (go_wp2_with fail)); refine hK.out _ _ ?_ (fun hHeld => ?_); (focus ((try dsimp only); refine ⟨(?_ : At _ pa (arr sg v B E 8)).ci (i := 10) rfl, (?_ : At _ pa (arr sg v B E 8)).ci (i := 11) rfl, (?_ : At _ pa (arr sg v B E 8)).ci (i := 6) rfl, (?_ : At _ pa (arr sg v B E 8)).ci (i := 7) rfl, (?_ : At _ pa (arr sg v B E 8)).ci (i := 8) rfl, (?_ : At _ pa (arr sg v B E 8)).ci (i := 9) rfl⟩ <;> (repeat (first | with_reducible exact HR | (with_reducible refine At.dr ?_) | (with_reducible refine At.al ?_ _) | (with_reducible refine At.far3 ?_ (by omega) _ _ _) | (with_reducible refine At.far ?_ (by omega) _))))); clear hK K; (try simp only [List.getElem_toArray, List.getElem_cons_zero, List.getElem_cons_succ, Act.put, List.setIfInBounds_toArray, List.set_cons_zero, List.set_cons_succ]))
                  (refine wpAnyH_take (i := 6) (v := ?_) rfl (by decide +kernel) (by decide +kernel) (by decide +kernel) (fun _ _ _ h => h) (Or.inl ⟨by rfl, ?_⟩) (by assumption) ?_; rotate_left; (focus ((intro w hSw; (try dsimp only at hSw); go_simp); (try (with_reducible rfl)); done)); (try simp only [List.getElem_toArray, List.getElem_cons_zero, List.getElem_cons_succ, Act.put, List.setIfInBounds_toArray, List.set_cons_zero, List.set_cons_succ]))
                  (refine wpAnyH_take (i := 7) (v := ?_) rfl (by decide +kernel) (by decide +kernel) (by decide +kernel) (fun _ _ _ h => h) (Or.inl ⟨by rfl, ?_⟩) (by assumption) ?_; rotate_left; (focus ((intro w hSw; (try dsimp only at hSw); go_simp); (try (with_reducible rfl)); done)); (try simp only [List.getElem_toArray, List.getElem_cons_zero, List.getElem_cons_succ, Act.put, List.setIfInBounds_toArray, List.set_cons_zero, List.set_cons_succ]))
                  (refine wpAnyH_take (i := 8) (v := ?_) rfl (by decide +kernel) (by decide +kernel) (by decide +kernel) (fun _ _ _ h => h) (Or.inl ⟨by rfl, ?_⟩) (by assumption) ?_; rotate_left; (focus ((intro w hSw; (try dsimp only at hSw); go_simp); (try (with_reducible rfl)); done)); (try simp only [List.getElem_toArray, List.getElem_cons_zero, List.getElem_cons_succ, Act.put, List.setIfInBounds_toArray, List.set_cons_zero, List.set_cons_succ]))
                  (refine wpAnyH_take (i := 9) (v := ?_) rfl (by decide +kernel) (by decide +kernel) (by decide +kernel) (fun _ _ _ h => h) (Or.inl ⟨by rfl, ?_⟩) (by assumption) ?_; rotate_left; (focus ((intro w hSw; (try dsimp only at hSw); go_simp); (try (with_reducible rfl)); done)); (try simp only [List.getElem_toArray, List.getElem_cons_zero, List.getElem_cons_succ, Act.put, List.setIfInBounds_toArray, List.set_cons_zero, List.set_cons_succ]))
                  (refine wpAnyH_take (i := 10) (v := ?_) rfl (by decide +kernel) (by decide +kernel) (by decide +kernel) (fun _ _ _ h => h) (Or.inl ⟨by rfl, ?_⟩) (by assumption) ?_; rotate_left; (focus ((intro w hSw; (try dsimp only at hSw); go_simp); (try (with_reducible rfl)); done)); (try simp only [List.getElem_toArray, List.getElem_cons_zero, List.getElem_cons_succ, Act.put, List.setIfInBounds_toArray, List.set_cons_zero, List.set_cons_succ]))
                  (refine wpAnyH_take (i := 11) (v := ?_) rfl (by decide +kernel) (by decide +kernel) (by decide +kernel) (fun _ _ _ h => h) (Or.inl ⟨by rfl, ?_⟩) (by assumption) ?_; rotate_left; (focus ((intro w hSw; (try dsimp only at hSw); go_simp); (try (with_reducible rfl)); done)); (try simp only [List.getElem_toArray, List.getElem_cons_zero, List.getElem_cons_succ, Act.put, List.setIfInBounds_toArray, List.set_cons_zero, List.set_cons_succ]))
                  (refine wpAnyH_take (i := 12) (v := ?_) rfl (by decide +kernel) (by decide +kernel) (by decide +kernel) (fun _ _ _ h => h) (Or.inl ⟨by rfl, ?_⟩) (by assumption) ?_; rotate_left; (focus ((intro w hSw; (try dsimp only at hSw); go_simp); (try (with_reducible rfl)); done)); (try simp only [List.getElem_toArray, List.getElem_cons_zero, List.getElem_cons_succ, Act.put, List.setIfInBounds_toArray, List.set_cons_zero, List.set_cons_succ]))
                  (refine wpAnyH_ready (rs := [13]) (by decide +kernel) (by simp) ?_; refine AllReadyH.cons rfl (fun K hK => ?_) AllReadyH.nil; go_simp; (first | (go_at_call 20; (with_reducible refine (CQ.out _ _ _ _ _ z5.dr z3.dr).mono ?_); rintro e q1 ⟨rfl, hbk⟩; (with_reducible (replace HW := HW.dr.up hbk; replace HB := HB.dr.up hbk; replace HR := HR.dr.up hbk; replace z1 := z1.dr.up hbk; replace z2 := z2.dr.up hbk; replace z3 := z3.dr.up hbk; replace z4 := z4.dr.up hbk; replace z5 := z5.dr.up hbk; replace z6 := z6.dr.up hbk; replace z7 := z7.dr.up hbk))) | (go_at_call 20; (with_reducible refine (CQ2.out _ _ _ _ _ z5 z4).mono ?_); rintro e q2 ⟨rfl, hbk⟩; (with_reducible (replace HW := HW.up hbk; replace HB := HB.up hbk; replace HR := HR.up hbk; replace z1 := z1.up hbk; replace z2 := z2.up hbk; replace z3 := z3.up hbk; replace z4 := z4.up hbk; replace z5 := z5.up hbk; replace z6 := z6.up hbk; replace z7 := z7.up hbk))) | fail); (try (go_wp2_with fail)); refine hK.out _ _ ?_ (fun hHeld => ?_); (focus ((try dsimp only); refine ⟨(?_ : At _ pa (arr sg v B E 8)).ci (i := 10) rfl, (?_ : At _ pa (arr sg v B E 8)).ci (i := 11) rfl, (?_ : At _ pa (arr sg v B E 8)).ci (i := 6) rfl, (?_ : At _ pa (arr sg v B E 8)).ci (i := 7) rfl, (?_ : At _ pa (arr sg v B E 8)).ci (i := 8) rfl, (?_ : At _ pa (arr sg v B E 8)).ci (i := 9) rfl⟩ <;> (repeat (first | with_reducible exact HR | (with_reducible refine At.dr ?_) | (with_reducible refine At.al ?_ _) | (with_reducible refine At.far3 ?_ (by omega) _ _ _) | (with_reducible refine At.far ?_ (by omega) _))))); clear hK K; (try simp only [List.getElem_toArray, List.getElem_cons_zero, List.getElem_cons_succ, Act.put, List.setIfInBounds_toArray, List.set_cons_zero, List.set_cons_succ]))
                  (refine wpAnyH_take (i := 14) (v := ?_) rfl (by decide +kernel) (by decide +kernel) (by decide +kernel) (fun _ _ _ h => h) (Or.inl ⟨by rfl, ?_⟩) (by assumption) ?_; rotate_left; (focus ((intro w hSw; (try dsimp only at hSw); go_simp); (try (with_reducible rfl)); done)); (try simp only [List.getElem_toArray, List.getElem_cons_zero, List.getElem_cons_succ, Act.put, List.setIfInBounds_toArray, List.set_cons_zero, List.set_cons_succ]))
                  (refine wpAnyH_take (i := 15) (v := ?_) rfl (by decide +kernel) (by decide +kernel) (by decide +kernel) (fun _ _ _ h => h) (Or.inl ⟨by rfl, ?_⟩) (by assumption) ?_; rotate_left; (focus ((intro w hSw; (try dsimp only at hSw); go_simp); (try (with_reducible rfl)); done)); (try simp only [List.getElem_toArray, List.getElem_cons_zero, List.getElem_cons_succ, Act.put, List.setIfInBounds_toArray, List.set_cons_zero, List.set_cons_succ]))
                  refine wpAnyH_done (by decide +kernel) ?_ _
                  go_wp2
                  go_roundw
                  case rel => exact ⟨6, by decide, by decide, by go_num, HW⟩
                  case measure => simp [intOf]
              · by_cases heq : v 6 = v 3
                · have CQ := hide (CE.out 6 3 heq)
                  clear heq
                  go_wp2_with fail
                  refine wp_region_held_drew (S := fun w' => w'.cell? ⟨pa, 12, none⟩ = some (.bool (sg 6)) ∧ w'.cell? ⟨pa, 13, none⟩ = some (.slice (B 6) (dl (v 6).natAbs) (E 6)) ∧ w'.cell? ⟨pa, 6, none⟩ = some (.bool (sg 3)) ∧ w'.cell? ⟨pa, 7, none⟩ = some (.slice (B 3) (dl (v 3).natAbs) (E 3)) ∧ w'.cell? ⟨pa, 8, none⟩ = some (.bool (sg 4)) ∧ w'.cell? ⟨pa, 9, none⟩ = some (.slice (B 4) (dl (v 4).natAbs) (E 4))) (by kernel_rfl) ?_ (fun hHeld => ?_)
                  · refine ⟨(?_ : At _ pa (arr sg v B E 8)).ci (i := 12) rfl, (?_ : At _ pa (arr sg v B E 8)).ci (i := 13) rfl, (?_ : At _ pa (arr sg v B E 8)).ci (i := 6) rfl, (?_ : At _ pa (arr sg v B E 8)).ci (i := 7) rfl, (?_ : At _ pa (arr sg v B E 8)).ci (i := 8) rfl, (?_ : At _ pa (arr sg v B E 8)).ci (i := 9) rfl⟩ <;> (repeat (first | with_reducible exact HR | (with_reducible refine At.dr ?_) | (with_reducible refine At.al ?_ _) | (with_reducible refine At.far3 ?_ (by omega) _ _ _) | (with_reducible refine At.far ?_ (by omega) _)))
                  (refine wpAnyH_take (i := 0) (v := ?_) rfl (by decide +kernel) (by decide +kernel) (by decide +kernel) (fun _ _ _ h => h) (Or.inl ⟨by rfl, ?_⟩) (by assumption) ?_; rotate_left; (focus ((intro w hSw; (try dsimp only at hSw); go_simp); (try (with_reducible rfl)); done)); (try simp only [List.getElem_toArray, List.getElem_cons_zero, List.getElem_cons_succ, Act.put, List.setIfInBounds_toArray, List.set_cons_zero, List.set_cons_succ]))
                  (refine wpAnyH_take (i := 1) (v := ?_) rfl (by decide +kernel) (by decide +kernel) (by decide +kernel) (fun _ _ _ h => h) (Or.inl ⟨by rfl, ?_⟩) (by assumption) ?_; rotate_left; (focus ((intro w hSw; (try dsimp only at hSw); go_simp); (try (with_reducible rfl)); done)); (try simp only [List.getElem_toArray, List.getElem_cons_zero, List.getElem_cons_succ, Act.put, List.setIfInBounds_toArray, List.set_cons_zero, List.set_cons_succ]))
                  (refine wpAnyH_take (i := 2) (v := ?_) rfl (by decide +kernel) (by decide +kernel) (by decide +kernel) (fun _ _ _ h => h) (Or.inl ⟨by rfl, ?_⟩) (by assumption) ?_; rotate_left; (focus ((intro w hSw; (try dsimp only at hSw); go_simp); (try (with_reducible rfl)); done)); (try simp only [List.getElem_toArray, List.getElem_cons_zero, List.getElem_cons_succ, Act.put, List.setIfInBounds_toArray, List.set_cons_zero, List.set_cons_succ]))
                  (refine wpAnyH_take (i := 3) (v := ?_) rfl (by decide +kernel) (by decide +kernel) (by decide +kernel) (fun _ _ _ h => h) (Or.inl ⟨by rfl, ?_⟩) (by assumption) ?_; rotate_left; (focus ((intro w hSw; (try dsimp only at hSw); go_simp); (try (with_reducible rfl)); done)); (try simp only [List.getElem_toArray, List.getElem_cons_zero, List.getElem_cons_succ, Act.put, List.setIfInBounds_toArray, List.set_cons_zero, List.set_cons_succ]))
                  (refine wpAnyH_take (i := 4) (v := ?_) rfl (by decide +kernel) (by decide +kernel) (by decide +kernel) (fun _ _ _ h => h) (Or.inl ⟨by rfl, ?_⟩) (by assumption) ?_; rotate_left; (focus ((intro w hSw; (try dsimp only at hSw); go_simp); (try (with_reducible rfl)); done)); (try simp only [List.getElem_toArray, List.getElem_cons_zero, List.getElem_cons_succ, Act.put, List.setIfInBounds_toArray, List.set_cons_zero, List.set_cons_succ]))
                  (refine wpAnyH_ready (rs := [5]) (by decide +kernel) (by simp) ?_; refine AllReadyH.cons rfl (fun K hK => ?_) AllReadyH.nil; go_simp; (first | (go_at_call 20; (with_reducible refine (CQ.out _ _ _ _ _ z6.dr z3.dr).mono ?_); rintro e q1 ⟨rfl, hbk⟩; (with_reducible (replace HW := HW.dr.up hbk; replace HB := HB.dr.up hbk; replace HR := HR.dr.up hbk; replace z1 := z1.dr.up hbk; replace z2 := z2.dr.up hbk; replace z3 := z3.dr.up hbk; replace z4 := z4.dr.up hbk; replace z5 := z5.dr.up hbk; replace z6 := z6.dr.up hbk; replace z7 := z7.dr.up hbk))) | fail); (try (go_wp2_with fail)); refine hK.out _ _ ?_ (fun hHeld => ?_); (focus ((try dsimp only); refine ⟨(?_ : At _ pa (arr sg v B E 8)).ci (i := 12) rfl, (?_ : At _ pa (arr sg v B E 8)).ci (i := 13) rfl, (?_ : At _ pa (arr sg v B E 8)).ci (i := 6) rfl, (?_ : At _ pa (arr sg v B E 8)).ci (i := 7) rfl, (?_ : At _ pa (arr sg v B E 8)).ci (i := 8) rfl, (?_ : At _ pa (arr sg v B E 8)).ci (i := 9) rfl⟩ <;> (repeat (first | with_reducible exact HR | (with_reducible refine At.dr ?_) | (with_reducible refine At.al ?_ _) | (with_reducible refine At.far3 ?_ (by omega) _ _ _) | (with_reducible refine At.far ?_ (by omega) _))))); clear hK K; (try simp only [List.getElem_toArray, List.getElem_cons_zero, List.getElem_cons_succ, Act.put, List.setIfInBounds_toArray, List.set_cons_zero, List.set_cons_succ]))
                  (refine wpAnyH_take (i := 6) (v := ?_) rfl (by decide +kernel) (by decide +kernel) (by decide +kernel) (fun _ _ _ h => h) (Or.inl ⟨by rfl, ?_⟩) (by assumption) ?_; rotate_left; (focus ((intro w hSw; (try dsimp only at hSw); go_simp); (try (with_reducible rfl)); done)); (try simp only [List.getElem_toArray, List.getElem_cons_zero, List.getElem_cons_succ, Act.put, List.setIfInBounds_toArray, List.set_cons_zero, List.set_cons_succ]))
                  (refine wpAnyH_take (i := 7) (v := ?_) rfl (by decide +kernel) (by decide +kernel) (by decide +kernel) (fun _ _ _ h => h) (Or.inl ⟨by rfl, ?_⟩) (by assumption) ?_; rotate_left; (focus ((intro w hSw; (try dsimp only at hSw); go_simp); (try (with_reducible rfl)); done)); (try simp only [List.getElem_toArray, List.getElem_cons_zero, List.getElem_cons_succ, Act.put, List.setIfInBounds_toArray, List.set_cons_zero, List.set_cons_succ]))
                  (refine wpAnyH_take (i := 8) (v := undef) rfl (by decide +kernel) (by decide +kernel) (by decide +kernel) (fun _ _ _ h => h) (Or.inr ⟨by rfl, rfl⟩) (by assumption) ?_; (try simp only [List.getElem_toArray, List.getElem_cons_zero, List.getElem_cons_succ, Act.put, List.setIfInBounds_toArray, List.set_cons_zero, List.set_cons_succ]))
                  (refine wpAnyH_take (i := 9) (v := undef) rfl (by decide +kernel) (by decide +kernel) (by decide +kernel) (fun _ _ _ h => h) (Or.inr ⟨by rfl, rfl⟩) (by assumption) ?_; (try simp only [List.getElem_toArray, List.getElem_cons_zero, List.getElem_cons_succ, Act.put, List.setIfInBounds_toArray, List.set_cons_zero, List.set_cons_succ]))
                  (refine wpAnyH_take (i := 10) (v := undef) rfl (by decide +kernel) (by decide +kernel) (by decide +kernel) (fun _ _ _ h => h) (Or.inr ⟨by rfl, rfl⟩) (by assumption) ?_; (try simp only [List.getElem_toArray, List.getElem_cons_zero, List.getElem_cons_succ, Act.put, List.setIfInBounds_toArray, List.set_cons_zero, List.set_cons_succ]))
                  (refine wpAnyH_take (i := 11) (v := undef) rfl (by decide +kernel) (by decide +kernel) (by decide +kernel) (fun _ _ _ h => h) (Or.inr ⟨by rfl, rfl⟩) (by assumption) ?_; (try simp only [List.getElem_toArray, List.getElem_cons_zero, List.getElem_cons_succ, Act.put, List.setIfInBounds_toArray, List.set_cons_zero, List.set_cons_succ]))
                  (refine wpAnyH_take (i := 12) (v := undef) rfl (by decide +kernel) (by decide +kernel) (by decide +kernel) (fun _ _ _ h => h) (Or.inr ⟨by rfl, rfl⟩) (by assumption) ?_; (try simp only [List.getElem_toArray, List.getElem_cons_zero, List.getElem_cons_succ, Act.put, List.setIfInBounds_toArray, List.set_cons_zero, List.set_cons_succ]))
                  (refine wpAnyH_take (i := 13) (v := undef) rfl (by decide +kernel) (by decide +kernel) (by decide +kernel) (fun _ _ _ h => h) (Or.inr ⟨by rfl, rfl⟩) (by assumption) ?_; (try simp only [List.getElem_toArray, List.getElem_cons_zero, List.getElem_cons_succ, Act.put, List.setIfInBounds_toArray, List.set_cons_zero, List.set_cons_succ]))
                  (refine wpAnyH_take (i := 14) (v := undef) rfl (by decide +kernel) (by decide +kernel) (by decide +kernel) (fun _ _ _ h => h) (Or.inr ⟨by rfl, rfl⟩) (by assumption) ?_; (try simp only [List.getElem_toArray, List.getElem_cons_zero, List.getElem_cons_succ, Act.put, List.setIfInBounds_toArray, List.set_cons_zero, List.set_cons_succ]))
                  (refine wpAnyH_take (i := 15) (v := ?_) rfl (by decide +kernel) (by decide +kernel) (by decide +kernel) (fun _ _ _ h => h) (Or.inl ⟨by rfl, ?_⟩) (by assumption) ?_; rotate_left; (focus ((intro w hSw; (try dsimp only at hSw); go_simp); (try (with_reducible rfl)); done)); (try simp only [List.getElem_toArray, List.getElem_cons_zero, List.getElem_cons_succ, Act.put, List.setIfInBounds_toArray, List.set_cons_zero, List.set_cons_succ]))
                  refine wpAnyH_done (by decide +kernel) ?_ _
                  go_wp2
                  go_roundw
                  case rel => exact ⟨7, by decide, by decide, by go_num, HW⟩
                  case measure => simp [intOf]
                · obtain ⟨u, hu, CU2⟩ := CU.out 6 3
                  have hu0 : (u == 0) = false := by simpa using hu heq
                  have hu1 : (u != 0) = true := by simpa using hu heq
                  have hu2 : u ≠ 0 := hu heq
                  have CQ := hide CU2
                  have CQ2 := hide (CE.out 6 4 ((HH.out 6).resolve_left heq))
                  clear CU2 hu heq
                  go_wp2_with fail
                  refine wp_region_held_drew (S := fun w' => w'.cell? ⟨pa, 12, none⟩ = some (.bool (sg 6)) ∧ w'.cell? ⟨pa, 13, none⟩ = some (.slice (B 6) (dl (v 6).natAbs) (E 6)) ∧ w'.cell? ⟨pa, 6, none⟩ = some (.bool (sg 3)) ∧ w'.cell? ⟨pa, 7, none⟩ = some (.slice (B 3) (dl (v 3).natAbs) (E 3)) ∧ w'.cell? ⟨pa, 8, none⟩ = some (.bool (sg 4)) ∧ w'.cell? ⟨pa, 9, none⟩ = some (.slice (B 4) (dl (v 4).natAbs) (E 4))) (by kernel_rfl) ?_ (fun hHeld => ?_)
                  · refine ⟨(?_ : At _ pa (arr sg v B E 8)).ci (i := 12) rfl, (?_ : At _ pa (arr sg v B E 8)).ci (i := 13) rfl, (?_ : At _ pa (arr sg v B E 8)).ci (i := 6) rfl, (?_ : At _ pa (arr sg v B E 8)).ci (i := 7) rfl, (?_ : At _ pa (arr sg v B E 8)).ci (i := 8) rfl, (?_ : At _ pa (arr sg v B E 8)).ci (i := 9) rfl⟩ <;> (repeat (first | with_reducible exact HR | (with_reducible refine At.dr ?_) | (with_reducible refine At.al ?_ _) | (with_reducible refine At.far3 ?_ (by omega) _ _ _) | (with_reducible refine At.far ?_ (by omega) _)))
                  (refine wpAnyH_take (i := 0) (v := ?_) rfl (by decide +kernel) (by decide +kernel) (by decide +kernel) (fun _ _ _ h => h) (Or.inl ⟨by rfl, ?_⟩) (by assumption) ?_; rotate_left; (focus ((intro w hSw; (try dsimp only at hSw); go_simp); (try (with_reducible rfl)); done)); (try simp only [List.getElem_toArray, List.getElem_cons_zero, List.getElem_cons_succ, Act.put, List.setIfInBounds_toArray, List.set_cons_zero, List.set_cons_succ]))
                  (refine wpAnyH_take (i := 1) (v := ?_) rfl (by decide +kernel) (by decide +kernel) (by decide +kernel) (fun _ _ _ h => h) (Or.inl ⟨by rfl, ?_⟩) (by assumption) ?_; rotate_left; (focus ((intro w hSw; (try dsimp only at hSw); go_simp); (try (with_reducible rfl)); done)); (try simp only [List.getElem_toArray, List.getElem_cons_zero, List.getElem_cons_succ, Act.put, List.setIfInBounds_toArray, List.set_cons_zero, List.set_cons_succ]))
                  (refine wpAnyH_take (i := 2) (v := ?_) rfl (by decide +kernel) (by decide +kernel) (by decide +kernel) (fun _ _ _ h => h) (Or.inl ⟨by rfl, ?_⟩) (by assumption) ?_; rotate_left; (focus ((intro w hSw; (try dsimp only at hSw); go_simp); (try (with_reducible rfl)); done)); (try simp only [List.getElem_toArray, List.getElem_cons_zero, List.getElem_cons_succ, Act.put, List.setIfInBounds_toArray, List.set_cons_zero, List.set_cons_succ]))
                  (refine wpAnyH_take (i := 3) (v := ?_) rfl (by decide +kernel) (by decide +kernel) (by decide +kernel) (fun _ _ _ h => h) (Or.inl ⟨by rfl, ?_⟩) (by assumption) ?_; rotate_left; (focus ((intro w hSw; (try dsimp only at hSw); go_simp); (try (with_reducible rfl)); done)); (try simp only [List.getElem_toArray, List.getElem_cons_zero, List.getElem_cons_succ, Act.put, List.setIfInBounds_toArray, List.set_cons_zero, List.set_cons_succ]))
                  (refine wpAnyH_take (i := 4) (v := ?_) rfl (by decide +kernel) (by decide +kernel) (by decide +kernel) (fun _ _ _ h => h) (Or.inl ⟨by rfl, ?_⟩) (by assumption) ?_; rotate_left; (focus ((intro w hSw; (try dsimp only at hSw); go_simp); (try (with_reducible rfl)); done)); (try simp only [List.getElem_toArray, List.getElem_cons_zero, List.getElem_cons_succ, Act.put, List.setIfInBounds_toArray, List.set_cons_zero, List.set_cons_succ]))
                  (refine wpAnyH_ready (rs := [5]) (by decide +kernel) (by simp) ?_; refine AllReadyH.cons rfl (fun K hK => ?_) AllReadyH.nil; go_simp; (first | (go_at_call 20; (with_reducible refine (CQ.out _ _ _ _ _ z6.dr z3.dr).mono ?_); rintro e q1 ⟨rfl, hbk⟩; (with_reducible (replace HW := HW.dr.up hbk; replace HB := HB.dr.up hbk; replace HR := HR.dr.up hbk; replace z1 := z1.dr.up hbk; replace z2 := z2.dr.up hbk; replace z3 := z3.dr.up hbk; replace z4 := z4.dr.up hbk; replace z5 := z5.dr.up hbk; replace z6 := z6.dr.up hbk; replace z7 := z7.dr.up hbk))) | (go_at_call 20; (with_reducible refine (CQ2.out _ _ _ _ _ z6 z4).mono ?_); rintro e q2 ⟨rfl, hbk⟩; (with_reducible (replace HW := HW.up hbk; replace HB := HB.up hbk; replace HR := HR.up hbk; replace z1 := z1.up hbk; replace z2 := z2.up hbk; replace z3 := z3.up hbk; replace z4 := z4.up hbk; replace z5 := z5.up hbk; replace z6 := z6.up hbk; replace z7 := z7.up hbk))) | fail); (try (go_wp2_with fail)); refine hK.out _ _ ?_ (fun hHeld => ?_); (focus ((try dsimp only); refine ⟨(?_ : At _ pa (arr sg v B E 8)).ci (i := 12) rfl, (?_ : At _ pa (arr sg v B E 8)).ci (i := 13) rfl, (?_ : At _ pa (arr sg v B E 8)).ci (i := 6) rfl, (?_ : At _ pa (arr sg v B E 8)).ci (i := 7) rfl, (?_ : At _ pa (arr sg v B E 8)).ci (i := 8) rfl, (?_ : At _ pa (arr sg v B E 8)).ci (i := 9) rfl⟩ <;> (repeat (first | with_reducible exact HR | (with_reducible refine At.dr ?_) | (with_reducible refine At.al ?_ _) | (with_reducible refine At.far3 ?_ (by omega) _ _ _) | (with_reducible refine At.far ?_ (by omega) _))))); clear hK K; (try simp only [List.getElem_toArray, List.getElem_cons_zero, List.getElem_cons_succ, Act.put, List.setIfInBounds_toArray, List.set_cons_zero, List.set_cons_succ]))
                  (refine wpAnyH_take (i := 6) (v := ?_) rfl (by decide +kernel) (by decide +kernel) (by decide +kernel) (fun _ _ _ h => h) (Or.inl ⟨by rfl, ?_⟩) (by assumption) ?_; rotate_left; (focus ((intro w hSw; (try dsimp only at hSw); go_simp); (try (with_reducible rfl)); done)); (try simp only [List.getElem_toArray, List.getElem_cons_zero, List.getElem_cons_succ, Act.put, List.setIfInBounds_toArray, List.set_cons_zero, List.set_cons_succ]))
                  (refine wpAnyH_take (i := 7) (v := ?_) rfl (by decide +kernel) (by decide +kernel) (by decide +kernel) (fun _ _ _ h => h) (Or.inl ⟨by rfl, ?_⟩) (by assumption) ?_; rotate_left; (focus ((intro w hSw; (try dsimp only at hSw); go_simp); (try (with_reducible rfl)); done)); (try simp only [List.getElem_toArray, List.getElem_cons_zero, List.getElem_cons_succ, Act.put, List.setIfInBounds_toArray, List.set_cons_zero, List.set_cons_succ]))
                  (refine wpAnyH_take (i := 8) (v := ?_) rfl (by decide +kernel) (by decide +kernel) (by decide +kernel) (fun _ _ _ h => h) (Or.inl ⟨by rfl, ?_⟩) (by assumption) ?_; rotate_left; (focus ((intro w hSw; (try dsimp only at hSw); go_simp); (try (with_reducible rfl)); done)); (try simp only [List.getElem_toArray, List.getElem_cons_zero, List.getElem_cons_succ, Act.put, List.setIfInBounds_toArray, List.set_cons_zero, List.set_cons_succ]))
                  (refine wpAnyH_take (i := 9) (v := ?_) rfl (by decide +kernel) (by decide +kernel) (by decide +kernel) (fun _ _ _ h => h) (Or.inl ⟨by rfl, ?_⟩) (by assumption) ?_; rotate_left; (focus ((intro w hSw; (try dsimp only at hSw); go_simp); (try (with_reducible rfl)); done)); (try simp only [List.getElem_toArray, List.getElem_cons_zero, List.getElem_cons_succ, Act.put, List.setIfInBounds_toArray, List.set_cons_zero, List.set_cons_succ]))
                  (refine wpAnyH_take (i := 10) (v := ?_) rfl (by decide +kernel) (by decide +kernel) (by decide +kernel) (fun _ _ _ h => h) (Or.inl ⟨by rfl, ?_⟩) (by assumption) ?_; rotate_left; (focus ((intro w hSw; (try dsimp only at hSw); go_simp); (try (with_reducible rfl)); done)); (try simp only [List.getElem_toArray, List.getElem_cons_zero, List.getElem_cons_succ, Act.put, List.setIfInBounds_toArray, List.set_cons_zero, List.set_cons_succ]))
                  (refine wpAnyH_take (i := 11) (v := ?_) rfl (by decide +kernel) (by decide +kernel) (by decide +kernel) (fun _ _ _ h => h) (Or.inl ⟨by rfl, ?_⟩) (by assumption) ?_; rotate_left; (focus ((intro w hSw; (try dsimp only at hSw); go_simp); (try (with_reducible rfl)); done)); (try simp only [List.getElem_toArray, List.getElem_cons_zero, List.getElem_cons_succ, Act.put, List.setIfInBounds_toArray, List.set_cons_zero, List.set_cons_succ]))
                  (refine wpAnyH_take (i := 12) (v := ?_) rfl (by decide +kernel) (by decide +kernel) (by decide +kernel) (fun _ _ _ h => h) (Or.inl ⟨by rfl, ?_⟩) (by assumption) ?_; rotate_left; (focus ((intro w hSw; (try dsimp only at hSw); go_simp); (try (with_reducible rfl)); done)); (try simp only [List.getElem_toArray, List.getElem_cons_zero, List.getElem_cons_succ, Act.put, List.setIfInBounds_toArray, List.set_cons_zero, List.set_cons_succ]))
                  (refine wpAnyH_ready (rs := [13]) (by decide +kernel) (by simp) ?_; refine AllReadyH.cons rfl (fun K hK => ?_) AllReadyH.nil; go_simp; (first | (go_at_call 20; (with_reducible refine (CQ.out _ _ _ _ _ z6.dr z3.dr).mono ?_); rintro e q1 ⟨rfl, hbk⟩; (with_reducible (replace HW := HW.dr.up hbk; replace HB := HB.dr.up hbk; replace HR := HR.dr.up hbk; replace z1 := z1.dr.up hbk; replace z2 := z2.dr.up hbk; replace z3 := z3.dr.up hbk; replace z4 := z4.dr.up hbk; replace z5 := z5.dr.up hbk; replace z6 := z6.dr.up hbk; replace z7 := z7.dr.up hbk))) | (go_at_call 20; (with_reducible refine (CQ2.out _ _ _ _ _ z6 z4).mono ?_); rintro e q2 ⟨rfl, hbk⟩; (with_reducible (replace HW := HW.up hbk; replace HB := HB.up hbk; replace HR := HR.up hbk; replace z1 := z1.up hbk; replace z2 := z2.up hbk; replace z3 := z3.up hbk; replace z4 := z4.up hbk; replace z5 := z5.up hbk; replace z6 := z6.up hbk; replace z7 := z7.up hbk))) | fail); (try (go_wp2_with fail)); refine hK.out _ _ ?_ (fun hHeld => ?_); (focus ((try dsimp only); refine ⟨(?_ : At _ pa (arr sg v B E 8)).ci (i := 12) rfl, (?_ : At _ pa (arr sg v B E 8)).ci (i := 13) rfl, (?_ : At _ pa (arr sg v B E 8)).ci (i := 6) rfl, (?_ : At _ pa (arr sg v B E 8)).ci (i := 7) rfl, (?_ : At _ pa (arr sg v B E 8)).ci (i := 8) rfl, (?_ : At _ pa (arr sg v B E 8)).ci (i := 9) rfl⟩ <;> (repeat (first | with_reducible exact HR | (with_reducible refine At.dr ?_) | (with_reducible refine At.al ?_ _) | (with_reducible refine At.far3 ?_ (by omega) _ _ _) | (with_reducible refine At.far ?_ (by omega) _))))); clear hK K; (try simp only [List.getElem_toArray, List.getElem_cons_zero, List.getElem_cons_succ, Act.put, List.setIfInBounds_toArray, List.set_cons_zero, List.set_cons_succ]))
                  (refine wpAnyH_take (i := 14) (v := ?_) rfl (by decide +kernel) (by decide +kernel) (by decide +kernel) (fun _ _ _ h => h) (Or.inl ⟨by rfl, ?_⟩) (by assumption) ?_; rotate_left; (focus ((intro w hSw; (try dsimp only at hSw); go_simp); (try (with_reducible rfl)); done)); (try simp only [List.getElem_toArray, List.getElem_cons_zero, List.getElem_cons_succ, Act.put, List.setIfInBounds_toArray, List.set_cons_zero, List.set_cons_succ]))
                  (refine wpAnyH_take (i := 15) (v := ?_) rfl (by decide +kernel) (by decide +kernel) (by decide +kernel) (fun _ _ _ h => h) (Or.inl ⟨by rfl, ?_⟩) (by assumption) ?_; rotate_left; (focus ((intro w hSw; (try dsimp only at hSw); go_simp); (try (with_reducible rfl)); done)); (try simp only [List.getElem_toArray, List.getElem_cons_zero, List.getElem_cons_succ, Act.put, List.setIfInBounds_toArray, List.set_cons_zero, List.set_cons_succ]))
                  refine wpAnyH_done (by decide +kernel) ?_ _
                  go_wp2
                  go_roundw
                  case rel => exact ⟨7, by decide, by decide, by go_num, HW⟩
                  case measure => simp [intOf]
              · by_cases heq : v 7 = v 3
                · have CQ := hide (CE.out 7 3 heq)
                  clear heq
                  go_wp2_with fail
                  refine wp_region_held_drew (S := fun w' => w'.cell? ⟨pa, 14, none⟩ = some (.bool (sg 7)) ∧ w'.cell? ⟨pa, 15, none⟩ = some (.slice (B 7) (dl (v 7).natAbs) (E 7)) ∧ w'.cell? ⟨pa, 6, none⟩ = some (.bool (sg 3)) ∧ w'.cell? ⟨pa, 7, none⟩ = some (.slice (B 3) (dl (v 3).natAbs) (E 3)) ∧ w'.cell? ⟨pa, 8, none⟩ = some (.bool (sg 4)) ∧ w'.cell? ⟨pa, 9, none⟩ = some (.slice (B 4) (dl (v 4).natAbs) (E 4))) (by kernel_rfl) ?_ (fun hHeld => ?_)
                  · refine ⟨(?_ : At _ pa (arr sg v B E 8)).ci (i := 14) rfl, (?_ : At _ pa (arr sg v B E 8)).ci (i := 15) rfl, (?_ : At _ pa (arr sg v B E 8)).ci (i := 6) rfl, (?_ : At _ pa (arr sg v B E 8)).ci (i := 7) rfl, (?_ : At _ pa (arr sg v B E 8)).ci (i := 8) rfl, (?_ : At _ pa (arr sg v B E 8)).ci (i := 9) rfl⟩ <;> (repeat (first | with_reducible exact HR | (with_reducible refine At.dr ?_) | (with_reducible refine At.al ?_ _) | (with_reducible refine At.far3 ?_ (by omega) _ _ _) | (with_reducible refine At.far ?_ (by omega) _)))
                  (refine wpAnyH_take (i := 0) (v := ?_) rfl (by decide +kernel) (by decide +kernel) (by decide +kernel) (fun _ _ _ h => h) (Or.inl ⟨by rfl, ?_⟩) (by assumption) ?_; rotate_left; (focus ((intro w hSw; (try dsimp only at hSw); go_simp); (try (with_reducible rfl)); done)); (try simp only [List.getElem_toArray, List.getElem_cons_zero, List.getElem_cons_succ, Act.put, List.setIfInBounds_toArray, List.set_cons_zero, List.set_cons_succ]))
                  (refine wpAnyH_take (i := 1) (v := ?_) rfl (by decide +kernel) (by decide +kernel) (by decide +kernel) (fun _ _ _ h => h) (Or.inl ⟨by rfl, ?_⟩) (by assumption) ?_; rotate_left; (focus ((intro w hSw; (try dsimp only at hSw); go_simp); (try (with_reducible rfl)); done)); (try simp only [List.getElem_toArray, List.getElem_cons_zero, List.getElem_cons_succ, Act.put, List.setIfInBounds_toArray, List.set_cons_zero, List.set_cons_succ]))
                  (refine wpAnyH_take (i := 2) (v := ?_) rfl (by decide +kernel) (by decide +kernel) (by decide +kernel) (fun _ _ _ h => h) (Or.inl ⟨by rfl, ?_⟩) (by assumption) ?_; rotate_left; (focus ((intro w hSw; (try dsimp only at hSw); go_simp); (try (with_reducible rfl)); done)); (try simp only [List.getElem_toArray, List.getElem_cons_zero, List.getElem_cons_succ, Act.put, List.setIfInBounds_toArray, List.set_cons_zero, List.set_cons_succ]))
                  (refine wpAnyH_take (i := 3) (v := ?_) rfl (by decide +kernel) (by decide +kernel) (by decide +kernel) (fun _ _ _ h => h) (Or.inl ⟨by rfl, ?_⟩) (by assumption) ?_; rotate_left; (focus ((intro w hSw; (try dsimp only at hSw); go_simp); (try (with_reducible rfl)); done)); (try simp only [List.getElem_toArray, List.getElem_cons_zero, List.getElem_cons_succ, Act.put, List.setIfInBounds_toArray, List.set_cons_zero, List.set_cons_succ]))
                  (refine wpAnyH_take (i := 4) (v := ?_) rfl (by decide +kernel) (by decide +kernel) (by decide +kernel) (fun _ _ _ h => h) (Or.inl ⟨by rfl, ?_⟩) (by assumption) ?_; rotate_left; (focus ((intro w hSw; (try dsimp only at hSw); go_simp); (try (with_reducible rfl)); done)); (try simp only [List.getElem_toArray, List.getElem_cons_zero, List.getElem_cons_succ, Act.put, List.setIfInBounds_toArray, List.set_cons_zero, List.set_cons_succ]))
                  (refine wpAnyH_ready (rs := [5]) (by decide +kernel) (by simp) ?_; refine AllReadyH.cons rfl (fun K hK => ?_) AllReadyH.nil; go_simp; (first | (go_at_call 20; (with_reducible refine (CQ.out _ _ _ _ _ z7.dr z3.dr).mono ?_); rintro e q1 ⟨rfl, hbk⟩; (with_reducible (replace HW := HW.dr.up hbk; replace HB := HB.dr.up hbk; replace HR := HR.dr.up hbk; replace z1 := z1.dr.up hbk; replace z2 := z2.dr.up hbk; replace z3 := z3.dr.up hbk; replace z4 := z4.dr.up hbk; replace z5 := z5.dr.up hbk; replace z6 := z6.dr.up hbk; replace z7 := z7.dr.up hbk))) | fail); (try (go_wp2_with fail)); refine hK.out _ _ ?_ (fun hHeld => ?_); (focus ((try dsimp only); refine ⟨(?_ : At _ pa (arr sg v B E 8)).ci (i := 14) rfl, (?_ : At _ pa (arr sg v B E 8)).ci (i := 15) rfl, (?_ : At _ pa (arr sg v B E 8)).ci (i := 6) rfl, (?_ : At _ pa (arr sg v B E 8)).ci (i := 7) rfl, (?_ : At _ pa (arr sg v B E 8)).ci (i := 8) rfl, (?_ : At _ pa (arr sg v B E 8)).ci (i := 9) rfl⟩ <;> (repeat (first | with_reducible exact HR | (with_reducible refine At.dr ?_) | (with_reducible refine At.al ?_ _) | (with_reducible refine At.far3 ?_ (by omega) _ _ _) | (with_reducible refine At.far ?_ (by omega) _))))); clear hK K; (try simp only [List.getElem_toArray, List.getElem_cons_zero, List.getElem_cons_succ, Act.put, List.setIfInBounds_toArray, List.set_cons_zero, List.set_cons_succ]))
                  (refine wpAnyH_take (i := 6) (v := ?_) rfl (by decide +kernel) (by decide +kernel) (by decide +kernel) (fun _ _ _ h => h) (Or.inl ⟨by rfl, ?_⟩) (by assumption) ?_; rotate_left; (focus ((intro w hSw; (try dsimp only at hSw); go_simp); (try (with_reducible rfl)); done)); (try simp only [List.getElem_toArray, List.getElem_cons_zero, List.getElem_cons_succ, Act.put, List.setIfInBounds_toArray, List.set_cons_zero, List.set_cons_succ]))
                  (refine wpAnyH_take (i := 7) (v := ?_) rfl (by decide +kernel) (by decide +kernel) (by decide +kernel) (fun _ _ _ h => h) (Or.inl ⟨by rfl, ?_⟩) (by assumption) ?_; rotate_left; (focus ((intro w hSw; (try dsimp only at hSw); go_simp); (try (with_reducible rfl)); done)); (try simp only [List.getElem_toArray, List.getElem_cons_zero, List.getElem_cons_succ, Act.put, List.setIfInBounds_toArray, List.set_cons_zero, List.set_cons_succ]))
                  (refine wpAnyH_take (i := 8) (v := undef) rfl (by decide +kernel) (by decide +kernel) (by decide +kernel) (fun _ _ _ h => h) (Or.inr ⟨by rfl, rfl⟩) (by assumption) ?_; (try simp only [List.getElem_toArray, List.getElem_cons_zero, List.getElem_cons_succ, Act.put, List.setIfInBounds_toArray, List.set_cons_zero, List.set_cons_succ]))
                  (refine wpAnyH_take (i := 9) (v := undef) rfl (by decide +kernel) (by decide +kernel) (by decide +kernel) (fun _ _ _ h => h) (Or.inr ⟨by rfl, rfl⟩) (by assumption) ?_; (try simp only [List.getElem_toArray, List.getElem_cons_zero, List.getElem_cons_succ, Act.put, List.setIfInBounds_toArray, List.set_cons_zero, List.set_cons_succ]))
                  (refine wpAnyH_take (i := 10) (v := undef) rfl (by decide +kernel) (by decide +kernel) (by decide +kernel) (fun _ _ _ h => h) (Or.inr ⟨by rfl, rfl⟩) (by assumption) ?_; (try simp only [List.getElem_toArray, List.getElem_cons_zero, List.getElem_cons_succ, Act.put, List.setIfInBounds_toArray, List.set_cons_zero, List.set_cons_succ]))
                  (refine wpAnyH_take (i := 11) (v := undef) rfl (by decide +kernel) (by decide +kernel) (by decide +kernel) (fun _ _ _ h => h) (Or.inr ⟨by rfl, rfl⟩) (by assumption) ?_; (try simp only [List.getElem_toArray, List.getElem_cons_zero, List.getElem_cons_succ, Act.put, List.setIfInBounds_toArray, List.set_cons_zero, List.set_cons_succ]))
                  (refine wpAnyH_take (i := 12) (v := undef) rfl (by decide +kernel) (by decide +kernel) (by decide +kernel) (fun _ _ _ h => h) (Or.inr ⟨by rfl, rfl⟩) (by assumption) ?_; (try simp only [List.getElem_toArray, List.getElem_cons_zero, List.getElem_cons_succ, Act.put, List.setIfInBounds_toArray, List.set_cons_zero, List.set_cons_succ]))
                  (refine wpAnyH_take (i := 13) (v := undef) rfl (by decide +kernel) (by decide +kernel) (by decide +kernel) (fun _ _ _ h => h) (Or.inr ⟨by rfl, rfl⟩) (by assumption) ?_; (try simp only [List.getElem_toArray, List.getElem_cons_zero, List.getElem_cons_succ, Act.put, List.setIfInBounds_toArray, List.set_cons_zero, List.set_cons_succ]))
                  (refine wpAnyH_take (i := 14) (v := undef) rfl (by decide +kernel) (by decide +kernel) (by decide +kernel) (fun _ _ _ h => h) (Or.inr ⟨by rfl, rfl⟩) (by assumption) ?_; (try simp only [List.getElem_toArray, List.getElem_cons_zero, List.getElem_cons_succ, Act.put, List.setIfInBounds_toArray, List.set_cons_zero, List.set_cons_succ]))
                  (refine wpAnyH_take (i := 15) (v := ?_) rfl (by decide +kernel) (by decide +kernel) (by decide +kernel) (fun _ _ _ h => h) (Or.inl ⟨by rfl, ?_⟩) (by assumption) ?_; rotate_left; (focus ((intro w hSw; (try dsimp only at hSw); go_simp); (try (with_reducible rfl)); done)); (try simp only [List.getElem_toArray, List.getElem_cons_zero, List.getElem_cons_succ, Act.put, List.setIfInBounds_toArray, List.set_cons_zero, List.set_cons_succ]))
                  refine wpAnyH_done (by decide +kernel) ?_ _
                  go_wp2
                  go_roundw
                  case rel => exact ⟨8, by decide, by decide, by go_num, HW⟩
                  case measure => simp [intOf]
                · obtain ⟨u, hu, CU2⟩ := CU.out 7 3
                  have hu0 : (u == 0) = false := by simpa using hu heq
                  have hu1 : (u != 0) = true := by simpa using hu heq
                  have hu2 : u ≠ 0 := hu heq
                  have CQ := hide CU2
                  have CQ2 := hide (CE.out 7 4 ((HH.out 7).resolve_left heq))
                  clear CU2 hu heq
                  go_wp2_with fail
                  refine wp_region_held_drew (S := fun w' => w'.cell? ⟨pa, 14, none⟩ = some (.bool (sg 7)) ∧ w'.cell? ⟨pa, 15, none⟩ = some (.slice (B 7) (dl (v 7).natAbs) (E 7)) ∧ w'.cell? ⟨pa, 6, none⟩ = some (.bool (sg 3)) ∧ w'.cell? ⟨pa, 7, none⟩ = some (.slice (B 3) (dl (v 3).natAbs) (E 3)) ∧ w'.cell? ⟨pa, 8, none⟩ = some (.bool (sg 4)) ∧ w'.cell? ⟨pa, 9, none⟩ = some (.slice (B 4) (dl (v 4).natAbs) (E 4))) (by kernel_rfl) ?_ (fun hHeld => ?_)
                  · refine ⟨(?_ : At _ pa (arr sg v B E 8)).ci (i := 14) rfl, (?_ : At _ pa (arr sg v B E 8)).ci (i := 15) rfl, (?_ : At _ pa (arr sg v B E 8)).ci (i := 6) rfl, (?_ : At _ pa (arr sg v B E 8)).ci (i := 7) rfl, (?_ : At _ pa (arr sg v B E 8)).ci (i := 8) rfl, (?_ : At _ pa (arr sg v B E 8)).ci (i := 9) rfl⟩ <;> (repeat (first | with_reducible exact HR | (with_reducible refine At.dr ?_) | (with_reducible refine At.al ?_ _) | (with_reducible refine At.far3 ?_ (by omega) _ _ _) | (with_reducible refine At.far ?_ (by omega) _)))
                  (refine wpAnyH_take (i := 0) (v := ?_) rfl (by decide +kernel) (by decide +kernel) (by decide +kernel) (fun _ _ _ h => h) (Or.inl ⟨by rfl, ?_⟩) (by assumption) ?_; rotate_left; (focus ((intro w hSw; (try dsimp only at hSw); go_simp); (try (with_reducible rfl)); done)); (try simp only [List.getElem_toArray, List.getElem_cons_zero, List.getElem_cons_succ, Act.put, List.setIfInBounds_toArray, List.set_cons_zero, List.set_cons_succ]))
                  (refine wpAnyH_take (i := 1) (v := ?_) rfl (by decide +kernel) (by decide +kernel) (by decide +kernel) (fun _ _ _ h => h) (Or.inl ⟨by rfl, ?_⟩) (by assumption) ?_; rotate_left; (focus ((intro w hSw; (try dsimp only at hSw); go_simp); (try (with_reducible rfl)); done)); (try simp only [List.getElem_toArray, List.getElem_cons_zero, List.getElem_cons_succ, Act.put, List.setIfInBounds_toArray, List.set_cons_zero, List.set_cons_succ]))
                  (refine wpAnyH_take (i := 2) (v := ?_) rfl (by decide +kernel) (by decide +kernel) (by decide +kernel) (fun _ _ _ h => h) (Or.inl ⟨by rfl, ?_⟩) (by assumption) ?_; rotate_left; (focus ((intro w hSw; (try dsimp only at hSw); go_simp); (try (with_reducible rfl)); done)); (try simp only [List.getElem_toArray, List.getElem_cons_zero, List.getElem_cons_succ, Act.put, List.setIfInBounds_toArray, List.set_cons_zero, List.set_cons_succ]))
                  (refine wpAnyH_take (i := 3) (v := ?_) rfl (by decide +kernel) (by decide +kernel) (by decide +kernel) (fun _ _ _ h => h) (Or.inl ⟨by rfl, ?_⟩) (by assumption) ?_; rotate_left; (focus ((intro w hSw; (try dsimp only at hSw); go_simp); (try (with_reducible rfl)); done)); (try simp only [List.getElem_toArray, List.getElem_cons_zero, List.getElem_cons_succ, Act.put, List.setIfInBounds_toArray, List.set_cons_zero, List.set_cons_succ]))
                  (refine wpAnyH_take (i := 4) (v := ?_) rfl (by decide +kernel) (by decide +kernel) (by decide +kernel) (fun _ _ _ h => h) (Or.inl ⟨by rfl, ?_⟩) (by assumption) ?_; rotate_left; (focus ((intro w hSw; (try dsimp only at hSw); go_simp); (try (with_reducible rfl)); done)); (try simp only [List.getElem_toArray, List.getElem_cons_zero, List.getElem_cons_succ, Act.put, List.setIfInBounds_toArray, List.set_cons_zero, List.set_cons_succ]))
                  (refine wpAnyH_ready (rs := [5]) (by decide +kernel) (by simp) ?_; refine AllReadyH.cons rfl (fun K hK => ?_) AllReadyH.nil; go_simp; (first | (go_at_call 20; (with_reducible refine (CQ.out _ _ _ _ _ z7.dr z3.dr).mono ?_); rintro e q1 ⟨rfl, hbk⟩; (with_reducible (replace HW := HW.dr.up hbk; replace HB := HB.dr.up hbk; replace HR := HR.dr.up hbk; replace z1 := z1.dr.up hbk; replace z2 := z2.dr.up hbk; replace z3 := z3.dr.up hbk; replace z4 := z4.dr.up hbk; replace z5 := z5.dr.up hbk; replace z6 := z6.dr.up hbk; replace z7 := z7.dr.up hbk))) | (go_at_call 20; (with_reducible refine (CQ2.out _ _ _ _ _ z7 z4).mono ?_); rintro e q2 ⟨rfl, hbk⟩; (with_reducible (replace HW := HW.up hbk; replace HB := HB.up hbk; replace HR := HR.up hbk; replace z1 := z1.up hbk; replace z2 := z2.up hbk; replace z3 := z3.up hbk; replace z4 := z4.up hbk; replace z5 := z5.up hbk; replace z6 := z6.up hbk; replace z7 := z7.up hbk))) | fail); (try (go_wp2_with fail)); refine hK.out _ _ ?_ (fun hHeld => ?_); (focus ((try dsimp only); refine ⟨(?_ : At _ pa (arr sg v B E 8)).ci (i := 14) rfl, (?_ : At _ pa (arr sg v B E 8)).ci (i := 15) rfl, (?_ : At _ pa (arr sg v B E 8)).ci (i := 6) rfl, (?_ : At _ pa (arr sg v B E 8)).ci (i := 7) rfl, (?_ : At _ pa (arr sg v B E 8)).ci (i := 8) rfl, (?_ : At _ pa (arr sg v B E 8)).ci (i := 9) rfl⟩ <;> (repeat (first | with_reducible exact HR | (with_reducible refine At.dr ?_) | (with_reducible refine At.al ?_ _) | (with_reducible refine At.far3 ?_ (by omega) _ _ _) | (with_reducible refine At.far ?_ (by omega) _))))); clear hK K; (try simp only [List.getElem_toArray, List.getElem_cons_zero, List.getElem_cons_succ, Act.put, List.setIfInBounds_toArray, List.set_cons_zero, List.set_cons_succ]))
                  (refine wpAnyH_take (i := 6) (v := ?_) rfl (by decide +kernel) (by decide +kernel) (by decide +kernel) (fun _ _ _ h => h) (Or.inl ⟨by rfl, ?_⟩) (by assumption) ?_; rotate_left; (focus ((intro w hSw; (try dsimp only at hSw); go_simp); (try (with_reducible rfl)); done)); (try simp only [List.getElem_toArray, List.getElem_cons_zero, List.getElem_cons_succ, Act.put, List.setIfInBounds_toArray, List.set_cons_zero, List.set_cons_succ]))
                  (refine wpAnyH_take (i := 7) (v := ?_) rfl (by decide +kernel) (by decide +kernel) (by decide +kernel) (fun _ _ _ h => h) (Or.inl ⟨by rfl, ?_⟩) (by assumption) ?_; rotate_left; (focus ((intro w hSw; (try dsimp only at hSw); go_simp); (try (with_reducible rfl)); done)); (try simp only [List.getElem_toArray, List.getElem_cons_zero, List.getElem_cons_succ, Act.put, List.setIfInBounds_toArray, List.set_cons_zero, List.set_cons_succ]))
                  (refine wpAnyH_take (i := 8) (v := ?_) rfl (by decide +kernel) (by decide +kernel) (by decide +kernel) (fun _ _ _ h => h) (Or.inl ⟨by rfl, ?_⟩) (by assumption) ?_; rotate_left; (focus ((intro w hSw; (try dsimp only at hSw); go_simp); (try (with_reducible rfl)); done)); (try simp only [List.getElem_toArray, List.getElem_cons_zero, List.getElem_cons_succ, Act.put, List.setIfInBounds_toArray, List.set_cons_zero, List.set_cons_succ]))
                  (refine wpAnyH_take (i := 9) (v := ?_) rfl (by decide +kernel) (by decide +kernel) (by decide +kernel) (fun _ _ _ h => h) (Or.inl ⟨by rfl, ?_⟩) (by assumption) ?_; rotate_left; (focus ((intro w hSw; (try dsimp only at hSw); go_simp); (try (with_reducible rfl)); done)); (try simp only [List.getElem_toArray, List.getElem_cons_zero, List.getElem_cons_succ, Act.put, List.setIfInBounds_toArray, List.set_cons_zero, List.set_cons_succ]))
                  (refine wpAnyH_take (i := 10) (v := ?_) rfl (by decide +kernel) (by decide +kernel) (by decide +kernel) (fun _ _ _ h => h) (Or.inl ⟨by rfl, ?_⟩) (by assumption) ?_; rotate_left; (focus ((intro w hSw; (try dsimp only at hSw); go_simp); (try (with_reducible rfl)); done)); (try simp only [List.getElem_toArray, List.getElem_cons_zero, List.getElem_cons_succ, Act.put, List.setIfInBounds_toArray, List.set_cons_zero, List.set_cons_succ]))
                  (refine wpAnyH_take (i := 11) (v := ?_) rfl (by decide +kernel) (by decide +kernel) (by decide +kernel) (fun _ _ _ h => h) (Or.inl ⟨by rfl, ?_⟩) (by assumption) ?_; rotate_left; (focus ((intro w hSw; (try dsimp only at hSw); go_simp); (try (with_reducible rfl)); done)); (try simp only [List.getElem_toArray, List.getElem_cons_zero, List.getElem_cons_succ, Act.put, List.setIfInBounds_toArray, List.set_cons_zero, List.set_cons_succ]))
                  (refine wpAnyH_take (i := 12) (v := ?_) rfl (by decide +kernel) (by decide +kernel) (by decide +kernel) (fun _ _ _ h => h) (Or.inl ⟨by rfl, ?_⟩) (by assumption) ?_; rotate_left; (focus ((intro w hSw; (try dsimp only at hSw); go_simp); (try (with_reducible rfl)); done)); (try simp only [List.getElem_toArray, List.getElem_cons_zero, List.getElem_cons_succ, Act.put, List.setIfInBounds_toArray, List.set_cons_zero, List.set_cons_succ]))
                  (refine wpAnyH_ready (rs := [13]) (by decide +kernel) (by simp) ?_; refine AllReadyH.cons rfl (fun K hK => ?_) AllReadyH.nil; go_simp; (first | (go_at_call 20; (with_reducible refine (CQ.out _ _ _ _ _ z7.dr z3.dr).mono ?_); rintro e q1 ⟨rfl, hbk⟩; (with_reducible (replace HW := HW.dr.up hbk; replace HB := HB.dr.up hbk; replace HR := HR.dr.up hbk; replace z1 := z1.dr.up hbk; replace z2 := z2.dr.up hbk; replace z3 := z3.dr.up hbk; replace z4 := z4.dr.up hbk; replace z5 := z5.dr.up hbk; replace z6 := z6.dr.up hbk; replace z7 := z7.dr.up hbk))) | (go_at_call 20; (with_reducible refine (CQ2.out _ _ _ _ _ z7 z4).mono ?_); rintro e q2 ⟨rfl, hbk⟩; (with_reducible (replace HW := HW.up hbk; replace HB := HB.up hbk; replace HR := HR.up hbk; replace z1 := z1.up hbk; replace z2 := z2.up hbk; replace z3 := z3.up hbk; replace z4 := z4.up hbk; replace z5 := z5.up hbk; replace z6 := z6.up hbk; replace z7 := z7.up hbk))) | fail); (try (go_wp2_with fail)); refine hK.out _ _ ?_ (fun hHeld => ?_); (focus ((try dsimp only); refine ⟨(?_ : At _ pa (arr sg v B E 8)).ci (i := 14) rfl, (?_ : At _ pa (arr sg v B E 8)).ci (i := 15) rfl, (?_ : At _ pa (arr sg v B E 8)).ci (i := 6) rfl, (?_ : At _ pa (arr sg v B E 8)).ci (i := 7) rfl, (?_ : At _ pa (arr sg v B E 8)).ci (i := 8) rfl, (?_ : At _ pa (arr sg v B E 8)).ci (i := 9) rfl⟩ <;> (repeat (first | with_reducible exact HR | (with_reducible refine At.dr ?_) | (with_reducible refine At.al ?_ _) | (with_reducible refine At.far3 ?_ (by omega) _ _ _) | (with_reducible refine At.far ?_ (by omega) _))))); clear hK K; (try simp only [List.getElem_toArray, List.getElem_cons_zero, List.getElem_cons_succ, Act.put, List.setIfInBounds_toArray, List.set_cons_zero, List.set_cons_succ]))
                  (refine wpAnyH_take (i := 14) (v := ?_) rfl (by decide +kernel) (by decide +kernel) (by decide +kernel) (fun _ _ _ h => h) (Or.inl ⟨by rfl, ?_⟩) (by assumption) ?_; rotate_left; (focus ((intro w hSw; (try dsimp only at hSw); go_simp); (try (with_reducible rfl)); done)); (try simp only [List.getElem_toArray, List.getElem_cons_zero, List.getElem_cons_succ, Act.put, List.setIfInBounds_toArray, List.set_cons_zero, List.set_cons_succ]))
                  (refine wpAnyH_take (i := 15) (v := ?_) rfl (by decide +kernel) (by decide +kernel) (by decide +kernel) (fun _ _ _ h => h) (Or.inl ⟨by rfl, ?_⟩) (by assumption) ?_; rotate_left; (focus ((intro w hSw; (try dsimp only at hSw); go_simp); (try (with_reducible rfl)); done)); (try simp only [List.getElem_toArray, List.getElem_cons_zero, List.getElem_cons_succ, Act.put, List.setIfInBounds_toArray, List.set_cons_zero, List.set_cons_succ]))
                  refine wpAnyH_done (by decide +kernel) ?_ _
                  go_wp2
                  go_roundw
                  case rel => exact ⟨8, by decide, by decide, by go_num, HW⟩
                  case measure => simp [intOf]
            · obtain rfl : k = 8 := by omega
              go_wp2
              go_ret
              exact ⟨rfl, HB⟩
end
end Go.Proofs.YteahcbeohopdlaaDoor
