/- Several texts in one, each with its own sentence and conditions. -/
import Derived.Test.YtmiklffjffdkgaaGreatDoorGRwbc33
import Derived.Test.YtmiklffjffdkgaaGreatDoorGRwbc31
import Derived.Test.YtmiklffjffdkgaaGreatDoorGRwbc22
import Derived.Test.YtmiklffjffdkgaaGreatDoorGRwbc25
section
/- To and Sig of round and of the document, both in one form. Conditions: terms of at most 12 words. -/
open Go.RowKit
set_option maxRecDepth 100000
namespace Go.Proofs.YtmiklffjffdkgaaGreatDoor
def KN (W : World) (ok : Bool) (pb : Bool) (pv ps : Nat) (u : Bool) (A : Option Addr) (n c : Nat) (k : Int) : Prop := ok = true → u = pb ∧ n = dl pv ∧ k = ps ∧ Nm W A (dl pv) c pv
/-- What round's To, Sig and Step leave. -/
def DPg (W : World) (er : Int) (pb : Bool) (pv ps : Nat) (e : Ending) (w' : World) : Prop := ∃ u A n c, ∃ k : Int, e = .returned (.tuple #[.agg #[.bool u, .slice A n c, .int .i64 k], .int .i64 er]) ∧ KN w' (decide (er = 0)) pb pv ps u A n c k ∧ Hid (Below W.heap.size W w')
theorem toR_dpg {W : World} {b : Bool} {v : Nat} {s : Int} {q : Nat} (hs : s = (q : Int)) {e : Ending} {w' : World} (h : ToR W b v s e w') : DPg W 0 b v q e w' := by
  obtain ⟨A, c, he, hn, hb⟩ := h
  exact ⟨b, A, dl v, c, s, he, fun _ => ⟨rfl, rfl, hs, hn⟩, hb⟩
theorem dEr_dpg {W : World} {er : Int} (h0 : er ≠ 0) {pb : Bool} {pv ps : Nat} {e : Ending} {w' : World} (h : DEr W er e w') : DPg W er pb pv ps e w' :=
  ⟨false, none, 0, 0, 0, h.1, fun h => absurd (of_decide_eq_true h) h0, h.2⟩
section
variable {w : World} {b : Bool} {A A' : Option Addr} {n n' c c' d : Nat} {z scale mode many : Int} {r : Rat}
/-- To by round and by the document. -/
theorem to_two (nz : ZA w b A n c z) (nd : Nm w A' n' c' d) (br : z.natAbs < W32 ^ 12 ∧ d < W32 ^ 12) (hr : mkRat z d = r) (bd : Bd r 12) :
    ∃ ok er pb pv ps, ((ok = true ∧ er = 0) ∨ (ok = false ∧ er = (1 : Int))) ∧
      (ok = true → ∃ t, rdR mode (r * mkRat ((10 ^ ps : Nat) : Int) 1) = t ∧ pb = decide (t < 0) ∧ pv = t.natAbs ∧ ps ≤ 60) ∧
      (∀ W', Bel w W' → Calls Tryz.prog 8 #[.agg #[.bool b, .slice A n c, .slice A' n' c'], .int .i64 scale, .int .i64 mode] W' (DPg W' er pb pv ps)) ∧
      (∀ W' s B e C f, Rz W' s B e r.num → Rn W' C f r.den → Calls Tryz.prog 14 #[.agg #[.bool s, .slice B (dq r.num.natAbs) e, .slice C (dq r.den) f], .int .i64 scale, .int .i64 mode] W' (DTo W' ok pb pv ps)) := by
  by_cases hm : 1 ≤ mode ∧ mode ≤ 7
  · by_cases hs : 0 ≤ scale ∧ scale ≤ 60
    · obtain ⟨q, rfl⟩ : ∃ q : Nat, scale = (q : Int) := ⟨scale.toNat, by omega⟩
      obtain ⟨t, ht⟩ : ∃ t, rdR mode (r * mkRat ((10 ^ q : Nat) : Int) 1) = t := ⟨_, rfl⟩
      refine ⟨true, 0, decide (t < 0), t.natAbs, q, .inl ⟨rfl, rfl⟩, fun _ => ⟨t, ht, rfl, rfl, by omega⟩, fun W' hW => ?_, fun W' s B e C f g1 g2 => rto_yes g1 g2 bd (by decide) (by omega) hm x_mul ht⟩
      have qa : QA W' b A n c A' n' c' r 12 := by rw [← hr]; exact qz12 nz nd br hW
      exact (to_ok qa (by omega) hm (by decide) (by decide) ht).mono fun _ _ k => toR_dpg rfl k
    · refine ⟨false, 1, false, 0, 0, .inr ⟨rfl, rfl⟩, (fun h => by cases h), fun W' _ => ?_, fun W' s B e C f _ _ => rto_no (by omega)⟩
      by_cases h1 : scale < 0
      · exact (to_lo hm h1).mono fun _ _ k => dEr_dpg (by decide) k
      · exact (to_hi hm (by omega) (by omega)).mono fun _ _ k => dEr_dpg (by decide) k
  · exact ⟨false, 1, false, 0, 0, .inr ⟨rfl, rfl⟩, (fun h => by cases h), fun W' _ => (to_mode hm).mono fun _ _ k => dEr_dpg (by decide) k, fun W' s B e C f _ _ => rto_no (by omega)⟩
/-- Sig by round and by the document. -/
theorem sig_two (nz : ZA w b A n c z) (nd : Nm w A' n' c' d) (br : z.natAbs < W32 ^ 12 ∧ d < W32 ^ 12) (hr : mkRat z d = r) (bd : Bd r 12) :
    ∃ er pb pv ps, (er = 0 ∨ er = 1 ∨ er = (11 : Int)) ∧ (er = 0 → ps ≤ 60 ∧ (pb = true → 0 < pv) ∧ pv < 10 ^ 200) ∧
      (∀ W', Bel w W' → Calls Tryz.prog 9 #[.agg #[.bool b, .slice A n c, .slice A' n' c'], .int .i64 many, .int .i64 mode] W' (DPg W' er pb pv ps)) ∧
      (∀ W' s B e C f, Rz W' s B e r.num → Rn W' C f r.den → Calls Tryz.prog 15 #[.agg #[.bool s, .slice B (dq r.num.natAbs) e, .slice C (dq r.den) f], .int .i64 many, .int .i64 mode] W' (DSg W' er pb pv ps)) := by
  by_cases hm : 1 ≤ mode ∧ mode ≤ 7
  · by_cases hs : 1 ≤ many ∧ many ≤ 40
    · obtain ⟨dg, rfl⟩ : ∃ q : Nat, many = (q : Int) := ⟨many.toNat, by omega⟩
      have hdg : 1 ≤ dg ∧ dg ≤ 40 := by omega
      by_cases h0 : r = 0
      · refine ⟨0, false, 0, dg - 1, .inl rfl, fun _ => ⟨by omega, (fun h => by cases h), by decide +kernel⟩, fun W' hW => ?_, fun W' s B e C f g1 g2 => ?_⟩
        · refine (sig_zero (v := 0) rfl hm (by omega) fun W2 h2 => ?_).mono fun _ _ k => toR_dpg (by omega) k
          have qa : QA W2 b A n c A' n' c' r 12 := by rw [← hr]; exact qz12 nz nd br (hW.up h2.hid)
          exact rsign_h qa (by decide) (by rw [h0]; rfl)
        · exact rsig_zero (fun W2 h2 => rqsign_h (g1.up h2.hid) (by rw [h0]; rfl)) (by omega) (by omega) rfl
      · have hz : z ≠ 0 := fun g => h0 (by rw [← hr, g, Rat.zero_mkRat])
        have hd0 : 0 < d := by
          rcases Nat.eq_zero_or_pos d with g | g
          · exact (h0 (by rw [← hr, g, Rat.mkRat_zero])).elim
          · exact g
        obtain ⟨e, be, hl, hg, p1, p2, p3⟩ := sig12 nz nd hd0 br hz hdg hm
        have hl' := (expo_low hd0 hr).1.1 hl
        have hg' := (expo_low hd0 hr).2.1 hg
        have d40 : 10 ^ dg ≤ 10 ^ 40 := Nat.pow_le_pow_right (by decide) hdg.2
        rw [hr] at p2 p3
        by_cases h6 : 60 < (dg : Int) - 1 - e
        · exact ⟨11, false, 0, 0, .inr (.inr rfl), (fun h => by cases h), fun W' hW => (p1 h6 W' hW).mono fun _ _ k => dEr_dpg (by decide) k, fun W' s B e C f g1 g2 => sig11_doc g1 g2 bd h0 hl' hg' hdg hm h6⟩
        · by_cases h7 : 0 ≤ (dg : Int) - 1 - e
          · obtain ⟨q, hq⟩ : ∃ q : Nat, (dg : Int) - 1 - e = (q : Int) := ⟨((dg : Int) - 1 - e).toNat, by omega⟩
            obtain ⟨X, hX⟩ : ∃ X, rdR mode (r * mkRat ((10 ^ q : Nat) : Int) 1) = X := ⟨_, rfl⟩
            have hD := digits_p (m := mode) (z := r.num) (d := r.den) r.den_pos hdg.1 hq hl' hg'
            rw [Rat.mkRat_self, hX] at hD
            obtain ⟨u1, u2⟩ := p2 q hq (by omega) X hX
            by_cases h9 : X.natAbs < 10 ^ dg ∨ q = 0
            · refine ⟨0, decide (X < 0), X.natAbs, q, .inl rfl, fun _ => ⟨by omega, fun h => ?_, ?_⟩, fun W' hW => (u1 h9 W' hW).mono fun _ _ k => toR_dpg rfl k, fun W' s B e C f g1 g2 => (sigp_doc g1 g2 bd h0 hl' hg' hdg hm hq (by omega) hX).1 h9⟩
              · have := of_decide_eq_true h; omega
              · exact Nat.lt_of_le_of_lt (Nat.le_trans hD.2 d40) (by decide +kernel)
            · have g8 : ¬ X.natAbs < 10 ^ dg := fun g => h9 (.inl g)
              have g9 : 0 < q := by omega
              have g10 : 10 ≤ 10 ^ dg := Nat.le_trans (by decide) (Nat.pow_le_pow_right (by decide) hdg.1 : 10 ^ 1 ≤ 10 ^ dg)
              refine ⟨0, decide (X < 0), X.natAbs / 10, q - 1, .inl rfl, fun _ => ⟨by omega, fun h => Nat.div_pos (by omega) (by decide), ?_⟩, fun W' hW => (u2 g8 g9 W' hW).mono fun _ _ k => toR_dpg (by omega) k, fun W' s B e C f g1 g2 => (sigp_doc g1 g2 bd h0 hl' hg' hdg hm hq (by omega) hX).2 g8 g9⟩
              exact Nat.lt_of_le_of_lt (Nat.le_trans (Nat.div_le_self _ _) (Nat.le_trans hD.2 d40)) (by decide +kernel)
          · obtain ⟨k, hk⟩ : ∃ k : Nat, (dg : Int) - 1 - e = -(k : Int) := ⟨(-((dg : Int) - 1 - e)).toNat, by omega⟩
            have hk0 : 0 < k := by omega
            obtain ⟨X, hX⟩ : ∃ X, rdR mode (r * mkRat ((10 ^ 0 : Nat) : Int) (10 ^ k)) = X := ⟨_, rfl⟩
            have hD := digits_n (m := mode) (z := r.num) (d := r.den) r.den_pos hdg.1 hk hl' hg'
            rw [Rat.mkRat_self, hX] at hD
            have ht : 0 < 10 ^ k := Nat.pow_pos (by decide)
            refine ⟨0, decide (X < 0), X.natAbs * 10 ^ k, 0, .inl rfl, fun _ => ⟨by omega, fun h => ?_, ?_⟩, fun W' hW => (p3 k hk0 hk X hX W' hW).mono fun _ _ k => toR_dpg rfl k, fun W' s B e C f g1 g2 => sign_doc g1 g2 bd h0 hl' hg' hdg hm hk0 hk hX⟩
            · have := of_decide_eq_true h
              exact Nat.mul_pos (by omega) ht
            · have h1 : X.natAbs * 10 ^ k ≤ 10 ^ 40 * 10 ^ 115 := Nat.mul_le_mul (Nat.le_trans hD.2 d40) (Nat.pow_le_pow_right (by decide) (by omega))
              exact Nat.lt_of_le_of_lt h1 (by decide +kernel)
    · refine ⟨1, false, 0, 0, .inr (.inl rfl), (fun h => by cases h), fun W' _ => ?_, fun W' s B e C f _ _ => rsig_no (by omega)⟩
      by_cases h1 : many < 1
      · exact (sig_lo hm h1).mono fun _ _ k => dEr_dpg (by decide) k
      · exact (sig_hi hm (by omega) (by omega)).mono fun _ _ k => dEr_dpg (by decide) k
  · exact ⟨1, false, 0, 0, .inr (.inl rfl), (fun h => by cases h), fun W' _ => (sig_mode hm).mono fun _ _ k => dEr_dpg (by decide) k, fun W' s B e C f _ _ => rsig_no (by omega)⟩
end
end Go.Proofs.YtmiklffjffdkgaaGreatDoor
end

section
/- Package round: Int. Conditions: terms of at most 20000 words. -/
open Go.RowKit
set_option maxRecDepth 100000
namespace Go.Proofs.YtmiklffjffdkgaaGreatDoor
/-- What Int leaves: an integer and no error. -/
def IntR (W : World) (sg : Bool) (z : Int) (e : Ending) (w' : World) : Prop := ∃ A c, e = .returned (.tuple #[.agg #[.bool sg, .slice A (dl z.natAbs) c], .int .i64 0]) ∧ ZA w' sg A (dl z.natAbs) c z ∧ Hid (Below W.heap.size W w')
section
variable {W : World} {b : Bool} {A A' : Option Addr} {n n' c c' K : Nat} {m : Int} {r : Rat}
set_option maxHeartbeats 8000000 in
theorem rint_h (h : QA W b A n c A' n' c' r K) (hm : 1 ≤ m ∧ m ≤ 7) (hK : K ≤ 20000) {t : Int} (ht : rdR m r = t) : Calls Tryz.prog 7 #[.agg #[.bool b, .slice A n c, .slice A' n' c'], .int .i64 m] W (IntR W (decide (t < 0)) t) := by
  obtain ⟨z, d, hz, hd, hr⟩ := h
  obtain ⟨st, hst⟩ : ∃ u, u = decide (t < 0) := ⟨_, rfl⟩
  have CM : Hid (∀ W', Calls Tryz.prog 11 #[.int .i64 m] W' (RetB W' true)) := fun W' => by
    have h1 := mode_h (W := W') (m := m)
    rwa [decide_eq_true hm] at h1
  have CW : Hid (∀ W', Bel W W' → Calls Tryz.prog 25 #[.agg #[.bool b, .slice A n c], .agg #[.slice A' n' c'], .int .i64 m] W' (ZRu W' st t)) := fun W' hw => by
    have h1 := whole_r (hz.up hw.hid) (hd.up hw.hid) hm hr.out.2.1 hr.out.2.2 hK
    rw [rdZ_mk, hr.out.1, ht] at h1
    rw [hst]
    exact h1
  rw [← hst]
  clear hz hd hr hm hK ht hst
  have HB := Bel.refl W
  go_enter Tryz.func7, Tryz.ntmps7
  go_wp2_with (first | (go_at_call 11; (with_reducible refine (CM.out _).mono ?_); rintro e w1 ⟨rfl, hbk⟩; replace hbk := Bel.hid hbk; (with_reducible (have H0 : At w1 W.heap.size [.bool b, .slice A n c, .slice A' n' c'] := At.up ((at_new0 _ _ _).al _) hbk; have HR : At w1 (W.heap.size + 1) [.bool false, .slice none 0 0] := At.up (at_new1 _ _ _ _) hbk; replace HB := ((HB.al _).al _).up hbk)); have h0_0 := H0.c0; have h0_1 := H0.c1; have h0_2 := H0.c2; have h0_l := H0.lt) | (go_at_call 25; (with_reducible refine (CW.out _ HB).mono ?_); rintro e w2 ⟨B, e, rfl, zt, hbk⟩; (with_reducible (replace HB := HB.up hbk; replace HR := HR.up hbk)); clear h0_0 h0_1 h0_2 h0_l; have hr_0 := HR.c0; have hr_1 := HR.c1; have hr_l := HR.lt; have hr_f0 := HR.f0; have hr_f1 := HR.f1) | fail)
  refine bodyPost_ret (v := .tuple #[.agg #[.bool st, .slice B (dl t.natAbs) e], .int .i64 0]) (by simp [results, Tryz.results7, go_sem, hr_0, hr_1]) rfl ?_
  have z1 := zt.1
  exact ⟨B, e, rfl, zt.mv ((z1.put (i := 0) HR (by simp) now2 _).put (HR.put (i := 0) (by simp) (.bool st)) (i := 1) (by simp) now2 _), (HB.put2 (by omega) _ _).hid⟩
end
end Go.Proofs.YtmiklffjffdkgaaGreatDoor
end

section
/- Statements of round: zis, qis, long, own. Conditions: as each says. -/
open Go.RowKit
set_option maxRecDepth 100000
namespace Go.Proofs.YtmiklffjffdkgaaGreatDoor
section
/-- Is a number, told just, the document's own? -/
theorem is5_any {A A' : Option Addr} {c c' m n : Nat} {w : World} (h : Can w w.heap.size A c m) (h' : RN w w.heap.size A' c' n) (hl : dl m < 4000) (hq : dq n ≤ 100000) :
    Calls Tryz.prog 33 #[.agg #[.slice A (dl m) c], .slice A' (dq n) c'] w fun e w' => e = .returned (.bool (decide (m = n))) ∧ Below w.heap.size w w' := by
  have HX : Hid (∀ o, Rd U32 (w.alloc o) (w.alloc o).heap.size A (digs W32 m)) := fun o => ((h.below ((Below.refl _ _).alloc (Nat.le_refl _) _)).more (by simp)).2
  have HY : Hid (∀ o, RN (w.alloc o) (w.alloc o).heap.size A' c' n) := fun o => (h'.below ((Below.refl _ _).alloc (Nat.le_refl _) _)).more (by simp)
  have HA : Hid (∀ o, Below w.heap.size w (w.alloc o)) := fun o => (Below.refl _ _).alloc (Nat.le_refl _) _
  have hqm : Hid (dq m ≤ 100000) := by have := dq_words (lt_pow_digs (b := W32) (by decide) m); unfold dl at hl; unfold Hid; omega
  have HG := hide (goodB_digs m)
  have hl2 : dl m ≤ 4000 := by omega
  have CW : Hid (∀ o W, Hid (Below (w.alloc o).heap.size (w.alloc o) W) → Calls Tryz.prog 18 #[.slice A (dl m) c] W (RefPost W m)) := fun o W hb => by
    have h1 := Words_any (c := c) (show dl m = (digs W32 m).length from rfl) (((HX.out o).below hb.out).more hb.out.size) (good_digs m) hl2
    rw [val_digs32] at h1
    exact h1
  clear h h'
  go_enter Tryz.func33, Tryz.ntmps33
  go_wp2_with (first | (go_at_call 50; go_must (refine (Good_any (show dl m = (digs W32 m).length from rfl) (HX.out _) (by omega)).mono ?_); rintro e w1 ⟨rfl, hb1⟩; have HB1 := hide hb1; have hg1 := HG.out; have hc1 : w1.cell? ⟨w.heap.size, 0, none⟩ = some (.slice A (dl m) c) := (hb1.cell (by simp)).trans (one_cell (heap_alloc_new w _)).1; clear hb1) | (go_at_call 18; go_must (refine (CW.out _ _ HB1).mono ?_); rintro e w2 ⟨A2, c2, rfl, hr2, hb2⟩) | (go_at_call 77; go_must (refine (rCmp_any hr2.out (((HY.out _).below HB1.out).below (hb2.out.mono HB1.out.size) |>.more (Nat.le_trans HB1.out.size hb2.out.size)) (Nat.le_trans hqm.out (by omega)) (by omega)).mono ?_); rintro e w3 ⟨rfl, q, rfl⟩))
  go_ret
  refine ⟨bool_ret ?_, below_drewN (((HA.out _).trans (HB1.out.mono (by simp))).trans (hb2.out.mono (Nat.le_trans (by simp) HB1.out.size))) q⟩
  exact cmpI_beq m n

theorem is5_same {W : World} {A A' : Option Addr} {c c' m : Nat} (h : Nm W A (dl m) c m) (h' : Hid (RN W W.heap.size A' c' m)) (hl : dl m < 4000) : Calls Tryz.prog 33 #[.agg #[.slice A (dl m) c], .slice A' (dq m) c'] W (BoolR W true) := by
  have hq : dq m ≤ 100000 := by have := dq_words (lt_pow_digs (b := W32) (by decide) m); unfold dl at hl; omega
  refine (is5_any (h.out.digs).1 h'.out hl hq).mono fun e w' ⟨he, hb⟩ => ⟨by rw [he, decide_eq_true rfl], hb⟩

end
section
variable {W : World} {z : Int}
set_option maxHeartbeats 2000000 in
theorem zis5_h {A A' : Option Addr} {c c' : Nat} (h : ZA W (decide (z < 0)) A (dl z.natAbs) c z) (h' : Hid (RN W W.heap.size A' c' z.natAbs)) (hl : dl z.natAbs < 4000) : Calls Tryz.prog 12 #[.agg #[.bool (decide (z < 0)), .slice A (dl z.natAbs) c], .agg #[.bool (decide (z < 0)), .slice A' (dq z.natAbs) c']] W (BoolR W true) := by
  have CG : Hid (∀ W', Below W.heap.size W W' → Calls Tryz.prog 32 #[.agg #[.bool (decide (z < 0)), .slice A (dl z.natAbs) c]] W' (BoolR W' true)) := fun W' hb => zgood_h (h.up hb)
  have CI : Hid (∀ W', Below W.heap.size W W' → Calls Tryz.prog 33 #[.agg #[.slice A (dl z.natAbs) c], .slice A' (dq z.natAbs) c'] W' (BoolR W' true)) := fun W' hb => is5_same (h.up hb).1 ((h'.out.below hb).more hb.size) hl
  clear h h' hl
  cases hb : decide (z < 0)
  all_goals
    rw [hb] at CG
    clear hb
    go_enter Tryz.func12, Tryz.ntmps12
    go_wp2_with (first | (go_at_call 32; (with_reducible refine (CG.out _ (al2 _ _ _)).mono ?_); rintro e w1 ⟨rfl, hbk⟩; have HA := hide (((zc_new _ _ _ _ _ _).al _).up hbk); have HA' := hide ((zc_new1 _ _ _ _ _ _ _).up hbk); have HW := hide ((al2 W _ _).trans (hbk.out.mono (al2 W _ _).size)); have a0 := HA.out.c0; have a1 := HA.out.c1; have b0 := HA'.out.c0; have b1 := HA'.out.c1) | (go_at_call 33; (with_reducible refine (CI.out _ HW.out).mono ?_); rintro e w2 ⟨rfl, hbk2⟩) | fail)
    go_ret
    exact ⟨rfl, chain HW hbk2.out⟩
end
section
variable {W : World} {A A' B B' : Option Addr} {c c' n n' d d' : Nat} {r : Rat} {sg : Bool}
theorem rlong5_h {b : Bool} (h1 : n ≤ 12) (h2 : n' ≤ 12) : Calls Tryz.prog 5 #[.agg #[.bool b, .slice A n c, .slice A' n' c']] W (BoolR W false) := by
  have hf : decide ((12 : Int) < (n : Int)) = false := decide_eq_false (by omega)
  have hg : decide ((12 : Int) < (n' : Int)) = false := decide_eq_false (by omega)
  clear h1 h2
  go_enter Tryz.func5, Tryz.ntmps5
  go_wp2
  go_ret
  exact ⟨rfl, (Below.refl _ _).alloc (Nat.le_refl _) _⟩
theorem rlong5_n {b : Bool} (h : ¬ (n ≤ 12 ∧ n' ≤ 12)) : Calls Tryz.prog 5 #[.agg #[.bool b, .slice A n c, .slice A' n' c']] W (BoolR W true) := by
  by_cases h1 : n ≤ 12
  · have hf : decide ((12 : Int) < (n : Int)) = false := decide_eq_false (by omega)
    have hg : decide ((12 : Int) < (n' : Int)) = true := decide_eq_true (by omega)
    clear h h1
    go_enter Tryz.func5, Tryz.ntmps5
    go_wp2
    go_ret
    exact ⟨rfl, (Below.refl _ _).alloc (Nat.le_refl _) _⟩
  · have hf : decide ((12 : Int) < (n : Int)) = true := decide_eq_true (by omega)
    clear h h1
    go_enter Tryz.func5, Tryz.ntmps5
    go_wp2
    go_ret
    exact ⟨rfl, (Below.refl _ _).alloc (Nat.le_refl _) _⟩
end
section
variable {W : World} {b s : Bool} {A A' : Option Addr} {n n' c c' d m : Nat} {z : Int} {r : Rat}
set_option maxHeartbeats 4000000 in
theorem rown5_0 (hw' : ∀ W', Bel W W' → Calls Tryz.prog 18 #[.slice A' n' c'] W' (RefRz W' d)) (h0 : d = 0) (hr : r = 0) (hs : s = decide (r.num < 0)) :
    Calls Tryz.prog 6 #[.agg #[.bool b, .slice A n c, .slice A' n' c']] W (RQm W s r.num r.den) := by
  have CW := hide hw'
  have CQ : Hid (∀ W', Calls Tryz.prog 22 #[.int .i64 0] W' (RQm W' s r.num r.den)) := fun W' => by
    subst hr
    have h1 := rqint_h (W := W') (z := 0) (sg := s) (by decide) (by decide) (by rw [hs]; rfl)
    exact h1.mono fun _ _ ⟨A, c, A', c', he, n1, n2, hb⟩ => ⟨A, c, A', c', he, ⟨n1, hs⟩, n2, hb⟩
  have q1 : dq d = 0 := by rw [h0]; exact dq_zero
  have q2 : ((dq d : Int) == 0) = true := by rw [q1]; rfl
  clear hw' h0 hr hs q1
  have HB := Bel.refl W
  go_enter Tryz.func6, Tryz.ntmps6
  go_wp2_with (first | (go_at_call 18; (with_reducible refine (CW.out _ ((HB.al _).al _)).mono ?_); rintro e w1 ⟨B, e1, rfl, nz, hbk⟩; (with_reducible (have HR : At w1 (W.heap.size + 1) [.bool false, .slice none 0 0, .slice none 0 0] := At.up (at_new1 _ _ _ _) hbk; replace HB := ((HB.al _).al _).up hbk))) | (go_at_call 22; (with_reducible refine (CQ.out _).mono ?_); rintro e w2 ⟨X, i, Y, j, rfl, n1, n2, hbk⟩; (with_reducible (replace HB := HB.up hbk; replace HR := HR.up hbk)); have hr_0 := HR.c0; have hr_1 := HR.c1; have hr_2 := HR.c2; have hr_l := HR.lt; have hr_f0 := HR.f0; have hr_f1 := HR.f1; have hr_f2 := HR.f2) | fail)
  refine bodyPost_ret (v := .agg #[.bool s, .slice X (dq r.num.natAbs) i, .slice Y (dq r.den) j]) (by simp [results, Tryz.results6, go_sem, hr_0, hr_1, hr_2]) rfl ?_
  exact rqm_end n1 n2 HR HB (by omega)
set_option maxHeartbeats 4000000 in
theorem rown5_1 (hw : ∀ W', Bel W W' → Calls Tryz.prog 18 #[.slice A n c] W' (RefRz W' m)) (hw' : ∀ W', Bel W W' → Calls Tryz.prog 18 #[.slice A' n' c'] W' (RefRz W' d)) (h0 : 0 < d) (hz : zi b m = z) (hl : dq m ≤ 4000) (hl' : dq d ≤ 4000) (hr : mkRat z d = r) (hs : s = decide (r.num < 0)) :
    Calls Tryz.prog 6 #[.agg #[.bool b, .slice A n c, .slice A' n' c']] W (RQm W s r.num r.den) := by
  have hm : z.natAbs = m := by rw [← hz, zi_abs]
  obtain ⟨t, ht⟩ : ∃ t, t = decide (z < 0) := ⟨_, rfl⟩
  have CU : Hid (∀ W', Bel W W' → Calls Tryz.prog 18 #[.slice A n c] W' (RefRz W' z.natAbs)) := fun W' h => by rw [hm]; exact hw W' h
  have CW : Hid (∀ W', Bel W W' → Calls Tryz.prog 18 #[.slice A' n' c'] W' (RefRz W' d)) := hw'
  have CZ : Hid (∀ W' F f, Rn W' F f z.natAbs → Calls Tryz.prog 24 #[.bool b, .slice F (dq z.natAbs) f] W' (RZb W' t F (dq z.natAbs) f z.natAbs)) := fun W' F f hn => rzof_h hn (by rw [ht]; exact sig_of (by rw [hm]; exact hz.symm))
  have CQ : Hid (∀ W' F f G g, Rn W' F f z.natAbs → Rn W' G g d → Calls Tryz.prog 23 #[.agg #[.bool t, .slice F (dq z.natAbs) f], .slice G (dq d) g] W' (RQm W' s r.num r.den)) := fun W' F f G g g1 g2 => by
    have h2 := rqof_h (b := t) g1 g2 (by rw [ht]; exact zi_dec z) h0 hr (by rw [hm]; omega) (by omega)
    rw [hs]
    exact h2.mono fun _ _ ⟨A, c, A', c', he, n1, n2, hb⟩ => ⟨A, c, A', c', he, ⟨n1, rfl⟩, n2, hb⟩
  have q1 : 0 < dq d := dq_pos.2 h0
  have q2 : ((dq d : Int) == 0) = false := by
    cases e : ((dq d : Int) == 0) with
    | false => rfl
    | true => have : (dq d : Int) = 0 := by simpa using e
              omega
  clear hw hw' h0 hz hl hl' hr hs ht hm q1
  have HB := Bel.refl W
  go_enter Tryz.func6, Tryz.ntmps6
  go_wp2_with (first | (go_at_call 18; (with_reducible refine (CW.out _ ((HB.al _).al _)).mono ?_); rintro e w1 ⟨G, g, rfl, nd, hbk⟩; (with_reducible (have HP : At w1 W.heap.size [.bool b, .slice A n c, .slice A' n' c'] := At.up ((at_new0 _ _ _).al _) hbk; have HR : At w1 (W.heap.size + 1) [.bool false, .slice none 0 0, .slice none 0 0] := At.up (at_new1 _ _ _ _) hbk; replace HB := ((HB.al _).al _).up hbk))) | fail)
  have l0 := HP.lt
  have l1 := HR.lt
  go_region_held3 (fun w' => w'.cell? ⟨W.heap.size, 0, none⟩ = some (.bool b) ∧ w'.cell? ⟨W.heap.size, 1, none⟩ = some (.slice A n c) ∧ w'.cell? ⟨W.heap.size, 2, none⟩ = some (.slice A' n' c'))
    (refine ⟨(?_ : At _ W.heap.size [.bool b, .slice A n c, .slice A' n' c']).c0, (?_ : At _ W.heap.size [.bool b, .slice A n c, .slice A' n' c']).c1, (?_ : At _ W.heap.size [.bool b, .slice A n c, .slice A' n' c']).c2⟩ <;> (repeat (first | with_reducible exact HP | (with_reducible refine At.dr ?_) | (with_reducible refine At.al ?_ _) | (with_reducible refine At.far ?_ (by omega) _))))
    (first | (go_at_call 18; (with_reducible refine (CU.out _ HB.dr).mono ?_); rintro e w2 ⟨F, f, rfl, nz, hbk⟩; (with_reducible (replace HB := HB.dr.up hbk; replace HP := HP.dr.up hbk; replace HR := HR.dr.up hbk; replace nd := nd.dr.up hbk))) | (go_at_call 24; (with_reducible refine (CZ.out _ _ _ nz).mono ?_); rintro e w3 ⟨rfl, nz2, hbk⟩; (with_reducible (replace HB := HB.up hbk; replace HP := HP.up hbk; replace HR := HR.up hbk; replace nd := nd.up hbk))) | (go_at_call 23; (with_reducible refine (CQ.out _ _ _ _ _ nz2 nd).mono ?_); rintro e w4 ⟨X, i, Y, j, rfl, n1, n2, hbk⟩; (with_reducible (replace HB := HB.up hbk; replace HP := HP.up hbk; replace HR := HR.up hbk)); have hr_0 := HR.c0; have hr_1 := HR.c1; have hr_2 := HR.c2; have hr_l := HR.lt; have hr_f0 := HR.f0; have hr_f1 := HR.f1; have hr_f2 := HR.f2) | fail)
  go_wp2_with fail
  refine bodyPost_ret (v := .agg #[.bool s, .slice X (dq r.num.natAbs) i, .slice Y (dq r.den) j]) (by simp [results, Tryz.results6, go_sem, hr_0, hr_1, hr_2]) rfl ?_
  exact rqm_end n1 n2 HR HB (by omega)
end
section
variable {W : World} {b b' : Bool} {A A' : Option Addr} {n c c' m s : Nat}
set_option maxHeartbeats 2000000 in
theorem dis5_h (h : DX W b A (dl m) c m s) (h' : Rn W A' c' m) (hl : dl m < 4000) : Calls Tryz.prog 19 #[.agg #[.bool b, .slice A (dl m) c, .int .i64 (s : Int)], .agg #[.bool b, .slice A' (dq m) c', .int .i64 (s : Int)]] W (RetB W true) := by
  have CG : Hid (∀ W', Bel W W' → Calls Tryz.prog 16 #[.agg #[.bool b, .slice A (dl m) c, .int .i64 (s : Int)]] W' (RetB W' true)) := h.gd
  have CI : Hid (∀ W', Bel W W' → Calls Tryz.prog 33 #[.agg #[.slice A (dl m) c], .slice A' (dq m) c'] W' (BoolR W' true)) := fun W' hb => is5_same (h.nm.up hb) (h'.up hb) hl
  clear h h' hl
  have HB := Bel.refl W
  cases b
  all_goals
    go_enter Tryz.func19, Tryz.ntmps19
    go_wp2_with (first | (go_at_call 16; (with_reducible refine (CG.out _ ((HB.al _).al _)).mono ?_); rintro e w1 ⟨rfl, hbk⟩; replace hbk := Bel.hid hbk; have HA := At.up ((at_new0 _ _ _).al _) hbk; have HE := At.up (at_new1 _ _ _ _) hbk; replace HB := ((HB.al _).al _).up hbk; have ha_0 := HA.c0; have ha_1 := HA.c1; have ha_2 := HA.c2; have ha_l := HA.lt; have he_0 := HE.c0; have he_1 := HE.c1; have he_2 := HE.c2; have he_l := HE.lt) | (go_at_call 33; (with_reducible refine (CI.out _ HB).mono ?_); rintro e w2 ⟨rfl, hbk⟩; replace HB := HB.up hbk) | fail)
    go_ret
    exact ⟨rfl, HB⟩
end
end Go.Proofs.YtmiklffjffdkgaaGreatDoor
end

section
/- Step of round and of the document, both in one form; what comes out is alike. Conditions: terms of at most 12 words. -/
open Go.RowKit
set_option maxRecDepth 100000
namespace Go.Proofs.YtmiklffjffdkgaaGreatDoor
section
variable {w : World} {b b0 u : Bool} {A A' A0 : Option Addr} {n n' c c' d n0 c0 m2 : Nat} {z mode s0 : Int} {r : Rat}
/-- Step by round and by the document. -/
theorem step_two (nz : ZA w b A n c z) (nd : Nm w A' n' c' d) (br : z.natAbs < W32 ^ 12 ∧ d < W32 ^ 12) (hr : mkRat z d = r) (bd : Bd r 12)
    (ns : Nm w A0 n0 c0 m2) (bs : m2 < W32 ^ 12) (hu : u = true → 0 ≤ s0 ∧ s0 ≤ 60 ∧ (b0 = true → 0 < m2)) (hG : ∀ W', Bel w W' → Calls Tryz.prog 16 #[.agg #[.bool b0, .slice A0 n0 c0, .int .i64 s0]] W' (RetB W' u)) :
    ∃ ok er pb pv ps, ((ok = true ∧ er = 0) ∨ (ok = false ∧ er = (1 : Int))) ∧ (u = false → ok = false) ∧
      (ok = true → ∃ t, rdR mode (r * mkRat ((10 ^ ps : Nat) : Int) m2) = t ∧ pb = decide (t < 0) ∧ pv = t.natAbs * m2 ∧ ps ≤ 60 ∧ 0 < m2) ∧
      (∀ W', Bel w W' → Calls Tryz.prog 10 #[.agg #[.bool b, .slice A n c, .slice A' n' c'], .agg #[.bool b0, .slice A0 n0 c0, .int .i64 s0], .int .i64 mode] W' (DPg W' er pb pv ps)) ∧
      (u = true → ∀ W' s B e C f D g, Rz W' s B e r.num → Rn W' C f r.den → Rn W' D g m2 → Calls Tryz.prog 17 #[.agg #[.bool s, .slice B (dq r.num.natAbs) e, .slice C (dq r.den) f], .agg #[.bool b0, .slice D (dq m2) g, .int .i64 s0], .int .i64 mode] W' (DTo W' ok pb pv ps)) := by
  by_cases hm : 1 ≤ mode ∧ mode ≤ 7
  · cases u with
    | false => exact ⟨false, 1, false, 0, 0, .inr ⟨rfl, rfl⟩, fun _ => rfl, (fun h => by cases h), fun W' hW => (step_bad hm fun W2 h2 => hG W2 (hW.up h2.hid)).mono fun _ _ k => dEr_dpg (by decide) k, fun h => by cases h⟩
    | true =>
      obtain ⟨g1, g2, g3⟩ := hu rfl
      obtain ⟨q, rfl⟩ : ∃ q : Nat, s0 = (q : Int) := ⟨s0.toNat, by omega⟩
      cases b0 with
      | true => exact ⟨false, 1, false, 0, 0, .inr ⟨rfl, rfl⟩, fun _ => rfl, (fun h => by cases h), fun W' hW => (step_neg hm fun W2 h2 => hG W2 (hW.up h2.hid)).mono fun _ _ k => dEr_dpg (by decide) k, fun _ W' s B e C f D g _ _ _ => rstep_no (fun h => by cases h.1)⟩
      | false =>
        by_cases h0 : m2 = 0
        · subst h0
          exact ⟨false, 1, false, 0, 0, .inr ⟨rfl, rfl⟩, fun _ => rfl, (fun h => by cases h), fun W' hW => (step_zero hm (ns.up hW.hid) fun W2 h2 => hG W2 (hW.up h2.hid)).mono fun _ _ k => dEr_dpg (by decide) k, fun _ W' s B e C f D g _ _ _ => rstep_no (fun h => by have := h.2.1; rw [dq_zero] at this; omega)⟩
        · have hp : 0 < m2 := by omega
          obtain ⟨t, ht⟩ : ∃ t, rdR mode (r * mkRat ((10 ^ q : Nat) : Int) m2) = t := ⟨_, rfl⟩
          refine ⟨true, 0, decide (t < 0), t.natAbs * m2, q, .inl ⟨rfl, rfl⟩, (fun h => by cases h), fun _ => ⟨t, ht, rfl, rfl, by omega, hp⟩, fun W' hW => ?_, fun _ W' s B e C f D g k1 k2 k3 => rstep_yes k1 k2 k3 bd bs (by decide) hp (by omega) hm ht rfl⟩
          have qa : QA W' b A n c A' n' c' r 12 := by rw [← hr]; exact qz12 nz nd br hW
          have dx : DX W' false A0 n0 c0 m2 q := ⟨ns.up hW.hid, by omega, (fun h => by cases h), fun W2 h2 => hG W2 (hW.up h2.hid)⟩
          exact (step_h qa dx hp bs hm (by decide) (by decide) ht).mono fun _ _ k => toR_dpg rfl k
  · exact ⟨false, 1, false, 0, 0, .inr ⟨rfl, rfl⟩, fun _ => rfl, (fun h => by cases h), fun W' _ => (step_mode hm).mono fun _ _ k => dEr_dpg (by decide) k, fun _ W' s B e C f D g _ _ _ => rstep_no (by omega)⟩
theorem rd_le {m : Int} {X : Rat} : (rdR m X).natAbs ≤ X.num.natAbs + 1 := by
  have h1 := nabs_div_le X.num X.den
  unfold rdR rdZ
  split
  · simp
  · split
    · omega
    · split <;> omega
theorem step_small {t : Int} {q : Nat} (bd : Bd r 12) (hq : q ≤ 60) (bs : m2 < W32 ^ 12) (hp : 0 < m2) (ht : rdR mode (r * mkRat ((10 ^ q : Nat) : Int) m2) = t) : dl (t.natAbs * m2) < 4000 := by
  have b1 : Bd (r * mkRat ((10 ^ q : Nat) : Int) m2) (12 + 12) := bd.mul (bd_of hp (by rw [Int.natAbs_natCast]; exact pow115 (by omega)) bs)
  have h1 := rd_le (m := mode) (X := r * mkRat ((10 ^ q : Nat) : Int) m2)
  rw [ht] at h1
  have h2 : t.natAbs < W32 ^ 25 := by
    have h3 := b1.1
    have h4 : W32 ^ (12 + 12) < W32 ^ 25 := by decide +kernel
    omega
  have h5 : t.natAbs * m2 < W32 ^ (25 + 12) := by rw [Nat.pow_add]; exact Nat.mul_lt_mul'' h2 bs
  exact Nat.lt_of_le_of_lt (dl_le h5) (by decide)
theorem to_small {t : Int} {q : Nat} (bd : Bd r 12) (hq : q ≤ 60) (ht : rdR mode (r * mkRat ((10 ^ q : Nat) : Int) 1) = t) : dl t.natAbs < 4000 := by
  have h1 := step_small (m2 := 1) bd hq (by decide) (by decide) ht
  rwa [Nat.mul_one] at h1
theorem sig_small {v : Nat} (h : v < 10 ^ 200) : dl v < 4000 := by
  have h1 : 10 ^ 200 < W32 ^ 21 := by decide +kernel
  exact Nat.lt_of_le_of_lt (dl_le (Nat.lt_trans h h1)) (by decide)
/-- Two numerals of one value, sign and scale are alike. -/
theorem dis_two5 {W' : World} {so : Bool} {mo jo : Nat} {B C : Option Addr} {e f : Nat} (h1 : jo ≤ 60) (h2 : so = true → 0 < mo) (h3 : dl mo < 4000) (g1 : Nm W' B (dl mo) e mo) (g2 : Rn W' C f mo) :
    Calls Tryz.prog 19 #[.agg #[.bool so, .slice B (dl mo) e, .int .i64 (jo : Int)], .agg #[.bool so, .slice C (dq mo) f, .int .i64 (jo : Int)]] W' (BoolR W' true) :=
  (dis5_h (dx_can g1 h1 h2) g2 h3).mono fun _ _ h => ⟨h.1, Bel.hid h.2⟩
/-- Int by round and by the document. -/
theorem int_two (nz : ZA w b A n c z) (nd : Nm w A' n' c' d) (br : z.natAbs < W32 ^ 12 ∧ d < W32 ^ 12) (hr : mkRat z d = r) (bd : Bd r 12) (hm : 1 ≤ mode ∧ mode ≤ 7) :
    ∃ t : Int, dl t.natAbs < 4000 ∧ (∀ W', Bel w W' → Calls Tryz.prog 7 #[.agg #[.bool b, .slice A n c, .slice A' n' c'], .int .i64 mode] W' (IntR W' (decide (t < 0)) t)) ∧
      (∀ W' s B e C f, Rz W' s B e r.num → Rn W' C f r.den → Calls Tryz.prog 13 #[.agg #[.bool s, .slice B (dq r.num.natAbs) e, .slice C (dq r.den) f], .int .i64 mode] W' (RZv W' (decide (t < 0)) t)) := by
  obtain ⟨t, ht⟩ : ∃ t, rdR mode r = t := ⟨_, rfl⟩
  refine ⟨t, ?_, fun W' hW => ?_, fun W' s B e C f g1 g2 => rint_doc g1 g2 bd (by decide) hm ht⟩
  · have h1 := rd_le (m := mode) (X := r)
    rw [ht] at h1
    have h3 := bd.1
    have h4 : W32 ^ 12 < W32 ^ 13 := by decide +kernel
    exact Nat.lt_of_le_of_lt (dl_le (k := 13) (by omega)) (by decide)
  · have qa : QA W' b A n c A' n' c' r 12 := by rw [← hr]; exact qz12 nz nd br hW
    exact rint_h qa hm (by decide) ht
end
end Go.Proofs.YtmiklffjffdkgaaGreatDoor
end
