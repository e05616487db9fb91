/- Several texts in one, each with its own sentence and conditions. -/
import Derived.Test.YtfknclimoihfdaaGreatDoorGFdc23
import Derived.Test.YtfknclimoihfdaaGreatDoorGFdc15
import Derived.Test.YtfknclimoihfdaaGreatDoorQf
section
/- The document's own integers and fractions: ZOf, QOf. Conditions: less than 100000 fours of digits. -/
open Go.RowKit
set_option maxRecDepth 100000
namespace Go.Proofs.YtfknclimoihfdaaGreatDoor
/-- No number stands in a box of flags and slices. -/
def NoI (vs : List Value) : Prop := ∀ v ∈ vs, ∀ x : Nat, v ≠ I64 x
theorem RN.putn {W : World} {B p i : Nat} {vs : List Value} {A : Option Addr} {c m : Nat} (h : RN W B A c m) (hp : At W p vs) (hi : i < vs.length) (hw : NoI vs) (u : Value) : RN (W.setCell ⟨p, i, none⟩ u) B A c m :=
  h.setn (hp.all i _ (List.getElem?_eq_getElem hi)).1 (hw _ (List.getElem_mem hi)) u
/-- In world W the document's own number stands there. -/
def Rn (W : World) (A : Option Addr) (c m : Nat) : Prop := RN W W.heap.size A c m
theorem Rn.up {W W' : World} {A : Option Addr} {c m : Nat} (h : Rn W A c m) (hb : Hid (Below W.heap.size W W')) : Rn W' A c m := (RN.below h hb.out).more hb.out.size
theorem Rn.al {W : World} {A : Option Addr} {c m : Nat} (h : Rn W A c m) (o : Obj) : Rn (W.alloc o) A c m := h.up ((Below.refl _ _).alloc (Nat.le_refl _) o)
theorem Rn.dr {W : World} {A : Option Addr} {c m : Nat} (h : Rn W A c m) : Rn W.drew A c m := h
theorem Rn.of {W : World} {A : Option Addr} {c m : Nat} (h : Hid (RN W W.heap.size A c m)) : Rn W A c m := h
theorem Rn.put {W : World} {p i : Nat} {vs : List Value} {A : Option Addr} {c m : Nat} (h : Rn W A c m) (hp : At W p vs) (hi : i < vs.length) (hw : NoI vs) (u : Value) : Rn (W.setCell ⟨p, i, none⟩ u) A c m := by
  have h1 := RN.putn h hp hi hw u
  have e : (W.setCell ⟨p, i, none⟩ u).heap.size = W.heap.size := by simp [World.setCell]
  unfold Rn
  rw [e]; exact h1
theorem noi2 {b : Bool} {A : Option Addr} {n c : Nat} : NoI [.bool b, .slice A n c] := by
  intro u hu x
  simp at hu
  rcases hu with rfl | rfl <;> (intro e; cases e)
theorem noi3 {b : Bool} {A A' : Option Addr} {n c n' c' : Nat} : NoI [.bool b, .slice A n c, .slice A' n' c'] := by
  intro u hu x
  simp at hu
  rcases hu with rfl | rfl | rfl <;> (intro e; cases e)
theorem Rn.put2 {W : World} {p : Nat} {b0 : Bool} {B0 : Option Addr} {k0 d0 : Nat} {A : Option Addr} {c m : Nat} (h : Rn W A c m) (hp : At W p [.bool b0, .slice B0 k0 d0]) {b : Bool} {B : Option Addr} {k d : Nat} :
    Rn ((W.setCell ⟨p, 0, none⟩ (.bool b)).setCell ⟨p, 1, none⟩ (.slice B k d)) A c m :=
  (h.put hp (by simp) noi2 _).put (hp.put (i := 0) (by simp) (.bool b)) (by simp) noi2 _
theorem Rn.put3 {W : World} {p : Nat} {b0 : Bool} {B0 B1 : Option Addr} {k0 d0 k1 d1 : Nat} {A : Option Addr} {c m : Nat} (h : Rn W A c m) (hp : At W p [.bool b0, .slice B0 k0 d0, .slice B1 k1 d1]) {b : Bool} {B B' : Option Addr} {k d k' d' : Nat} :
    Rn (((W.setCell ⟨p, 0, none⟩ (.bool b)).setCell ⟨p, 1, none⟩ (.slice B k d)).setCell ⟨p, 2, none⟩ (.slice B' k' d')) A c m :=
  ((h.put hp (by simp) noi3 _).put (hp.put (i := 0) (by simp) (.bool b)) (by simp) noi3 _).put ((hp.put (i := 0) (by simp) (.bool b)).put (i := 1) (by simp) (.slice B k d)) (by simp) noi3 _
/-- What a call of the document's own leaves that returns a fraction. -/
def RQ (W : World) (r : Rat) (e : Ending) (w' : World) : Prop := ∃ A c A' c', e = .returned (.agg #[.bool (decide (r.num < 0)), .slice A (dq r.num.natAbs) c, .slice A' (dq r.den) c']) ∧ Rn w' A c r.num.natAbs ∧ Rn w' A' c' r.den ∧ Hid (Below W.heap.size W w')
def RZb (W : World) (b : Bool) (A : Option Addr) (n c m : Nat) (e : Ending) (w' : World) : Prop := e = .returned (.agg #[.bool b, .slice A n c]) ∧ Rn w' A c m ∧ Hid (Below W.heap.size W w')
theorem rn_two {W w0 : World} {p : Nat} {b0 : Bool} {B0 : Option Addr} {k0 d0 : Nat} {A : Option Addr} {c m : Nat} (hp : At W p [.bool b0, .slice B0 k0 d0]) (h : Rn W A c m) (hb : Bel w0 W) (hq : w0.heap.size ≤ p) (b : Bool) (n : Nat) :
    RZb w0 b A n c m (.returned (.agg #[.bool b, .slice A n c])) ((W.setCell ⟨p, 0, none⟩ (.bool b)).setCell ⟨p, 1, none⟩ (.slice A n c)) :=
  ⟨rfl, h.put2 hp, (Below.setCell hb hq _).setCell hq _⟩
section
variable {W : World} {A A' : Option Addr} {c c' m : Nat} {z : Int}
set_option maxHeartbeats 1000000 in
theorem rzof_h {b s : Bool} (h : Rn W A c m) (hs : s = (b && decide (0 < m))) : Calls Tryz.prog 59 #[.bool b, .slice A (dq m) c] W (RZb W s A (dq m) c m) := by
  have HE : Hid (∀ o, Rn (W.alloc o) A c m) := fun o => h.al o
  by_cases h0 : 0 < m
  · have h1 : 0 < dq m := dq_pos.2 h0
    have HS : Hid (s = b) := by unfold Hid; rw [hs, decide_eq_true h0, Bool.and_true]
    clear hs h h0
    cases b
    · go_enter Tryz.func59, Tryz.ntmps59
      go_wp2
      exact bodyPost_ret (v := .agg #[.bool false, .slice A (dq m) c]) (by simp [results, Tryz.results59, go_sem]) rfl ⟨by rw [HS.out], HE.out _, ((Bel.refl W).al _).hid⟩
    · go_enter Tryz.func59, Tryz.ntmps59
      go_wp2
      exact bodyPost_ret (v := .agg #[.bool true, .slice A (dq m) c]) (by simp [results, Tryz.results59, go_sem]) rfl ⟨by rw [HS.out], HE.out _, ((Bel.refl W).al _).hid⟩
  · have h1 : dq m = 0 := by have := dq_pos (n := m); omega
    have HS : Hid (s = false) := by unfold Hid; rw [hs, decide_eq_false h0, Bool.and_false]
    have HZ := hide h1
    clear hs h h0
    cases b
    all_goals
      go_enter Tryz.func59, Tryz.ntmps59
      go_wp2
      exact bodyPost_ret (v := .agg #[.bool false, .slice A 0 c]) (by simp [results, Tryz.results59, go_sem]) rfl ⟨by rw [HS.out, HZ.out], HE.out _, ((Bel.refl W).al _).hid⟩

theorem dq_mono {a b : Nat} (h : a ≤ b) : dq a ≤ dq b := digs_len_mono (b := D4) (by decide) h
theorem rz_of {s : Bool} {A : Option Addr} {c : Nat} {z : Int} {w' : World} {e : Ending} (h : RZb W s A (dq z.natAbs) c z.natAbs e w') (hs : s = decide (z < 0)) : RZ W z e w' := ⟨A, c, by rw [h.1, hs], h.2.1, h.2.2⟩
theorem zsig {b : Bool} {z : Int} (h : z = zi b z.natAbs) : decide (z < 0) = (b && decide (0 < z.natAbs)) := by
  cases b
  · rw [zi_false] at h; rw [Bool.false_and]; exact decide_eq_false (by omega)
  · rw [zi_true] at h
    by_cases h0 : 0 < z.natAbs
    · rw [decide_eq_true h0, Bool.true_and]; exact decide_eq_true (by omega)
    · rw [decide_eq_false h0, Bool.and_false]; exact decide_eq_false (by omega)
set_option maxHeartbeats 2000000 in
theorem rqof_h {b : Bool} {d : Nat} {r : Rat} (h : Rn W A c z.natAbs) (h' : Rn W A' c' d) (hz : z = zi b z.natAbs) (h0 : 0 < d) (hr : mkRat z d = r) (hl : dq z.natAbs ≤ 99999) (hl' : dq d ≤ 99999) :
    Calls Tryz.prog 38 #[.agg #[.bool b, .slice A (dq z.natAbs) c], .slice A' (dq d) c'] W (RQ W r) := by
  obtain ⟨g, hg⟩ : ∃ g, g = Nat.gcd z.natAbs d := ⟨_, rfl⟩
  obtain ⟨hg0, e1, e2, e3, e4, e5⟩ := low_terms (z := z) h0 hg
  rw [hr] at e1 e2 e5
  obtain ⟨v, hv⟩ : ∃ v, v = r.num.natAbs := ⟨_, rfl⟩
  obtain ⟨u, hu⟩ : ∃ u, u = r.den := ⟨_, rfl⟩
  obtain ⟨m, hm⟩ : ∃ m, m = z.natAbs := ⟨_, rfl⟩
  rw [← hm] at h hl hg e1 e3 ⊢
  obtain ⟨s, hs⟩ : ∃ s, s = decide (r.num < 0) := ⟨_, rfl⟩
  have hgl : g ≤ d := Nat.le_of_dvd h0 (by rw [hg]; exact Nat.gcd_dvd_right _ _)
  have hgd : dq g ≤ 99999 := Nat.le_trans (dq_mono hgl) hl'
  have CG : Hid (∀ W', Bel W W' → Calls Tryz.prog 76 #[.slice A (dq m) c, .slice A' (dq d) c'] W' (RefPost W' g)) := fun W' hb => by
    have h1 := rGcd_any (h.up hb) (h'.up hb) hl hl'
    rw [← hg] at h1
    exact h1
  have CD : Hid (∀ W' B e, Bel W W' → Rn W' B e g → Calls Tryz.prog 77 #[.slice A (dq m) c, .slice B (dq g) e] W' (RDivR W' v 0)) := fun W' B e hb hn => by
    have h1 := rDiv_any (h.up hb) hn hl hgd hg0
    rw [e3, ← e1, ← hv] at h1
    exact h1
  have CE : Hid (∀ W' B e, Bel W W' → Rn W' B e g → Calls Tryz.prog 77 #[.slice A' (dq d) c', .slice B (dq g) e] W' (RDivR W' u 0)) := fun W' B e hb hn => by
    have h1 := rDiv_any (h'.up hb) hn hl' hgd hg0
    rw [e4, ← e2, ← hu] at h1
    exact h1
  have CZ : Hid (∀ W' B e, Rn W' B e v → Calls Tryz.prog 59 #[.bool b, .slice B (dq v) e] W' (RZb W' s B (dq v) e v)) := fun W' B e hn => rzof_h hn (by
    rw [hs, e5, zsig hz, ← hm]
    congr 1
    refine decide_eq_decide.2 ⟨fun h => ?_, fun h => ?_⟩
    · rw [hv, e1]; exact Nat.div_pos (Nat.le_of_dvd h (Nat.dvd_of_mod_eq_zero e3)) hg0
    · rcases Nat.eq_zero_or_pos m with hm0 | hm0
      · rw [hv, e1, hm0, Nat.zero_div] at h; exact absurd h (Nat.lt_irrefl 0)
      · exact hm0)
  have HV := hide hv
  have HU := hide hu
  have HS := hide hs
  clear h h' hz h0 hr hl hl' hg hg0 e1 e2 e3 e4 e5 hv hu hm hs hgd hgl
  have HB := Bel.refl W
  go_enter Tryz.func38, Tryz.ntmps38
  go_wp2_with (first | (go_at_call 76; (with_reducible refine (CG.out _ ((HB.al _).al _)).mono ?_); rintro e w1 ⟨Ag, cg, rfl, ng, hbk⟩; have HP := At.up ((at_new0 _ _ _).al _) hbk; have HR := At.up (at_new1 _ _ _ _) hbk; replace HB := ((HB.al _).al _).up hbk; have hp_0 := HP.c0; have hp_1 := HP.c1; have hp_l := HP.lt; replace ng := Rn.of ng) | (go_at_call 77; (with_reducible refine (CD.out _ _ _ HB ng).mono ?_); rintro e w2 ⟨Ao, co, Ax, cx, rfl, no, nx, hbk⟩; replace HB := HB.up hbk; replace HP := HP.up hbk; replace HR := HR.up hbk; replace ng := ng.up hbk; clear hp_0 hp_1 hp_l; have hp_0 := HP.c0; have hp_1 := HP.c1; have hp_l := HP.lt; replace no := Rn.of no) | (go_at_call 77; (with_reducible refine (CE.out _ _ _ HB ng).mono ?_); rintro e w3 ⟨Au, cu, Ay, cy, rfl, nu, ny, hbk⟩; replace HB := HB.up hbk; replace HP := HP.up hbk; replace HR := HR.up hbk; replace no := no.up hbk; clear hp_0 hp_1 hp_l; have hp_0 := HP.c0; have hp_1 := HP.c1; have hp_l := HP.lt; replace nu := Rn.of nu) | (go_at_call 59; (with_reducible refine (CZ.out _ _ _ no).mono ?_); rintro e w4 ⟨rfl, nz, hbk⟩; replace HB := HB.up hbk; replace HR := HR.up hbk; replace nu := nu.up hbk; clear hp_0 hp_1 hp_l; have hr_0 := HR.c0; have hr_1 := HR.c1; have hr_2 := HR.c2; have hr_l := HR.lt; have hr_f0 := HR.f0; have hr_f1 := HR.f1; have hr_f2 := HR.f2) | fail)
  refine bodyPost_ret (v := .agg #[.bool s, .slice Ao (dq v) co, .slice Au (dq u) cu]) (by simp [results, Tryz.results38, go_sem, hr_0, hr_1, hr_2]) rfl ?_
  have hv := HV.out
  have hu := HU.out
  have hs := HS.out
  subst hv
  subst hu
  subst hs
  exact ⟨Ao, co, Au, cu, rfl, nz.put3 HR, nu.put3 HR, below3 HB (by omega) _ _ _⟩
end
end Go.Proofs.YtfknclimoihfdaaGreatDoor
end

section
/- Statements of rat: is, zis. Conditions: less than 4000 words. -/
open Go.RowKit
set_option maxRecDepth 100000
namespace Go.Proofs.YtfknclimoihfdaaGreatDoor
/-- Is a number, told just, the document's own? -/
theorem is3_any {A A' : Option Addr} {c c' m n : Nat} {w : World} (h : Can w w.heap.size A c m) (h' : RN w w.heap.size A' c' n) (hl : dl m < 4000) (hq : dq n ≤ 100000) :
    Calls Tryz.prog 49 #[.agg #[.slice A (dl m) c], .slice A' (dq n) c'] w fun e w' => e = .returned (.bool (decide (m = n))) ∧ Below w.heap.size w w' := by
  have HX : Hid (∀ o, Rd U32 (w.alloc o) (w.alloc o).heap.size A (digs W32 m)) := fun o => ((h.below ((Below.refl _ _).alloc (Nat.le_refl _) _)).more (by simp)).2
  have HY : Hid (∀ o, RN (w.alloc o) (w.alloc o).heap.size A' c' n) := fun o => (h'.below ((Below.refl _ _).alloc (Nat.le_refl _) _)).more (by simp)
  have HA : Hid (∀ o, Below w.heap.size w (w.alloc o)) := fun o => (Below.refl _ _).alloc (Nat.le_refl _) _
  have hqm : Hid (dq m ≤ 100000) := by have := dq_words (lt_pow_digs (b := W32) (by decide) m); unfold dl at hl; unfold Hid; omega
  have HG := hide (goodB_digs m)
  have hl2 : dl m ≤ 4000 := by omega
  have CW : Hid (∀ o W, Hid (Below (w.alloc o).heap.size (w.alloc o) W) → Calls Tryz.prog 26 #[.slice A (dl m) c] W (RefPost W m)) := fun o W hb => by
    have h1 := Words_any (c := c) (show dl m = (digs W32 m).length from rfl) (((HX.out o).below hb.out).more hb.out.size) (good_digs m) hl2
    rw [val_digs32] at h1
    exact h1
  clear h h'
  go_enter Tryz.func49, Tryz.ntmps49
  go_wp2_with (first | (go_at_call 54; go_must (refine (Good_any (show dl m = (digs W32 m).length from rfl) (HX.out _) (by omega)).mono ?_); rintro e w1 ⟨rfl, hb1⟩; have HB1 := hide hb1; have hg1 := HG.out; have hc1 : w1.cell? ⟨w.heap.size, 0, none⟩ = some (.slice A (dl m) c) := (hb1.cell (by simp)).trans (one_cell (heap_alloc_new w _)).1; clear hb1) | (go_at_call 26; go_must (refine (CW.out _ _ HB1).mono ?_); rintro e w2 ⟨A2, c2, rfl, hr2, hb2⟩) | (go_at_call 88; go_must (refine (rCmp_any hr2.out (((HY.out _).below HB1.out).below (hb2.out.mono HB1.out.size) |>.more (Nat.le_trans HB1.out.size hb2.out.size)) (Nat.le_trans hqm.out (by omega)) (by omega)).mono ?_); rintro e w3 ⟨rfl, q, rfl⟩))
  go_ret
  refine ⟨bool_ret ?_, below_drewN (((HA.out _).trans (HB1.out.mono (by simp))).trans (hb2.out.mono (Nat.le_trans (by simp) HB1.out.size))) q⟩
  exact cmpI_beq m n

theorem is3_same {W : World} {A A' : Option Addr} {c c' m : Nat} (h : Nm W A (dl m) c m) (h' : Hid (RN W W.heap.size A' c' m)) (hl : dl m < 4000) : Calls Tryz.prog 49 #[.agg #[.slice A (dl m) c], .slice A' (dq m) c'] W (BoolR W true) := by
  have hq : dq m ≤ 100000 := by have := dq_words (lt_pow_digs (b := W32) (by decide) m); unfold dl at hl; omega
  refine (is3_any (h.out.digs).1 h'.out hl hq).mono fun e w' ⟨he, hb⟩ => ⟨by rw [he, decide_eq_true rfl], hb⟩
section
variable {W : World} {z : Int}
set_option maxHeartbeats 2000000 in
theorem zis3_h {A A' : Option Addr} {c c' : Nat} (h : ZA W (decide (z < 0)) A (dl z.natAbs) c z) (h' : Hid (RN W W.heap.size A' c' z.natAbs)) (hl : dl z.natAbs < 4000) : Calls Tryz.prog 34 #[.agg #[.bool (decide (z < 0)), .slice A (dl z.natAbs) c], .agg #[.bool (decide (z < 0)), .slice A' (dq z.natAbs) c']] W (BoolR W true) := by
  have CG : Hid (∀ W', Below W.heap.size W W' → Calls Tryz.prog 53 #[.agg #[.bool (decide (z < 0)), .slice A (dl z.natAbs) c]] W' (BoolR W' true)) := fun W' hb => zgood_h (h.up hb)
  have CI : Hid (∀ W', Below W.heap.size W W' → Calls Tryz.prog 49 #[.agg #[.slice A (dl z.natAbs) c], .slice A' (dq z.natAbs) c'] W' (BoolR W' true)) := fun W' hb => is3_same (h.up hb).1 ((h'.out.below hb).more hb.size) hl
  clear h h' hl
  cases hb : decide (z < 0)
  all_goals
    rw [hb] at CG
    clear hb
    go_enter Tryz.func34, Tryz.ntmps34
    go_wp2_with (first | (go_at_call 53; (with_reducible refine (CG.out _ (al2 _ _ _)).mono ?_); rintro e w1 ⟨rfl, hbk⟩; have HA := hide (((zc_new _ _ _ _ _ _).al _).up hbk); have HA' := hide ((zc_new1 _ _ _ _ _ _ _).up hbk); have HW := hide ((al2 W _ _).trans (hbk.out.mono (al2 W _ _).size)); have a0 := HA.out.c0; have a1 := HA.out.c1; have b0 := HA'.out.c0; have b1 := HA'.out.c1) | (go_at_call 49; (with_reducible refine (CI.out _ HW.out).mono ?_); rintro e w2 ⟨rfl, hbk2⟩) | fail)
    go_ret
    exact ⟨rfl, chain HW hbk2.out⟩
end
end Go.Proofs.YtfknclimoihfdaaGreatDoor
end

section
/- Statements of rat: qis, long, what the document tells of six over four. No conditions. -/
open Go.RowKit
set_option maxRecDepth 100000
namespace Go.Proofs.YtfknclimoihfdaaGreatDoor
def RQs (W : World) (sg : Bool) (r : Rat) (e : Ending) (w' : World) : Prop := ∃ A c A' c', e = .returned (.agg #[.bool sg, .slice A (dq r.num.natAbs) c, .slice A' (dq r.den) c']) ∧ Rn w' A c r.num.natAbs ∧ Rn w' A' c' r.den ∧ Hid (Below W.heap.size W w')
def RZs (W : World) (sg : Bool) (z : Int) (e : Ending) (w' : World) : Prop := ∃ A c, e = .returned (.agg #[.bool sg, .slice A (dq z.natAbs) c]) ∧ Hid (RN w' w'.heap.size A c z.natAbs) ∧ Hid (Below W.heap.size W w')
def ZRs (W : World) (sg : Bool) (z : Int) (e : Ending) (w' : World) : Prop := ∃ A c, e = .returned (.agg #[.bool sg, .slice A (dl z.natAbs) c]) ∧ ZA w' sg A (dl z.natAbs) c z ∧ Hid (Below W.heap.size W w')
theorem qa_of {W : World} {sg : Bool} {A A' : Option Addr} {n c n' c' K : Nat} {r : Rat} (nz : ZA W sg A n c r.num) (nd : Nm W A' n' c' r.den) (hb : r.num.natAbs < W32 ^ K ∧ r.den < W32 ^ K) : QA W sg A n c A' n' c' r K := ⟨r.num, r.den, nz, nd, Rat.mkRat_self r, hb⟩
section
variable {W : World} {A A' B B' : Option Addr} {c c' n n' d d' : Nat} {r : Rat} {sg : Bool}
set_option maxHeartbeats 2000000 in
theorem qis_h (nz : ZA W sg A (dl r.num.natAbs) c r.num) (nd : Nm W A' (dl r.den) c' r.den) (mz : Rn W B d r.num.natAbs) (md : Rn W B' d' r.den) (hs : sg = decide (r.num < 0)) (h1 : dl r.num.natAbs < 4000) (h2 : dl r.den < 4000) :
    Calls Tryz.prog 14 #[.agg #[.bool sg, .slice A (dl r.num.natAbs) c, .slice A' (dl r.den) c'], .agg #[.bool sg, .slice B (dq r.num.natAbs) d, .slice B' (dq r.den) d']] W (BoolR W true) := by
  have CZ : Hid (∀ W', Bel W W' → Calls Tryz.prog 34 #[.agg #[.bool sg, .slice A (dl r.num.natAbs) c], .agg #[.bool sg, .slice B (dq r.num.natAbs) d]] W' (BoolR W' true)) := fun W' hb => by
    subst hs
    exact zis3_h (nz.up hb) (mz.up hb) h1
  have CI : Hid (∀ W', Bel W W' → Calls Tryz.prog 49 #[.agg #[.slice A' (dl r.den) c'], .slice B' (dq r.den) d'] W' (BoolR W' true)) := fun W' hb => is3_same (nd.up hb) (md.up hb) h2
  clear nz nd mz md hs h1 h2
  have HB := Bel.refl W
  go_enter Tryz.func14, Tryz.ntmps14
  go_wp2_with (first | (go_at_call 34; (with_reducible refine (CZ.out _ ((HB.al _).al _)).mono ?_); rintro e w1 ⟨rfl, hbk⟩; have HP := At.up ((at_new0 _ _ _).al _) hbk; have HQ := At.up (at_new1 _ _ _ _) hbk; replace HB := ((HB.al _).al _).up hbk; have hp_0 := HP.c0; have hp_1 := HP.c1; have hp_2 := HP.c2; have hp_l := HP.lt; have hq_0 := HQ.c0; have hq_1 := HQ.c1; have hq_2 := HQ.c2; have hq_l := HQ.lt) | (go_at_call 49; (with_reducible refine (CI.out _ HB).mono ?_); rintro e w2 ⟨rfl, hbk⟩; replace HB := HB.up hbk) | fail)
  go_ret
  exact ⟨rfl, HB⟩
theorem rlong_h {b : Bool} (h1 : n ≤ 12) (h2 : n' ≤ 12) : Calls Tryz.prog 20 #[.agg #[.bool b, .slice A n c, .slice A' n' c']] W (BoolR W false) := by
  have hf : decide ((12 : Int) < (n : Int)) = false := decide_eq_false (by omega)
  have hg : decide ((12 : Int) < (n' : Int)) = false := decide_eq_false (by omega)
  clear h1 h2
  go_enter Tryz.func20, Tryz.ntmps20
  go_wp2
  go_ret
  exact ⟨rfl, (Below.refl _ _).alloc (Nat.le_refl _) _⟩
theorem rlong_n {b : Bool} (h : ¬ (n ≤ 12 ∧ n' ≤ 12)) : Calls Tryz.prog 20 #[.agg #[.bool b, .slice A n c, .slice A' n' c']] W (BoolR W true) := by
  by_cases h1 : n ≤ 12
  · have hf : decide ((12 : Int) < (n : Int)) = false := decide_eq_false (by omega)
    have hg : decide ((12 : Int) < (n' : Int)) = true := decide_eq_true (by omega)
    clear h h1
    go_enter Tryz.func20, Tryz.ntmps20
    go_wp2
    go_ret
    exact ⟨rfl, (Below.refl _ _).alloc (Nat.le_refl _) _⟩
  · have hf : decide ((12 : Int) < (n : Int)) = true := decide_eq_true (by omega)
    clear h h1
    go_enter Tryz.func20, Tryz.ntmps20
    go_wp2
    go_ret
    exact ⟨rfl, (Below.refl _ _).alloc (Nat.le_refl _) _⟩
end
/-- Three over two; with its other sign; three; minus two. -/
def r32 : Rat := mkRat 3 2
def rm32 : Rat := -r32
def i3 : Int := 3
def im2 : Int := -2
theorem r32_num : r32.num = 3 := by decide +kernel
theorem r32_den : r32.den = 2 := by decide +kernel
theorem rm32_num : rm32.num = -3 := by decide +kernel
theorem rm32_den : rm32.den = 2 := by decide +kernel
theorem rm32_floor : rm32.floor = im2 := by decide +kernel
theorem dig1 {d : Nat} (h0 : 0 < d) (h : d < 10) : decL d = [letter d] := by
  unfold decL
  rw [if_neg (by omega), digs_pos (by decide) h0, Nat.mod_eq_of_lt h, Nat.div_eq_of_lt h, digs_zero]
  rfl
theorem decQ_r32 : decQ r32 = [51, 47, 50] := by
  unfold decQ
  rw [r32_den, r32_num, if_neg (by decide)]
  unfold decZ
  rw [if_neg (by decide), show (3 : Int).natAbs = 3 from rfl, dig1 (by decide) (by decide), dig1 (by decide) (by decide)]
  rfl
def StrR (W : World) (s : ByteArray) (e : Ending) (w' : World) : Prop := e = .returned (.string s) ∧ Hid (Below W.heap.size W w')
theorem str_of {W : World} {l : List UInt8} {s : ByteArray} {e : Ending} {w' : World} (h : TxR W l e w') (hs : s.data.toList = l) : StrR W s e w' := by
  obtain ⟨t, rfl, ht, hb⟩ := h
  exact ⟨by rw [show t = s from ByteArray.ext (Array.ext' (ht.out.trans hs.symm))], hb⟩
theorem w32_two {x K : Nat} (hx : x < 4294967296) (hK : 0 < K) : x < W32 ^ K := Nat.lt_of_lt_of_le hx (by
  have h := Nat.pow_le_pow_right (n := W32) (by decide) hK
  rw [Nat.pow_succ, Nat.pow_zero, Nat.one_mul] at h
  exact h)
theorem r32_bd : r32.num.natAbs < W32 ^ 1 ∧ r32.den < W32 ^ 1 := by rw [r32_num, r32_den]; exact ⟨w32_two (by decide) (by decide), w32_two (by decide) (by decide)⟩
theorem rm32_bd : rm32.num.natAbs < W32 ^ 1 ∧ rm32.den < W32 ^ 1 := by rw [rm32_num, rm32_den]; exact ⟨w32_two (by decide) (by decide), w32_two (by decide) (by decide)⟩

set_option maxHeartbeats 4000000 in
/-- What the document tells of six over four: it holds. -/
theorem awake3_any (W : World) : Calls Tryz.prog 6 #[] W (BoolR W true) := by
  obtain ⟨sg, hsg⟩ : ∃ s, s = decide (r32.num < 0) := ⟨_, rfl⟩
  obtain ⟨sn, hsn⟩ : ∃ s, s = decide (rm32.num < 0) := ⟨_, rfl⟩
  obtain ⟨s2, hs2⟩ : ∃ s, s = decide (im2 < 0) := ⟨_, rfl⟩
  obtain ⟨s3, hs3⟩ : ∃ s, s = decide (i3 < 0) := ⟨_, rfl⟩
  have CP : Hid (∀ W', Calls Tryz.prog 13 #[.string ⟨#[54, 47, 52]⟩] W' (OfYs W' sg r32)) := fun W' => by
    rw [hsg]
    exact rparse_frac (t := ⟨#[54]⟩) (u := ⟨#[52]⟩) (v := 6) (d := 4) (by decide) rfl (by decide) (fun W2 => zparse_h (b := false) (l := [54]) (by decide) rfl (by intro _; decide) (by decide) (by decide)) (by decide) (by decide) (by decide) (Nat.le_trans (dl_le (k := 1) (by decide)) (by decide)) (Nat.le_trans (dl_le (k := 1) (by decide)) (by decide)) (by decide +kernel)
  have CT : Hid (∀ W' A n c A' n' c', ZA W' sg A n c r32.num → Nm W' A' n' c' r32.den → Calls Tryz.prog 16 #[.agg #[.bool sg, .slice A n c, .slice A' n' c']] W' (StrR W' ⟨#[51, 47, 50]⟩)) := fun W' A n c A' n' c' h1 h2 => (rtext_h (qa_of h1 h2 r32_bd) (by decide) (by decide)).mono fun _ _ h => str_of h decQ_r32.symm
  have CI3 : Hid (∀ W', Calls Tryz.prog 39 #[.int .i64 3] W' (RZs W' s3 i3)) := fun W' => by rw [hs3]; exact zint_h (z := i3) (by decide) (by decide)
  have CS2 : Hid (∀ W', Calls Tryz.prog 40 #[.int .u64 2] W' (RefPost W' 2)) := fun W' => Small_any (n := 2) (by decide)
  have CQ : Hid (∀ W' A c A' c', Rn W' A c i3.natAbs → Rn W' A' c' 2 → Calls Tryz.prog 38 #[.agg #[.bool s3, .slice A (dq i3.natAbs) c], .slice A' (dq 2) c'] W' (RQs W' sg r32)) := fun W' A c A' c' h1 h2 => by
    rw [hsg]
    exact rqof_h h1 h2 (by rw [hs3]; exact zi_dec i3) (by decide) rfl (Nat.le_trans (dq_u64 (by decide)) (by decide)) (Nat.le_trans (dq_u64 (by decide)) (by decide))
  have CQI : Hid (∀ W' A c A' c' B d B' d', ZA W' sg A (dl r32.num.natAbs) c r32.num → Nm W' A' (dl r32.den) c' r32.den → Rn W' B d r32.num.natAbs → Rn W' B' d' r32.den → Calls Tryz.prog 14 #[.agg #[.bool sg, .slice A (dl r32.num.natAbs) c, .slice A' (dl r32.den) c'], .agg #[.bool sg, .slice B (dq r32.num.natAbs) d, .slice B' (dq r32.den) d']] W' (BoolR W' true)) := fun W' A c A' c' B d B' d' h1 h2 h3 h4 => qis_h h1 h2 h3 h4 hsg (Nat.lt_of_le_of_lt (dl_le r32_bd.1) (by decide)) (Nat.lt_of_le_of_lt (dl_le r32_bd.2) (by decide))
  have CN : Hid (∀ W' A n c A' n' c', ZA W' sg A n c r32.num → Nm W' A' n' c' r32.den → Calls Tryz.prog 28 #[.agg #[.bool sg, .slice A n c, .slice A' n' c']] W' (QRs W' sn rm32)) := fun W' A n c A' n' c' h1 h2 => by rw [hsn]; exact rneg_h (qa_of h1 h2 r32_bd) (by decide) (by decide)
  have CF : Hid (∀ W' A n c A' n' c', ZA W' sn A n c rm32.num → Nm W' A' n' c' rm32.den → Calls Tryz.prog 35 #[.agg #[.bool sn, .slice A n c, .slice A' n' c']] W' (ZRs W' s2 im2)) := fun W' A n c A' n' c' h1 h2 => by rw [hs2]; exact floor_h (qa_of h1 h2 rm32_bd) (by decide) (by decide) rm32_floor
  have CI2 : Hid (∀ W', Calls Tryz.prog 39 #[.int .i64 (-2)] W' (RZs W' s2 im2)) := fun W' => by rw [hs2]; exact zint_h (z := im2) (by decide) (by decide)
  have CZI : Hid (∀ W' A c B d, ZA W' s2 A (dl im2.natAbs) c im2 → Rn W' B d im2.natAbs → Calls Tryz.prog 34 #[.agg #[.bool s2, .slice A (dl im2.natAbs) c], .agg #[.bool s2, .slice B (dq im2.natAbs) d]] W' (BoolR W' true)) := fun W' A c B d h1 h2 => by rw [hs2] at h1 ⊢; exact zis3_h h1 h2 (Nat.lt_of_le_of_lt (dl_le (k := 1) (by decide)) (by decide))
  clear hsg hsn hs2 hs3
  have HB := Bel.refl W
  go_enter Tryz.func6, Tryz.ntmps6
  go_wp2_with (first | (go_at_call 13; (with_reducible refine (CP.out _).mono ?_); rintro e w1 ⟨A, c, A', c', rfl, nz, nd, hbk⟩; replace HB := HB.up hbk) | fail)
  go_region_held3 (fun w' => w'.cell? ⟨w1.heap.size, 0, none⟩ = some (.bool sg) ∧ w'.cell? ⟨w1.heap.size, 1, none⟩ = some (.slice A (dl r32.num.natAbs) c) ∧ w'.cell? ⟨w1.heap.size, 2, none⟩ = some (.slice A' (dl r32.den) c'))
    (first | exact ⟨(at_new0 _ _ _).dr.c0, (at_new0 _ _ _).dr.c1, (at_new0 _ _ _).dr.c2⟩ | exact ⟨HP.c0, HP.c1, HP.c2⟩)
    (first | (go_at_call 16; (with_reducible refine (CT.out _ _ _ _ _ _ _ (nz.al _).dr (nd.al _).dr).mono ?_); rintro e w2 ⟨rfl, hbk⟩; have HP := At.up (at_new0 _ _ _).dr hbk; replace HB := (HB.al _).dr.up hbk; replace nz := (nz.al _).dr.up hbk; replace nd := (nd.al _).dr.up hbk) | (go_at_call 39; (with_reducible refine (CI3.out _).mono ?_); rintro e w3 ⟨B3, d3, rfl, k3, hbk⟩; replace HB := HB.up hbk; replace HP := HP.up hbk; replace nz := nz.up hbk; replace nd := nd.up hbk; replace k3 := Rn.of k3) | (go_at_call 40; (with_reducible refine (CS2.out _).mono ?_); rintro e w4 ⟨B4, d4, rfl, k4, hbk⟩; replace HB := HB.up hbk; replace HP := HP.up hbk; replace nz := nz.up hbk; replace nd := nd.up hbk; replace k3 := k3.up hbk; replace k4 := Rn.of k4) | (go_at_call 38; (with_reducible refine (CQ.out _ _ _ _ _ k3 k4).mono ?_); rintro e w5 ⟨B5, d5, B6, d6, rfl, k5, k6, hbk⟩; replace HB := HB.up hbk; replace HP := HP.up hbk; replace nz := nz.up hbk; replace nd := nd.up hbk) | (go_at_call 14; (with_reducible refine (CQI.out _ _ _ _ _ _ _ _ _ nz nd k5 k6).mono ?_); rintro e w6 ⟨rfl, hbk⟩; replace HB := HB.up hbk; replace HP := HP.up hbk; replace nz := nz.up hbk; replace nd := nd.up hbk) | (go_at_call 28; (with_reducible refine (CN.out _ _ _ _ _ _ _ nz nd).mono ?_); rintro e w7 ⟨B7, d7, B8, d8, rfl, mz, md, hbk⟩; replace HB := HB.up hbk; replace HP := HP.up hbk; replace nz := nz.up hbk; replace nd := nd.up hbk) | (go_at_call 35; (with_reducible refine (CF.out _ _ _ _ _ _ _ mz md).mono ?_); rintro e w8 ⟨B9, d9, rfl, fz, hbk⟩; replace HB := HB.up hbk; replace HP := HP.up hbk; replace nz := nz.up hbk; replace nd := nd.up hbk) | (go_at_call 39; (with_reducible refine (CI2.out _).mono ?_); rintro e w9 ⟨Ba, da, rfl, ka, hbk⟩; replace HB := HB.up hbk; replace HP := HP.up hbk; replace nz := nz.up hbk; replace nd := nd.up hbk; replace fz := fz.up hbk; replace ka := Rn.of ka) | (go_at_call 34; (with_reducible refine (CZI.out _ _ _ _ _ fz ka).mono ?_); rintro e wa ⟨rfl, hbk⟩; replace HB := HB.up hbk; replace HP := HP.up hbk; replace nz := nz.up hbk; replace nd := nd.up hbk) | fail)
  go_wp2
  go_ret
  exact ⟨rfl, HB⟩
end Go.Proofs.YtfknclimoihfdaaGreatDoor
end

section
/- Words for the statements of rat: a fraction that came in; bounds of sums, products, floors. No conditions. -/
open Go.RowKit
set_option maxRecDepth 100000
namespace Go.Proofs.YtfknclimoihfdaaGreatDoor
def Bd (r : Rat) (K : Nat) : Prop := r.num.natAbs < W32 ^ K ∧ r.den < W32 ^ K
theorem Bd.more {r : Rat} {K L : Nat} (h : Bd r K) (hl : K ≤ L) : Bd r L := ⟨Nat.lt_of_lt_of_le h.1 (Nat.pow_le_pow_right (by decide) hl), Nat.lt_of_lt_of_le h.2 (Nat.pow_le_pow_right (by decide) hl)⟩
theorem Bd.tt {r : Rat} {K : Nat} (h : Bd r K) : TT r.num r.den r K := ⟨r.den_pos, Rat.mkRat_self r, h.1, h.2⟩
theorem Bd.add {r r' : Rat} {K : Nat} (h : Bd r K) (h' : Bd r' K) : Bd (r + r') (K + K + 1) := by
  obtain ⟨h1, h2, h3, h4⟩ := tt_add h.tt h'.tt
  exact tt_bd ⟨h1, h2, h3, Nat.lt_of_lt_of_le h4 (Nat.pow_le_pow_right (by decide) (by omega))⟩
theorem Bd.mul {r r' : Rat} {K : Nat} (h : Bd r K) (h' : Bd r' K) : Bd (r * r') (K + K) := by
  obtain ⟨h1, h2, h3, h4⟩ := tt_mul h.tt h'.tt
  exact tt_bd ⟨h1, h2, h3, h4⟩
theorem Bd.neg {r : Rat} {K : Nat} (h : Bd r K) : Bd (-r) K := ⟨by rw [Rat.neg_num, Int.natAbs_neg]; exact h.1, h.2⟩
theorem bd_int {z : Int} {K : Nat} (h : z.natAbs < W32 ^ K) (hK : 0 < K) : Bd (z : Rat) K := ⟨h, Nat.one_lt_pow (by omega) (by decide)⟩
theorem bd_floor {r : Rat} {K : Nat} (h : Bd r K) : r.floor.natAbs < W32 ^ K := by
  rw [Rat.floor_def]
  exact Nat.lt_of_le_of_lt (Int.natAbs_ediv_le_natAbs _ _) h.1
theorem QA.more {W : World} {b : Bool} {A A' : Option Addr} {n c n' c' K L : Nat} {r : Rat} (h : QA W b A n c A' n' c' r K) (hl : K ≤ L) : QA W b A n c A' n' c' r L := by
  obtain ⟨z, d, h1, h2, h3, h4, h5⟩ := h
  exact ⟨z, d, h1, h2, h3, Nat.lt_of_lt_of_le h4 (Nat.pow_le_pow_right (by decide) hl), Nat.lt_of_lt_of_le h5 (Nat.pow_le_pow_right (by decide) hl)⟩
/-- What came in: a sign and two slices of words. -/
theorem qa_in {w : World} {b : Bool} {A A' : Option Addr} {n c n' c' : Nat} {ws ws' : List Nat} (h : n = ws.length ∧ n ≤ c ∧ Rd U32 w w.heap.size A ws ∧ Good32 ws) (h' : n' = ws'.length ∧ n' ≤ c' ∧ Rd U32 w w.heap.size A' ws' ∧ Good32 ws') (hn : n ≤ 12 ∧ n' ≤ 12) :
    QA w b A n c A' n' c' (mkRat (zi b (val W32 ws)) (val W32 ws')) 12 := by
  have lt : ∀ {l : List Nat} {k : Nat}, Good32 l → k = l.length → k ≤ 12 → val W32 l < W32 ^ 12 := fun hg hk h12 => Nat.lt_of_lt_of_le (val_lt _ hg) (Nat.pow_le_pow_right (by decide) (by omega))
  exact ⟨_, _, za_of (nm_later (later_of h (by omega)) (Below.refl _ _)), nm_later (later_of h' (by omega)) (Below.refl _ _), rfl, by rw [zi_abs]; exact lt h.2.2.2 h.1 hn.1, lt h'.2.2.2 h'.1 hn.2⟩
section
variable {W : World} {p q : Nat} {v0 v1 v2 x y z : Value} {vs : List Value}
theorem At.put3 (h : At W p [v0, v1, v2]) (x y z : Value) : At (((W.setCell ⟨p, 0, none⟩ x).setCell ⟨p, 1, none⟩ y).setCell ⟨p, 2, none⟩ z) p [x, y, z] :=
  ((h.put (i := 0) (by simp) x).put (i := 1) (by simp) y).put (i := 2) (by simp) z
theorem At.far3 (h : At W p vs) (hq : q ≠ p) (x y z : Value) : At (((W.setCell ⟨q, 0, none⟩ x).setCell ⟨q, 1, none⟩ y).setCell ⟨q, 2, none⟩ z) p vs :=
  ((h.far hq x).far hq y).far hq z
theorem ZA.put3 {s : Bool} {A : Option Addr} {n c : Nat} {u : Int} {b0 : Bool} {B0 B1 : Option Addr} {k0 d0 k1 d1 : Nat} (h : ZA W s A n c u) (hp : At W p [.bool b0, .slice B0 k0 d0, .slice B1 k1 d1]) {b : Bool} {B B' : Option Addr} {k d k' d' : Nat} :
    ZA (((W.setCell ⟨p, 0, none⟩ (.bool b)).setCell ⟨p, 1, none⟩ (.slice B k d)).setCell ⟨p, 2, none⟩ (.slice B' k' d')) s A n c u := ⟨h.1.put3 hp now3, h.2⟩
end
end Go.Proofs.YtfknclimoihfdaaGreatDoor
end
