/- Several texts in one, each with its own sentence and conditions. -/
import Derived.Test.YtfcamfkimnlfgaaGreatDoorGRsmc16
import Derived.Deep.RegionHeld3
import Derived.Test.YtfcamfkimnlfgaaGreatDoorGRsmc11
import Derived.Test.YtfcamfkimnlfgaaGreatDoorGRsmc3
import Derived.Laws.BytesArg
import Derived.Deep.LoopGhost
section
/- Package rat: isZero, isOne, times, terms. Conditions: at most 100000 words. -/
open Go.RowKit
set_option maxRecDepth 100000
namespace Go.Proofs.YtfcamfkimnlfgaaGreatDoor
theorem cmp_u {W : World} {A A' : Option Addr} {n n' c c' m m' : Nat} (h : Nm W A n c m) (h' : Nm W A' n' c' m') : Calls Tryz.prog 125 #[.agg #[.slice A n c], .agg #[.slice A' n' c']] W (IntPost W (cmpI m m')) := cmp_h h h' rfl
section
variable {W : World} {b b' : Bool} {A A' : Option Addr} {n n' c c' m m' : Nat} {z z' : Int}
theorem rzero_h (h : Nm W A n c m) : Calls Tryz.prog 85 #[.agg #[.slice A n c]] W (RetB W (decide (m = 0))) := by
  obtain ⟨u, hu⟩ : ∃ u, u = cmpI m 0 := ⟨_, rfl⟩
  have CC : Hid (∀ o, Calls Tryz.prog 125 #[.agg #[.slice A n c], .agg #[.slice none 0 0]] (W.alloc o) (IntPost (W.alloc o) u)) := fun o => by rw [hu]; exact cmp_u (h.al o) (nm_nil _ none 0)
  have HU : Hid ((u == 0) = decide (m = 0)) := by rw [hu]; exact cmpI_beq m 0
  clear h hu
  go_enter Tryz.func85, Tryz.ntmps85
  go_wp2_with (go_at_call 125; (with_reducible refine (CC.out _).mono ?_); rintro e w1 ⟨rfl, hbk⟩)
  go_ret
  exact ⟨bool_ret (by first | exact HU.out | (have := HU.out; simpa using this)), (bx1 hbk).2.2⟩
set_option maxHeartbeats 1000000 in
theorem rone_h (h : Nm W A n c m) : Calls Tryz.prog 101 #[.agg #[.slice A n c]] W (RetB W (decide (m = 1))) := by
  obtain ⟨u, hu⟩ : ∃ u, u = cmpI m 1 := ⟨_, rfl⟩
  have CO : Hid (∀ W', Calls Tryz.prog 77 #[.int .u64 1] W' (NumR W' 1)) := fun W' => of_h (v := 1) (by omega)
  have CC : Hid (∀ W' B d, Bel W W' → Nm W' B (dl 1) d 1 → Calls Tryz.prog 125 #[.agg #[.slice A n c], .agg #[.slice B (dl 1) d]] W' (IntPost W' u)) := fun W' B d hb h1 => by rw [hu]; exact cmp_u (h.up hb) h1
  have HU : Hid ((u == 0) = decide (m = 1)) := by rw [hu]; exact cmpI_beq m 1
  clear h hu
  go_enter Tryz.func101, Tryz.ntmps101
  go_wp2_with fail
  have HA := (at_new0 W [.slice A n c] 24).dr
  have HW := ((Bel.refl W).al (.cells #[.slice A n c] 24)).dr
  go_region_held3 (fun w' => w'.cell? ⟨W.heap.size, 0, none⟩ = some (.slice A n c)) (first | exact HA.c0)
    (first | (go_at_call 77; (with_reducible refine (CO.out _).mono ?_); rintro e w1 ⟨B, d, rfl, hn, hbk⟩; replace HA := HA.up hbk; replace HW := HW.up hbk) | (go_at_call 125; (with_reducible refine (CC.out _ _ _ HW hn).mono ?_); rintro e w2 ⟨rfl, hbk⟩; replace HW := HW.up hbk; replace HA := HA.up hbk) | fail)
  go_wp2
  go_ret
  exact ⟨bool_ret (by first | exact HU.out | (have := HU.out; simpa using this)), HW⟩

/-- What a call leaves that returns an integer: as ZR, with a sign of its own name. -/
theorem ret_z {w2 : World} {B : Option Addr} {d p : Nat} {v : Int} {v0 v1 : Value} (hW : Bel W w2) (hp : W.heap.size ≤ p) (hR : At w2 p [v0, v1]) (hw : NoW [v0, v1]) (hn : ZA w2 (decide (v < 0)) B (dl v.natAbs) d v) :
    ZR W v (.returned (.agg #[.bool (decide (v < 0)), .slice B (dl v.natAbs) d])) ((w2.setCell ⟨p, 0, none⟩ (.bool (decide (v < 0)))).setCell ⟨p, 1, none⟩ (.slice B (dl v.natAbs) d)) := by
  refine ⟨B, d, rfl, ⟨?_, hn.2⟩, (Below.setCell hW hp _).setCell hp _⟩
  exact (hn.1.put (i := 0) hR (by simp) hw _).put (i := 1) (hR.put (i := 0) (by simp) _) (by simp) (by
    intro u hu x
    simp at hu
    rcases hu with rfl | rfl
    · intro e; cases e
    · exact hw _ (by simp) x) _
theorem now2 {b : Bool} {A : Option Addr} {n c : Nat} : NoW [.bool b, .slice A n c] := by
  intro u hu x
  simp at hu
  rcases hu with rfl | rfl <;> (intro e; cases e)
theorem now1 {A : Option Addr} {n c : Nat} : NoW [.slice A n c] := by
  intro u hu x
  simp at hu
  subst hu
  intro e; cases e
theorem now3 {b : Bool} {A A' : Option Addr} {n c n' c' : Nat} : NoW [.bool b, .slice A n c, .slice A' n' c'] := by
  intro u hu x
  simp at hu
  rcases hu with rfl | rfl | rfl <;> (intro e; cases e)
set_option maxHeartbeats 1000000 in
theorem times_h {v : Int} (h : ZA W b A n c z) (h' : Nm W A' n' c' m) (hv : z * (m : Int) = v) (hd : dl v.natAbs ≤ 100000) : Calls Tryz.prog 90 #[.agg #[.bool b, .slice A n c], .agg #[.slice A' n' c']] W (ZR W v) := by
  have CM : Hid (∀ W', Bel W W' → Calls Tryz.prog 97 #[.agg #[.bool b, .slice A n c], .agg #[.bool false, .slice A' n' c']] W' (ZR W' v)) := fun W' hb => zmul_h (h.up hb) (za_of (b := false) (h'.up hb)) hv hd
  clear h h' hv hd
  go_enter Tryz.func90, Tryz.ntmps90
  have HB := Bel.refl W
  go_wp2_with (first | (go_at_call 97; (with_reducible refine (CM.out _ (((HB.al _).al _).al _)).mono ?_); rintro e w1 ⟨B, d, rfl, hn, hbk⟩; have HR := At.up (at_new2 _ _ _ _ _) hbk; replace HB := (((HB.al _).al _).al _).up hbk; have r0 := HR.c0; have r1 := HR.c1; have f0 := HR.f0; have f1 := HR.f1) | fail)
  refine bodyPost_ret (v := .agg #[.bool (decide (v < 0)), .slice B (dl v.natAbs) d]) (by simp [results, Tryz.results90, go_sem, r0, r1]) rfl ?_
  exact ret_z HB (by omega) HR now2 hn

/-- In world W the sign and the two slices tell the fraction r; the terms have at most K words. -/
def QA (W : World) (b : Bool) (A : Option Addr) (n c : Nat) (A' : Option Addr) (n' c' : Nat) (r : Rat) (K : Nat) : Prop :=
  ∃ (z : Int) (d : Nat), ZA W b A n c z ∧ Nm W A' n' c' d ∧ Hid (mkRat z d = r ∧ z.natAbs < W32 ^ K ∧ d < W32 ^ K)
theorem QA.up {W W' : World} {b : Bool} {A A' : Option Addr} {n c n' c' K : Nat} {r : Rat} (h : QA W b A n c A' n' c' r K) (hb : Hid (Below W.heap.size W W')) : QA W' b A n c A' n' c' r K := by
  obtain ⟨z, d, h1, h2, h3⟩ := h
  exact ⟨z, d, h1.up hb, h2.up hb, h3⟩
theorem QA.al {W : World} {b : Bool} {A A' : Option Addr} {n c n' c' K : Nat} {r : Rat} (h : QA W b A n c A' n' c' r K) (o : Obj) : QA (W.alloc o) b A n c A' n' c' r K := h.up ((Below.refl _ _).alloc (Nat.le_refl _) o)
theorem QA.dr {W : World} {b : Bool} {A A' : Option Addr} {n c n' c' K : Nat} {r : Rat} (h : QA W b A n c A' n' c' r K) : QA W.drew b A n c A' n' c' r K := h
/-- What terms leaves: over and under the line. -/
def TermsR (W : World) (r : Rat) (K : Nat) (e : Ending) (w' : World) : Prop :=
  ∃ b A n c A' n' c' z d, e = .returned (.tuple #[.agg #[.bool b, .slice A n c], .agg #[.slice A' n' c']]) ∧ ZA w' b A n c z ∧ Nm w' A' n' c' d ∧ Hid (0 < d ∧ mkRat z d = r ∧ z.natAbs < W32 ^ K ∧ d < W32 ^ K) ∧ Hid (Below W.heap.size W w')
theorem dl_one : dl 1 = 1 := by unfold dl; rw [digs_pos (by decide) (by decide)]; rw [show 1 / W32 = 0 from rfl, digs_zero]; rfl
set_option maxHeartbeats 2000000 in
theorem terms_h {r : Rat} {K : Nat} (h : QA W b A n c A' n' c' r K) (hK : 0 < K) : Calls Tryz.prog 74 #[.agg #[.bool b, .slice A n c, .slice A' n' c']] W (TermsR W r K) := by
  obtain ⟨z, d, hz, hd, hr⟩ := h
  have CZ : Hid (∀ W', Bel W W' → Calls Tryz.prog 85 #[.agg #[.slice A' n' c']] W' (RetB W' (decide (d = 0)))) := fun W' hb => rzero_h (hd.up hb)
  have HB := Bel.refl W
  by_cases h0 : d = 0
  · have HP : Hid (0 < 1 ∧ mkRat 0 1 = r ∧ (0 : Int).natAbs < W32 ^ K ∧ 1 < W32 ^ K) := by
      refine ⟨by decide, ?_, ?_, Nat.one_lt_pow (by omega) (by decide)⟩
      · rw [← hr.out.1, h0]; simp
      · exact Nat.pow_pos (by decide)
    rw [decide_eq_true h0] at CZ
    have CO : Hid (∀ W', Calls Tryz.prog 77 #[.int .u64 1] W' (NumR W' 1)) := fun W' => of_h (v := 1) (by omega)
    clear h0 hr hz hd
    go_enter Tryz.func74, Tryz.ntmps74
    go_wp2_with (first | (go_at_call 85; (with_reducible refine (CZ.out _ (((HB.al _).al _).al _)).mono ?_); rintro e w1 ⟨rfl, hbk⟩; have HQ := At.up (((at_new0 _ _ _).al _).al _) hbk; have HP0 := At.up ((at_new1 _ _ _ _).al _) hbk; have HP1 := At.up (at_new2 _ _ _ _ _) hbk; replace HB := (((HB.al _).al _).al _).up hbk) | (go_at_call 77; (with_reducible refine (CO.out _).mono ?_); rintro e w2 ⟨B, e2, rfl, hn, hbk⟩; replace HB := HB.up hbk; replace HQ := HQ.up hbk; replace HP0 := HP0.up hbk; replace HP1 := HP1.up hbk; have r0 := HP0.c0; have r1 := HP0.c1; have f0 := HP0.f0; have f1 := HP0.f1; have r2 := HP1.c0; have f2 := HP1.f0) | fail)
    refine bodyPost_ret (v := .tuple #[.agg #[.bool false, .slice none 0 0], .agg #[.slice B (dl 1) e2]]) (by simp [results, Tryz.results74, go_sem, r0, r1, r2]) rfl ?_
    have P0 := HP0.put (i := 0) (by simp) (.bool false)
    have P1 := P0.put (i := 1) (by simp) (.slice none 0 0)
    have Q1 := (HP1.far (i := 0) (show W.heap.size + 1 ≠ W.heap.size + 1 + 1 by omega) (.bool false)).far (i := 1) (show W.heap.size + 1 ≠ W.heap.size + 1 + 1 by omega) (.slice none 0 0)
    refine ⟨false, none, 0, 0, B, dl 1, e2, 0, 1, rfl, ⟨nm_nil _ _ _, rfl⟩, ?_, HP, ?_⟩
    · exact ((hn.put HP0 (by simp) now2 _).put P0 (by simp) now2 _).put Q1 (by simp) now1 _
    · exact (((Below.setCell HB (by simp) _).setCell (by simp) _).setCell (by simp; omega) _)
  · have HP : Hid (0 < d ∧ mkRat z d = r ∧ z.natAbs < W32 ^ K ∧ d < W32 ^ K) := ⟨by omega, hr.out⟩
    rw [decide_eq_false h0] at CZ
    clear h0 hr
    go_enter Tryz.func74, Tryz.ntmps74
    go_wp2_with (first | (go_at_call 85; (with_reducible refine (CZ.out _ (((HB.al _).al _).al _)).mono ?_); rintro e w1 ⟨rfl, hbk⟩; have HQ := At.up (((at_new0 _ _ _).al _).al _) hbk; have HP0 := At.up ((at_new1 _ _ _ _).al _) hbk; have HP1 := At.up (at_new2 _ _ _ _ _) hbk; replace HB := (((HB.al _).al _).al _).up hbk; replace hz := (((hz.al _).al _).al _).up hbk; replace hd := (((hd.al _).al _).al _).up hbk; have r0 := HP0.c0; have r1 := HP0.c1; have f0 := HP0.f0; have f1 := HP0.f1; have r2 := HP1.c0; have f2 := HP1.f0; have q0 := HQ.c0; have q1 := HQ.c1; have q2 := HQ.c2) | fail)
    go_region_with (fail)
    all_goals
      go_wp2_with fail
      refine bodyPost_ret (v := .tuple #[.agg #[.bool b, .slice A n c], .agg #[.slice A' n' c']]) (by simp [results, Tryz.results74, go_sem, r0, r1, r2]) rfl ?_
      have P0 := HP0.put (i := 0) (by simp) (.bool b)
      have P1 := P0.put (i := 1) (by simp) (.slice A n c)
      have Q1 := (HP1.far (i := 0) (show W.heap.size + 1 ≠ W.heap.size + 1 + 1 by omega) (.bool b)).far (i := 1) (show W.heap.size + 1 ≠ W.heap.size + 1 + 1 by omega) (.slice A n c)
      refine ⟨b, A, n, c, A', n', c', z, d, rfl, ⟨?_, hz.2⟩, ?_, HP, ?_⟩
      · exact ((hz.1.put HP0 (by simp) now2 _).put P0 (by simp) now2 _).put Q1 (by simp) now1 _
      · exact ((hd.put HP0 (by simp) now2 _).put P0 (by simp) now2 _).put Q1 (by simp) now1 _
      · exact (((Below.setCell HB (by simp) _).setCell (by simp) _).setCell (by simp; omega) _).drew
end
end Go.Proofs.YtfcamfkimnlfgaaGreatDoor
end

section
/- Package rat: lowest, Of, Int. Conditions: less than 100000 words. -/
open Go.RowKit
set_option maxRecDepth 100000
namespace Go.Proofs.YtfcamfkimnlfgaaGreatDoor
def DivV (W : World) (q r : Nat) (e : Ending) (w' : World) : Prop :=
  ∃ A c A' c', e = .returned (.tuple #[.agg #[.slice A (dl q) c], .agg #[.slice A' (dl r) c'], .bool true]) ∧ Nm w' A (dl q) c q ∧ Nm w' A' (dl r) c' r ∧ Hid (Below W.heap.size W w')
/-- What a call leaves that returns a fraction: valid. -/
def QR (W : World) (r : Rat) (e : Ending) (w' : World) : Prop :=
  ∃ A c A' c', e = .returned (.agg #[.bool (decide (r.num < 0)), .slice A (dl r.num.natAbs) c, .slice A' (dl r.den) c']) ∧ ZA w' (decide (r.num < 0)) A (dl r.num.natAbs) c r.num ∧ Nm w' A' (dl r.den) c' r.den ∧ Hid (Below W.heap.size W w')
theorem below3 {W w2 : World} {p : Nat} (h : Bel W w2) (hp : W.heap.size ≤ p) (x y z : Value) : Bel W (((w2.setCell ⟨p, 0, none⟩ x).setCell ⟨p, 1, none⟩ y).setCell ⟨p, 2, none⟩ z) :=
  ((Below.setCell h hp _).setCell hp _).setCell hp _
theorem Nm.put3 {W : World} {p : Nat} {v0 v1 v2 : Value} {A : Option Addr} {n c m : Nat} (h : Nm W A n c m) (hp : At W p [v0, v1, v2]) (hw : NoW [v0, v1, v2]) {b : Bool} {B B' : Option Addr} {k d k' d' : Nat} :
    Nm (((W.setCell ⟨p, 0, none⟩ (.bool b)).setCell ⟨p, 1, none⟩ (.slice B k d)).setCell ⟨p, 2, none⟩ (.slice B' k' d')) A n c m := by
  have h1 := hp.put (i := 0) (by simp) (.bool b)
  have h2 := h1.put (i := 1) (by simp) (.slice B k d)
  have w1 : NoW [.bool b, v1, v2] := by
    intro u hu x; simp at hu
    rcases hu with rfl | rfl | rfl
    · intro e; cases e
    · exact hw _ (by simp) x
    · exact hw _ (by simp) x
  have w2 : NoW [.bool b, .slice B k d, v2] := by
    intro u hu x; simp at hu
    rcases hu with rfl | rfl | rfl
    · intro e; cases e
    · intro e; cases e
    · exact hw _ (by simp) x
  exact ((h.put hp (by simp) hw _).put h1 (by simp) w1 _).put h2 (by simp) w2 _
section
variable {W : World} {b b' : Bool} {A A' : Option Addr} {n n' c c' m m' : Nat} {z z' : Int}
theorem div_v {q r : Nat} (h : Nm W A n c m) (h' : Nm W A' n' c' m') (h0 : 0 < m') (hd : dl m ≤ 99999) (hq : m / m' = q) (hr : m % m' = r) : Calls Tryz.prog 108 #[.agg #[.slice A n c], .agg #[.slice A' n' c']] W (DivV W q r) := by
  subst hq; subst hr
  exact div_h h h' h0 hd
set_option maxHeartbeats 4000000 in
theorem lowest_h {r : Rat} {d : Nat} (hz : ZA W b A n c z) (hd : Nm W A' n' c' d) (h0 : 0 < d) (hr : mkRat z d = r) (bz : dl z.natAbs ≤ 99999) (bd : dl d ≤ 99999) :
    Calls Tryz.prog 81 #[.agg #[.bool b, .slice A n c], .agg #[.slice A' n' c']] W (QR W r) := by
  obtain ⟨g, hg⟩ : ∃ g, g = Nat.gcd z.natAbs d := ⟨_, rfl⟩
  obtain ⟨hg0, e1, e2, e3, e4, e5⟩ := low_terms (z := z) h0 hg
  rw [hr] at e1 e2 e5
  obtain ⟨v, hv⟩ : ∃ v, v = r.num.natAbs := ⟨_, rfl⟩
  obtain ⟨u, hu⟩ : ∃ u, u = r.den := ⟨_, rfl⟩
  obtain ⟨s, hs⟩ : ∃ s, s = z.sign := ⟨_, rfl⟩
  have CG : Hid (∀ W', Bel W W' → Calls Tryz.prog 137 #[.agg #[.slice A n c], .agg #[.slice A' n' c']] W' (NumR W' g)) := fun W' hb => gcd_h (hz.up hb).1 (hd.up hb) hg.symm bz bd
  have CD : Hid (∀ W' B e, Bel W W' → Nm W' B (dl g) e g → Calls Tryz.prog 108 #[.agg #[.slice A n c], .agg #[.slice B (dl g) e]] W' (DivV W' v 0)) := fun W' B e hb hn => div_v (hz.up hb).1 hn hg0 bz (by rw [hv, e1]) e3
  have CE : Hid (∀ W' B e, Bel W W' → Nm W' B (dl g) e g → Calls Tryz.prog 108 #[.agg #[.slice A' n' c'], .agg #[.slice B (dl g) e]] W' (DivV W' u 0)) := fun W' B e hb hn => div_v (hd.up hb) hn hg0 bd (by rw [hu, e2]) e4
  have CS : Hid (∀ W', Bel W W' → Calls Tryz.prog 88 #[.agg #[.bool b, .slice A n c]] W' (IntPost W' s)) := fun W' hb => sign_h (hz.up hb) hs.symm
  have HS : Hid (decide (s < 0) = decide (r.num < 0)) := by
    unfold Hid
    rw [e5, hs]
    by_cases h : z < 0
    · rw [Int.sign_eq_neg_one_of_neg h, decide_eq_true h]; rfl
    · rw [decide_eq_false h]
      refine decide_eq_false fun h2 => h ?_
      exact Int.sign_neg_iff.1 h2
  have HV := hide hv
  have HU := hide hu
  clear hz hd h0 hr bz bd hg hg0 e1 e2 e3 e4 e5 hv hu hs
  have HB := Bel.refl W
  go_enter Tryz.func81, Tryz.ntmps81
  go_wp2_with (first | (go_at_call 137; (with_reducible refine (CG.out _ (((HB.al _).al _).al _)).mono ?_); rintro e w1 ⟨Ag, cg, rfl, ng, hbk⟩; have HP := At.up (((at_new0 _ _ _).al _).al _) hbk; have HN := At.up ((at_new1 _ _ _ _).al _) hbk; have HR := At.up (at_new2 _ _ _ _ _) hbk; replace HB := (((HB.al _).al _).al _).up hbk; have hp_0 := HP.c0; have hp_1 := HP.c1; have hp_l := HP.lt; have hn_0 := HN.c0; have hn_l := HN.lt) | (go_at_call 108; (with_reducible refine (CD.out _ _ _ (HB.al _) (ng.al _)).mono ?_); rintro e w2 ⟨Ao, co, Ax, cx, rfl, no, nx, hbk⟩; have HG := At.up (at_new0 _ _ _) hbk; replace HB := (HB.al _).up hbk; replace HP := (HP.al _).up hbk; replace HN := (HN.al _).up hbk; replace HR := (HR.al _).up hbk; replace ng := (ng.al _).up hbk; clear hp_0 hp_1 hp_l hn_0 hn_l; have hp_0 := HP.c0; have hp_1 := HP.c1; have hp_l := HP.lt; have hn_0 := HN.c0; have hn_l := HN.lt; have hg_0 := HG.c0; have hg_l := HG.lt; have hL2 := HR.lt) | (go_at_call 108; (with_reducible refine (CE.out _ _ _ ((HB.al _).al _) ((ng.al _).al _)).mono ?_); rintro e w3 ⟨Au, cu, Ay, cy, rfl, nu, ny, hbk⟩; have HO := At.up ((at_new0 _ _ _).al _) hbk; have HX := At.up (at_new1 _ _ _ _) hbk; replace HB := ((HB.al _).al _).up hbk; replace HP := ((HP.al _).al _).up hbk; replace HN := ((HN.al _).al _).up hbk; replace HR := ((HR.al _).al _).up hbk; replace no := ((no.al _).al _).up hbk; clear hp_0 hp_1 hp_l hn_0 hn_l hg_0 hg_l; have hL3 := HR.lt) | fail)
  have HQ := ((at_new0 w3 [.slice Au (dl u) cu] 24).al (.cells #[.slice Ay (dl 0) cy] 24)).dr
  replace HB := ((HB.al (.cells #[.slice Au (dl u) cu] 24)).al (.cells #[.slice Ay (dl 0) cy] 24)).dr
  replace HP := ((HP.al (.cells #[.slice Au (dl u) cu] 24)).al (.cells #[.slice Ay (dl 0) cy] 24)).dr
  replace HO := ((HO.al (.cells #[.slice Au (dl u) cu] 24)).al (.cells #[.slice Ay (dl 0) cy] 24)).dr
  replace HR := ((HR.al (.cells #[.slice Au (dl u) cu] 24)).al (.cells #[.slice Ay (dl 0) cy] 24)).dr
  have no2 := ((no.al (.cells #[.slice Au (dl u) cu] 24)).al (.cells #[.slice Ay (dl 0) cy] 24)).dr
  have nu2 := ((nu.al (.cells #[.slice Au (dl u) cu] 24)).al (.cells #[.slice Ay (dl 0) cy] 24)).dr
  go_region_held3 (fun w' => w'.cell? ⟨W.heap.size, 0, none⟩ = some (.bool b) ∧ w'.cell? ⟨W.heap.size, 1, none⟩ = some (.slice A n c) ∧ w'.cell? ⟨w2.heap.size, 0, none⟩ = some (.slice Ao (dl v) co) ∧ w'.cell? ⟨w3.heap.size, 0, none⟩ = some (.slice Au (dl u) cu))
    (first | exact ⟨HP.c0, HP.c1, HO.c0, HQ.c0⟩ | exact ⟨(((HP.far (by omega) _).far (by omega) _).far (by omega) _).c0, (((HP.far (by omega) _).far (by omega) _).far (by omega) _).c1, (((HO.far (by omega) _).far (by omega) _).far (by omega) _).c0, (((HQ.far (by omega) _).far (by omega) _).far (by omega) _).c0⟩)
    (first | (go_at_call 88; (with_reducible refine (CS.out _ HB).mono ?_); rintro e w4 ⟨rfl, hbk⟩; replace HB := HB.up hbk; replace HP := HP.up hbk; replace HO := HO.up hbk; replace HQ := HQ.up hbk; replace HR := HR.up hbk; replace no2 := no2.up hbk; replace nu2 := nu2.up hbk; have hr_0 := HR.c0; have hr_1 := HR.c1; have hr_2 := HR.c2; have hr_l := HR.lt; have hr_f0 := HR.f0; have hr_f1 := HR.f1; have hr_f2 := HR.f2) | fail)
  go_wp2_with fail
  refine bodyPost_ret (v := .agg #[.bool (decide (s < 0)), .slice Ao (dl v) co, .slice Au (dl u) cu]) (by simp [results, Tryz.results81, go_sem, hr_0, hr_1, hr_2]) rfl ?_
  have hv := HV.out
  have hu := HU.out
  subst hv
  subst hu
  rw [HS.out]
  exact ⟨Ao, co, Au, cu, rfl, zr_of (no2.put3 HR now3), nu2.put3 HR now3, below3 HB (by omega) _ _ _⟩
end
end Go.Proofs.YtfcamfkimnlfgaaGreatDoor
end

section
/- The document's own integers and fractions: ZOf, QOf. Conditions: less than 100000 fours of digits. -/
open Go.RowKit
set_option maxRecDepth 100000
namespace Go.Proofs.YtfcamfkimnlfgaaGreatDoor
/-- No number stands in a box of flags and slices. -/
def NoI (vs : List Value) : Prop := ∀ v ∈ vs, ∀ x : Nat, v ≠ I64 x
theorem RN.putn {W : World} {B p i : Nat} {vs : List Value} {A : Option Addr} {c m : Nat} (h : RN W B A c m) (hp : At W p vs) (hi : i < vs.length) (hw : NoI vs) (u : Value) : RN (W.setCell ⟨p, i, none⟩ u) B A c m :=
  h.setn (hp.all i _ (List.getElem?_eq_getElem hi)).1 (hw _ (List.getElem_mem hi)) u
/-- In world W the document's own number stands there. -/
def Rn (W : World) (A : Option Addr) (c m : Nat) : Prop := RN W W.heap.size A c m
theorem Rn.up {W W' : World} {A : Option Addr} {c m : Nat} (h : Rn W A c m) (hb : Hid (Below W.heap.size W W')) : Rn W' A c m := (RN.below h hb.out).more hb.out.size
theorem Rn.al {W : World} {A : Option Addr} {c m : Nat} (h : Rn W A c m) (o : Obj) : Rn (W.alloc o) A c m := h.up ((Below.refl _ _).alloc (Nat.le_refl _) o)
theorem Rn.dr {W : World} {A : Option Addr} {c m : Nat} (h : Rn W A c m) : Rn W.drew A c m := h
theorem Rn.of {W : World} {A : Option Addr} {c m : Nat} (h : Hid (RN W W.heap.size A c m)) : Rn W A c m := h
theorem Rn.put {W : World} {p i : Nat} {vs : List Value} {A : Option Addr} {c m : Nat} (h : Rn W A c m) (hp : At W p vs) (hi : i < vs.length) (hw : NoI vs) (u : Value) : Rn (W.setCell ⟨p, i, none⟩ u) A c m := by
  have h1 := RN.putn h hp hi hw u
  have e : (W.setCell ⟨p, i, none⟩ u).heap.size = W.heap.size := by simp [World.setCell]
  unfold Rn
  rw [e]; exact h1
theorem noi2 {b : Bool} {A : Option Addr} {n c : Nat} : NoI [.bool b, .slice A n c] := by
  intro u hu x
  simp at hu
  rcases hu with rfl | rfl <;> (intro e; cases e)
theorem noi3 {b : Bool} {A A' : Option Addr} {n c n' c' : Nat} : NoI [.bool b, .slice A n c, .slice A' n' c'] := by
  intro u hu x
  simp at hu
  rcases hu with rfl | rfl | rfl <;> (intro e; cases e)
theorem Rn.put2 {W : World} {p : Nat} {b0 : Bool} {B0 : Option Addr} {k0 d0 : Nat} {A : Option Addr} {c m : Nat} (h : Rn W A c m) (hp : At W p [.bool b0, .slice B0 k0 d0]) {b : Bool} {B : Option Addr} {k d : Nat} :
    Rn ((W.setCell ⟨p, 0, none⟩ (.bool b)).setCell ⟨p, 1, none⟩ (.slice B k d)) A c m :=
  (h.put hp (by simp) noi2 _).put (hp.put (i := 0) (by simp) (.bool b)) (by simp) noi2 _
theorem Rn.put3 {W : World} {p : Nat} {b0 : Bool} {B0 B1 : Option Addr} {k0 d0 k1 d1 : Nat} {A : Option Addr} {c m : Nat} (h : Rn W A c m) (hp : At W p [.bool b0, .slice B0 k0 d0, .slice B1 k1 d1]) {b : Bool} {B B' : Option Addr} {k d k' d' : Nat} :
    Rn (((W.setCell ⟨p, 0, none⟩ (.bool b)).setCell ⟨p, 1, none⟩ (.slice B k d)).setCell ⟨p, 2, none⟩ (.slice B' k' d')) A c m :=
  ((h.put hp (by simp) noi3 _).put (hp.put (i := 0) (by simp) (.bool b)) (by simp) noi3 _).put ((hp.put (i := 0) (by simp) (.bool b)).put (i := 1) (by simp) (.slice B k d)) (by simp) noi3 _
/-- What a call of the document's own leaves that returns a fraction. -/
def RQ (W : World) (r : Rat) (e : Ending) (w' : World) : Prop := ∃ A c A' c', e = .returned (.agg #[.bool (decide (r.num < 0)), .slice A (dq r.num.natAbs) c, .slice A' (dq r.den) c']) ∧ Rn w' A c r.num.natAbs ∧ Rn w' A' c' r.den ∧ Hid (Below W.heap.size W w')
def RZb (W : World) (b : Bool) (A : Option Addr) (n c m : Nat) (e : Ending) (w' : World) : Prop := e = .returned (.agg #[.bool b, .slice A n c]) ∧ Rn w' A c m ∧ Hid (Below W.heap.size W w')
theorem rn_two {W w0 : World} {p : Nat} {b0 : Bool} {B0 : Option Addr} {k0 d0 : Nat} {A : Option Addr} {c m : Nat} (hp : At W p [.bool b0, .slice B0 k0 d0]) (h : Rn W A c m) (hb : Bel w0 W) (hq : w0.heap.size ≤ p) (b : Bool) (n : Nat) :
    RZb w0 b A n c m (.returned (.agg #[.bool b, .slice A n c])) ((W.setCell ⟨p, 0, none⟩ (.bool b)).setCell ⟨p, 1, none⟩ (.slice A n c)) :=
  ⟨rfl, h.put2 hp, (Below.setCell hb hq _).setCell hq _⟩
section
variable {W : World} {A A' : Option Addr} {c c' m : Nat} {z : Int}
set_option maxHeartbeats 1000000 in
theorem rzof_h {b s : Bool} (h : Rn W A c m) (hs : s = (b && decide (0 < m))) : Calls Tryz.prog 73 #[.bool b, .slice A (dq m) c] W (RZb W s A (dq m) c m) := by
  have HE : Hid (∀ o, Rn (W.alloc o) A c m) := fun o => h.al o
  by_cases h0 : 0 < m
  · have h1 : 0 < dq m := dq_pos.2 h0
    have HS : Hid (s = b) := by unfold Hid; rw [hs, decide_eq_true h0, Bool.and_true]
    clear hs h h0
    cases b
    · go_enter Tryz.func73, Tryz.ntmps73
      go_wp2
      exact bodyPost_ret (v := .agg #[.bool false, .slice A (dq m) c]) (by simp [results, Tryz.results73, go_sem]) rfl ⟨by rw [HS.out], HE.out _, ((Bel.refl W).al _).hid⟩
    · go_enter Tryz.func73, Tryz.ntmps73
      go_wp2
      exact bodyPost_ret (v := .agg #[.bool true, .slice A (dq m) c]) (by simp [results, Tryz.results73, go_sem]) rfl ⟨by rw [HS.out], HE.out _, ((Bel.refl W).al _).hid⟩
  · have h1 : dq m = 0 := by have := dq_pos (n := m); omega
    have HS : Hid (s = false) := by unfold Hid; rw [hs, decide_eq_false h0, Bool.and_false]
    have HZ := hide h1
    clear hs h h0
    cases b
    all_goals
      go_enter Tryz.func73, Tryz.ntmps73
      go_wp2
      exact bodyPost_ret (v := .agg #[.bool false, .slice A 0 c]) (by simp [results, Tryz.results73, go_sem]) rfl ⟨by rw [HS.out, HZ.out], HE.out _, ((Bel.refl W).al _).hid⟩

theorem dq_mono {a b : Nat} (h : a ≤ b) : dq a ≤ dq b := digs_len_mono (b := D4) (by decide) h
theorem rz_of {s : Bool} {A : Option Addr} {c : Nat} {z : Int} {w' : World} {e : Ending} (h : RZb W s A (dq z.natAbs) c z.natAbs e w') (hs : s = decide (z < 0)) : RZ W z e w' := ⟨A, c, by rw [h.1, hs], h.2.1, h.2.2⟩
theorem zsig {b : Bool} {z : Int} (h : z = zi b z.natAbs) : decide (z < 0) = (b && decide (0 < z.natAbs)) := by
  cases b
  · rw [zi_false] at h; rw [Bool.false_and]; exact decide_eq_false (by omega)
  · rw [zi_true] at h
    by_cases h0 : 0 < z.natAbs
    · rw [decide_eq_true h0, Bool.true_and]; exact decide_eq_true (by omega)
    · rw [decide_eq_false h0, Bool.and_false]; exact decide_eq_false (by omega)
end
end Go.Proofs.YtfcamfkimnlfgaaGreatDoor
end

section
/- The document's own numbers: Text. Conditions: at most 100000 fours of digits. -/
open Go.RowKit
set_option maxRecDepth 100000
namespace Go.Proofs.YtfcamfkimnlfgaaGreatDoor
def DigR (w : World) (n least : Nat) (e : Ending) (w' : World) : Prop :=
  ∃ (t : ByteArray) (D : List Nat), e = .returned (.string t) ∧ Hid (t.data.toList = (D.map letter).reverse) ∧ Hid (∀ d ∈ D, d < 10) ∧ Hid (val 10 D = n) ∧ Hid (least ≤ D.length ∧ D.length ≤ 4) ∧ Hid (least < D.length → ∀ x, D.getLast? = some x → x ≠ 0) ∧ Hid (Below w.heap.size w w')
theorem one_conv (W : World) {d : Nat} (h : d < 10) : (convert 167 9 (.slice (some ⟨W.heap.size, 0, none⟩) 1 1)).run Tryz.prog (W.alloc (.cells #[.int .u8 (48 + (d : Int))] 5)) = .ok (.string ⟨#[letter d]⟩) (W.alloc (.cells #[.int .u8 (48 + (d : Int))] 5)) := by
  have h1 := run_convert_bytes_back (P := Tryz.prog) (W.alloc (.cells #[.int .u8 (48 + (d : Int))] 5)) 167 9 5 ⟨W.heap.size, 0, none⟩ 1 [letter d] Tryz.underlying167 Tryz.underlying5 Tryz.underlying9 (fun j hj => by
    have hj' : j = 0 := by simpa using hj
    subst hj'
    have e : (⟨W.heap.size, 0, none⟩ : Addr).add 0 = ⟨W.heap.size, 0, none⟩ := by unfold Addr.add; simp
    rw [e, (one_cell (heap_alloc_new W (.cells #[.int .u8 (48 + (d : Int))] 5))).1]
    simp [letter_toNat h])
  exact h1
theorem pow10_le {k v n : Nat} {V : Nat} (h : V + 10 ^ k * v = n) (hn : n ≤ 9999) (hv : 0 < v) : k ≤ 3 := by
  rcases Nat.lt_or_ge 3 k with h1 | h1
  · have h2 : 10 ^ 4 ≤ 10 ^ k := Nat.pow_le_pow_right (by decide) h1
    have h3 : 10 ^ k ≤ 10 ^ k * v := Nat.le_mul_of_pos_right _ hv
    omega
  · exact h1
set_option maxHeartbeats 2000000 in
theorem digits_any {n least : Nat} {w : World} (hn : n ≤ 9999) (hl : least ≤ 4) : Calls Tryz.prog 147 #[.int .i64 (n : Int), .int .i64 (least : Int)] w (DigR w n least) := by
  have CV := hide (fun (W : World) (d : Nat) (h : d < 10) => one_conv W h)
  have HN := hide hn
  go_enter Tryz.func147, Tryz.ntmps147
  go_wp2
  go_loopw [0, 5] (fun nv sv wr => ∃ (v : Nat) (D : List Nat) (s : ByteArray), nv = .int .i64 (v : Int) ∧ sv = .string s ∧ v ≤ 9999 ∧ D.length ≤ 4 ∧ Hid (s.size = D.length) ∧ Hid (s.data.toList = (D.map letter).reverse) ∧ Hid (∀ d ∈ D, d < 10) ∧ Hid (val 10 D + 10 ^ D.length * v = n) ∧ Hid (least < D.length → v = 0 → ∀ x, D.getLast? = some x → x ≠ 0) ∧ Hid (Below w.heap.size w wr))
    (fun nv sv _ => (intOf nv).toNat + (match sv with | .string s => 4 - s.size | _ => 0))
  case atStart => exact ⟨n, [], ⟨#[]⟩, rfl, rfl, HN.out, by simp, rfl, rfl, by intro d hd; simp at hd, by simp [Hid, val], by intro h; simp at h, Below.refl _ _⟩
  case round =>
    obtain ⟨v, D, s, rfl, rfl, hv9, hD, hsz, hsl, hD10, hval, hlast, hbel⟩ := hrel
    by_cases hgo : 0 < v ∨ D.length < least
    · have hD3 : D.length ≤ 3 := by
        rcases hgo with h | h
        · exact pow10_le hval.out HN.out h
        · omega
      obtain ⟨d, hd⟩ : ∃ d, d = v % 10 := ⟨_, rfl⟩
      obtain ⟨u, hu⟩ : ∃ u, u = v / 10 := ⟨_, rfl⟩
      have hd10 : d < 10 := by omega
      have hdb : d ≤ 9 := by omega
      have e1 : (v : Int) % 10 = (d : Int) := by omega
      have e2 : (v : Int).tmod 10 = (d : Int) := by rw [Int.tmod_eq_emod_of_nonneg (by omega)]; exact e1
      have e3 : IntKind.u8.wrap (48 + (d : Int)) = 48 + (d : Int) := by rw [IntKind.wrap_u8]; omega
      have f1 : (v : Int) / 10 = (u : Int) := by omega
      have f2 : (v : Int).tdiv 10 = (u : Int) := by rw [Int.tdiv_eq_ediv_of_nonneg (by omega)]; exact f1
      have hc := CV.out wr d hd10
      have hs1 : s.size ≤ 4 := by rw [hsz.out]; exact hD
      have g1 : ¬ 9223372036854775807 < 1 + s.size := by omega
      have g2 : 1 + s.size ≤ 9223372036854775807 := by omega
      have RN : Hid (v = 10 * u + d) := by unfold Hid; omega
      have HS : Hid (s.size < least ↔ D.length < least) := by unfold Hid; rw [hsz.out]
      have hub : u ≤ 9999 := by omega
      have hways : 0 < v ∨ (¬ 0 < v ∧ s.size < least) := by rw [hsz.out]; omega
      clear hgo hd hu
      have FIN : Hid (D.length + 1 ≤ 4 ∧ (∀ x ∈ D ++ [d], x < 10) ∧ val 10 (D ++ [d]) + 10 ^ (D ++ [d]).length * u = n ∧ (least < (D ++ [d]).length → u = 0 → ∀ x, (D ++ [d]).getLast? = some x → x ≠ 0)) := by
        refine ⟨by omega, ?_, ?_, ?_⟩
        · intro x hx
          rcases List.mem_append.1 hx with hx | hx
          · exact hD10.out x hx
          · simp at hx; omega
        · rw [val_snoc, List.length_append, List.length_singleton, Nat.pow_succ, ← hval.out, RN.out, Nat.mul_add, Nat.mul_assoc]; omega
        · intro h1 h2 x hx
          rw [List.getLast?_append] at hx
          simp at hx
          rw [List.length_append, List.length_singleton] at h1
          have h3 := RN.out
          have h4 : 0 < v := by
            rcases hways with h | ⟨h, h5⟩
            · exact h
            · have := HS.out.1 h5; omega
          omega
      rcases hways with hw | ⟨hw, hw2⟩
      all_goals
        go_wp2
        go_roundw
        case rel =>
          refine ⟨u, D ++ [d], _, rfl, rfl, hub, by rw [List.length_append, List.length_singleton]; exact FIN.out.1, ?_, ?_, FIN.out.2.1, FIN.out.2.2.1, FIN.out.2.2.2, hbel.out.alloc hbel.out.size _⟩
          · unfold Hid; rw [ByteArray.size_append, List.length_append, hsz.out, Nat.add_comm]; rfl
          · unfold Hid; rw [List.map_append, List.reverse_append, ← hsl.out]; simp
        case measure =>
          have h1 := RN.out
          have h2 := hsz.out
          have h3 : (⟨#[letter d]⟩ : ByteArray).size = 1 := rfl
          simp [intOf]
          omega
    · have hv0 : v = 0 := by omega
      subst hv0
      have hl1 : ¬ s.size < least := by rw [hsz.out]; omega
      have HL := hide (show least ≤ D.length by omega)
      clear hgo
      go_wp2
      go_ret
      exact ⟨s, D, rfl, hsl, hD10, by have := hval.out; unfold Hid; omega, ⟨HL.out, hD⟩, fun h => hlast.out h (by first | rfl | trivial), hbel⟩
/-- A four of digits ahead of others. -/
theorem digs_ahead {D : List Nat} {M : Nat} (hD : ∀ d ∈ D, d < 10) (hM : 0 < M) : digs 10 (val 10 D + 10 ^ D.length * M) = D ++ digs 10 M := by
  have h1 : val 10 (D ++ digs 10 M) = val 10 D + 10 ^ D.length * M := by rw [val_append, val_digs (by decide)]
  rw [← h1]
  refine digs_val (by decide) _ ?_ ?_
  · intro x hx
    rcases List.mem_append.1 hx with hx | hx
    · exact hD x hx
    · exact digs_lt (by decide) M x hx
  · intro x hx
    have hne : digs 10 M ≠ [] := fun e => by
      have := (digs_len_pos (b := 10) (n := M) (by decide)).1 (by rw [e]; rfl)
      omega
    rw [List.getLast?_append] at hx
    cases hg : (digs 10 M).getLast? with
    | none => exact absurd (List.getLast?_eq_none_iff.1 hg) hne
    | some y =>
      rw [hg] at hx
      simp at hx
      subst hx
      exact digs_last (by decide) M y hg
theorem decL_ahead {D : List Nat} {M : Nat} (hD : ∀ d ∈ D, d < 10) (hl : D.length = 4) (hM : 0 < M) : decL (val 10 D + D4 * M) = decL M ++ (D.map letter).reverse := by
  have e : D4 = 10 ^ D.length := by rw [hl]; rfl
  unfold decL
  rw [if_neg (by have : 0 < D4 * M := Nat.mul_pos (by decide) hM; omega), if_neg (by omega), e, digs_ahead hD hM, List.reverse_append, List.map_append, List.map_reverse, List.map_reverse]
  rfl
theorem decL_top {D : List Nat} {n : Nat} (hD : ∀ d ∈ D, d < 10) (hv : val 10 D = n) (h1 : 1 ≤ D.length) (hl : 1 < D.length → ∀ x, D.getLast? = some x → x ≠ 0) (hn : 0 < n) : decL n = (D.map letter).reverse := by
  have h2 : digs 10 n = D := by
    rw [← hv]
    refine digs_val (by decide) D hD fun x hx => ?_
    rcases Nat.lt_or_ge 1 D.length with h | h
    · exact hl h x hx
    · match D, h1, h with
      | [d], _, _ =>
        simp at hx
        subst hx
        simp [val] at hv
        omega
  unfold decL
  rw [if_neg (by omega), h2, List.map_reverse]
  rfl
theorem dec_four {m : Nat} : (decL m).length ≤ 4 * dq m + 1 := by
  have h1 : m < D4 ^ dq m := lt_pow_digs (b := D4) (by decide) m
  have h2 : D4 ^ dq m = 10 ^ (4 * dq m) := by rw [Nat.pow_mul]; rfl
  rw [h2] at h1
  exact dt_le (Nat.lt_of_lt_of_le h1 (Nat.pow_le_pow_right (by decide) (by omega))) (by omega)
set_option maxHeartbeats 2000000 in
theorem rText_any {A : Option Addr} {c m : Nat} {w : World} (h : RN w w.heap.size A c m) (hl : dq m ≤ 100000) : Calls Tryz.prog 104 #[.slice A (dq m) c] w (TxR w (decL m)) := by
  rcases Nat.eq_zero_or_pos m with h0 | h0
  · subst h0
    have hq : dq 0 = 0 := dq_zero
    clear h
    go_enter Tryz.func104, Tryz.ntmps104
    go_wp2
    refine bodyPost_ret (v := .string ⟨#[48]⟩) (by simp [results, Tryz.results104, go_sem]) rfl ⟨_, rfl, rfl, Below.refl _ _⟩
  · obtain ⟨k, hk⟩ : ∃ k, dq m = k + 1 := by
      rcases Nat.eq_zero_or_pos (dq m) with h1 | h1
      · have := (digs_len_pos (b := D4) (n := m) (by decide)).1 h1; omega
      · exact ⟨dq m - 1, by omega⟩
    have hkl : k < (digs D4 m).length := by have : (digs D4 m).length = dq m := rfl; omega
    obtain ⟨ad, rfl, hab, hcell⟩ := h.2.at_ hkl
    obtain ⟨x, hx⟩ : ∃ x, x = (digs D4 m)[k] := ⟨_, rfl⟩
    rw [← hx] at hcell
    unfold I64 at hcell
    have hx9 : x ≤ 9999 := by rw [hx]; have h4 : D4 = 10000 := rfl; have := good4_digs m _ (List.getElem_mem hkl); omega
    have hdrop : (digs D4 m).drop k = [x] := by
      rw [List.drop_eq_getElem_cons hkl, ← hx, List.drop_of_length_le (by have : (digs D4 m).length = dq m := rfl; omega)]
    have hx0 : 0 < x := by
      have h1 := digs_last (b := D4) (by decide) m x (by
        rw [List.getLast?_eq_getElem?, show (digs D4 m).length - 1 = k by have : (digs D4 m).length = dq m := rfl; omega, List.getElem?_eq_getElem hkl, ← hx])
      omega
    have HX := hide h
    have CT : Hid (∀ (W : World), Calls Tryz.prog 147 #[.int .i64 (x : Int), .int .i64 1] W (DigR W x 1)) := fun W => digits_any (n := x) (least := 1) (w := W) hx9 (by decide)
    have CF : Hid (∀ (W : World) (n : Nat), n ≤ 9999 → Calls Tryz.prog 147 #[.int .i64 (n : Int), .int .i64 4] W (DigR W n 4)) := fun W n hn => digits_any (n := n) (least := 4) (w := W) hn (by decide)
    have HDR := hide hdrop
    have HK := hide hk
    have HL := hide hl
    have hkb : k ≤ 100000 := by omega
    have hkd : k < dq m := by omega
    have e1 : (dq m : Int) - 1 = (k : Int) := by omega
    have e2 : (dq m : Int) - 2 = (k : Int) - 1 := by omega
    have e3 : ¬ dq m = 0 := by omega
    have HB0 : Hid (∀ j, (decL (val D4 ((digs D4 m).drop j))).length ≤ 400001) := fun j => Nat.le_trans dec_four (by
      have h1 : dq (val D4 ((digs D4 m).drop j)) ≤ ((digs D4 m).drop j).length := digs_len_le (by decide) _ (fun x hx => good4_digs m x (List.mem_of_mem_drop hx))
      rw [List.length_drop] at h1
      have : (digs D4 m).length = dq m := rfl
      omega)
    clear h hx hk hdrop hl hkl
    go_enter Tryz.func104, Tryz.ntmps104
    go_wp2_with (first | (go_at_call 147; (with_reducible refine (CT.out _).mono ?_); rintro e w1 ⟨t, D, rfl, ht, hD, hv, hlen, hlast, hbk⟩) | fail)
    go_loopw [3, 4] (fun sv iv wr => ∃ (j : Nat) (s : ByteArray), j ≤ k ∧ sv = .string s ∧ iv = .int .i64 ((j : Int) - 1) ∧ Hid (s.data.toList = decL (val D4 ((digs D4 m).drop j))) ∧ Hid (0 < val D4 ((digs D4 m).drop j)) ∧ Hid (Below w.heap.size w wr)) (fun _ iv _ => (intOf iv + 1).toNat)
    case atStart =>
      have hvx : val D4 ((digs D4 m).drop k) = x := by rw [HDR.out]; simp [val]
      exact ⟨k, t, Nat.le_refl _, rfl, rfl, by unfold Hid; rw [hvx, ht.out, decL_top hD.out hv.out hlen.out.1 hlast.out hx0], by unfold Hid; rw [hvx]; exact hx0, hbk⟩
    case round =>
      obtain ⟨j, s, hj, rfl, rfl, hs, hpos, hbel⟩ := hrel
      by_cases hj0 : j = 0
      · subst hj0
        have HS : Hid (s.data.toList = decL m) := by
          have h1 := hs.out
          rwa [List.drop_zero, val_digs4] at h1
        go_wp2
        go_ret
        exact ⟨s, rfl, HS, hbel⟩
      · obtain ⟨i, rfl⟩ : ∃ i, j = i + 1 := ⟨j - 1, by omega⟩
        have hi : i < (digs D4 m).length := by have : (digs D4 m).length = dq m := rfl; omega
        obtain ⟨ad2, e, hab2, hcell2⟩ := ((HX.out.below hbel.out).2).at_ hi
        injection e with e
        subst e
        obtain ⟨y, hy⟩ : ∃ y, y = (digs D4 m)[i] := ⟨_, rfl⟩
        rw [← hy] at hcell2
        unfold I64 at hcell2
        have hy9 : y ≤ 9999 := by rw [hy]; have h4 : D4 = 10000 := rfl; have := good4_digs m _ (List.getElem_mem hi); omega
        have HDI : Hid ((digs D4 m).drop i = y :: (digs D4 m).drop (i + 1)) := by unfold Hid; rw [List.drop_eq_getElem_cons hi, ← hy]
        have hid : i < dq m := hi
        have hss : s.size ≤ 400001 := by rw [size_list, hs.out]; exact HB0.out _
        clear hy hi hj0
        go_wp2_with (first | (go_at_call 147; (with_reducible refine (CF.out _ y hy9).mono ?_); rintro e w2 ⟨t2, D2, rfl, ht2, hD2, hv2, hlen2, hlast2, hbk2⟩; have hs2 : t2.size ≤ 4 := (by rw [size_list, ht2.out]; simp; exact hlen2.out.2); have g1 : ¬ 9223372036854775807 < s.size + t2.size := (by omega); have g2 : s.size + t2.size ≤ 9223372036854775807 := (by omega)) | fail)
        go_roundw
        case rel =>
          have hvv : val D4 ((digs D4 m).drop i) = val 10 D2 + D4 * val D4 ((digs D4 m).drop (i + 1)) := by rw [HDI.out, hv2.out]; rfl
          refine ⟨i, _, by omega, rfl, rfl, ?_, ?_, hbel.out.trans (hbk2.out.mono hbel.out.size)⟩
          · unfold Hid
            rw [hvv, decL_ahead hD2.out (by have := hlen2.out; omega) hpos.out, ← hs.out, ← ht2.out]
            simp
          · unfold Hid
            rw [hvv]
            have : 0 < D4 * val D4 ((digs D4 m).drop (i + 1)) := Nat.mul_pos (by decide) hpos.out
            omega
        case measure => simp [intOf]
end Go.Proofs.YtfcamfkimnlfgaaGreatDoor
end
