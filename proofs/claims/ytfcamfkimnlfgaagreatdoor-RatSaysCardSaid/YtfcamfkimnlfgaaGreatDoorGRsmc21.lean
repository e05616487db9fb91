/- Several texts in one, each with its own sentence and conditions. -/
import Derived.Test.YtfcamfkimnlfgaaGreatDoorGRsmc19
import Derived.Test.YtfcamfkimnlfgaaGreatDoorZf
import Derived.Test.YtfcamfkimnlfgaaGreatDoorGRsmc18
import Derived.Test.YtfcamfkimnlfgaaGreatDoorGRsmc16
import Derived.Test.YtfcamfkimnlfgaaGreatDoorGRsmc11
import Derived.Test.YtfcamfkimnlfgaaGreatDoorGRsmc17
section
/- The document's own integers: ZDiv of any two. Conditions: less than 99999 fours of digits. -/
open Go.RowKit
set_option maxRecDepth 100000
namespace Go.Proofs.YtfcamfkimnlfgaaGreatDoor
section
variable {W : World} {b b' s : Bool} {A A' : Option Addr} {c c' : Nat} {z z' q r : Int}
theorem rzdiv_h (h : Rz W b A c z) (h' : Rz W b' A' c' z') (h0 : z' ≠ 0) (hl : dq z.natAbs ≤ 99999) (hl' : dq z'.natAbs ≤ 99999) (hq : z / z' = q) (hr : z % z' = r) (hs : s = decide (q < 0)) :
    Calls Tryz.prog 100 #[.agg #[.bool b, .slice A (dq z.natAbs) c], .agg #[.bool b', .slice A' (dq z'.natAbs) c']] W (RzD W s q.natAbs r.natAbs) := by
  have e := h.zi
  have e' := h'.zi
  have hn : 0 < z'.natAbs := by omega
  by_cases hc : b = false ∨ z.natAbs % z'.natAbs = 0
  · obtain ⟨e1, e2⟩ := div_plain (b := b) (b' := b') (m := z.natAbs) (k := z'.natAbs) (by omega) hc
    rw [← e, ← e', hq] at e1
    rw [← e, ← e', hr] at e2
    have e3 : q.natAbs = z.natAbs / z'.natAbs := by rw [e1, zi_abs]
    have e4 : r.natAbs = z.natAbs % z'.natAbs := by omega
    have e5 : s = ((b != b') && decide (0 < q.natAbs)) := by rw [hs]; exact sig_of (by rw [e3]; exact e1)
    clear e e'
    cases b with
    | false =>
      cases b' with
      | false => exact rzdiv_false_false h.1 h'.1 hn hl hl' e3 e4 e5
      | true => exact rzdiv_false_true h.1 h'.1 hn hl hl' e3 e4 e5
    | true =>
      have e6 : r.natAbs = 0 := by rcases hc with hc | hc; (· cases hc); (· omega)
      cases b' with
      | false => exact rzdiv_true_false h.1 h'.1 hn hl hl' e3 e4 e6 e5
      | true => exact rzdiv_true_true h.1 h'.1 hn hl hl' e3 e4 e6 e5
  · have hb : b = true := by cases b; (· exact absurd (.inl rfl) hc); (· rfl)
    have hm : z.natAbs % z'.natAbs ≠ 0 := fun g => hc (.inr g)
    subst hb
    obtain ⟨e1, e2⟩ := div_low (b' := b') (m := z.natAbs) (k := z'.natAbs) (by omega) hm
    rw [← e, ← e', hq] at e1
    rw [← e, ← e', hr] at e2
    have e3 : q.natAbs = z.natAbs / z'.natAbs + 1 := by rw [e1, zi_abs]
    have e4 : r.natAbs = z'.natAbs - z.natAbs % z'.natAbs := by omega
    have e5 : s = ((true != b') && decide (0 < q.natAbs)) := by rw [hs]; exact sig_of (by rw [e3]; exact e1)
    clear e e'
    cases b' with
    | false => exact rzdiv_rest_false h.1 h'.1 hn hl hl' rfl rfl (by omega) e3 e4 e5
    | true => exact rzdiv_rest_true h.1 h'.1 hn hl hl' rfl rfl (by omega) e3 e4 e5
end
end Go.Proofs.YtfcamfkimnlfgaaGreatDoor
end

section
/- The document's own integers: ZCmp, ZText. Conditions: less than 99998 fours of digits. -/
open Go.RowKit
set_option maxRecDepth 100000
namespace Go.Proofs.YtfcamfkimnlfgaaGreatDoor
section
variable {W : World} {b b' s : Bool} {A A' : Option Addr} {c c' : Nat} {z z' v : Int}
theorem cmpZ_sign (x y : Int) : (x + -y).sign = cmpZ x y := by
  unfold cmpZ
  rcases Int.lt_trichotomy x y with h | h | h
  · rw [if_pos h, Int.sign_eq_neg_one_of_neg (by omega)]
  · rw [if_neg (by omega), if_neg (by omega), show x + -y = 0 by omega]; rfl
  · rw [if_neg (by omega), if_pos h, Int.sign_eq_one_of_pos (by omega)]
theorem dq_zadd {m : Nat} {z z' : Int} (h : dq z.natAbs ≤ m) (h' : dq z'.natAbs ≤ m) : dq (z + z').natAbs ≤ m + 1 := by
  have h1 : z.natAbs < D4 ^ m := Nat.lt_of_lt_of_le (lt_pow_digs (b := D4) (by decide) _) (Nat.pow_le_pow_right (by decide) h)
  have h2 : z'.natAbs < D4 ^ m := Nat.lt_of_lt_of_le (lt_pow_digs (b := D4) (by decide) _) (Nat.pow_le_pow_right (by decide) h')
  have h3 : (z + z').natAbs ≤ z.natAbs + z'.natAbs := Int.natAbs_add_le z z'
  refine dq_le ?_
  rw [Nat.pow_succ]
  generalize D4 ^ m = P at h1 h2
  rw [D4_eq]
  omega
set_option maxHeartbeats 1000000 in
theorem rztext_true (h : Rz W true A c z) (hl : dq z.natAbs ≤ 99998) : Calls Tryz.prog 105 #[.agg #[.bool true, .slice A (dq z.natAbs) c]] W (TxR W (decZ z)) := by
  have HZ : Hid (decZ z = 45 :: decL z.natAbs) := by
    have h1 := h.2.out
    unfold Hid decZ
    first | rw [if_pos (of_decide_eq_true h1.symm)] | rw [if_neg (of_decide_eq_false h1.symm)]
  have CT : Hid (∀ W', Bel W W' → Calls Tryz.prog 104 #[.slice A (dq z.natAbs) c] W' (TxR W' (decL z.natAbs))) := fun W' hb => rText_any (h.1.up hb) (by omega)
  have HL : Hid ((decL z.natAbs).length ≤ 400001) := Nat.le_trans dec_four (by omega)
  clear h hl
  have HB := Bel.refl W
  go_enter Tryz.func105, Tryz.ntmps105
  have HP := at_new0 W [.bool true, .slice A (dq z.natAbs) c] 34
  have q0 := HP.c0
  have q1 := HP.c1
  go_wp2_with (first | (go_at_call 104; (with_reducible refine (CT.out _ (HB.al _)).mono ?_); rintro e w1 ⟨t, rfl, ht, hbk⟩; (with_reducible (replace HB := (HB.al _).up hbk)); have hts : t.size ≤ 400001 := (by rw [size_list, ht.out]; exact HL.out); have g1 : ¬ 9223372036854775807 < 1 + t.size := (by omega); have g2 : 1 + t.size ≤ 9223372036854775807 := (by omega)) | fail)
  go_ret
  refine ⟨_, rfl, ?_, HB⟩
  unfold Hid
  rw [HZ.out, ← ht.out]
  simp
set_option maxHeartbeats 1000000 in
theorem rztext_false (h : Rz W false A c z) (hl : dq z.natAbs ≤ 99998) : Calls Tryz.prog 105 #[.agg #[.bool false, .slice A (dq z.natAbs) c]] W (TxR W (decZ z)) := by
  have HZ : Hid (decZ z = decL z.natAbs) := by
    have h1 := h.2.out
    unfold Hid decZ
    first | rw [if_pos (of_decide_eq_true h1.symm)] | rw [if_neg (of_decide_eq_false h1.symm)]
  have CT : Hid (∀ W', Bel W W' → Calls Tryz.prog 104 #[.slice A (dq z.natAbs) c] W' (TxR W' (decL z.natAbs))) := fun W' hb => rText_any (h.1.up hb) (by omega)
  have HL : Hid ((decL z.natAbs).length ≤ 400001) := Nat.le_trans dec_four (by omega)
  clear h hl
  have HB := Bel.refl W
  go_enter Tryz.func105, Tryz.ntmps105
  have HP := at_new0 W [.bool false, .slice A (dq z.natAbs) c] 34
  have q0 := HP.c0
  have q1 := HP.c1
  go_wp2_with (first | (go_at_call 104; (with_reducible refine (CT.out _ (HB.al _)).mono ?_); rintro e w1 ⟨t, rfl, ht, hbk⟩; (with_reducible (replace HB := (HB.al _).up hbk)); have hts : t.size ≤ 400001 := (by rw [size_list, ht.out]; exact HL.out); have g1 : ¬ 9223372036854775807 < 1 + t.size := (by omega); have g2 : 1 + t.size ≤ 9223372036854775807 := (by omega)) | fail)
  go_ret
  refine ⟨_, rfl, ?_, HB⟩
  unfold Hid
  rw [HZ.out]; exact ht.out
theorem rztext_h (h : Rz W b A c z) (hl : dq z.natAbs ≤ 99998) : Calls Tryz.prog 105 #[.agg #[.bool b, .slice A (dq z.natAbs) c]] W (TxR W (decZ z)) := by
  cases b
  · exact rztext_false h hl
  · exact rztext_true h hl
end
end Go.Proofs.YtfcamfkimnlfgaaGreatDoor
end

section
/- Parted from Rgc: by function. -/
open Go.RowKit
set_option maxRecDepth 100000
namespace Go.Proofs.YtfcamfkimnlfgaaGreatDoor
section
set_option maxHeartbeats 2000000 in
theorem rGcd_any {A A' : Option Addr} {m n c c' : Nat} {w : World} (h : RN w w.heap.size A c m) (h' : RN w w.heap.size A' c' n) (hl : dq m ≤ 99999) (hl' : dq n ≤ 99999) :
    Calls Tryz.prog 128 #[.slice A (dq m) c, .slice A' (dq n) c'] w (RefPost w (Nat.gcd m n)) := by
  have HX := hide h
  have HY := hide h'
  have HL := hide hl
  have HL' := hide hl'
  clear h h' hl hl'
  go_enter Tryz.func128, Tryz.ntmps128
  go_wp2_with fail
  go_loopg [0, 1] n (fun K xv yv wr => ∃ (X Y : Nat) (A1 A2 : Option Addr) (c1 c2 : Nat), Hid (Y ≤ K) ∧ xv = .slice A1 (dq X) c1 ∧ yv = .slice A2 (dq Y) c2 ∧ Hid (RN wr wr.heap.size A1 c1 X) ∧ Hid (RN wr wr.heap.size A2 c2 Y) ∧ Hid (Nat.gcd X Y = Nat.gcd m n) ∧ Hid (dq X ≤ 99999 ∧ dq Y ≤ 99999) ∧ Hid (Below w.heap.size w wr))
  case atStart => exact ⟨m, n, _, _, _, _, Nat.le_refl _, rfl, rfl, HX, HY, rfl, ⟨HL.out, HL'.out⟩, Below.refl _ _⟩
  case round =>
    obtain ⟨X, Y, A1, A2, c1, c2, hK, rfl, rfl, hX, hY, hg, hd, hbl⟩ := hrel
    by_cases h0 : Y = 0
    · have hy0 : dq Y = 0 := by rw [h0]; exact dq_zero
      have HG : Hid (Nat.gcd m n = X) := by unfold Hid; rw [← hg.out, h0, Nat.gcd_zero_right]
      clear h0
      go_wp2_with fail
      go_ret
      rw [HG.out]
      exact ⟨A1, c1, rfl, hX, hbl⟩
    · have hy0 : 0 < dq Y := dq_pos.2 (by omega)
      have CD : Hid (Calls Tryz.prog 116 #[.slice A1 (dq X) c1, .slice A2 (dq Y) c2] wr (RDivR wr (X / Y) (X % Y))) := rDiv_any hX.out hY.out hd.out.1 hd.out.2 (by omega)
      have H0 := hide h0
      clear h0
      go_wp2_with (go_at_call 116; (with_reducible refine CD.out.mono ?_); rintro e w4 ⟨A3, c3, A4, c4, rfl, hq, hr, hb4⟩)
      go_roundg (X % Y)
      case measure => exact Nat.lt_of_lt_of_le (Nat.mod_lt _ (Nat.pos_of_ne_zero H0.out)) hK.out
      case rel =>
        refine ⟨Y, X % Y, A2, A4, c2, c4, Nat.le_refl _, rfl, rfl, (hY.out.below hb4.out).more hb4.out.size, hr, ?_, ⟨hd.out.2, Nat.le_trans (digs_len_mono (by decide) (Nat.mod_le _ _)) hd.out.1⟩, hbl.out.trans (hb4.out.mono hbl.out.size)⟩
        unfold Hid; rw [gcd_step]; exact hg.out
end
end Go.Proofs.YtfcamfkimnlfgaaGreatDoor
end

section
/- Parted from Rgd: by function. -/
open Go.RowKit
set_option maxRecDepth 100000
namespace Go.Proofs.YtfcamfkimnlfgaaGreatDoor
section
variable {W : World} {A A' : Option Addr} {c c' m : Nat} {z : Int}
set_option maxHeartbeats 2000000 in
theorem rqof_h {b : Bool} {d : Nat} {r : Rat} (h : Rn W A c z.natAbs) (h' : Rn W A' c' d) (hz : z = zi b z.natAbs) (h0 : 0 < d) (hr : mkRat z d = r) (hl : dq z.natAbs ≤ 99999) (hl' : dq d ≤ 99999) :
    Calls Tryz.prog 69 #[.agg #[.bool b, .slice A (dq z.natAbs) c], .slice A' (dq d) c'] W (RQ W r) := by
  obtain ⟨g, hg⟩ : ∃ g, g = Nat.gcd z.natAbs d := ⟨_, rfl⟩
  obtain ⟨hg0, e1, e2, e3, e4, e5⟩ := low_terms (z := z) h0 hg
  rw [hr] at e1 e2 e5
  obtain ⟨v, hv⟩ : ∃ v, v = r.num.natAbs := ⟨_, rfl⟩
  obtain ⟨u, hu⟩ : ∃ u, u = r.den := ⟨_, rfl⟩
  obtain ⟨m, hm⟩ : ∃ m, m = z.natAbs := ⟨_, rfl⟩
  rw [← hm] at h hl hg e1 e3 ⊢
  obtain ⟨s, hs⟩ : ∃ s, s = decide (r.num < 0) := ⟨_, rfl⟩
  have hgl : g ≤ d := Nat.le_of_dvd h0 (by rw [hg]; exact Nat.gcd_dvd_right _ _)
  have hgd : dq g ≤ 99999 := Nat.le_trans (dq_mono hgl) hl'
  have CG : Hid (∀ W', Bel W W' → Calls Tryz.prog 128 #[.slice A (dq m) c, .slice A' (dq d) c'] W' (RefPost W' g)) := fun W' hb => by
    have h1 := rGcd_any (h.up hb) (h'.up hb) hl hl'
    rw [← hg] at h1
    exact h1
  have CD : Hid (∀ W' B e, Bel W W' → Rn W' B e g → Calls Tryz.prog 116 #[.slice A (dq m) c, .slice B (dq g) e] W' (RDivR W' v 0)) := fun W' B e hb hn => by
    have h1 := rDiv_any (h.up hb) hn hl hgd hg0
    rw [e3, ← e1, ← hv] at h1
    exact h1
  have CE : Hid (∀ W' B e, Bel W W' → Rn W' B e g → Calls Tryz.prog 116 #[.slice A' (dq d) c', .slice B (dq g) e] W' (RDivR W' u 0)) := fun W' B e hb hn => by
    have h1 := rDiv_any (h'.up hb) hn hl' hgd hg0
    rw [e4, ← e2, ← hu] at h1
    exact h1
  have CZ : Hid (∀ W' B e, Rn W' B e v → Calls Tryz.prog 73 #[.bool b, .slice B (dq v) e] W' (RZb W' s B (dq v) e v)) := fun W' B e hn => rzof_h hn (by
    rw [hs, e5, zsig hz, ← hm]
    congr 1
    refine decide_eq_decide.2 ⟨fun h => ?_, fun h => ?_⟩
    · rw [hv, e1]; exact Nat.div_pos (Nat.le_of_dvd h (Nat.dvd_of_mod_eq_zero e3)) hg0
    · rcases Nat.eq_zero_or_pos m with hm0 | hm0
      · rw [hv, e1, hm0, Nat.zero_div] at h; exact absurd h (Nat.lt_irrefl 0)
      · exact hm0)
  have HV := hide hv
  have HU := hide hu
  have HS := hide hs
  clear h h' hz h0 hr hl hl' hg hg0 e1 e2 e3 e4 e5 hv hu hm hs hgd hgl
  have HB := Bel.refl W
  go_enter Tryz.func69, Tryz.ntmps69
  go_wp2_with (first | (go_at_call 128; (with_reducible refine (CG.out _ ((HB.al _).al _)).mono ?_); rintro e w1 ⟨Ag, cg, rfl, ng, hbk⟩; have HP := At.up ((at_new0 _ _ _).al _) hbk; have HR := At.up (at_new1 _ _ _ _) hbk; replace HB := ((HB.al _).al _).up hbk; have hp_0 := HP.c0; have hp_1 := HP.c1; have hp_l := HP.lt; replace ng := Rn.of ng) | (go_at_call 116; (with_reducible refine (CD.out _ _ _ HB ng).mono ?_); rintro e w2 ⟨Ao, co, Ax, cx, rfl, no, nx, hbk⟩; replace HB := HB.up hbk; replace HP := HP.up hbk; replace HR := HR.up hbk; replace ng := ng.up hbk; clear hp_0 hp_1 hp_l; have hp_0 := HP.c0; have hp_1 := HP.c1; have hp_l := HP.lt; replace no := Rn.of no) | (go_at_call 116; (with_reducible refine (CE.out _ _ _ HB ng).mono ?_); rintro e w3 ⟨Au, cu, Ay, cy, rfl, nu, ny, hbk⟩; replace HB := HB.up hbk; replace HP := HP.up hbk; replace HR := HR.up hbk; replace no := no.up hbk; clear hp_0 hp_1 hp_l; have hp_0 := HP.c0; have hp_1 := HP.c1; have hp_l := HP.lt; replace nu := Rn.of nu) | (go_at_call 73; (with_reducible refine (CZ.out _ _ _ no).mono ?_); rintro e w4 ⟨rfl, nz, hbk⟩; replace HB := HB.up hbk; replace HR := HR.up hbk; replace nu := nu.up hbk; clear hp_0 hp_1 hp_l; have hr_0 := HR.c0; have hr_1 := HR.c1; have hr_2 := HR.c2; have hr_l := HR.lt; have hr_f0 := HR.f0; have hr_f1 := HR.f1; have hr_f2 := HR.f2) | fail)
  refine bodyPost_ret (v := .agg #[.bool s, .slice Ao (dq v) co, .slice Au (dq u) cu]) (by simp [results, Tryz.results69, go_sem, hr_0, hr_1, hr_2]) rfl ?_
  have hv := HV.out
  have hu := HU.out
  have hs := HS.out
  subst hv
  subst hu
  subst hs
  exact ⟨Ao, co, Au, cu, rfl, nz.put3 HR, nu.put3 HR, below3 HB (by omega) _ _ _⟩
end
end Go.Proofs.YtfcamfkimnlfgaaGreatDoor
end

section
/- Package rat: Of, Int, Sign, Floor. Conditions: less than 100000 words. -/

open Go.RowKit
set_option maxRecDepth 100000
namespace Go.Proofs.YtfcamfkimnlfgaaGreatDoor
def OfYes (W : World) (r : Rat) (e : Ending) (w' : World) : Prop := ∃ A c A' c', e = .returned (.tuple #[.agg #[.bool (decide (r.num < 0)), .slice A (dl r.num.natAbs) c, .slice A' (dl r.den) c'], .bool true]) ∧ ZA w' (decide (r.num < 0)) A (dl r.num.natAbs) c r.num ∧ Nm w' A' (dl r.den) c' r.den ∧ Hid (Below W.heap.size W w')
def OfNo (W : World) (e : Ending) (w' : World) : Prop := e = .returned (.tuple #[.agg #[.bool false, .slice none 0 0, .slice none 0 0], .bool false]) ∧ Hid (Below W.heap.size W w')
theorem ZR.al {W w' : World} {v : Int} {e : Ending} (h : ZR W v e w') (o : Obj) : ZR W v e (w'.alloc o) := by
  obtain ⟨A, c, he, h1, h2⟩ := h
  exact ⟨A, c, he, h1.al o, (Bel.al (Bel.of h2) o).hid⟩
section
variable {W : World} {b b' : Bool} {A A' : Option Addr} {n n' c c' m m' : Nat} {z z' : Int} {r : Rat} {K : Nat}
set_option maxHeartbeats 2000000 in
theorem of_no (hd : Nm W A' n' c' 0) : Calls Tryz.prog 17 #[.agg #[.bool b, .slice A n c], .agg #[.slice A' n' c']] W (OfNo W) := by
  have CZ : Hid (∀ W', Bel W W' → Calls Tryz.prog 85 #[.agg #[.slice A' n' c']] W' (RetB W' true)) := fun W' hb => rzero_h (m := 0) (hd.up hb)
  clear hd
  have HB := Bel.refl W
  go_enter Tryz.func17, Tryz.ntmps17
  go_wp2_with (first | (go_at_call 85; (with_reducible refine (CZ.out _ (((HB.al _).al _).al _)).mono ?_); rintro e w1 ⟨rfl, hbk⟩; have HP := At.up (((at_new0 _ _ _).al _).al _) hbk; have HN := At.up ((at_new1 _ _ _ _).al _) hbk; have HR := At.up (at_new2 _ _ _ _ _) hbk; replace HB := (((HB.al _).al _).al _).up hbk; have hr_0 := HR.c0; have hr_1 := HR.c1; have hr_2 := HR.c2; have hr_l := HR.lt; have hr_f0 := HR.f0; have hr_f1 := HR.f1; have hr_f2 := HR.f2) | fail)
  refine bodyPost_ret (v := .tuple #[.agg #[.bool false, .slice none 0 0, .slice none 0 0], .bool false]) (by simp [results, Tryz.results17, go_sem, hr_0, hr_1, hr_2]) rfl ?_
  exact ⟨rfl, below3 HB (by omega) _ _ _⟩
set_option maxHeartbeats 2000000 in
theorem of_yes {d : Nat} (hz : ZA W b A n c z) (hd : Nm W A' n' c' d) (h0 : 0 < d) (hr : mkRat z d = r) (bz : dl z.natAbs ≤ 99999) (bd : dl d ≤ 99999) :
    Calls Tryz.prog 17 #[.agg #[.bool b, .slice A n c], .agg #[.slice A' n' c']] W (OfYes W r) := by
  have CZ : Hid (∀ W', Bel W W' → Calls Tryz.prog 85 #[.agg #[.slice A' n' c']] W' (RetB W' false)) := fun W' hb => by
    have h1 := rzero_h (hd.up hb)
    rwa [decide_eq_false (by omega)] at h1
  have CL : Hid (∀ W', Bel W W' → Calls Tryz.prog 81 #[.agg #[.bool b, .slice A n c], .agg #[.slice A' n' c']] W' (QR W' r)) := fun W' hb => lowest_h (hz.up hb) (hd.up hb) h0 hr bz bd
  clear hz hd h0 hr bz bd
  have HB := Bel.refl W
  go_enter Tryz.func17, Tryz.ntmps17
  go_wp2_with (first | (go_at_call 85; (with_reducible refine (CZ.out _ (((HB.al _).al _).al _)).mono ?_); rintro e w1 ⟨rfl, hbk⟩; have HP := At.up (((at_new0 _ _ _).al _).al _) hbk; have HN := At.up ((at_new1 _ _ _ _).al _) hbk; have HR := At.up (at_new2 _ _ _ _ _) hbk; replace HB := (((HB.al _).al _).al _).up hbk; have hp_0 := HP.c0; have hp_1 := HP.c1; have hp_l := HP.lt; have hn_0 := HN.c0; have hn_l := HN.lt) | (go_at_call 81; (with_reducible refine (CL.out _ HB).mono ?_); rintro e w2 ⟨B, e1, B', e2, rfl, nz, nd, hbk⟩; replace HB := HB.up hbk; replace HR := HR.up hbk; clear hp_0 hp_1 hp_l hn_0 hn_l; have hr_0 := HR.c0; have hr_1 := HR.c1; have hr_2 := HR.c2; have hr_l := HR.lt; have hr_f0 := HR.f0; have hr_f1 := HR.f1; have hr_f2 := HR.f2) | fail)
  refine bodyPost_ret (v := .tuple #[.agg #[.bool (decide (r.num < 0)), .slice B (dl r.num.natAbs) e1, .slice B' (dl r.den) e2], .bool true]) (by simp [results, Tryz.results17, go_sem, hr_0, hr_1, hr_2]) rfl ?_
  exact ⟨B, e1, B', e2, rfl, zr_of (nz.1.put3 HR now3), nd.put3 HR now3, below3 HB (by first | omega | simp | (simp; omega)) _ _ _⟩
set_option maxHeartbeats 2000000 in
theorem rsign_h {v : Int} (h : QA W b A n c A' n' c' r K) (hK : 0 < K) (hv : r.num.sign = v) : Calls Tryz.prog 19 #[.agg #[.bool b, .slice A n c, .slice A' n' c']] W (IntPost W v) := by
  have CT : Hid (∀ W', Bel W W' → Calls Tryz.prog 74 #[.agg #[.bool b, .slice A n c, .slice A' n' c']] W' (TermsR W' r K)) := fun W' hb => terms_h (h.up hb) hK
  have CS : Hid (∀ W' s B k e z d, ZA W' s B k e z → Hid (0 < d ∧ mkRat z d = r ∧ z.natAbs < W32 ^ K ∧ d < W32 ^ K) → Calls Tryz.prog 88 #[.agg #[.bool s, .slice B k e]] W' (IntPost W' v)) := fun W' s B k e z d hz hd => sign_h hz (by rw [← hv, ← hd.out.2.1, sign_mk hd.out.1])
  clear h hv
  have HB := Bel.refl W
  go_enter Tryz.func19, Tryz.ntmps19
  go_wp2_with (first | (go_at_call 74; (with_reducible refine (CT.out _ (HB.al _)).mono ?_); rintro e w1 ⟨s, B, k, e1, B', k', e2, zv, d, rfl, zp, np, hp, hbk⟩; replace HB := (HB.al _).up hbk) | (go_at_call 88; (with_reducible refine (CS.out _ _ _ _ _ _ _ ((zp.al _).al _) hp).mono ?_); rintro e w2 ⟨rfl, hbk⟩; replace HB := ((HB.al _).al _).up hbk) | fail)
  go_ret
  exact ⟨rfl, HB⟩
end
end Go.Proofs.YtfcamfkimnlfgaaGreatDoor
end
