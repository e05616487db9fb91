/- Several texts in one, each with its own sentence and conditions. -/
import Derived.Test.YtmiklffjffdkgaaGreatDoorGRwbc14
import Derived.Test.YtmiklffjffdkgaaGreatDoorZf
import Derived.Test.YtmiklffjffdkgaaGreatDoorGRwbc13
section
/- The document's own integers: ZDiv of any two. Conditions: less than 99999 fours of digits. -/
open Go.RowKit
set_option maxRecDepth 100000
namespace Go.Proofs.YtmiklffjffdkgaaGreatDoor
section
variable {W : World} {b b' s : Bool} {A A' : Option Addr} {c c' : Nat} {z z' q r : Int}
theorem rzdiv_h (h : Rz W b A c z) (h' : Rz W b' A' c' z') (h0 : z' ≠ 0) (hl : dq z.natAbs ≤ 99999) (hl' : dq z'.natAbs ≤ 99999) (hq : z / z' = q) (hr : z % z' = r) (hs : s = decide (q < 0)) :
    Calls Tryz.prog 78 #[.agg #[.bool b, .slice A (dq z.natAbs) c], .agg #[.bool b', .slice A' (dq z'.natAbs) c']] W (RzD W s q.natAbs r.natAbs) := by
  have e := h.zi
  have e' := h'.zi
  have hn : 0 < z'.natAbs := by omega
  by_cases hc : b = false ∨ z.natAbs % z'.natAbs = 0
  · obtain ⟨e1, e2⟩ := div_plain (b := b) (b' := b') (m := z.natAbs) (k := z'.natAbs) (by omega) hc
    rw [← e, ← e', hq] at e1
    rw [← e, ← e', hr] at e2
    have e3 : q.natAbs = z.natAbs / z'.natAbs := by rw [e1, zi_abs]
    have e4 : r.natAbs = z.natAbs % z'.natAbs := by omega
    have e5 : s = ((b != b') && decide (0 < q.natAbs)) := by rw [hs]; exact sig_of (by rw [e3]; exact e1)
    clear e e'
    cases b with
    | false =>
      cases b' with
      | false => exact rzdiv_false_false h.1 h'.1 hn hl hl' e3 e4 e5
      | true => exact rzdiv_false_true h.1 h'.1 hn hl hl' e3 e4 e5
    | true =>
      have e6 : r.natAbs = 0 := by rcases hc with hc | hc; (· cases hc); (· omega)
      cases b' with
      | false => exact rzdiv_true_false h.1 h'.1 hn hl hl' e3 e4 e6 e5
      | true => exact rzdiv_true_true h.1 h'.1 hn hl hl' e3 e4 e6 e5
  · have hb : b = true := by cases b; (· exact absurd (.inl rfl) hc); (· rfl)
    have hm : z.natAbs % z'.natAbs ≠ 0 := fun g => hc (.inr g)
    subst hb
    obtain ⟨e1, e2⟩ := div_low (b' := b') (m := z.natAbs) (k := z'.natAbs) (by omega) hm
    rw [← e, ← e', hq] at e1
    rw [← e, ← e', hr] at e2
    have e3 : q.natAbs = z.natAbs / z'.natAbs + 1 := by rw [e1, zi_abs]
    have e4 : r.natAbs = z'.natAbs - z.natAbs % z'.natAbs := by omega
    have e5 : s = ((true != b') && decide (0 < q.natAbs)) := by rw [hs]; exact sig_of (by rw [e3]; exact e1)
    clear e e'
    cases b' with
    | false => exact rzdiv_rest_false h.1 h'.1 hn hl hl' rfl rfl (by omega) e3 e4 e5
    | true => exact rzdiv_rest_true h.1 h'.1 hn hl hl' rfl rfl (by omega) e3 e4 e5
end
end Go.Proofs.YtmiklffjffdkgaaGreatDoor
end

section
/- The document's own integers: ZCmp, ZText. Conditions: less than 99998 fours of digits. -/
open Go.RowKit
set_option maxRecDepth 100000
namespace Go.Proofs.YtmiklffjffdkgaaGreatDoor
section
variable {W : World} {b b' s : Bool} {A A' : Option Addr} {c c' : Nat} {z z' v : Int}
theorem cmpZ_sign (x y : Int) : (x + -y).sign = cmpZ x y := by
  unfold cmpZ
  rcases Int.lt_trichotomy x y with h | h | h
  · rw [if_pos h, Int.sign_eq_neg_one_of_neg (by omega)]
  · rw [if_neg (by omega), if_neg (by omega), show x + -y = 0 by omega]; rfl
  · rw [if_neg (by omega), if_pos h, Int.sign_eq_one_of_pos (by omega)]
theorem dq_zadd {m : Nat} {z z' : Int} (h : dq z.natAbs ≤ m) (h' : dq z'.natAbs ≤ m) : dq (z + z').natAbs ≤ m + 1 := by
  have h1 : z.natAbs < D4 ^ m := Nat.lt_of_lt_of_le (lt_pow_digs (b := D4) (by decide) _) (Nat.pow_le_pow_right (by decide) h)
  have h2 : z'.natAbs < D4 ^ m := Nat.lt_of_lt_of_le (lt_pow_digs (b := D4) (by decide) _) (Nat.pow_le_pow_right (by decide) h')
  have h3 : (z + z').natAbs ≤ z.natAbs + z'.natAbs := Int.natAbs_add_le z z'
  refine dq_le ?_
  rw [Nat.pow_succ]
  generalize D4 ^ m = P at h1 h2
  rw [D4_eq]
  omega
end
end Go.Proofs.YtmiklffjffdkgaaGreatDoor
end

section
/- Package rat: Of, Int, Sign, Floor. Conditions: less than 100000 words. -/

open Go.RowKit
set_option maxRecDepth 100000
namespace Go.Proofs.YtmiklffjffdkgaaGreatDoor
def OfYes (W : World) (r : Rat) (e : Ending) (w' : World) : Prop := ∃ A c A' c', e = .returned (.tuple #[.agg #[.bool (decide (r.num < 0)), .slice A (dl r.num.natAbs) c, .slice A' (dl r.den) c'], .bool true]) ∧ ZA w' (decide (r.num < 0)) A (dl r.num.natAbs) c r.num ∧ Nm w' A' (dl r.den) c' r.den ∧ Hid (Below W.heap.size W w')
def OfNo (W : World) (e : Ending) (w' : World) : Prop := e = .returned (.tuple #[.agg #[.bool false, .slice none 0 0, .slice none 0 0], .bool false]) ∧ Hid (Below W.heap.size W w')
theorem ZR.al {W w' : World} {v : Int} {e : Ending} (h : ZR W v e w') (o : Obj) : ZR W v e (w'.alloc o) := by
  obtain ⟨A, c, he, h1, h2⟩ := h
  exact ⟨A, c, he, h1.al o, (Bel.al (Bel.of h2) o).hid⟩
section
variable {W : World} {b b' : Bool} {A A' : Option Addr} {n n' c c' m m' : Nat} {z z' : Int} {r : Rat} {K : Nat}
set_option maxHeartbeats 2000000 in
theorem of_no (hd : Nm W A' n' c' 0) : Calls Tryz.prog 54 #[.agg #[.bool b, .slice A n c], .agg #[.slice A' n' c']] W (OfNo W) := by
  have CZ : Hid (∀ W', Bel W W' → Calls Tryz.prog 87 #[.agg #[.slice A' n' c']] W' (RetB W' true)) := fun W' hb => rzero_h (m := 0) (hd.up hb)
  clear hd
  have HB := Bel.refl W
  go_enter Tryz.func54, Tryz.ntmps54
  go_wp2_with (first | (go_at_call 87; (with_reducible refine (CZ.out _ (((HB.al _).al _).al _)).mono ?_); rintro e w1 ⟨rfl, hbk⟩; have HP := At.up (((at_new0 _ _ _).al _).al _) hbk; have HN := At.up ((at_new1 _ _ _ _).al _) hbk; have HR := At.up (at_new2 _ _ _ _ _) hbk; replace HB := (((HB.al _).al _).al _).up hbk; have hr_0 := HR.c0; have hr_1 := HR.c1; have hr_2 := HR.c2; have hr_l := HR.lt; have hr_f0 := HR.f0; have hr_f1 := HR.f1; have hr_f2 := HR.f2) | fail)
  refine bodyPost_ret (v := .tuple #[.agg #[.bool false, .slice none 0 0, .slice none 0 0], .bool false]) (by simp [results, Tryz.results54, go_sem, hr_0, hr_1, hr_2]) rfl ?_
  exact ⟨rfl, below3 HB (by omega) _ _ _⟩
set_option maxHeartbeats 2000000 in
theorem of_yes {d : Nat} (hz : ZA W b A n c z) (hd : Nm W A' n' c' d) (h0 : 0 < d) (hr : mkRat z d = r) (bz : dl z.natAbs ≤ 99999) (bd : dl d ≤ 99999) :
    Calls Tryz.prog 54 #[.agg #[.bool b, .slice A n c], .agg #[.slice A' n' c']] W (OfYes W r) := by
  have CZ : Hid (∀ W', Bel W W' → Calls Tryz.prog 87 #[.agg #[.slice A' n' c']] W' (RetB W' false)) := fun W' hb => by
    have h1 := rzero_h (hd.up hb)
    rwa [decide_eq_false (by omega)] at h1
  have CL : Hid (∀ W', Bel W W' → Calls Tryz.prog 88 #[.agg #[.bool b, .slice A n c], .agg #[.slice A' n' c']] W' (QR W' r)) := fun W' hb => lowest_h (hz.up hb) (hd.up hb) h0 hr bz bd
  clear hz hd h0 hr bz bd
  have HB := Bel.refl W
  go_enter Tryz.func54, Tryz.ntmps54
  go_wp2_with (first | (go_at_call 87; (with_reducible refine (CZ.out _ (((HB.al _).al _).al _)).mono ?_); rintro e w1 ⟨rfl, hbk⟩; have HP := At.up (((at_new0 _ _ _).al _).al _) hbk; have HN := At.up ((at_new1 _ _ _ _).al _) hbk; have HR := At.up (at_new2 _ _ _ _ _) hbk; replace HB := (((HB.al _).al _).al _).up hbk; have hp_0 := HP.c0; have hp_1 := HP.c1; have hp_l := HP.lt; have hn_0 := HN.c0; have hn_l := HN.lt) | (go_at_call 88; (with_reducible refine (CL.out _ HB).mono ?_); rintro e w2 ⟨B, e1, B', e2, rfl, nz, nd, hbk⟩; replace HB := HB.up hbk; replace HR := HR.up hbk; clear hp_0 hp_1 hp_l hn_0 hn_l; have hr_0 := HR.c0; have hr_1 := HR.c1; have hr_2 := HR.c2; have hr_l := HR.lt; have hr_f0 := HR.f0; have hr_f1 := HR.f1; have hr_f2 := HR.f2) | fail)
  refine bodyPost_ret (v := .tuple #[.agg #[.bool (decide (r.num < 0)), .slice B (dl r.num.natAbs) e1, .slice B' (dl r.den) e2], .bool true]) (by simp [results, Tryz.results54, go_sem, hr_0, hr_1, hr_2]) rfl ?_
  exact ⟨B, e1, B', e2, rfl, zr_of (nz.1.put3 HR now3), nd.put3 HR now3, below3 HB (by first | omega | simp | (simp; omega)) _ _ _⟩
set_option maxHeartbeats 2000000 in
theorem rsign_h {v : Int} (h : QA W b A n c A' n' c' r K) (hK : 0 < K) (hv : r.num.sign = v) : Calls Tryz.prog 28 #[.agg #[.bool b, .slice A n c, .slice A' n' c']] W (IntPost W v) := by
  have CT : Hid (∀ W', Bel W W' → Calls Tryz.prog 69 #[.agg #[.bool b, .slice A n c, .slice A' n' c']] W' (TermsR W' r K)) := fun W' hb => terms_h (h.up hb) hK
  have CS : Hid (∀ W' s B k e z d, ZA W' s B k e z → Hid (0 < d ∧ mkRat z d = r ∧ z.natAbs < W32 ^ K ∧ d < W32 ^ K) → Calls Tryz.prog 63 #[.agg #[.bool s, .slice B k e]] W' (IntPost W' v)) := fun W' s B k e z d hz hd => sign_h hz (by rw [← hv, ← hd.out.2.1, sign_mk hd.out.1])
  clear h hv
  have HB := Bel.refl W
  go_enter Tryz.func28, Tryz.ntmps28
  go_wp2_with (first | (go_at_call 69; (with_reducible refine (CT.out _ (HB.al _)).mono ?_); rintro e w1 ⟨s, B, k, e1, B', k', e2, zv, d, rfl, zp, np, hp, hbk⟩; replace HB := (HB.al _).up hbk) | (go_at_call 63; (with_reducible refine (CS.out _ _ _ _ _ _ _ ((zp.al _).al _) hp).mono ?_); rintro e w2 ⟨rfl, hbk⟩; replace HB := ((HB.al _).al _).up hbk) | fail)
  go_ret
  exact ⟨rfl, HB⟩
end
end Go.Proofs.YtmiklffjffdkgaaGreatDoor
end
