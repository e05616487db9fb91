/- Several texts in one, each with its own sentence and conditions. -/
import Derived.Test.YtfcamfkimnlfgaaGreatDoorGRsmc25
import Derived.Test.YtfcamfkimnlfgaaGreatDoorGRsmc28
import Derived.Test.YtfcamfkimnlfgaaGreatDoorQe
import Derived.Test.YtfcamfkimnlfgaaGreatDoorGRsmc16
import Derived.Test.YtfcamfkimnlfgaaGreatDoorGRsmc9
import Derived.Test.YtfcamfkimnlfgaaGreatDoorGRsmc3
import Derived.Test.YtfcamfkimnlfgaaGreatDoorGRsmc10
import Derived.Deep.LoopGhost
section
/- The document's own fractions: QText, QCmp. Conditions: terms of at most 1000 words. -/
open Go.RowKit
set_option maxRecDepth 100000
namespace Go.Proofs.YtfcamfkimnlfgaaGreatDoor
theorem decL_one : decL 1 = [49] := by rw [dig1 (by decide) (by decide)]; rfl
theorem decL_no1 {d : Nat} {t : ByteArray} (hd : d ≠ 1) (h : t.data.toList = decL d) : (t.toList == [49]) = false := by
  rw [toList_data, h]
  cases e : (decL d == [49]) with
  | false => rfl
  | true =>
    have h2 : decL d = [49] := by simpa using e
    have h3 := (numL_decL d).1
    rw [h2] at h3
    exact absurd h3.symm hd
section
variable {W : World} {b b' s : Bool} {A A' B B' : Option Addr} {c c' e e' d K : Nat} {z v : Int} {r r' : Rat}
set_option maxHeartbeats 4000000 in
theorem rqtext_1 (h : Rz W b A c z) (h' : Rn W A' c' d) (h1 : d = 1) (hl : dq z.natAbs ≤ 4000) :
    Calls Tryz.prog 32 #[.agg #[.bool b, .slice A (dq z.natAbs) c, .slice A' (dq d) c']] W (TxR W (decZ z)) := by
  have CT : Hid (∀ W', Bel W W' → Calls Tryz.prog 104 #[.slice A' (dq d) c'] W' (StrR W' ⟨#[49]⟩)) := fun W' hb => (rText_any (h'.up hb.hid) (by rw [h1]; decide +kernel)).mono fun _ _ x => str_of x (by rw [h1]; exact decL_one.symm)
  have CZ : Hid (∀ W', Bel W W' → Calls Tryz.prog 105 #[.agg #[.bool b, .slice A (dq z.natAbs) c]] W' (TxR W' (decZ z))) := fun W' hb => rztext_h (h.up hb.hid) (by omega)
  clear h h' h1 hl
  have HB := Bel.refl W
  go_enter Tryz.func32, Tryz.ntmps32
  go_wp2_with (first | (go_at_call 104; (with_reducible refine (CT.out _ (HB.al _)).mono ?_); rintro e w1 ⟨rfl, hbk⟩; have HP := At.up (at_new0 _ _ _) hbk; replace HB := (HB.al _).up hbk; have hp_0 := HP.c0; have hp_1 := HP.c1; have hp_2 := HP.c2; have hp_l := HP.lt) | (go_at_call 105; (with_reducible refine (CZ.out _ HB).mono ?_); rintro e w2 ⟨t, rfl, ht, hbk⟩; replace HB := HB.up hbk) | fail)
  go_ret
  exact ⟨t, rfl, ht, HB⟩
set_option maxHeartbeats 4000000 in
theorem rqtext_2 (h : Rz W b A c z) (h' : Rn W A' c' d) (h1 : d ≠ 1) (hl : dq z.natAbs ≤ 4000) (hl' : dq d ≤ 4000) :
    Calls Tryz.prog 32 #[.agg #[.bool b, .slice A (dq z.natAbs) c, .slice A' (dq d) c']] W (TxR W (decZ z ++ (47 :: decL d))) := by
  have HL1 : Hid ((decZ z).length ≤ 20002) := by
    have h2 := dec_four (m := z.natAbs)
    unfold Hid decZ
    split
    · rw [List.length_cons]; omega
    · omega
  have HL2 : Hid ((decL d).length ≤ 20001) := Nat.le_trans (dec_four (m := d)) (by omega)
  have CT : Hid (∀ W', Bel W W' → Calls Tryz.prog 104 #[.slice A' (dq d) c'] W' (TxR W' (decL d))) := fun W' hb => rText_any (h'.up hb.hid) (by omega)
  have CZ : Hid (∀ W', Bel W W' → Calls Tryz.prog 105 #[.agg #[.bool b, .slice A (dq z.natAbs) c]] W' (TxR W' (decZ z))) := fun W' hb => rztext_h (h.up hb.hid) (by omega)
  have HD := hide h1
  clear h h' h1 hl hl'
  have HB := Bel.refl W
  go_enter Tryz.func32, Tryz.ntmps32
  go_wp2_with (first | (go_at_call 104; (with_reducible refine (CT.out _ (HB.al _)).mono ?_); rintro e w1 ⟨t0, rfl, ht0, hbk⟩; have HP := At.up (at_new0 _ _ _) hbk; replace HB := (HB.al _).up hbk; have hne := decL_no1 HD.out ht0.out) | fail)
  go_region_held3 (fun w' => w'.cell? ⟨W.heap.size, 0, none⟩ = some (.bool b) ∧ w'.cell? ⟨W.heap.size, 1, none⟩ = some (.slice A (dq z.natAbs) c) ∧ w'.cell? ⟨W.heap.size, 2, none⟩ = some (.slice A' (dq d) c'))
    (first | exact ⟨HP.dr.c0, HP.dr.c1, HP.dr.c2⟩ | exact ⟨HP.c0, HP.c1, HP.c2⟩)
    (first | (go_at_call 105; (with_reducible refine (CZ.out _ HB.dr).mono ?_); rintro e w4 ⟨t, rfl, ht, hbk⟩; replace HB := HB.dr.up hbk; replace HP := HP.dr.up hbk; have hts : t.size ≤ 20002 := (by rw [size_list, ht.out]; exact HL1.out); have hc1 : ¬ 9223372036854775807 < t.size + 1 := (by omega); have hc2 : t.size + 1 ≤ 9223372036854775807 := (by omega)) | (go_at_call 104; (with_reducible refine (CT.out _ HB).mono ?_); rintro e w5 ⟨t2, rfl, ht2, hbk⟩; replace HB := HB.up hbk; replace HP := HP.up hbk; have hts2 : t2.size ≤ 20001 := (by rw [size_list, ht2.out]; exact HL2.out); have hd1 : ¬ 9223372036854775807 < t.size + 1 + t2.size := (by omega); have hd2 : t.size + 1 + t2.size ≤ 9223372036854775807 := (by omega)) | fail)
  go_wp2
  go_ret
  refine ⟨_, rfl, ?_, HB⟩
  unfold Hid
  rw [← ht.out, ← ht2.out]
  simp
theorem rqtext_c (hb : Bd r K) (hK : K ≤ 1000) (h : Rz W b A c r.num) (h' : Rn W A' c' r.den) :
    Calls Tryz.prog 32 #[.agg #[.bool b, .slice A (dq r.num.natAbs) c, .slice A' (dq r.den) c']] W (TxR W (decQ r)) := by
  have q := bd_q hb hK
  by_cases h1 : r.den = 1
  · have h2 := rqtext_1 h h' h1 q.1
    rwa [show decQ r = decZ r.num from if_pos h1]
  · have h2 := rqtext_2 h h' h1 q.1 q.2
    rwa [show decQ r = decZ r.num ++ (47 :: decL r.den) from if_neg h1]
set_option maxHeartbeats 4000000 in
theorem rqcmp_c (hb : Bd r K) (hb' : Bd r' K) (hK : K ≤ 1000) (h : Rz W b A c r.num) (h' : Rn W A' c' r.den) (k : Rz W b' B e r'.num) (k' : Rn W B' e' r'.den) (hv : (r + -r').num.sign = v) :
    Calls Tryz.prog 21 #[.agg #[.bool b, .slice A (dq r.num.natAbs) c, .slice A' (dq r.den) c'], .agg #[.bool b', .slice B (dq r'.num.natAbs) e, .slice B' (dq r'.den) e']] W (IntPost W v) := by
  obtain ⟨x, hx⟩ : ∃ x, x = -r' := ⟨_, rfl⟩
  obtain ⟨y, hy⟩ : ∃ y, y = r + x := ⟨_, rfl⟩
  obtain ⟨sx, hsx⟩ : ∃ s, s = decide (x.num < 0) := ⟨_, rfl⟩
  obtain ⟨sy, hsy⟩ : ∃ s, s = decide (y.num < 0) := ⟨_, rfl⟩
  have bx : Bd x K := by rw [hx]; exact hb'.neg
  rw [← hx, ← hy] at hv
  have CN : Hid (∀ W', Rz W' b' B e r'.num → Rn W' B' e' r'.den → Calls Tryz.prog 23 #[.agg #[.bool b', .slice B (dq r'.num.natAbs) e, .slice B' (dq r'.den) e']] W' (RQm W' sx x.num x.den)) := fun W' g g' => by rw [hsx, hx]; exact rqneg_c g g' rfl
  have CA : Hid (∀ W' F f G g, Rz W' b A c r.num → Rn W' A' c' r.den → Rz W' sx F f x.num → Rn W' G g x.den → Calls Tryz.prog 25 #[.agg #[.bool b, .slice A (dq r.num.natAbs) c, .slice A' (dq r.den) c'], .agg #[.bool sx, .slice F (dq x.num.natAbs) f, .slice G (dq x.den) g]] W' (RQm W' sy y.num y.den)) := fun W' F f G g g1 g2 g3 g4 => by rw [hsy, hy]; exact rqadd_c hb bx hK g1 g2 g3 g4
  have CS : Hid (∀ W' F f G g, Rz W' sy F f y.num → Calls Tryz.prog 14 #[.agg #[.bool sy, .slice F (dq y.num.natAbs) f, .slice G (dq y.den) g]] W' (IntPost W' v)) := fun W' F f G g g1 => rqsign_h g1 hv
  clear hb hb' hK hx hy hsx hsy bx hv
  have HB := Bel.refl W
  go_enter Tryz.func21, Tryz.ntmps21
  go_wp2_with fail
  obtain ⟨W1, hW1⟩ : ∃ X, X = (W.alloc (.cells #[.bool b, .slice A (dq r.num.natAbs) c, .slice A' (dq r.den) c'] 36)).alloc (.cells #[.bool b', .slice B (dq r'.num.natAbs) e, .slice B' (dq r'.den) e'] 36) := ⟨_, rfl⟩
  rw [← hW1]
  have HP : At W1 W.heap.size [.bool b, .slice A (dq r.num.natAbs) c, .slice A' (dq r.den) c'] := by rw [hW1]; exact (at_new0 _ _ _).al _
  have HQ : At W1 (W.heap.size + 1) [.bool b', .slice B (dq r'.num.natAbs) e, .slice B' (dq r'.den) e'] := by rw [hW1]; exact at_new1 _ _ _ _
  replace HB : Bel W W1 := by rw [hW1]; exact (HB.al _).al _
  replace h : Rz W1 b A c r.num := by rw [hW1]; exact (h.al _).al _
  replace h' : Rn W1 A' c' r.den := by rw [hW1]; exact (h'.al _).al _
  replace k : Rz W1 b' B e r'.num := by rw [hW1]; exact (k.al _).al _
  replace k' : Rn W1 B' e' r'.den := by rw [hW1]; exact (k'.al _).al _
  clear hW1
  go_region_held3 (fun w' => w'.cell? ⟨W.heap.size, 0, none⟩ = some (.bool b) ∧ w'.cell? ⟨W.heap.size, 1, none⟩ = some (.slice A (dq r.num.natAbs) c) ∧ w'.cell? ⟨W.heap.size, 2, none⟩ = some (.slice A' (dq r.den) c') ∧ w'.cell? ⟨W.heap.size + 1, 0, none⟩ = some (.bool b') ∧ w'.cell? ⟨W.heap.size + 1, 1, none⟩ = some (.slice B (dq r'.num.natAbs) e) ∧ w'.cell? ⟨W.heap.size + 1, 2, none⟩ = some (.slice B' (dq r'.den) e'))
    (first | exact ⟨HP.dr.c0, HP.dr.c1, HP.dr.c2, HQ.dr.c0, HQ.dr.c1, HQ.dr.c2⟩ | exact ⟨HP.c0, HP.c1, HP.c2, HQ.c0, HQ.c1, HQ.c2⟩)
    (first | (go_at_call 23; (with_reducible refine (CN.out _ k.dr k'.dr).mono ?_); rintro e w1 ⟨F, f, G, g, rfl, m1, m2, hbk⟩; (with_reducible (replace HB := HB.dr.up hbk; replace HP := HP.dr.up hbk; replace HQ := HQ.dr.up hbk; replace h := h.dr.up hbk; replace h' := h'.dr.up hbk))) | (go_at_call 25; (with_reducible refine (CA.out _ _ _ _ _ h h' m1 m2).mono ?_); rintro e w2 ⟨F2, f2, G2, g2, rfl, n1, n2, hbk⟩; (with_reducible (replace HB := HB.up hbk; replace HP := HP.up hbk; replace HQ := HQ.up hbk))) | (go_at_call 14; (with_reducible refine (CS.out _ _ _ _ _ n1).mono ?_); rintro e w3 ⟨rfl, hbk⟩; (with_reducible (replace HB := HB.up hbk; replace HP := HP.up hbk; replace HQ := HQ.up hbk))) | fail)
  go_wp2_with fail
  go_ret
  exact ⟨rfl, HB⟩
end
end Go.Proofs.YtfcamfkimnlfgaaGreatDoor
end

section
/- Package rat: Good of any fraction, Inv. Conditions: terms of at most 20000 words. -/
open Go.RowKit
set_option maxRecDepth 100000
namespace Go.Proofs.YtfcamfkimnlfgaaGreatDoor
section
variable {W w : World} {b : Bool} {A A' : Option Addr} {n c n' c' K m m' : Nat} {r : Rat} {z : Int}
/-- Whether the words of a number are valid: one answer in every later world. -/
theorem ngood_e (h : Nm w A n c m) : ∃ g, ∀ W', Bel w W' → Calls Tryz.prog 114 #[.agg #[.slice A n c]] W' (RetB W' g) := by
  obtain ⟨ws, h1, h2, h3, hr, h4⟩ := h.out
  refine ⟨goodB ws, fun W' hb => ?_⟩
  exact (Good_any (c := c) h1 ((hr.below hb).more (Below.size hb)) (by omega)).mono fun e w' ⟨he, hb2⟩ => ⟨he, hb2⟩
set_option maxHeartbeats 1000000 in
theorem zgood_f (hn : ∀ W', Bel W W' → Calls Tryz.prog 114 #[.agg #[.slice A n c]] W' (RetB W' false)) :
    Calls Tryz.prog 98 #[.agg #[.bool b, .slice A n c]] W (RetB W false) := by
  have CG := hide hn
  clear hn
  have HB := Bel.refl W
  go_enter Tryz.func98, Tryz.ntmps98
  go_wp2_with (first | (go_at_call 114; (with_reducible refine (CG.out _ (HB.al _)).mono ?_); rintro e w1 ⟨rfl, hbk⟩; have HP := At.up (at_new0 _ _ _) hbk; replace HB := (HB.al _).up hbk; have hp_0 := HP.c0; have hp_1 := HP.c1; have hp_l := HP.lt) | fail)
  go_ret
  exact ⟨rfl, HB⟩
set_option maxHeartbeats 1000000 in
theorem zgood_p (hn : ∀ W', Bel W W' → Calls Tryz.prog 114 #[.agg #[.slice A n c]] W' (RetB W' true)) :
    Calls Tryz.prog 98 #[.agg #[.bool false, .slice A n c]] W (RetB W true) := by
  have CG := hide hn
  clear hn
  have HB := Bel.refl W
  go_enter Tryz.func98, Tryz.ntmps98
  go_wp2_with (first | (go_at_call 114; (with_reducible refine (CG.out _ (HB.al _)).mono ?_); rintro e w1 ⟨rfl, hbk⟩; have HP := At.up (at_new0 _ _ _) hbk; replace HB := (HB.al _).up hbk; have hp_0 := HP.c0; have hp_1 := HP.c1; have hp_l := HP.lt) | fail)
  go_ret
  exact ⟨rfl, HB⟩
set_option maxHeartbeats 1000000 in
theorem zgood_t (hn : ∀ W', Bel W W' → Calls Tryz.prog 114 #[.agg #[.slice A n c]] W' (RetB W' true)) (hz : ∀ W', Bel W W' → Calls Tryz.prog 140 #[.agg #[.slice A n c]] W' (BoolR W' false)) :
    Calls Tryz.prog 98 #[.agg #[.bool true, .slice A n c]] W (RetB W true) := by
  have CG := hide hn
  have CZ := hide hz
  clear hz
  clear hn
  have HB := Bel.refl W
  go_enter Tryz.func98, Tryz.ntmps98
  go_wp2_with (first | (go_at_call 114; (with_reducible refine (CG.out _ (HB.al _)).mono ?_); rintro e w1 ⟨rfl, hbk⟩; have HP := At.up (at_new0 _ _ _) hbk; replace HB := (HB.al _).up hbk; have hp_0 := HP.c0; have hp_1 := HP.c1; have hp_l := HP.lt) | (go_at_call 140; (with_reducible refine (CZ.out _ HB).mono ?_); rintro e w2 ⟨rfl, hbk⟩; replace HB := HB.up hbk) | fail)
  go_ret
  exact ⟨rfl, HB⟩
set_option maxHeartbeats 1000000 in
theorem zgood_n (hn : ∀ W', Bel W W' → Calls Tryz.prog 114 #[.agg #[.slice A n c]] W' (RetB W' true)) (hz : ∀ W', Bel W W' → Calls Tryz.prog 140 #[.agg #[.slice A n c]] W' (BoolR W' true)) :
    Calls Tryz.prog 98 #[.agg #[.bool true, .slice A n c]] W (RetB W false) := by
  have CG := hide hn
  have CZ := hide hz
  clear hz
  clear hn
  have HB := Bel.refl W
  go_enter Tryz.func98, Tryz.ntmps98
  go_wp2_with (first | (go_at_call 114; (with_reducible refine (CG.out _ (HB.al _)).mono ?_); rintro e w1 ⟨rfl, hbk⟩; have HP := At.up (at_new0 _ _ _) hbk; replace HB := (HB.al _).up hbk; have hp_0 := HP.c0; have hp_1 := HP.c1; have hp_l := HP.lt) | (go_at_call 140; (with_reducible refine (CZ.out _ HB).mono ?_); rintro e w2 ⟨rfl, hbk⟩; replace HB := HB.up hbk) | fail)
  go_ret
  exact ⟨rfl, HB⟩
theorem zisz_e (h : Nm w A n c m) : ∃ f, ∀ W', Bel w W' → Calls Tryz.prog 140 #[.agg #[.slice A n c]] W' (BoolR W' f) := by
  by_cases h0 : m = 0
  · exact ⟨true, fun W' hb => isZero_yes (h.up hb) h0⟩
  · exact ⟨false, fun W' hb => isZero_no (h.up hb) (by omega)⟩
/-- One of num.Good's two walks, in every later world with one answer. -/
theorem zgood_e (h : ZA w b A n c z) : ∃ u, ∀ W', Bel w W' → Calls Tryz.prog 98 #[.agg #[.bool b, .slice A n c]] W' (RetB W' u) := by
  obtain ⟨g, hg⟩ := ngood_e h.1
  obtain ⟨f, hf⟩ := zisz_e h.1
  cases g
  · refine ⟨false, fun W' hb => ?_⟩
    exact zgood_f (fun W2 hb2 => hg W2 (Bel.up hb hb2))
  · cases b
    · exact ⟨true, fun W' hb => zgood_p (fun W2 hb2 => hg W2 (Bel.up hb hb2))⟩
    · cases f
      · exact ⟨true, fun W' hb => zgood_t (fun W2 hb2 => hg W2 (Bel.up hb hb2)) (fun W2 hb2 => hf W2 (Bel.up hb hb2))⟩
      · exact ⟨false, fun W' hb => zgood_n (fun W2 hb2 => hg W2 (Bel.up hb hb2)) (fun W2 hb2 => hf W2 (Bel.up hb hb2))⟩
def OfYs2 (W : World) (sg : Bool) (r : Rat) (e : Ending) (w' : World) : Prop := ∃ A c A' c', e = .returned (.tuple #[.agg #[.bool sg, .slice A (dl r.num.natAbs) c, .slice A' (dl r.den) c'], .bool true]) ∧ ZA w' sg A (dl r.num.natAbs) c r.num ∧ Nm w' A' (dl r.den) c' r.den ∧ Hid (Below W.heap.size W w')
end
end Go.Proofs.YtfcamfkimnlfgaaGreatDoor
end

section
/- Package rat: Inv. -/
open Go.RowKit
set_option maxRecDepth 100000
namespace Go.Proofs.YtfcamfkimnlfgaaGreatDoor
section
variable {W w : World} {b : Bool} {A A' : Option Addr} {n c n' c' K m m' : Nat} {r : Rat} {z : Int}
theorem tt_inv {s : Bool} {z : Int} {d : Nat} {B : Option Addr} {k e : Nat} (hz : ZA W s B k e z) (h : TT z d r K) (h0 : r ≠ 0) : z ≠ 0 ∧ mkRat (zi s d) z.natAbs = r⁻¹ := by
  obtain ⟨h1, h2, _, _⟩ := h
  have hz0 : z ≠ 0 := by
    intro e
    apply h0
    rw [← h2, e]; simp
  refine ⟨hz0, ?_⟩
  have hs := za_sign hz hz0
  rw [← h2, inv_mk hz0 h1, hs]
  by_cases hn : z < 0
  · rw [if_pos hn, decide_eq_true hn, zi_true]
  · rw [if_neg hn, decide_eq_false hn, zi_false]

set_option maxHeartbeats 2000000 in
theorem inv_yes (h : QA W b A n c A' n' c' r K) (hK : 0 < K) (hK2 : K ≤ 20000) (h0 : r ≠ 0) : Calls Tryz.prog 9 #[.agg #[.bool b, .slice A n c, .slice A' n' c']] W (OfYes W r⁻¹) := by
  obtain ⟨si, hsi⟩ : ∃ s, s = decide ((r⁻¹).num < 0) := ⟨_, rfl⟩
  obtain ⟨v, hv⟩ : ∃ v, v = r⁻¹ := ⟨_, rfl⟩
  rw [← hv] at hsi
  have CT : Hid (∀ W', Bel W W' → Calls Tryz.prog 74 #[.agg #[.bool b, .slice A n c, .slice A' n' c']] W' (TermsR W' r K)) := fun W' hb => terms_h (h.up hb) hK
  have CO : Hid (∀ W' s B k e B' k' e' z d, ZA W' s B k e z → Nm W' B' k' e' d → Hid (TT z d r K) → Calls Tryz.prog 17 #[.agg #[.bool s, .slice B' k' e'], .agg #[.slice B k e]] W' (OfYs2 W' si v)) := fun W' s B k e B' k' e' z d h1 h2 h3 => by
    obtain ⟨e1, e2⟩ := tt_inv h1 h3.out h0
    rw [hsi, hv]
    exact of_yes (za_of h2) h1.1 (by omega) e2 (by rw [zi_abs]; exact dl_bd2 h3.out.2.2.2 (by omega)) (dl_bd2 h3.out.2.2.1 (by omega))
  rw [← hv]
  have HSI := hide hsi
  clear h h0 hsi hv
  have HB := Bel.refl W
  go_enter Tryz.func9, Tryz.ntmps9
  go_wp2_with (first | (go_at_call 74; (with_reducible refine (CT.out _ ((HB.al _).al _)).mono ?_); rintro e w1 ⟨ps, pA, pn, pc, pB, pm, pe, pz, pd, rfl, pzz, pnn, ph, hbk⟩; have HR := At.up (at_new1 _ _ _ _) hbk; replace HB := ((HB.al _).al _).up hbk; replace ph : Hid (TT pz pd r K) := ph) | (go_at_call 17; (with_reducible refine (CO.out _ _ _ _ _ _ _ _ _ _ ((pzz.al _).al _) ((pnn.al _).al _) ph).mono ?_); rintro e w2 ⟨B, e1, B', e2, rfl, nz, nd, hbk⟩; replace HB := ((HB.al _).al _).up hbk; replace HR := ((HR.al _).al _).up hbk; have hr_0 := HR.c0; have hr_1 := HR.c1; have hr_2 := HR.c2; have hr_l := HR.lt; have hr_f0 := HR.f0; have hr_f1 := HR.f1; have hr_f2 := HR.f2) | fail)
  refine bodyPost_ret (v := .tuple #[.agg #[.bool si, .slice B (dl v.num.natAbs) e1, .slice B' (dl v.den) e2], .bool true]) (by simp [results, Tryz.results9, go_sem, hr_0, hr_1, hr_2]) rfl ?_
  exact ⟨B, e1, B', e2, by rw [HSI.out], zr_of (nz.1.put3 HR now3), nd.put3 HR now3, below3 HB (by omega) _ _ _⟩
set_option maxHeartbeats 2000000 in
theorem inv_no (h : QA W b A n c A' n' c' r K) (hK : 0 < K) (h0 : r = 0) : Calls Tryz.prog 9 #[.agg #[.bool b, .slice A n c, .slice A' n' c']] W (OfNo W) := by
  have CT : Hid (∀ W', Bel W W' → Calls Tryz.prog 74 #[.agg #[.bool b, .slice A n c, .slice A' n' c']] W' (TermsR W' r K)) := fun W' hb => terms_h (h.up hb) hK
  have CO : Hid (∀ W' s B k e B' k' e' z d, ZA W' s B k e z → Nm W' B' k' e' d → Hid (TT z d r K) → Calls Tryz.prog 17 #[.agg #[.bool s, .slice B' k' e'], .agg #[.slice B k e]] W' (OfNo W')) := fun W' s B k e B' k' e' z d h1 h2 h3 => by
    have e1 : z = 0 := (Rat.mkRat_eq_zero (by have := h3.out.1; omega)).1 (h3.out.2.1.trans h0)
    subst e1
    exact of_no h1.1
  clear h h0
  have HB := Bel.refl W
  go_enter Tryz.func9, Tryz.ntmps9
  go_wp2_with (first | (go_at_call 74; (with_reducible refine (CT.out _ ((HB.al _).al _)).mono ?_); rintro e w1 ⟨ps, pA, pn, pc, pB, pm, pe, pz, pd, rfl, pzz, pnn, ph, hbk⟩; have HR := At.up (at_new1 _ _ _ _) hbk; replace HB := ((HB.al _).al _).up hbk; replace ph : Hid (TT pz pd r K) := ph) | (go_at_call 17; (with_reducible refine (CO.out _ _ _ _ _ _ _ _ _ _ ((pzz.al _).al _) ((pnn.al _).al _) ph).mono ?_); rintro e w2 ⟨rfl, hbk⟩; replace HB := ((HB.al _).al _).up hbk; replace HR := ((HR.al _).al _).up hbk; have hr_0 := HR.c0; have hr_1 := HR.c1; have hr_2 := HR.c2; have hr_l := HR.lt; have hr_f0 := HR.f0; have hr_f1 := HR.f1; have hr_f2 := HR.f2) | fail)
  refine bodyPost_ret (v := .tuple #[.agg #[.bool false, .slice none 0 0, .slice none 0 0], .bool false]) (by simp [results, Tryz.results9, go_sem, hr_0, hr_1, hr_2]) rfl ?_
  exact ⟨rfl, below3 HB (by omega) _ _ _⟩
end
end Go.Proofs.YtfcamfkimnlfgaaGreatDoor
end

section
/- Rounding in numbers: which integer beside p / q a mode takes; how near it is. No conditions. -/
open Go.RowKit
set_option maxRecDepth 100000
namespace Go.Proofs.YtfcamfkimnlfgaaGreatDoor
/-- Where the distances don't tell: does the mode m take the integer above f? -/
def lnUp (m f : Int) : Bool :=
  if m = 1 ∨ m = 5 then decide (f < 0) else if m = 2 ∨ m = 6 then !decide (f < 0) else if m = 7 then decide (f % 2 ≠ 0) else decide (m = 4)
/-- f + r / q is no integer: does the mode m take the integer above f? -/
def rdUp (m f : Int) (r q : Nat) : Bool :=
  if m ≤ 4 then lnUp m f else if r + r < q then false else if q < r + r then true else lnUp m f
/-- p / q rounded by the mode m; over 0 it is 0. -/
def rdZ (m p : Int) (q : Nat) : Int :=
  if q = 0 then 0 else if p % (q : Int) = 0 then p / (q : Int) else if rdUp m (p / (q : Int)) (p % (q : Int)).natAbs q = true then p / (q : Int) + 1 else p / (q : Int)
/-- A fraction rounded by the mode m. -/
def rdR (m : Int) (x : Rat) : Int := rdZ m x.num x.den
theorem rdUp_mul {m f : Int} {r q g : Nat} (hg : 0 < g) : rdUp m f (r * g) (q * g) = rdUp m f r q := by
  unfold rdUp
  have e1 : (r * g + r * g < q * g) = (r + r < q) := by rw [← Nat.add_mul]; exact propext (Nat.mul_lt_mul_right hg)
  have e2 : (q * g < r * g + r * g) = (q < r + r) := by rw [← Nat.add_mul]; exact propext (Nat.mul_lt_mul_right hg)
  simp only [e1, e2]
theorem rdZ_mul {m p : Int} {q g : Nat} (hg : 0 < g) : rdZ m (p * (g : Int)) (q * g) = rdZ m p q := by
  have hg' : (0 : Int) < (g : Int) := by omega
  unfold rdZ
  by_cases hq : q = 0
  · rw [if_pos hq, if_pos (by rw [hq, Nat.zero_mul])]
  have hq2 : q * g ≠ 0 := Nat.mul_ne_zero hq (by omega)
  rw [if_neg hq, if_neg hq2]
  have e1 : p * (g : Int) / ((q * g : Nat) : Int) = p / (q : Int) := by
    rw [Int.natCast_mul, Int.mul_comm p, Int.mul_comm (q : Int)]; exact Int.mul_ediv_mul_of_pos p (q : Int) hg'
  have e2 : p * (g : Int) % ((q * g : Nat) : Int) = p % (q : Int) * (g : Int) := by
    rw [Int.natCast_mul, Int.mul_comm p, Int.mul_comm (q : Int), Int.mul_emod_mul_of_pos p (q : Int) hg', Int.mul_comm]
  have e3 : (p % (q : Int) * (g : Int) = 0) = (p % (q : Int) = 0) := propext ⟨fun h => by
    rcases Int.mul_eq_zero.1 h with h | h
    · exact h
    · omega, fun h => by rw [h, Int.zero_mul]⟩
  have e4 : (p % (q : Int) * (g : Int)).natAbs = (p % (q : Int)).natAbs * g := by rw [Int.natAbs_mul, Int.natAbs_natCast]
  rw [e1, e2, e4, rdUp_mul hg]
  simp only [e3]
theorem rdZ_mk (m z : Int) (d : Nat) : rdZ m z d = rdR m (mkRat z d) := by
  by_cases hd : d = 0
  · subst hd
    rw [Rat.mkRat_zero]
    unfold rdR rdZ
    rw [if_pos rfl, if_neg (by decide)]
    rfl
  · obtain ⟨h1, h2, h3, h4, h5, h6⟩ := low_terms (z := z) (d := d) (by omega) rfl
    obtain ⟨g, hg⟩ : ∃ g, g = Nat.gcd z.natAbs d := ⟨_, rfl⟩
    rw [← hg] at h1 h2 h3 h4 h5
    have hden : d = (mkRat z d).den * g := by
      rw [h3]; exact (Nat.div_mul_cancel (Nat.dvd_of_mod_eq_zero h5)).symm
    have hx := mk_cross (z := z) (d := d) (by omega)
    have k1 : ∀ (num : Int) (den g d : Nat), num * (d : Int) = z * (den : Int) → d = den * g → 0 < den → z = num * (g : Int) := by
      rintro num den g d h rfl hp
      refine Int.eq_of_mul_eq_mul_right (by omega : (den : Int) ≠ 0) ?_
      rw [← h, Int.natCast_mul, Int.mul_assoc, Int.mul_comm (g : Int)]
    have k2 : ∀ (num : Int) (den g : Nat), z = num * (g : Int) → d = den * g → 0 < g → rdZ m z d = rdZ m num den := by
      rintro num den g rfl rfl hg
      exact rdZ_mul hg
    exact k2 _ _ g (k1 _ _ g d hx hden (mkRat z d).den_pos) hden h1
theorem rd_near {m p : Int} {q : Nat} (hq : 0 < q) : rdZ m p q * (q : Int) - p < (q : Int) ∧ -(q : Int) < rdZ m p q * (q : Int) - p ∧ (5 ≤ m → 2 * (rdZ m p q * (q : Int) - p) ≤ (q : Int) ∧ -(q : Int) ≤ 2 * (rdZ m p q * (q : Int) - p)) := by
  have h1 := Int.emod_add_mul_ediv p (q : Int)
  have h2 := Int.emod_nonneg p (by omega : (q : Int) ≠ 0)
  have h3 := Int.emod_lt_of_pos p (by omega : (0 : Int) < (q : Int))
  obtain ⟨f, hf⟩ : ∃ f, f = p / (q : Int) := ⟨_, rfl⟩
  obtain ⟨r, hr⟩ : ∃ r, r = p % (q : Int) := ⟨_, rfl⟩
  obtain ⟨X, hX⟩ : ∃ X, X = (q : Int) * f := ⟨_, rfl⟩
  unfold rdZ
  rw [if_neg (by omega), ← hf, ← hr]
  rw [← hr, ← hf, ← hX] at h1
  rw [← hr] at h2 h3
  by_cases h0 : r = 0
  · rw [if_pos h0, Int.mul_comm, ← hX]
    refine ⟨by omega, by omega, fun _ => ⟨by omega, by omega⟩⟩
  · rw [if_neg h0]
    by_cases hu : rdUp m f r.natAbs q = true
    · rw [if_pos hu, Int.add_mul, Int.one_mul, Int.mul_comm, ← hX]
      refine ⟨by omega, by omega, fun h5 => ?_⟩
      unfold rdUp at hu
      rw [if_neg (by omega)] at hu
      by_cases h6 : r.natAbs + r.natAbs < q
      · rw [if_pos h6] at hu; cases hu
      · exact ⟨by omega, by omega⟩
    · rw [if_neg hu, Int.mul_comm, ← hX]
      refine ⟨by omega, by omega, fun h5 => ?_⟩
      unfold rdUp at hu
      rw [if_neg (by omega)] at hu
      by_cases h6 : r.natAbs + r.natAbs < q
      · exact ⟨by omega, by omega⟩
      · rw [if_neg h6] at hu
        by_cases h7 : q < r.natAbs + r.natAbs
        · rw [if_pos h7] at hu; exact absurd rfl hu
        · exact ⟨by omega, by omega⟩
theorem rdR_int (m n : Int) : rdR m (n : Rat) = n := by
  unfold rdR rdZ
  rw [show ((n : Rat)).den = 1 from rfl, show ((n : Rat)).num = n from rfl, if_neg (by decide), if_pos (by omega)]
  omega
end Go.Proofs.YtfcamfkimnlfgaaGreatDoor
end

section
/- Low. Conditions: lengths that fit int. -/
open Go.RowKit
set_option maxRecDepth 100000
namespace Go.Proofs.YtfcamfkimnlfgaaGreatDoor
def LowPost (w : World) (m : Nat) (e : Ending) (w' : World) : Prop :=
  e = .returned (.tuple #[.int .u64 ((if m < 18446744073709551616 then m else 0 : Nat) : Int), .bool (decide (m < 18446744073709551616))]) ∧ Below w.heap.size w w'
theorem low_ret {v u : Int} {b b' : Bool} (h : v = u) (hb : b = b') : Ending.returned (.tuple #[.int .u64 v, .bool b]) = .returned (.tuple #[.int .u64 u, .bool b']) := by rw [h, hb]
end Go.Proofs.YtfcamfkimnlfgaaGreatDoor
end

section
/- The document's own numbers: Pow. Conditions: every power up to the last has at most 100000 fours of digits. -/
open Go.RowKit
set_option maxRecDepth 100000
namespace Go.Proofs.YtfcamfkimnlfgaaGreatDoor
set_option maxHeartbeats 1000000 in
theorem rPow_any {A : Option Addr} {c m k : Nat} {w : World} (h : RN w w.heap.size A c m) (hk : k ≤ 1000000) (hb : ∀ i, i ≤ k → dq (m ^ i) ≤ 100000) (hm : dq m ≤ 100000) :
    Calls Tryz.prog 151 #[.slice A (dq m) c, .int .i64 (k : Int)] w (RefPost w (m ^ k)) := by
  have H := hide h
  have HB := hide hb
  have CO : Hid (∀ W, Calls Tryz.prog 71 #[.int .u64 1] W (RefPost W 1)) := fun W => Small_any (n := 1) (w := W) (by decide)
  clear h hb
  go_enter Tryz.func151, Tryz.ntmps151
  go_wp2_with (first | (go_at_call 71; go_must (refine (CO.out _).mono ?_); rintro e w1 ⟨A1, c1, rfl, hr1, hb1⟩))
  go_loopw [5, 6] (fun rv iv wr => ∃ (i : Nat) (B : Option Addr) (d : Nat), i ≤ k ∧ iv = .int .i64 (i : Int) ∧ rv = .slice B (dq (m ^ i)) d ∧ Hid (RN wr wr.heap.size B d (m ^ i)) ∧ Hid (Below w.heap.size w wr))
    (fun _ iv _ => k - (intOf iv).toNat)
  case atStart => exact ⟨0, A1, c1, Nat.zero_le _, rfl, by rw [Nat.pow_zero], by rw [Nat.pow_zero]; exact hr1, hb1⟩
  case round =>
    obtain ⟨i, B, d, hi, rfl, rfl, hr, hbel⟩ := hrel
    by_cases hlt : i < k
    · have CM : Hid (Calls Tryz.prog 87 #[.slice B (dq (m ^ i)) d, .slice A (dq m) c] wr (RefPost wr (m ^ (i + 1)))) := by
        unfold Hid
        rw [Nat.pow_succ]
        exact rMul_any hr.out ((H.out.below hbel.out).more hbel.out.size) (HB.out i hi) hm
      go_wp2_with (first | (go_at_call 87; go_must (refine CM.out.mono ?_); rintro e w2 ⟨B2, d2, rfl, hr2, hb2⟩))
      go_roundw
      case rel => exact ⟨i + 1, B2, d2, by omega, by go_num, rfl, hr2, hbel.out.trans (hb2.out.mono hbel.out.size)⟩
      case measure => simp [intOf]; omega
    · obtain rfl : i = k := by omega
      go_wp2
      go_ret
      exact ⟨B, d, rfl, hr, hbel⟩
set_option maxHeartbeats 1000000 in
/-- Of a power below 1: 1. -/
theorem rPow_low {A : Option Addr} {n c : Nat} {k : Int} {w : World} (hk : k ≤ 0) (hk2 : -9223372036854775808 ≤ k) : Calls Tryz.prog 151 #[.slice A n c, .int .i64 k] w (RefPost w 1) := by
  have CO : Hid (∀ W, Calls Tryz.prog 71 #[.int .u64 1] W (RefPost W 1)) := fun W => Small_any (n := 1) (w := W) (by decide)
  go_enter Tryz.func151, Tryz.ntmps151
  go_wp2_with (first | (go_at_call 71; go_must (refine (CO.out _).mono ?_); rintro e w1 ⟨A1, c1, rfl, hr1, hb1⟩))
  refine wp_loop_rounds 1 ?_; rw [rounds_succ]
  go_wp2
  go_ret
  exact ⟨A1, c1, rfl, hr1, hb1⟩
end Go.Proofs.YtfcamfkimnlfgaaGreatDoor
end

section
/- The document's own Ten: a power of ten of at most 400000 digits. -/
open Go.RowKit
set_option maxRecDepth 100000
namespace Go.Proofs.YtfcamfkimnlfgaaGreatDoor
theorem ten_lt (k : Nat) : 10 ^ k < D4 ^ (k + 1) := by
  have : 10 ^ k ≤ D4 ^ k := Nat.pow_le_pow_left (by decide) k
  have h2 : D4 ^ k < D4 ^ (k + 1) := Nat.pow_lt_pow_right (by decide) (by omega)
  omega
theorem rTen_any {k : Nat} {w : World} (hk : k ≤ 90000) :
    Calls Tryz.prog 110 #[.int .i64 (k : Int)] w (RefPost w (10 ^ k)) := by
  have HK := hide hk
  clear hk
  have CO : Hid (∀ W, Calls Tryz.prog 71 #[.int .u64 10] W (RefPost W 10)) := fun W => Small_any (n := 10) (w := W) (by decide)
  have CP : Hid (∀ (W : World) (A : Option Addr) (c : Nat), RN W W.heap.size A c 10 → Calls Tryz.prog 151 #[.slice A (dq 10) c, .int .i64 (k : Int)] W (RefPost W (10 ^ k))) := fun W A c h => rPow_any h (by have := HK.out; omega) (fun i hi => by have := HK.out; exact Nat.le_trans (dq_le (ten_lt i)) (by omega)) (Nat.le_trans (dq_le (show 10 < D4 ^ 1 by decide)) (by decide))
  go_enter Tryz.func110, Tryz.ntmps110
  go_wp2_with (first | (go_at_call 71; go_must (refine (CO.out _).mono ?_); rintro e w1 ⟨A1, c1, rfl, hr1, hb1⟩) | (go_at_call 151; go_must (refine (CP.out _ _ _ hr1.out).mono ?_); rintro e w2 ⟨A2, c2, rfl, hr2, hb2⟩))
  go_ret
  exact ⟨A2, c2, rfl, hr2, hb1.out.trans (hb2.out.mono hb1.out.size)⟩
end Go.Proofs.YtfcamfkimnlfgaaGreatDoor
end

section
/- Pow. Conditions: every power up to the last has at most 100000 words. -/
open Go.RowKit
set_option maxRecDepth 100000
namespace Go.Proofs.YtfcamfkimnlfgaaGreatDoor
def box (A : Option Addr) (n c : Nat) : Obj := .cells #[.slice A n c] 24 (0, 0)
theorem Can.setBox {w : World} {A : Option Addr} {c m : Nat} (h : Can w w.heap.size A c m) {p : Addr} {a : Option Addr} {l k : Nat} (hc : w.cell? p = some (.slice a l k)) (u : Value) : Can (w.setCell p u) (w.setCell p u).heap.size A c m := by
  refine ⟨h.1, ?_⟩
  have := h.2.setBox hc u
  simpa [World.setCell] using this
theorem Arg.setBox {w : World} {A : Option Addr} {n c m : Nat} (h : Arg w w.heap.size A n c m) {p : Addr} {a : Option Addr} {l k : Nat} (hc : w.cell? p = some (.slice a l k)) (u : Value) : Arg (w.setCell p u) (w.setCell p u).heap.size A n c m := by
  obtain ⟨ws, h1, h2, h3, h4, h5⟩ := h
  refine ⟨ws, h1, h2, h3, ?_, h5⟩
  have := h4.setBox hc u
  simpa [World.setCell] using this
/-- The two variables' boxes, and what they tell. -/
def PowInv (w wr : World) (p i j m : Nat) (A1 : Option Addr) (c1 : Nat) (A2 : Option Addr) (n2 c2 : Nat) : Prop :=
  wr.heap[p]? = some (box A1 (dl (m ^ i)) c1) ∧ wr.heap[p + 1]? = some (box A2 n2 c2) ∧ wr.heap[w.heap.size + 1]? = some (box none 0 0) ∧ Can wr wr.heap.size A1 c1 (m ^ i) ∧ Arg wr wr.heap.size A2 n2 c2 (m ^ j) ∧ Below w.heap.size w wr ∧ w.heap.size + 2 ≤ p
theorem lt_of_heap {w : World} {g : Nat} {o : Obj} (h : w.heap[g]? = some o) : g < w.heap.size := by
  rcases Nat.lt_or_ge g w.heap.size with hlt | hge
  · exact hlt
  · rw [Array.getElem?_eq_none hge] at h; cases h
section
variable {w wr w2 : World} {p i j m c1 n2 c2 : Nat} {A1 A2 : Option Addr}
theorem PowInv.below (h : PowInv w wr p i j m A1 c1 A2 n2 c2) (hb : Below wr.heap.size wr w2) : PowInv w w2 p i j m A1 c1 A2 n2 c2 := by
  obtain ⟨h1, h2, h3, h4, h5, h6, h7⟩ := h
  exact ⟨(hb.block _ (lt_of_heap h1)).trans h1, (hb.block _ (lt_of_heap h2)).trans h2, (hb.block _ (lt_of_heap h3)).trans h3, (h4.below hb).more hb.size, (h5.below hb).more hb.size, h6.trans (hb.mono h6.size), h7⟩
theorem set_heap {w : World} {g : Nat} {A : Option Addr} {n c : Nat} (h : w.heap[g]? = some (box A n c)) (B : Option Addr) (k d : Nat) : (w.setCell ⟨g, 0, none⟩ (.slice B k d)).heap[g]? = some (box B k d) := by
  unfold box at h ⊢
  rw [heap_setCell_same w g 0 _ _ _ h]; rfl
theorem PowInv.setP (h : PowInv w wr p i j m A1 c1 A2 n2 c2) {i' : Nat} {B : Option Addr} {d : Nat} (hc : Can wr wr.heap.size B d (m ^ i')) : PowInv w (wr.setCell ⟨p, 0, none⟩ (.slice B (dl (m ^ i')) d)) p i' j m B d A2 n2 c2 := by
  obtain ⟨h1, h2, h3, h4, h5, h6, h7⟩ := h
  have e := (one_cell h1).1
  exact ⟨set_heap h1 _ _ _, (Below.heap_setCell _ _ _ _ (by simp)).trans h2, (Below.heap_setCell _ _ _ _ (by simp; omega)).trans h3, hc.setBox e _, h5.setBox e _, h6.setCell (by simp; omega) _, h7⟩
theorem PowInv.setS (h : PowInv w wr p i j m A1 c1 A2 n2 c2) {j' : Nat} {B : Option Addr} {d : Nat} (hc : Can wr wr.heap.size B d (m ^ j')) (hl : dl (m ^ j') ≤ 100000) : PowInv w (wr.setCell ⟨p + 1, 0, none⟩ (.slice B (dl (m ^ j')) d)) p i j' m A1 c1 B (dl (m ^ j')) d := by
  obtain ⟨h1, h2, h3, h4, h5, h6, h7⟩ := h
  have e := (one_cell h2).1
  exact ⟨(Below.heap_setCell _ _ _ _ (by simp)).trans h1, set_heap h2 _ _ _, (Below.heap_setCell _ _ _ _ (by simp; omega)).trans h3, h4.setBox e _, (hc.arg hl).setBox e _, h6.setCell (by simp; omega) _, h7⟩
end
theorem start2' (wa : World) (v0 v1 : Value) (t : TypeId) :
    ((wa.alloc (.cells #[v0] t)).alloc (.cells #[v1] t)).cell? ⟨wa.heap.size, 0, none⟩ = some v0 ∧ ((wa.alloc (.cells #[v0] t)).alloc (.cells #[v1] t)).heap[wa.heap.size + 1]? = some (.cells #[v1] t (0, 0)) ∧
    Below wa.heap.size wa ((wa.alloc (.cells #[v0] t)).alloc (.cells #[v1] t)) ∧ wa.heap.size + 2 ≤ ((wa.alloc (.cells #[v0] t)).alloc (.cells #[v1] t)).heap.size := by
  have b1 : (wa.alloc (.cells #[v0] t)).heap[wa.heap.size]? = some (.cells #[v0] t (0, 0)) := heap_alloc_new wa _
  have b2 : ((wa.alloc (.cells #[v0] t)).alloc (.cells #[v1] t)).heap[wa.heap.size + 1]? = some (.cells #[v1] t (0, 0)) := by simpa using heap_alloc_new (wa.alloc (.cells #[v0] t)) (.cells #[v1] t)
  have c1 : ((wa.alloc (.cells #[v0] t)).alloc (.cells #[v1] t)).heap[wa.heap.size]? = some (.cells #[v0] t (0, 0)) := (Below.heap_alloc _ _ _ (by simp)).trans b1
  exact ⟨(one_cell c1).1, b2, ((Below.refl _ _).alloc (Nat.le_refl _) _).alloc (by simp) _, by simp⟩
theorem pow_start {w w1 : World} {A : Option Addr} {n c : Nat} (hb : Hid (Below ((w.alloc (.cells #[.slice A n c] 24)).alloc (.cells #[.slice none 0 0] 24)).heap.size ((w.alloc (.cells #[.slice A n c] 24)).alloc (.cells #[.slice none 0 0] 24)) w1)) :
    Hid (w1.heap[w.heap.size + 1]? = some (box none 0 0) ∧ Below w.heap.size w w1 ∧ w.heap.size + 2 ≤ w1.heap.size) ∧ ∀ o, (w1.alloc o).cell? ⟨w.heap.size, 0, none⟩ = some (.slice A n c) := by
  obtain ⟨s1, s2, s3, s4⟩ := start2' w (.slice A n c) (.slice none 0 0) 24
  have hs := hb.out.size
  exact ⟨⟨(hb.out.block _ (by omega)).trans s2, s3.trans (hb.out.mono s3.size), by omega⟩, fun o => (World.cell?_alloc_lt w1 o _ (show w.heap.size < w1.heap.size by omega)).trans ((hb.out.cell (show w.heap.size < _ by omega)).trans s1)⟩
def NumH (W : World) (v : Nat) (e : Ending) (w' : World) : Prop := ∃ A c, e = .returned (.agg #[.slice A (dl v) c]) ∧ Hid (Can w' w'.heap.size A c v) ∧ Hid (Below W.heap.size W w')
theorem mul_inv1 {w W : World} {p i j m c1 n2 c2 : Nat} {A1 A2 : Option Addr} (P : PowInv w W p i j m A1 c1 A2 n2 c2) (hl : dl (m ^ i) ≤ 100000) : Calls Tryz.prog 94 #[.agg #[.slice A1 (dl (m ^ i)) c1], .agg #[.slice A2 n2 c2]] W (NumH W (m ^ (i + j))) := by
  rw [Nat.pow_add]
  exact (Mul_any (P.2.2.2.1.arg hl) P.2.2.2.2.1).mono fun _ _ h => h
theorem mul_inv2 {w W : World} {p i j m c1 n2 c2 : Nat} {A1 A2 : Option Addr} (P : PowInv w W p i j m A1 c1 A2 n2 c2) : Calls Tryz.prog 94 #[.agg #[.slice A2 n2 c2], .agg #[.slice A2 n2 c2]] W (NumH W (m ^ (j + j))) := by
  rw [Nat.pow_add]
  exact (Mul_any P.2.2.2.2.1 P.2.2.2.2.1).mono fun _ _ h => h
theorem pow_odd {i j kk k : Nat} (h : i + j * kk = k) (ho : kk % 2 = 1) : (i + j) + (j + j) * (kk / 2) = k := by
  obtain ⟨t, ht⟩ : ∃ t, kk = 2 * t + 1 := ⟨kk / 2, by omega⟩
  subst ht
  rw [show (2 * t + 1) / 2 = t by omega, Nat.add_mul]
  rw [Nat.mul_add, Nat.mul_one, Nat.mul_left_comm] at h
  omega
theorem pow_even {i j kk k : Nat} (h : i + j * kk = k) (ho : kk % 2 = 0) : i + (j + j) * (kk / 2) = k := by
  obtain ⟨t, ht⟩ : ∃ t, kk = 2 * t := ⟨kk / 2, by omega⟩
  subst ht
  rw [show (2 * t) / 2 = t by omega, Nat.add_mul]
  rw [Nat.mul_left_comm] at h
  omega
theorem two_le {i j kk k : Nat} (h : i + j * kk = k) (ht : 2 ≤ kk) : j + j ≤ k := by
  have h2 : j * 2 ≤ j * kk := Nat.mul_le_mul_left _ ht
  omega
set_option maxHeartbeats 4000000 in
theorem Pow_any {A : Option Addr} {n c m k : Nat} {w : World} (h : Arg w w.heap.size A n c m) (hk : k ≤ 1000000) (hb : ∀ i, i ≤ k → dl (m ^ i) ≤ 100000) :
    Calls Tryz.prog 138 #[.agg #[.slice A n c], .int .i64 (k : Int)] w (NumH w (m ^ k)) := by
  have H := hide (fun W (hbb : Below w.heap.size w W) => (h.below hbb).more hbb.size)
  have HB := hide hb
  have CO : Hid (∀ W, Calls Tryz.prog 77 #[.int .u64 1] W (NumH W 1)) := fun W => (Of_any (n := 1) (w := W) (by decide)).mono fun _ _ h => h
  clear h hb
  go_enter Tryz.func138, Tryz.ntmps138
  go_wp2_with (first | (go_at_call 77; go_must (refine (CO.out _).mono ?_); rintro e w1 ⟨A1, c1, rfl, hc1, hbk⟩; obtain ⟨HBX, e2⟩ := pow_start (A := A) (n := n) (c := c) hbk))
  obtain ⟨hr0, hw1, hw2⟩ := HBX.out
  have HP0 : Hid (PowInv w ((w1.alloc (.cells #[.slice A1 (dl 1) c1] 24)).alloc (.cells #[.slice A n c] 24)) w1.heap.size 0 1 m A1 c1 A n c) := by
    obtain ⟨_, s2, s3, s4⟩ := start2' w1 (.slice A1 (dl 1) c1) (.slice A n c) 24
    have s1 : ((w1.alloc (.cells #[.slice A1 (dl 1) c1] 24)).alloc (.cells #[.slice A n c] 24)).heap[w1.heap.size]? = some (.cells #[.slice A1 (dl 1) c1] 24 (0, 0)) := (Below.heap_alloc _ _ _ (by simp)).trans (heap_alloc_new w1 _)
    exact ⟨by rw [Nat.pow_zero]; exact s1, s2, (s3.block _ (by omega)).trans hr0, by rw [Nat.pow_zero]; exact (hc1.out.below s3).more s3.size, by rw [Nat.pow_one]; exact H.out _ (hw1.trans (s3.mono hw1.size)), hw1.trans (s3.mono hw1.size), hw2⟩
  clear hr0 hw1 hw2 HBX e2 hc1 hbk
  go_loopw [1] (fun kv wr => ∃ (kk i j : Nat) (B1 : Option Addr) (d1 : Nat) (B2 : Option Addr) (n2 d2 : Nat), kv = .int .i64 (kk : Int) ∧ kk ≤ k ∧ Hid (i + j * kk = k) ∧ Hid (PowInv w wr w1.heap.size i j m B1 d1 B2 n2 d2))
    (fun kv _ => (intOf kv).toNat)
  case atStart => exact ⟨k, 0, 1, _, _, _, _, _, rfl, Nat.le_refl _, by simp [Hid], HP0⟩
  case round =>
    obtain ⟨kk, i, j, B1, d1, B2, n2, d2, rfl, hkk, hexp, P⟩ := hrel
    have r1 := (one_cell P.out.1).1
    have f1 := (one_cell P.out.1).2
    have r2 := (one_cell P.out.2.1).1
    have f2 := (one_cell P.out.2.1).2
    have r3 := (one_cell P.out.2.2.1).1
    have f3 := (one_cell P.out.2.2.1).2
    by_cases h0 : kk = 0
    · subst h0
      have HI : Hid (i = k) := by have := hexp.out; rw [Nat.mul_zero] at this; exact this
      go_wp2
      refine bodyPost_ret (v := .agg #[.slice B1 (dl (m ^ i)) d1]) (by simp [results, Tryz.results138, go_sem, r3]) rfl ?_
      rw [← HI.out]
      exact ⟨B1, d1, rfl, P.out.2.2.2.1.setBox r3 _, P.out.2.2.2.2.2.1.setCell (by simp) _⟩
    · have hk1 : 0 < kk := by omega
      have HIK : Hid (i + j ≤ k ∧ j ≤ k ∧ i ≤ k) := by
        have h1 := hexp.out
        have h2 : j * 1 ≤ j * kk := Nat.mul_le_mul_left _ hk1
        unfold Hid; omega
      clear h0
      by_cases hodd : kk % 2 = 1
      · have HO := hide (pow_odd hexp.out hodd)
        have hod : (((kk : Int) % 2) == 1) = true := by rw [beq_iff_eq]; omega
        by_cases ht : kk / 2 = 0
        · have HT := hide ht
          have hti : ¬ (0 : Int) < (kk : Int) / 2 := by omega
          clear hodd ht
          go_wp2_with (first | (go_at_call 94; go_must (refine (mul_inv1 P.out (HB.out _ HIK.out.2.2)).mono ?_); rintro e w2 ⟨B3, d3, rfl, hc3, hbk⟩; have P2 := hide (P.out.below hbk.out); have r1 := (one_cell P2.out.1).1; have f1 := (one_cell P2.out.1).2))
          go_roundw
          case rel => exact ⟨kk / 2, i + j, j, B3, d3, B2, n2, d2, rfl, by omega, by have := HO.out; rw [HT.out, Nat.mul_zero] at this; unfold Hid; rw [HT.out, Nat.mul_zero]; exact this, P2.out.setP hc3.out⟩
          case measure => simp [intOf]; omega
        · have hti : (0 : Int) < (kk : Int) / 2 := by omega
          have HJJ := hide (two_le hexp.out (show 2 ≤ kk by omega))
          clear hodd ht
          go_wp2_with (first | (go_at_call 94; ((with_reducible refine (mul_inv1 P.out (HB.out _ HIK.out.2.2)).mono ?_)); rintro e w2 ⟨B3, d3, rfl, hc3, hbk⟩; have P2 := hide (P.out.below hbk.out); have r1 := (one_cell P2.out.1).1; have f1 := (one_cell P2.out.1).2; have P3 := hide (P2.out.setP hc3.out); have r2 := (one_cell P3.out.2.1).1) | (go_at_call 94; (refine (mul_inv2 P3.out).mono ?_); rintro e w4 ⟨B4, d4, rfl, hc4, hbk⟩; have P4 := hide (P3.out.below hbk.out); have r2 := (one_cell P4.out.2.1).1; have f2 := (one_cell P4.out.2.1).2))
          go_roundw
          case rel => exact ⟨kk / 2, i + j, j + j, B3, d3, B4, _, d4, rfl, by omega, HO, P4.out.setS hc4.out (HB.out _ HJJ.out)⟩
          case measure => simp [intOf]; omega
      · have HE := hide (pow_even hexp.out (by omega))
        have hod : (((kk : Int) % 2) == 1) = false := by rw [beq_eq_false_iff_ne]; omega
        have hti : (0 : Int) < (kk : Int) / 2 := by omega
        have HJJ := hide (two_le hexp.out (show 2 ≤ kk by omega))
        clear hodd
        go_wp2_with (first | (go_at_call 94; (refine (mul_inv2 P.out).mono ?_); rintro e w4 ⟨B4, d4, rfl, hc4, hbk⟩; have P4 := hide (P.out.below hbk.out); have r2 := (one_cell P4.out.2.1).1; have f2 := (one_cell P4.out.2.1).2))
        go_roundw
        case rel => exact ⟨kk / 2, i, j + j, B1, d1, B4, _, d4, rfl, by omega, HE, P4.out.setS hc4.out (HB.out _ HJJ.out)⟩
        case measure => simp [intOf]; omega
end Go.Proofs.YtfcamfkimnlfgaaGreatDoor
end

section
/- Pow where the power is below 1: it is 1. No conditions on sizes. -/
open Go.RowKit
set_option maxRecDepth 100000
namespace Go.Proofs.YtfcamfkimnlfgaaGreatDoor
set_option maxHeartbeats 1000000 in
theorem Pow_low {A : Option Addr} {n c : Nat} {k : Int} {w : World} (hk : k ≤ 0) (hk2 : -9223372036854775808 ≤ k) : Calls Tryz.prog 138 #[.agg #[.slice A n c], .int .i64 k] w (NumH w 1) := by
  have CO : Hid (∀ W, Calls Tryz.prog 77 #[.int .u64 1] W (NumH W 1)) := fun W => (Of_any (n := 1) (w := W) (by decide)).mono fun _ _ h => h
  go_enter Tryz.func138, Tryz.ntmps138
  go_wp2_with (first | (go_at_call 77; go_must (refine (CO.out _).mono ?_); rintro e w1 ⟨A1, c1, rfl, hc1, hbk⟩; obtain ⟨HBX, e2⟩ := pow_start (A := A) (n := n) (c := c) hbk; have HBX := hide HBX))
  obtain ⟨hr0, hw1, hw2⟩ := HBX.out.out
  have HP0 : Hid (((w1.alloc (.cells #[.slice A1 (dl 1) c1] 24)).alloc (.cells #[.slice A n c] 24)).heap[w1.heap.size]? = some (box A1 (dl 1) c1) ∧ ((w1.alloc (.cells #[.slice A1 (dl 1) c1] 24)).alloc (.cells #[.slice A n c] 24)).heap[w.heap.size + 1]? = some (box none 0 0) ∧
      Can ((w1.alloc (.cells #[.slice A1 (dl 1) c1] 24)).alloc (.cells #[.slice A n c] 24)) ((w1.alloc (.cells #[.slice A1 (dl 1) c1] 24)).alloc (.cells #[.slice A n c] 24)).heap.size A1 c1 1 ∧ Below w.heap.size w ((w1.alloc (.cells #[.slice A1 (dl 1) c1] 24)).alloc (.cells #[.slice A n c] 24))) := by
    obtain ⟨_, s2, s3, s4⟩ := start2' w1 (.slice A1 (dl 1) c1) (.slice A n c) 24
    have s1 : ((w1.alloc (.cells #[.slice A1 (dl 1) c1] 24)).alloc (.cells #[.slice A n c] 24)).heap[w1.heap.size]? = some (.cells #[.slice A1 (dl 1) c1] 24 (0, 0)) := (Below.heap_alloc _ _ _ (by simp)).trans (heap_alloc_new w1 _)
    exact ⟨s1, (s3.block _ (by omega)).trans hr0, (hc1.out.below s3).more s3.size, hw1.trans (s3.mono hw1.size)⟩
  have r1 := (one_cell HP0.out.1).1
  have r3 := (one_cell HP0.out.2.1).1
  have f3 := (one_cell HP0.out.2.1).2
  refine wp_loop_rounds 1 ?_; rw [rounds_succ]
  go_wp2
  refine bodyPost_ret (v := .agg #[.slice A1 (dl 1) c1]) (by simp [results, Tryz.results138, go_sem, r3]) rfl ?_
  exact ⟨A1, c1, rfl, HP0.out.2.2.1.setBox r3 _, HP0.out.2.2.2.setCell (by simp) _⟩
end Go.Proofs.YtfcamfkimnlfgaaGreatDoor
end
