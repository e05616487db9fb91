/- Each theorem here says its own conditions. -/
import Derived.Test.YtfflmmbhpchloaaGreatDoorGTkwc20
import Derived.Lib.Bytealg
import Derived.Lib.IndexLaws
set_option maxRecDepth 100000
set_option maxHeartbeats 16000000
section
open Go.RowKit
namespace Go.Proofs.YtfflmmbhpchloaaGreatDoor
def DivV (W : World) (q r : Nat) (e : Ending) (w' : World) : Prop :=
 ∃ A c A' c', e = .returned (.tuple #[.agg #[.slice A (dl q) c], .agg #[.slice A' (dl r) c'], .bool true]) ∧ Nm w' A (dl q) c q ∧ Nm w' A' (dl r) c' r ∧ Hid (Below W.heap.size W w')
def QR (W : World) (r : Rat) (e : Ending) (w' : World) : Prop :=
 ∃ A c A' c', e = .returned (.agg #[.bool (decide (r.num < 0)), .slice A (dl r.num.natAbs) c, .slice A' (dl r.den) c']) ∧ ZA w' (decide (r.num < 0)) A (dl r.num.natAbs) c r.num ∧ Nm w' A' (dl r.den) c' r.den ∧ Hid (Below W.heap.size W w')
theorem below3 {W w2 : World} {p : Nat} (h : Bel W w2) (hp : W.heap.size ≤ p) (x y z : Value) : Bel W (((w2.setCell ⟨p, 0, none⟩ x).setCell ⟨p, 1, none⟩ y).setCell ⟨p, 2, none⟩ z) :=
 ((Below.setCell h hp _).setCell hp _).setCell hp _
theorem Nm.put3 {W : World} {p : Nat} {v0 v1 v2 : Value} {A : Option Addr} {n c m : Nat} (h : Nm W A n c m) (hp : At W p [v0, v1, v2]) (hw : NoW [v0, v1, v2]) {b : Bool} {B B' : Option Addr} {k d k' d' : Nat} :
 Nm (((W.setCell ⟨p, 0, none⟩ (.bool b)).setCell ⟨p, 1, none⟩ (.slice B k d)).setCell ⟨p, 2, none⟩ (.slice B' k' d')) A n c m := by
 have h1 := hp.put (i := 0) (by simp) (.bool b)
 have h2 := h1.put (i := 1) (by simp) (.slice B k d)
 have w1 : NoW [.bool b, v1, v2] := by
  intro u hu x; simp at hu
  rcases hu with rfl | rfl | rfl
  ·intro e; cases e
  ·exact hw _ (by simp) x
  ·exact hw _ (by simp) x
 have w2 : NoW [.bool b, .slice B k d, v2] := by
  intro u hu x; simp at hu
  rcases hu with rfl | rfl | rfl
  ·intro e; cases e
  ·intro e; cases e
  ·exact hw _ (by simp) x
 exact ((h.put hp (by simp) hw _).put h1 (by simp) w1 _).put h2 (by simp) w2 _
section
variable {W : World} {b b' : Bool} {A A' : Option Addr} {n n' c c' m m' : Nat} {z z' : Int}
theorem div_v {q r : Nat} (h : Nm W A n c m) (h' : Nm W A' n' c' m') (h0 : 0 < m') (hd : dl m ≤ 99999) (hq : m / m' = q) (hr : m % m' = r) : Calls Tryz.prog 71 #[.agg #[.slice A n c], .agg #[.slice A' n' c']] W (DivV W q r) := by
 subst hq; subst hr
 exact div_h h h' h0 hd
theorem lowest_h {r : Rat} {d : Nat} (hz : ZA W b A n c z) (hd : Nm W A' n' c' d) (h0 : 0 < d) (hr : mkRat z d = r) (bz : dl z.natAbs ≤ 99999) (bd : dl d ≤ 99999) :
 Calls Tryz.prog 39 #[.agg #[.bool b, .slice A n c], .agg #[.slice A' n' c']] W (QR W r) := by
 obtain ⟨g, hg⟩ : ∃ g, g = Nat.gcd z.natAbs d := ⟨_, rfl⟩
 obtain ⟨hg0, e1, e2, e3, e4, e5⟩ := low_terms (z := z) h0 hg
 rw [hr] at e1 e2 e5
 obtain ⟨v, hv⟩ : ∃ v, v = r.num.natAbs := ⟨_, rfl⟩
 obtain ⟨u, hu⟩ : ∃ u, u = r.den := ⟨_, rfl⟩
 obtain ⟨s, hs⟩ : ∃ s, s = z.sign := ⟨_, rfl⟩
 have CG : Hid (∀ W', Bel W W' → Calls Tryz.prog 70 #[.agg #[.slice A n c], .agg #[.slice A' n' c']] W' (NumR W' g)) := fun W' hb => gcd_h (hz.up hb).1 (hd.up hb) hg.symm bz bd
 have CD : Hid (∀ W' B e, Bel W W' → Nm W' B (dl g) e g → Calls Tryz.prog 71 #[.agg #[.slice A n c], .agg #[.slice B (dl g) e]] W' (DivV W' v 0)) := fun W' B e hb hn => div_v (hz.up hb).1 hn hg0 bz (by rw [hv, e1]) e3
 have CE : Hid (∀ W' B e, Bel W W' → Nm W' B (dl g) e g → Calls Tryz.prog 71 #[.agg #[.slice A' n' c'], .agg #[.slice B (dl g) e]] W' (DivV W' u 0)) := fun W' B e hb hn => div_v (hd.up hb) hn hg0 bd (by rw [hu, e2]) e4
 have CS : Hid (∀ W', Bel W W' → Calls Tryz.prog 72 #[.agg #[.bool b, .slice A n c]] W' (IntPost W' s)) := fun W' hb => sign_h (hz.up hb) hs.symm
 have HS : Hid (decide (s < 0) = decide (r.num < 0)) := by
  unfold Hid
  rw [e5, hs]
  by_cases h : z < 0
  ·rw [Int.sign_eq_neg_one_of_neg h, decide_eq_true h]; rfl
  ·rw [decide_eq_false h]
   refine decide_eq_false fun h2 => h ?_
   exact Int.sign_neg_iff.1 h2
 have HV := hide hv
 have HU := hide hu
 clear hz hd h0 hr bz bd hg hg0 e1 e2 e3 e4 e5 hv hu hs
 have HB := Bel.refl W
 go_enter Tryz.func39, Tryz.ntmps39
 go_wp2_with (first | (go_at_call 70; (with_reducible refine (CG.out _ (((HB.al _).al _).al _)).mono ?_); rintro e w1 ⟨Ag, cg, rfl, ng, hbk⟩; have HP := At.up (((at_new0 _ _ _).al _).al _) hbk; have HN := At.up ((at_new1 _ _ _ _).al _) hbk; have HR := At.up (at_new2 _ _ _ _ _) hbk; replace HB := (((HB.al _).al _).al _).up hbk; have hp_0 := HP.c0; have hp_1 := HP.c1; have hp_l := HP.lt; have hn_0 := HN.c0; have hn_l := HN.lt) | (go_at_call 71; (with_reducible refine (CD.out _ _ _ (HB.al _) (ng.al _)).mono ?_); rintro e w2 ⟨Ao, co, Ax, cx, rfl, no, nx, hbk⟩; have HG := At.up (at_new0 _ _ _) hbk; replace HB := (HB.al _).up hbk; replace HP := (HP.al _).up hbk; replace HN := (HN.al _).up hbk; replace HR := (HR.al _).up hbk; replace ng := (ng.al _).up hbk; clear hp_0 hp_1 hp_l hn_0 hn_l; have hp_0 := HP.c0; have hp_1 := HP.c1; have hp_l := HP.lt; have hn_0 := HN.c0; have hn_l := HN.lt; have hg_0 := HG.c0; have hg_l := HG.lt; have hL2 := HR.lt) | (go_at_call 71; (with_reducible refine (CE.out _ _ _ ((HB.al _).al _) ((ng.al _).al _)).mono ?_); rintro e w3 ⟨Au, cu, Ay, cy, rfl, nu, ny, hbk⟩; have HO := At.up ((at_new0 _ _ _).al _) hbk; have HX := At.up (at_new1 _ _ _ _) hbk; replace HB := ((HB.al _).al _).up hbk; replace HP := ((HP.al _).al _).up hbk; replace HN := ((HN.al _).al _).up hbk; replace HR := ((HR.al _).al _).up hbk; replace no := ((no.al _).al _).up hbk; clear hp_0 hp_1 hp_l hn_0 hn_l hg_0 hg_l; have hL3 := HR.lt) | fail)
 have HQ := ((at_new0 w3 [.slice Au (dl u) cu] 42).al (.cells #[.slice Ay (dl 0) cy] 42)).dr
 replace HB := ((HB.al (.cells #[.slice Au (dl u) cu] 42)).al (.cells #[.slice Ay (dl 0) cy] 42)).dr
 replace HP := ((HP.al (.cells #[.slice Au (dl u) cu] 42)).al (.cells #[.slice Ay (dl 0) cy] 42)).dr
 replace HO := ((HO.al (.cells #[.slice Au (dl u) cu] 42)).al (.cells #[.slice Ay (dl 0) cy] 42)).dr
 replace HR := ((HR.al (.cells #[.slice Au (dl u) cu] 42)).al (.cells #[.slice Ay (dl 0) cy] 42)).dr
 have no2 := ((no.al (.cells #[.slice Au (dl u) cu] 42)).al (.cells #[.slice Ay (dl 0) cy] 42)).dr
 have nu2 := ((nu.al (.cells #[.slice Au (dl u) cu] 42)).al (.cells #[.slice Ay (dl 0) cy] 42)).dr
 go_region_held3 (fun w' => w'.cell? ⟨W.heap.size, 0, none⟩ = some (.bool b) ∧ w'.cell? ⟨W.heap.size, 1, none⟩ = some (.slice A n c) ∧ w'.cell? ⟨w2.heap.size, 0, none⟩ = some (.slice Ao (dl v) co) ∧ w'.cell? ⟨w3.heap.size, 0, none⟩ = some (.slice Au (dl u) cu))
  (first | exact ⟨HP.c0, HP.c1, HO.c0, HQ.c0⟩ | exact ⟨(((HP.far (by omega) _).far (by omega) _).far (by omega) _).c0, (((HP.far (by omega) _).far (by omega) _).far (by omega) _).c1, (((HO.far (by omega) _).far (by omega) _).far (by omega) _).c0, (((HQ.far (by omega) _).far (by omega) _).far (by omega) _).c0⟩)
  (first | (go_at_call 72; (with_reducible refine (CS.out _ HB).mono ?_); rintro e w4 ⟨rfl, hbk⟩; replace HB := HB.up hbk; replace HP := HP.up hbk; replace HO := HO.up hbk; replace HQ := HQ.up hbk; replace HR := HR.up hbk; replace no2 := no2.up hbk; replace nu2 := nu2.up hbk; have hr_0 := HR.c0; have hr_1 := HR.c1; have hr_2 := HR.c2; have hr_l := HR.lt; have hr_f0 := HR.f0; have hr_f1 := HR.f1; have hr_f2 := HR.f2) | fail)
 go_wp2_with fail
 refine bodyPost_ret (v := .agg #[.bool (decide (s < 0)), .slice Ao (dl v) co, .slice Au (dl u) cu]) (by simp [results, Tryz.results39, go_sem, hr_0, hr_1, hr_2]) rfl ?_
 have hv := HV.out
 have hu := HU.out
 subst hv
 subst hu
 rw [HS.out]
 exact ⟨Ao, co, Au, cu, rfl, zr_of (no2.put3 HR now3), nu2.put3 HR now3, below3 HB (by omega) _ _ _⟩
end
def OfYes (W : World) (r : Rat) (e : Ending) (w' : World) : Prop := ∃ A c A' c', e = .returned (.tuple #[.agg #[.bool (decide (r.num < 0)), .slice A (dl r.num.natAbs) c, .slice A' (dl r.den) c'], .bool true]) ∧ ZA w' (decide (r.num < 0)) A (dl r.num.natAbs) c r.num ∧ Nm w' A' (dl r.den) c' r.den ∧ Hid (Below W.heap.size W w')
def OfNo (W : World) (e : Ending) (w' : World) : Prop := e = .returned (.tuple #[.agg #[.bool false, .slice none 0 0, .slice none 0 0], .bool false]) ∧ Hid (Below W.heap.size W w')
section
variable {W : World} {b b' : Bool} {A A' : Option Addr} {n n' c c' m m' : Nat} {z z' : Int} {r : Rat} {K : Nat}
theorem of_no (hd : Nm W A' n' c' 0) : Calls Tryz.prog 211 #[.agg #[.bool b, .slice A n c], .agg #[.slice A' n' c']] W (OfNo W) := by
 have CZ : Hid (∀ W', Bel W W' → Calls Tryz.prog 73 #[.agg #[.slice A' n' c']] W' (RetB W' true)) := fun W' hb => rzero_h (m := 0) (hd.up hb)
 clear hd
 have HB := Bel.refl W
 go_enter Tryz.func211, Tryz.ntmps211
 go_wp2_with (first | (go_at_call 73; (with_reducible refine (CZ.out _ (((HB.al _).al _).al _)).mono ?_); rintro e w1 ⟨rfl, hbk⟩; have HP := At.up (((at_new0 _ _ _).al _).al _) hbk; have HN := At.up ((at_new1 _ _ _ _).al _) hbk; have HR := At.up (at_new2 _ _ _ _ _) hbk; replace HB := (((HB.al _).al _).al _).up hbk; have hr_0 := HR.c0; have hr_1 := HR.c1; have hr_2 := HR.c2; have hr_l := HR.lt; have hr_f0 := HR.f0; have hr_f1 := HR.f1; have hr_f2 := HR.f2) | fail)
 refine bodyPost_ret (v := .tuple #[.agg #[.bool false, .slice none 0 0, .slice none 0 0], .bool false]) (by simp [results, Tryz.results211, go_sem, hr_0, hr_1, hr_2]) rfl ?_
 exact ⟨rfl, below3 HB (by omega) _ _ _⟩
theorem of_yes {d : Nat} (hz : ZA W b A n c z) (hd : Nm W A' n' c' d) (h0 : 0 < d) (hr : mkRat z d = r) (bz : dl z.natAbs ≤ 99999) (bd : dl d ≤ 99999) :
 Calls Tryz.prog 211 #[.agg #[.bool b, .slice A n c], .agg #[.slice A' n' c']] W (OfYes W r) := by
 have CZ : Hid (∀ W', Bel W W' → Calls Tryz.prog 73 #[.agg #[.slice A' n' c']] W' (RetB W' false)) := fun W' hb => by
  have h1 := rzero_h (hd.up hb)
  rwa [decide_eq_false (by omega)] at h1
 have CL : Hid (∀ W', Bel W W' → Calls Tryz.prog 39 #[.agg #[.bool b, .slice A n c], .agg #[.slice A' n' c']] W' (QR W' r)) := fun W' hb => lowest_h (hz.up hb) (hd.up hb) h0 hr bz bd
 clear hz hd h0 hr bz bd
 have HB := Bel.refl W
 go_enter Tryz.func211, Tryz.ntmps211
 go_wp2_with (first | (go_at_call 73; (with_reducible refine (CZ.out _ (((HB.al _).al _).al _)).mono ?_); rintro e w1 ⟨rfl, hbk⟩; have HP := At.up (((at_new0 _ _ _).al _).al _) hbk; have HN := At.up ((at_new1 _ _ _ _).al _) hbk; have HR := At.up (at_new2 _ _ _ _ _) hbk; replace HB := (((HB.al _).al _).al _).up hbk; have hp_0 := HP.c0; have hp_1 := HP.c1; have hp_l := HP.lt; have hn_0 := HN.c0; have hn_l := HN.lt) | (go_at_call 39; (with_reducible refine (CL.out _ HB).mono ?_); rintro e w2 ⟨B, e1, B', e2, rfl, nz, nd, hbk⟩; replace HB := HB.up hbk; replace HR := HR.up hbk; clear hp_0 hp_1 hp_l hn_0 hn_l; have hr_0 := HR.c0; have hr_1 := HR.c1; have hr_2 := HR.c2; have hr_l := HR.lt; have hr_f0 := HR.f0; have hr_f1 := HR.f1; have hr_f2 := HR.f2) | fail)
 refine bodyPost_ret (v := .tuple #[.agg #[.bool (decide (r.num < 0)), .slice B (dl r.num.natAbs) e1, .slice B' (dl r.den) e2], .bool true]) (by simp [results, Tryz.results211, go_sem, hr_0, hr_1, hr_2]) rfl ?_
 exact ⟨B, e1, B', e2, rfl, zr_of (nz.1.put3 HR now3), nd.put3 HR now3, below3 HB (by first | omega | simp | (simp; omega)) _ _ _⟩
theorem rsign_h {v : Int} (h : QA W b A n c A' n' c' r K) (hK : 0 < K) (hv : r.num.sign = v) : Calls Tryz.prog 129 #[.agg #[.bool b, .slice A n c, .slice A' n' c']] W (IntPost W v) := by
 have CT : Hid (∀ W', Bel W W' → Calls Tryz.prog 40 #[.agg #[.bool b, .slice A n c, .slice A' n' c']] W' (TermsR W' r K)) := fun W' hb => terms_h (h.up hb) hK
 have CS : Hid (∀ W' s B k e z d, ZA W' s B k e z → Hid (0 < d ∧ mkRat z d = r ∧ z.natAbs < W32 ^ K ∧ d < W32 ^ K) → Calls Tryz.prog 72 #[.agg #[.bool s, .slice B k e]] W' (IntPost W' v)) := fun W' s B k e z d hz hd => sign_h hz (by rw [← hv, ← hd.out.2.1, sign_mk hd.out.1])
 clear h hv
 have HB := Bel.refl W
 go_enter Tryz.func129, Tryz.ntmps129
 go_wp2_with (first | (go_at_call 40; (with_reducible refine (CT.out _ (HB.al _)).mono ?_); rintro e w1 ⟨s, B, k, e1, B', k', e2, zv, d, rfl, zp, np, hp, hbk⟩; replace HB := (HB.al _).up hbk) | (go_at_call 72; (with_reducible refine (CS.out _ _ _ _ _ _ _ ((zp.al _).al _) hp).mono ?_); rintro e w2 ⟨rfl, hbk⟩; replace HB := ((HB.al _).al _).up hbk) | fail)
 go_ret
 exact ⟨rfl, HB⟩
end
theorem bd_mul {x y K L : Nat} (hx : x < W32 ^ K) (hy : y < W32 ^ L) : x * y < W32 ^ (K + L) := by
 rw [Nat.pow_add]
 rcases Nat.eq_zero_or_pos y with h | h
 ·subst h; rw [Nat.mul_zero]; exact Nat.mul_pos (Nat.pow_pos (by decide)) (Nat.pow_pos (by decide))
 ·exact Nat.lt_of_lt_of_le (Nat.mul_lt_mul_of_pos_right hx h) (Nat.mul_le_mul_left _ (Nat.le_of_lt hy))
theorem dl_bd2 {x K : Nat} (hx : x < W32 ^ K) (hK : K ≤ 99999) : dl x ≤ 99999 := Nat.le_trans (dl_le hx) hK
def TT (z : Int) (d : Nat) (r : Rat) (K : Nat) : Prop := 0 < d ∧ mkRat z d = r ∧ z.natAbs < W32 ^ K ∧ d < W32 ^ K
section
variable {W : World} {b b' s s' : Bool} {A A' B B' : Option Addr} {n n' c c' m m' k k' e e' : Nat} {z z' : Int} {r r' : Rat} {K L d d' : Nat}
theorem tt_mul (h : TT z d r K) (h' : TT z' d' r' K) : 0 < d * d' ∧ mkRat (z * z') (d * d') = r * r' ∧ (z * z').natAbs < W32 ^ (K + K) ∧ d * d' < W32 ^ (K + K) :=
 ⟨Nat.mul_pos h.1 h'.1, by rw [← h.2.1, ← h'.2.1, mul_mk], by rw [Int.natAbs_mul]; exact bd_mul h.2.2.1 h'.2.2.1, bd_mul h.2.2.2 h'.2.2.2⟩
theorem lowest_t (hz : ZA W s B k e z) (hd : Nm W B' k' e' d) (h0 : 0 < d ∧ mkRat z d = r ∧ z.natAbs < W32 ^ K ∧ d < W32 ^ L) (hK : K ≤ 99999) (hL : L ≤ 99999) : Calls Tryz.prog 39 #[.agg #[.bool s, .slice B k e], .agg #[.slice B' k' e']] W (QR W r) :=
 lowest_h hz hd h0.1 h0.2.1 (dl_bd2 h0.2.2.1 hK) (dl_bd2 h0.2.2.2 hL)
end
theorem toList_loop (bs : ByteArray) (k : Nat) : ∀ i r, bs.size - i = k → ByteArray.toList.loop bs i r = r.reverse ++ bs.data.toList.drop i := by
 induction k with
 | zero =>
   intro i r h
   unfold ByteArray.toList.loop
   rw [if_neg (by omega), List.drop_of_length_le (by show bs.data.size ≤ i; have : bs.data.size = bs.size := rfl; omega), List.append_nil]
 | succ k ih =>
   intro i r h
   have hi : i < bs.data.toList.length := by show i < bs.data.size; have : bs.data.size = bs.size := rfl; omega
   unfold ByteArray.toList.loop
   rw [if_pos (by omega), ih (i + 1) _ (by omega), List.drop_eq_getElem_cons hi, List.reverse_cons, List.append_assoc]
   congr 2
   show bs.get! i :: _ = _
   have : bs.get! i = bs.data.toList[i] := by
    show bs.data[i]! = _
    rw [getElem!_pos bs.data i hi]; rfl
   rw [this]; rfl
theorem toList_data (bs : ByteArray) : bs.toList = bs.data.toList := by
 unfold ByteArray.toList
 rw [toList_loop bs _ 0 [] rfl]; rfl
theorem extract_list (s : ByteArray) (i j : Nat) : (s.extract i j).data.toList = (s.data.toList.take j).drop i := by
 simp [ByteArray.data_extract, List.extract_eq_drop_take', Array.toList_extract]
theorem minus_head (s : ByteArray) : ((s.extract 0 1).toList == [45]) = (s.data.toList.head? == some 45) := by
 rw [toList_data, extract_list]
 cases s.data.toList with
 | nil => rfl
 | cons x xs => simp
theorem HasPrefix_any (s : ByteArray) (w : World) (hs : s.size ≤ 100000) :
 Calls Tryz.prog 138 #[.string s, .string ⟨#[45]⟩] w fun e w' => e = .returned (.bool (s.data.toList.head? == some 45)) ∧ w = w' := by
 by_cases h0 : s.size = 0
 ·have HE : Hid ((s.data.toList.head? == some 45) = false) := by
   have : s.data.toList = [] := List.eq_nil_of_length_eq_zero (by rw [← size_list]; exact h0)
   unfold Hid; rw [this]; rfl
  go_enter Tryz.func138, Tryz.ntmps138
  go_wp2
  go_ret
  exact ⟨by rw [HE.out]; rfl, rfl⟩
 ·have h1 : 1 ≤ s.size := by omega
  have HE := hide (minus_head s)
  go_enter Tryz.func138, Tryz.ntmps138
  go_wp2
  go_ret
  exact ⟨by rw [← HE.out]; rfl, rfl⟩
def CutR (w : World) (s : ByteArray) (e : Ending) (w' : World) : Prop := ∃ t : ByteArray, ∃ b : Bool, e = .returned (.tuple #[.string t, .bool b]) ∧ Hid (s.data.toList = (if b then [45] else []) ++ t.data.toList ∧ (b = false → s.data.toList.head? ≠ some 45)) ∧ w = w'
theorem cutp_any (s : ByteArray) (w : World) (hs : s.size ≤ 100000) : Calls Tryz.prog 244 #[.string s, .string ⟨#[45]⟩] w (CutR w s) := by
 have CH := hide (fun W => HasPrefix_any s W hs)
 by_cases hh : s.data.toList.head? = some 45
 ·have hb : (s.data.toList.head? == some 45) = true := by rw [hh]; rfl
  rw [hb] at CH
  obtain ⟨m, hm⟩ : ∃ m, s.data.toList = 45 :: m := by
   cases hl : s.data.toList with
   | nil => rw [hl] at hh; cases hh
   | cons x xs => rw [hl] at hh; injection hh with hh; exact ⟨xs, by rw [hh]⟩
  have h1 : 1 ≤ s.size := by rw [size_list, hm]; simp
  have HM := hide hm
  clear hh hb hm
  go_enter Tryz.func244, Tryz.ntmps244
  go_wp2_with (first | (go_at_call 138; (with_reducible refine (CH.out _).mono ?_); rintro e w1 ⟨rfl, rfl⟩) | fail)
  refine bodyPost_ret (v := .tuple #[.string (s.extract 1 s.size), .bool true]) (by simp [results, Tryz.results244, go_sem]) rfl ⟨_, true, rfl, ⟨?_, fun h => by cases h⟩, rfl⟩
  rw [extract_list, List.take_of_length_le (by rw [size_list]; exact Nat.le_refl _), HM.out]
  rfl
 ·have hb : (s.data.toList.head? == some 45) = false := by rw [beq_eq_false_iff_ne]; exact hh
  rw [hb] at CH
  have HH := hide hh
  clear hh hb
  go_enter Tryz.func244, Tryz.ntmps244
  go_wp2_with (first | (go_at_call 138; (with_reducible refine (CH.out _).mono ?_); rintro e w1 ⟨rfl, rfl⟩) | fail)
  refine bodyPost_ret (v := .tuple #[.string s, .bool false]) (by simp [results, Tryz.results244, go_sem]) rfl ⟨s, false, rfl, ⟨rfl, fun _ => HH.out⟩, rfl⟩
theorem cut_any (s : ByteArray) (w : World) (hs : s.size ≤ 100000) : Calls Tryz.prog 232 #[.string s, .string ⟨#[45]⟩] w (CutR w s) := by
 have CH := hide (fun W => cutp_any s W hs)
 go_enter Tryz.func232, Tryz.ntmps232
 go_wp2_with (first | (go_at_call 244; (with_reducible refine (CH.out _).mono ?_); rintro e w1 ⟨t, b, rfl, ht, rfl⟩) | fail)
 exact bodyPost_ret (v := .tuple #[.string t, .bool b]) (by simp [results, Tryz.results232, go_sem]) rfl ⟨t, b, rfl, ht, rfl⟩
def CutS (w : World) (l : List UInt8) (b : Bool) (e : Ending) (w' : World) : Prop := ∃ t : ByteArray, e = .returned (.tuple #[.string t, .bool b]) ∧ Hid (t.data.toList = l) ∧ w = w'
theorem cut_h (s : ByteArray) (w : World) (hs : s.size ≤ 100000) {b : Bool} {l : List UInt8} (h : s.data.toList = (if b then [45] else []) ++ l) (hb : b = false → l.head? ≠ some 45) : Calls Tryz.prog 232 #[.string s, .string ⟨#[45]⟩] w (CutS w l b) := by
 refine (cut_any s w hs).mono ?_
 rintro e w' ⟨t, b', rfl, ht, rfl⟩
 obtain ⟨h1, h2⟩ := ht.out
 rw [h] at h1 h2
 cases b <;> cases b'
 ·exact ⟨t, rfl, by simpa [Hid] using h1.symm, rfl⟩
 ·exfalso; refine hb rfl ?_; rw [show l = 45 :: t.data.toList by simpa using h1]; rfl
 ·exfalso; exact h2 rfl rfl
 ·exact ⟨t, rfl, by simpa [Hid] using h1.symm, rfl⟩
def ZPR (W : World) (z : Int) (e : Ending) (w' : World) : Prop :=
 ∃ A c, e = .returned (.tuple #[.agg #[.bool (decide (z < 0)), .slice A (dl z.natAbs) c], .bool true]) ∧ ZA w' (decide (z < 0)) A (dl z.natAbs) c z ∧ Hid (Below W.heap.size W w')
def ZPN (W : World) (e : Ending) (w' : World) : Prop := e = .returned (.tuple #[.agg #[.bool false, .slice none 0 0], .bool false]) ∧ Hid (Below W.heap.size W w')
def PsR (W : World) (v : Nat) (e : Ending) (w' : World) : Prop := ∃ A c, e = .returned (.tuple #[.agg #[.slice A (dl v) c], .bool true]) ∧ Nm w' A (dl v) c v ∧ Hid (Below W.heap.size W w')
def PsN (W : World) (e : Ending) (w' : World) : Prop := e = .returned (.tuple #[.agg #[.slice none 0 0], .bool false]) ∧ Hid (Below W.heap.size W w')
theorem numL_dl {l : List UInt8} (hd : digB l = true) (h : l.length ≤ 99999) : dl (numL l) ≤ 100000 := by
 have h1 := numL_lt l (by unfold digB at hd; rw [Bool.and_eq_true] at hd; exact hd.2)
 refine Nat.le_trans (dl_le (k := l.length + 1) (Nat.lt_of_lt_of_le h1 ?_)) (by omega)
 rw [Nat.pow_succ]
 exact Nat.le_trans (Nat.pow_le_pow_left (show 10 ≤ W32 by decide) _) (Nat.le_mul_of_pos_right _ (by decide))
theorem parse_h (s : ByteArray) (w : World) (hs : s.size ≤ 99999) (h : digB s.data.toList = true) {v : Nat} (hv : numL s.data.toList = v) : Calls Tryz.prog 142 #[.string s] w (PsR w v) := by
 subst hv
 refine (Parse_any s w (by omega)).mono fun e w' h1 => ?_
 unfold ParsePost at h1
 rw [if_pos h] at h1
 obtain ⟨A, c, he, hc, hb⟩ := h1
 exact ⟨A, c, he, nm_can hc (numL_dl h (by rw [← size_list]; omega)), hb⟩
theorem parse_n (s : ByteArray) (w : World) (hs : s.size ≤ 99999) (h : ¬ digB s.data.toList = true) : Calls Tryz.prog 142 #[.string s] w (PsN w) := by
 refine (Parse_any s w (by omega)).mono fun e w' h1 => ?_
 unfold ParsePost at h1
 rw [if_neg h] at h1
 exact h1
theorem alc1 {w : World} {o : Obj} {p i : Nat} {v : Value} (h : w.cell? ⟨p, i, none⟩ = some v) : (w.alloc o).cell? ⟨p, i, none⟩ = some v := (World.cell?_alloc_some _ _ _ (by rw [h]; rfl)).trans h
theorem set2b {w : World} {p : Nat} {s : Bool} {A : Option Addr} {n c : Nat} {x y : Value} (h : Zcell w p s A n c) :
 ((w.setCell ⟨p, 0, none⟩ x).setCell ⟨p, 1, none⟩ y).cell? ⟨p, 0, none⟩ = some x ∧ ((w.setCell ⟨p, 0, none⟩ x).setCell ⟨p, 1, none⟩ y).cell? ⟨p, 1, none⟩ = some y :=
 ⟨(World.cell?_setCell_other _ _ _ _ (by intro e; cases e)).trans (World.cell?_setCell_same _ _ _ h.c0), World.cell?_setCell_same _ _ _ ((World.cell?_setCell_other _ _ _ _ (by intro e; cases e)).trans h.c1)⟩
section
variable {W : World} {s : ByteArray} {b : Bool} {l : List UInt8}
theorem zparse_h {v : Int} (hs : s.size ≤ 99999) (h : s.data.toList = (if b then [45] else []) ++ l) (hb : b = false → l.head? ≠ some 45) (hd : digB l = true) (hv : zi b (numL l) = v) : Calls Tryz.prog 214 #[.string s] W (ZPR W v) := by
 have hll : l.length ≤ 99999 := by
  have := congrArg List.length h
  rw [← size_list, List.length_append] at this
  omega
 have CC := hide (fun (W' : World) => cut_h s W' (by omega) h hb)
 have CP : Hid (∀ (W' : World) (t : ByteArray), Hid (t.data.toList = l) → Calls Tryz.prog 142 #[.string t] W' (PsR W' v.natAbs)) := fun W' t ht => parse_h t W' (by rw [size_list, ht.out]; exact hll) (by rw [ht.out]; exact hd) (by rw [ht.out, ← hv, zi_abs])
 have CS : Hid (∀ W' B n d, Nm W' B n d v.natAbs → Calls Tryz.prog 132 #[.bool b, .agg #[.slice B n d]] W' (SgR W' (decide (v < 0)) B n d)) := fun W' B n d hn => signed_z hn (by rw [← hv, zi_abs])
 clear h hb hd hv hs hll
 go_enter Tryz.func214, Tryz.ntmps214
 go_wp2_with (first | (go_at_call 232; (with_reducible refine (CC.out _).mono ?_); rintro e w1 ⟨t, rfl, ht, rfl⟩) | (go_at_call 142; (with_reducible refine (CP.out _ t ht).mono ?_); rintro e w2 ⟨B, d, rfl, hn, hbk⟩; have HR := hide ((zc_new _ _ _ _ _ _).up hbk); have HW : Hid (Below W.heap.size W w2) := (bz1 hbk).2.2.2; have l0 := HR.out.lt; have r0 := HR.out.c0; have r1 := HR.out.c1; have f0 := HR.out.f0; have f1 := HR.out.f1) | (go_at_call 132; (with_reducible refine (CS.out _ _ _ _ (hn.al _)).mono ?_); rintro e w3 ⟨rfl, hbk2⟩; replace HR := hide (HR.out.upA hbk2); replace HW := bel_al HW hbk2; replace hn := nm_upA hn hbk2; clear r0 r1 f0 f1 l0; have l0 := HR.out.lt; have r0 := HR.out.c0; have r1 := HR.out.c1; have f0 := HR.out.f0; have f1 := HR.out.f1) | fail)
 refine bodyPost_ret (v := .tuple #[.agg #[.bool (decide (v < 0)), .slice B (dl v.natAbs) d], .bool true]) (by simp [results, Tryz.results214, go_sem, r0, r1]) rfl ?_
 exact ⟨B, d, rfl, zr_of (nm_z2 hn HR.out.c0 HR.out.c1), (HW.out.setCell (by simp) _).setCell (by simp) _⟩
theorem zparse_n (hs : s.size ≤ 99999) (h : s.data.toList = (if b then [45] else []) ++ l) (hb : b = false → l.head? ≠ some 45) (hd : ¬ digB l = true) : Calls Tryz.prog 214 #[.string s] W (ZPN W) := by
 have hll : l.length ≤ 99999 := by
  have := congrArg List.length h
  rw [← size_list, List.length_append] at this
  omega
 have CC := hide (fun (W' : World) => cut_h s W' (by omega) h hb)
 have CP : Hid (∀ (W' : World) (t : ByteArray), Hid (t.data.toList = l) → Calls Tryz.prog 142 #[.string t] W' (PsN W')) := fun W' t ht => parse_n t W' (by rw [size_list, ht.out]; exact hll) (by rw [ht.out]; exact hd)
 clear h hb hd hs hll
 go_enter Tryz.func214, Tryz.ntmps214
 go_wp2_with (first | (go_at_call 232; (with_reducible refine (CC.out _).mono ?_); rintro e w1 ⟨t, rfl, ht, rfl⟩) | (go_at_call 142; (with_reducible refine (CP.out _ t ht).mono ?_); rintro e w2 ⟨rfl, hbk⟩; have HR := hide ((zc_new _ _ _ _ _ _).up hbk); have HW : Hid (Below W.heap.size W w2) := (bz1 hbk).2.2.2; have l0 := HR.out.lt; have r0 := HR.out.c0; have r1 := HR.out.c1; have f0 := HR.out.f0; have f1 := HR.out.f1) | fail)
 have u0 := fun o => alc1 (o := o) (set2b (x := .bool false) (y := .slice none 0 0) HR.out).1
 have u1 := fun o => alc1 (o := o) (set2b (x := .bool false) (y := .slice none 0 0) HR.out).2
 refine bodyPost_ret (v := .tuple #[.agg #[.bool false, .slice none 0 0], .bool false]) (by simp [results, Tryz.results214, go_sem, u0, u1]) rfl ⟨rfl, ?_⟩
 exact ((HW.out.setCell (by simp) _).setCell (by simp) _).alloc (by have := HW.out.size; simpa [World.setCell] using this) _
end
theorem ixbyte_any (s : ByteArray) (w : World) : Calls Tryz.prog 216 #[.string s, .int .u8 47] w fun e w' => e = .returned (.int .i64 (Lib.indexByte s.data.toList 47)) ∧ w = w' := by
 go_enter Tryz.func216, Tryz.ntmps216
 go_wp2_with fail
 rw [run_callFunc_extern Tryz.func233 (by kernel_rfl) (by kernel_rfl) (by kernel_rfl) (e := Extern.BytealgIndexByte.indexByte) (by kernel_rfl), Lib.run_indexByteString]
 simp only [Result.andThen]
 rw [Oper.upon_value]
 go_wp2
 go_ret
 exact ⟨rfl, rfl⟩
theorem index_any (s : ByteArray) (w : World) {v : Int} (hv : Lib.indexByte s.data.toList 47 = v) : Calls Tryz.prog 190 #[.string s, .string ⟨#[47]⟩] w fun e w' => e = .returned (.int .i64 v) ∧ w = w' := by
 subst hv
 have CI := hide (fun W => ixbyte_any s W)
 cases hb : ([47] == s.toList)
 ·go_enter Tryz.func190, Tryz.ntmps190
  go_wp2_with (first | (go_at_call 216; (refine (CI.out _).mono ?_); rintro e w1 ⟨rfl, rfl⟩) | fail)
  go_ret
  exact ⟨rfl, rfl⟩
 ·have HV : Hid (Lib.indexByte s.data.toList 47 = 0) := by
   have h1 : [47] = s.toList := beq_iff_eq.1 hb
   unfold Hid
   rw [← toList_data, ← h1]; rfl
  go_enter Tryz.func190, Tryz.ntmps190
  go_wp2_with (first | (go_at_call 216; (refine (CI.out _).mono ?_); rintro e w1 ⟨rfl, rfl⟩) | fail)
  go_ret
  exact ⟨by rw [HV.out]; rfl, rfl⟩
def SlashR (w : World) (s : ByteArray) (e : Ending) (w' : World) : Prop :=
 ∃ (t u : ByteArray) (b : Bool), e = .returned (.tuple #[.string t, .string u, .bool b]) ∧ Hid ((b = true → s.data.toList = t.data.toList ++ 47 :: u.data.toList) ∧ (b = false → t = s) ∧ ¬ (47 : UInt8) ∈ t.data.toList) ∧ Hid (Below w.heap.size w w')
theorem cutl_any (s : ByteArray) (w : World) (hs : s.size ≤ 100000) : Calls Tryz.prog 231 #[.string s, .string ⟨#[47]⟩] w (SlashR w s) := by
 obtain ⟨v, hv⟩ : ∃ v, Lib.indexByte s.data.toList 47 = v := ⟨_, rfl⟩
 have CI := hide (fun W => index_any s W hv)
 have hge := Lib.indexByte_ge s.data.toList 47
 rw [hv] at hge
 by_cases hm : v = -1
 ·subst hm
  have HN := hide (Lib.indexByte_none hv)
  clear hv hge
  go_enter Tryz.func231, Tryz.ntmps231
  go_wp2_with (first | (go_at_call 190; (with_reducible refine (CI.out _).mono ?_); rintro e w1 ⟨rfl, rfl⟩) | fail)
  refine bodyPost_ret (v := .tuple #[.string s, .string ⟨#[]⟩, .bool false]) (by simp [results, Tryz.results231, go_sem]) rfl ?_
  refine ⟨s, _, false, rfl, ⟨(fun h => by cases h), (fun _ => rfl), fun h => ?_⟩, Below.refl _ _⟩
  obtain ⟨k, hk⟩ := List.mem_iff_getElem?.1 h
  exact HN.out k hk
 ·obtain ⟨i, rfl⟩ : ∃ i : Nat, v = (i : Int) := ⟨v.toNat, by omega⟩
  obtain ⟨h1, h2⟩ := Lib.indexByte_some hv
  have hi : i < s.data.toList.length := by
   rcases Nat.lt_or_ge i s.data.toList.length with h | h
   ·exact h
   ·rw [List.getElem?_eq_none h] at h1; cases h1
  have hsz := size_list s
  have H1 := hide h1
  have H2 := hide h2
  have hi2 : i < s.size := by omega
  have hi3 : i + 1 ≤ s.size := by omega
  have q0 : (0 : Int) ≤ (i : Int) := by omega
  have q1 : (i : Int) ≤ (s.size : Int) := by omega
  have q2 : (0 : Int) ≤ (i : Int) + 1 := by omega
  have q3 : (i : Int) + 1 ≤ (s.size : Int) := by omega
  have HE : Hid (IntKind.i64.wrap ((i : Int) + 1) = (i : Int) + 1) := IntWalk.i64_in _ (by omega)
  have HT : Hid (((i : Int) + 1).toNat = i + 1) := by unfold Hid; omega
  have HSZ := hide hsz
  clear hv hge hm h1 h2 hi hsz
  go_enter Tryz.func231, Tryz.ntmps231
  go_wp2_with (first | (go_at_call 190; (with_reducible refine (CI.out _).mono ?_); rintro e w1 ⟨rfl, rfl⟩) | fail)
  have e1 := HE.out
  have e2 := HT.out
  go_quiet (fail)
  clear e1 e2
  go_wp2
  refine bodyPost_ret (v := .tuple #[.string (s.extract 0 i), .string (s.extract (i + 1) s.size), .bool true]) (by simp [results, Tryz.results231, go_sem]) rfl ?_
  refine ⟨_, _, true, rfl, ⟨fun _ => ?_, (fun h => by cases h), fun h => ?_⟩, below_drewN (Below.refl _ _) _⟩
  ·have h1 := H1.out
   have hl : i < s.data.toList.length := by rw [← HSZ.out]; exact hi2
   rw [List.getElem?_eq_getElem hl] at h1
   injection h1 with h1
   rw [extract_list, extract_list, List.drop_zero, List.take_of_length_le (Nat.le_of_eq HSZ.out.symm), ← h1, ← List.drop_eq_getElem_cons hl, List.take_append_drop]
  ·rw [extract_list, List.drop_zero] at h
   obtain ⟨k, hk⟩ := List.mem_iff_getElem?.1 h
   rw [List.getElem?_take] at hk
   split at hk
   ·exact H2.out k (by assumption) hk
   ·cases hk
theorem slash_any (s : ByteArray) (w : World) (hs : s.size ≤ 100000) : Calls Tryz.prog 213 #[.string s, .string ⟨#[47]⟩] w (SlashR w s) := by
 have CH := hide (fun W => cutl_any s W hs)
 go_enter Tryz.func213, Tryz.ntmps213
 go_wp2_with (first | (go_at_call 231; (with_reducible refine (CH.out _).mono ?_); rintro e w1 ⟨t, u, b, rfl, ht, hbk⟩) | fail)
 exact bodyPost_ret (v := .tuple #[.string t, .string u, .bool b]) (by simp [results, Tryz.results213, go_sem]) rfl ⟨t, u, b, rfl, ht, hbk⟩
def decQ (r : Rat) : List UInt8 := if r.den = 1 then decZ r.num else decZ r.num ++ (47 :: decL r.den)
def NPR (W : World) (v : Nat) (e : Ending) (w' : World) : Prop := ∃ A c, e = .returned (.tuple #[.agg #[.slice A (dl v) c], .bool true]) ∧ Nm w' A (dl v) c v ∧ Hid (Below W.heap.size W w')
theorem npar_h {W : World} {s : ByteArray} {v : Nat} (hs : s.size ≤ 100000) (hd : digB s.data.toList = true) (hv : numL s.data.toList = v) (hl : dl v ≤ 100000) : Calls Tryz.prog 142 #[.string s] W (NPR W v) := by
 subst hv
 refine (Parse_any s W hs).mono fun e w' h1 => ?_
 unfold ParsePost at h1
 rw [if_pos hd] at h1
 obtain ⟨A2, c2, he, hc, hb⟩ := h1
 exact ⟨A2, c2, he, nm_can hc hl, hb⟩
def CutQ (w : World) (t : ByteArray) (u : ByteArray) (b : Bool) (e : Ending) (w' : World) : Prop := e = .returned (.tuple #[.string t, .string u, .bool b]) ∧ Hid (Below w.heap.size w w')
theorem split_once {a a' b b' : List UInt8} (h : a ++ 47 :: b = a' ++ 47 :: b') (ha : ¬ (47 : UInt8) ∈ a) (ha' : ¬ (47 : UInt8) ∈ a') : a = a' ∧ b = b' := by
 induction a generalizing a' with
 | nil =>
   cases a' with
   | nil => simp at h; exact ⟨rfl, h⟩
   | cons x xs => simp at h; exact absurd (by rw [← h.1]; simp) ha'
 | cons y ys ih =>
   cases a' with
   | nil => simp at h; exact absurd (by rw [h.1]; simp) ha
   | cons x xs =>
     simp at h
     obtain ⟨h1, h2⟩ := ih h.2 (fun h => ha (List.mem_cons_of_mem _ h)) (fun h => ha' (List.mem_cons_of_mem _ h))
     exact ⟨by rw [h.1, h1], h2⟩
theorem slash_hit {s t u : ByteArray} (w : World) (hs : s.size ≤ 100000) (h : s.data.toList = t.data.toList ++ 47 :: u.data.toList) (ht : ¬ (47 : UInt8) ∈ t.data.toList) : Calls Tryz.prog 213 #[.string s, .string ⟨#[47]⟩] w (CutQ w t u true) := by
 refine (slash_any s w hs).mono ?_
 rintro e w' ⟨t', u', b, rfl, hr, hb⟩
 obtain ⟨h1, h2, h3⟩ := hr.out
 cases b
 ·have h4 := h2 rfl
  subst h4
  exact absurd (by rw [h]; simp) h3
 ·have h4 := h1 rfl
  rw [h] at h4
  obtain ⟨e1, e2⟩ := split_once h4 ht h3
  obtain rfl : t = t' := ByteArray.ext (Array.ext' e1)
  obtain rfl : u = u' := ByteArray.ext (Array.ext' e2)
  exact ⟨rfl, hb⟩
def CutM (w : World) (s : ByteArray) (e : Ending) (w' : World) : Prop := ∃ u, e = .returned (.tuple #[.string s, .string u, .bool false]) ∧ Hid (Below w.heap.size w w')
theorem slash_miss {s : ByteArray} (w : World) (hs : s.size ≤ 100000) (h : ¬ (47 : UInt8) ∈ s.data.toList) : Calls Tryz.prog 213 #[.string s, .string ⟨#[47]⟩] w (CutM w s) := by
 refine (slash_any s w hs).mono ?_
 rintro e w' ⟨t', u', b, rfl, hr, hb⟩
 obtain ⟨h1, h2, h3⟩ := hr.out
 cases b
 ·have h4 := h2 rfl
  subst h4
  exact ⟨_, rfl, hb⟩
 ·exact absurd (by rw [h1 rfl]; simp) h
def QRs (W : World) (sg : Bool) (r : Rat) (e : Ending) (w' : World) : Prop :=
 ∃ A c A' c', e = .returned (.agg #[.bool sg, .slice A (dl r.num.natAbs) c, .slice A' (dl r.den) c']) ∧ ZA w' sg A (dl r.num.natAbs) c r.num ∧ Nm w' A' (dl r.den) c' r.den ∧ Hid (Below W.heap.size W w')
def OfYs (W : World) (sg : Bool) (r : Rat) (e : Ending) (w' : World) : Prop := ∃ A c A' c', e = .returned (.tuple #[.agg #[.bool sg, .slice A (dl r.num.natAbs) c, .slice A' (dl r.den) c'], .bool true]) ∧ ZA w' sg A (dl r.num.natAbs) c r.num ∧ Nm w' A' (dl r.den) c' r.den ∧ Hid (Below W.heap.size W w')
def ZPRs (W : World) (sg : Bool) (z : Int) (e : Ending) (w' : World) : Prop := ∃ A c, e = .returned (.tuple #[.agg #[.bool sg, .slice A (dl z.natAbs) c], .bool true]) ∧ ZA w' sg A (dl z.natAbs) c z ∧ Hid (Below W.heap.size W w')
section
variable {W : World} {b b' : Bool} {A A' : Option Addr} {n n' c c' m m' : Nat} {z z' : Int} {r : Rat} {K : Nat}
theorem dec_bd {m K : Nat} (h : m < W32 ^ K) : (decL m).length ≤ 10 * K + 1 := by
 have h3 : W32 ^ K ≤ (10 ^ 10) ^ K := Nat.pow_le_pow_left (by decide) _
 rw [← Nat.pow_mul] at h3
 refine dt_le (Nat.lt_of_lt_of_le (Nat.lt_of_lt_of_le h h3) (Nat.pow_le_pow_right (by decide) (by omega))) (by omega)
theorem decZ_bd {z : Int} {K : Nat} (h : z.natAbs < W32 ^ K) : (decZ z).length ≤ 10 * K + 2 := by
 have := dec_bd h
 unfold decZ
 by_cases hn : z < 0
 ·rw [if_pos hn, List.length_cons]; omega
 ·rw [if_neg hn]; omega
theorem tt_bd {z : Int} {d : Nat} {r : Rat} {K : Nat} (h : TT z d r K) : r.num.natAbs < W32 ^ K ∧ r.den < W32 ^ K := by
 obtain ⟨h0, h1, h2, h3⟩ := h
 obtain ⟨g0, e1, e2, _⟩ := low_terms (z := z) h0 (rfl : Nat.gcd z.natAbs d = Nat.gcd z.natAbs d)
 rw [h1] at e1 e2
 exact ⟨by rw [e1]; exact Nat.lt_of_le_of_lt (Nat.div_le_self _ _) h2, by rw [e2]; exact Nat.lt_of_le_of_lt (Nat.div_le_self _ _) h3⟩
theorem qa_bd (h : QA W b A n c A' n' c' r K) (hK : 0 < K) : r.num.natAbs < W32 ^ K ∧ r.den < W32 ^ K := by
 obtain ⟨z, d, _, _, h1, h2, h3⟩ := h
 rcases Nat.eq_zero_or_pos d with h0 | h0
 ·subst h0
  rw [Rat.mkRat_zero] at h1
  subst h1
  exact ⟨Nat.pow_pos (by decide), Nat.one_lt_pow (by omega) (by decide)⟩
 ·exact tt_bd ⟨h0, h1, h2, h3⟩
end
def Bd (r : Rat) (K : Nat) : Prop := r.num.natAbs < W32 ^ K ∧ r.den < W32 ^ K
theorem Bd.more {r : Rat} {K L : Nat} (h : Bd r K) (hl : K ≤ L) : Bd r L := ⟨Nat.lt_of_lt_of_le h.1 (Nat.pow_le_pow_right (by decide) hl), Nat.lt_of_lt_of_le h.2 (Nat.pow_le_pow_right (by decide) hl)⟩
theorem bd_int {z : Int} {K : Nat} (h : z.natAbs < W32 ^ K) (hK : 0 < K) : Bd (z : Rat) K := ⟨h, Nat.one_lt_pow (by omega) (by decide)⟩
theorem QA.more {W : World} {b : Bool} {A A' : Option Addr} {n c n' c' K L : Nat} {r : Rat} (h : QA W b A n c A' n' c' r K) (hl : K ≤ L) : QA W b A n c A' n' c' r L := by
 obtain ⟨z, d, h1, h2, h3, h4, h5⟩ := h
 exact ⟨z, d, h1, h2, h3, Nat.lt_of_lt_of_le h4 (Nat.pow_le_pow_right (by decide) hl), Nat.lt_of_lt_of_le h5 (Nat.pow_le_pow_right (by decide) hl)⟩
section
variable {W : World} {p q : Nat} {v0 v1 v2 x y z : Value} {vs : List Value}
theorem At.put3 (h : At W p [v0, v1, v2]) (x y z : Value) : At (((W.setCell ⟨p, 0, none⟩ x).setCell ⟨p, 1, none⟩ y).setCell ⟨p, 2, none⟩ z) p [x, y, z] :=
 ((h.put (i := 0) (by simp) x).put (i := 1) (by simp) y).put (i := 2) (by simp) z
theorem At.far3 (h : At W p vs) (hq : q ≠ p) (x y z : Value) : At (((W.setCell ⟨q, 0, none⟩ x).setCell ⟨q, 1, none⟩ y).setCell ⟨q, 2, none⟩ z) p vs :=
 ((h.far hq x).far hq y).far hq z
theorem ZA.put3 {s : Bool} {A : Option Addr} {n c : Nat} {u : Int} {b0 : Bool} {B0 B1 : Option Addr} {k0 d0 k1 d1 : Nat} (h : ZA W s A n c u) (hp : At W p [.bool b0, .slice B0 k0 d0, .slice B1 k1 d1]) {b : Bool} {B B' : Option Addr} {k d k' d' : Nat} :
 ZA (((W.setCell ⟨p, 0, none⟩ (.bool b)).setCell ⟨p, 1, none⟩ (.slice B k d)).setCell ⟨p, 2, none⟩ (.slice B' k' d')) s A n c u := ⟨h.1.put3 hp now3, h.2⟩
end
end Go.Proofs.YtfflmmbhpchloaaGreatDoor
end
