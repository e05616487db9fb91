/- Several texts in one, each with its own sentence and conditions. -/
import Derived.Test.YteahcbeohopdlaaGreatDoorGRqc24
import Derived.Test.YteahcbeohopdlaaGreatDoorGRqc23
import Derived.Test.YteahcbeohopdlaaGreatDoorQf
import Derived.Test.YteahcbeohopdlaaGreatDoorGRqc10
import Derived.Test.YteahcbeohopdlaaGreatDoorQe
import Derived.Test.YteahcbeohopdlaaGreatDoorGRqc17
import Derived.Test.YteahcbeohopdlaaGreatDoorGRqc15
import Derived.Test.YteahcbeohopdlaaGreatDoorGRqc6
section
/- Statements of rat: is, zis. Conditions: less than 4000 words. -/
open Go.RowKit
set_option maxRecDepth 100000
namespace Go.Proofs.YteahcbeohopdlaaGreatDoor
/-- Is a number, told just, the document's own? -/
theorem is3_any {A A' : Option Addr} {c c' m n : Nat} {w : World} (h : Can w w.heap.size A c m) (h' : RN w w.heap.size A' c' n) (hl : dl m < 4000) (hq : dq n ≤ 100000) :
    Calls Tryz.prog 86 #[.agg #[.slice A (dl m) c], .slice A' (dq n) c'] w fun e w' => e = .returned (.bool (decide (m = n))) ∧ Below w.heap.size w w' := by
  have HX : Hid (∀ o, Rd U32 (w.alloc o) (w.alloc o).heap.size A (digs W32 m)) := fun o => ((h.below ((Below.refl _ _).alloc (Nat.le_refl _) _)).more (by simp)).2
  have HY : Hid (∀ o, RN (w.alloc o) (w.alloc o).heap.size A' c' n) := fun o => (h'.below ((Below.refl _ _).alloc (Nat.le_refl _) _)).more (by simp)
  have HA : Hid (∀ o, Below w.heap.size w (w.alloc o)) := fun o => (Below.refl _ _).alloc (Nat.le_refl _) _
  have hqm : Hid (dq m ≤ 100000) := by have := dq_words (lt_pow_digs (b := W32) (by decide) m); unfold dl at hl; unfold Hid; omega
  have HG := hide (goodB_digs m)
  have hl2 : dl m ≤ 4000 := by omega
  have CW : Hid (∀ o W, Hid (Below (w.alloc o).heap.size (w.alloc o) W) → Calls Tryz.prog 27 #[.slice A (dl m) c] W (RefPost W m)) := fun o W hb => by
    have h1 := Words_any (c := c) (show dl m = (digs W32 m).length from rfl) (((HX.out o).below hb.out).more hb.out.size) (good_digs m) hl2
    rw [val_digs32] at h1
    exact h1
  clear h h'
  go_enter Tryz.func86, Tryz.ntmps86
  go_wp2_with (first | (go_at_call 91; go_must (refine (Good_any (show dl m = (digs W32 m).length from rfl) (HX.out _) (by omega)).mono ?_); rintro e w1 ⟨rfl, hb1⟩; have HB1 := hide hb1; have hg1 := HG.out; have hc1 : w1.cell? ⟨w.heap.size, 0, none⟩ = some (.slice A (dl m) c) := (hb1.cell (by simp)).trans (one_cell (heap_alloc_new w _)).1; clear hb1) | (go_at_call 27; go_must (refine (CW.out _ _ HB1).mono ?_); rintro e w2 ⟨A2, c2, rfl, hr2, hb2⟩) | (go_at_call 121; go_must (refine (rCmp_any hr2.out (((HY.out _).below HB1.out).below (hb2.out.mono HB1.out.size) |>.more (Nat.le_trans HB1.out.size hb2.out.size)) (Nat.le_trans hqm.out (by omega)) (by omega)).mono ?_); rintro e w3 ⟨rfl, q, rfl⟩))
  go_ret
  refine ⟨bool_ret ?_, below_drewN (((HA.out _).trans (HB1.out.mono (by simp))).trans (hb2.out.mono (Nat.le_trans (by simp) HB1.out.size))) q⟩
  exact cmpI_beq m n

theorem is3_same {W : World} {A A' : Option Addr} {c c' m : Nat} (h : Nm W A (dl m) c m) (h' : Hid (RN W W.heap.size A' c' m)) (hl : dl m < 4000) : Calls Tryz.prog 86 #[.agg #[.slice A (dl m) c], .slice A' (dq m) c'] W (BoolR W true) := by
  have hq : dq m ≤ 100000 := by have := dq_words (lt_pow_digs (b := W32) (by decide) m); unfold dl at hl; omega
  refine (is3_any (h.out.digs).1 h'.out hl hq).mono fun e w' ⟨he, hb⟩ => ⟨by rw [he, decide_eq_true rfl], hb⟩
section
variable {W : World} {z : Int}
set_option maxHeartbeats 2000000 in
theorem zis3_h {A A' : Option Addr} {c c' : Nat} (h : ZA W (decide (z < 0)) A (dl z.natAbs) c z) (h' : Hid (RN W W.heap.size A' c' z.natAbs)) (hl : dl z.natAbs < 4000) : Calls Tryz.prog 35 #[.agg #[.bool (decide (z < 0)), .slice A (dl z.natAbs) c], .agg #[.bool (decide (z < 0)), .slice A' (dq z.natAbs) c']] W (BoolR W true) := by
  have CG : Hid (∀ W', Below W.heap.size W W' → Calls Tryz.prog 90 #[.agg #[.bool (decide (z < 0)), .slice A (dl z.natAbs) c]] W' (BoolR W' true)) := fun W' hb => zgood_h (h.up hb)
  have CI : Hid (∀ W', Below W.heap.size W W' → Calls Tryz.prog 86 #[.agg #[.slice A (dl z.natAbs) c], .slice A' (dq z.natAbs) c'] W' (BoolR W' true)) := fun W' hb => is3_same (h.up hb).1 ((h'.out.below hb).more hb.size) hl
  clear h h' hl
  cases hb : decide (z < 0)
  all_goals
    rw [hb] at CG
    clear hb
    go_enter Tryz.func35, Tryz.ntmps35
    go_wp2_with (first | (go_at_call 90; (with_reducible refine (CG.out _ (al2 _ _ _)).mono ?_); rintro e w1 ⟨rfl, hbk⟩; have HA := hide (((zc_new _ _ _ _ _ _).al _).up hbk); have HA' := hide ((zc_new1 _ _ _ _ _ _ _).up hbk); have HW := hide ((al2 W _ _).trans (hbk.out.mono (al2 W _ _).size)); have a0 := HA.out.c0; have a1 := HA.out.c1; have b0 := HA'.out.c0; have b1 := HA'.out.c1) | (go_at_call 86; (with_reducible refine (CI.out _ HW.out).mono ?_); rintro e w2 ⟨rfl, hbk2⟩) | fail)
    go_ret
    exact ⟨rfl, chain HW hbk2.out⟩
end
end Go.Proofs.YteahcbeohopdlaaGreatDoor
end

section
/- Statements of rat: qis, long, what the document tells of six over four. No conditions. -/
open Go.RowKit
set_option maxRecDepth 100000
namespace Go.Proofs.YteahcbeohopdlaaGreatDoor
def RQs (W : World) (sg : Bool) (r : Rat) (e : Ending) (w' : World) : Prop := ∃ A c A' c', e = .returned (.agg #[.bool sg, .slice A (dq r.num.natAbs) c, .slice A' (dq r.den) c']) ∧ Rn w' A c r.num.natAbs ∧ Rn w' A' c' r.den ∧ Hid (Below W.heap.size W w')
def RZs (W : World) (sg : Bool) (z : Int) (e : Ending) (w' : World) : Prop := ∃ A c, e = .returned (.agg #[.bool sg, .slice A (dq z.natAbs) c]) ∧ Hid (RN w' w'.heap.size A c z.natAbs) ∧ Hid (Below W.heap.size W w')
def ZRs (W : World) (sg : Bool) (z : Int) (e : Ending) (w' : World) : Prop := ∃ A c, e = .returned (.agg #[.bool sg, .slice A (dl z.natAbs) c]) ∧ ZA w' sg A (dl z.natAbs) c z ∧ Hid (Below W.heap.size W w')
theorem qa_of {W : World} {sg : Bool} {A A' : Option Addr} {n c n' c' K : Nat} {r : Rat} (nz : ZA W sg A n c r.num) (nd : Nm W A' n' c' r.den) (hb : r.num.natAbs < W32 ^ K ∧ r.den < W32 ^ K) : QA W sg A n c A' n' c' r K := ⟨r.num, r.den, nz, nd, Rat.mkRat_self r, hb⟩
section
variable {W : World} {A A' B B' : Option Addr} {c c' n n' d d' : Nat} {r : Rat} {sg : Bool}
set_option maxHeartbeats 2000000 in
theorem qis_h (nz : ZA W sg A (dl r.num.natAbs) c r.num) (nd : Nm W A' (dl r.den) c' r.den) (mz : Rn W B d r.num.natAbs) (md : Rn W B' d' r.den) (hs : sg = decide (r.num < 0)) (h1 : dl r.num.natAbs < 4000) (h2 : dl r.den < 4000) :
    Calls Tryz.prog 15 #[.agg #[.bool sg, .slice A (dl r.num.natAbs) c, .slice A' (dl r.den) c'], .agg #[.bool sg, .slice B (dq r.num.natAbs) d, .slice B' (dq r.den) d']] W (BoolR W true) := by
  have CZ : Hid (∀ W', Bel W W' → Calls Tryz.prog 35 #[.agg #[.bool sg, .slice A (dl r.num.natAbs) c], .agg #[.bool sg, .slice B (dq r.num.natAbs) d]] W' (BoolR W' true)) := fun W' hb => by
    subst hs
    exact zis3_h (nz.up hb) (mz.up hb) h1
  have CI : Hid (∀ W', Bel W W' → Calls Tryz.prog 86 #[.agg #[.slice A' (dl r.den) c'], .slice B' (dq r.den) d'] W' (BoolR W' true)) := fun W' hb => is3_same (nd.up hb) (md.up hb) h2
  clear nz nd mz md hs h1 h2
  have HB := Bel.refl W
  go_enter Tryz.func15, Tryz.ntmps15
  go_wp2_with (first | (go_at_call 35; (with_reducible refine (CZ.out _ ((HB.al _).al _)).mono ?_); rintro e w1 ⟨rfl, hbk⟩; have HP := At.up ((at_new0 _ _ _).al _) hbk; have HQ := At.up (at_new1 _ _ _ _) hbk; replace HB := ((HB.al _).al _).up hbk; have hp_0 := HP.c0; have hp_1 := HP.c1; have hp_2 := HP.c2; have hp_l := HP.lt; have hq_0 := HQ.c0; have hq_1 := HQ.c1; have hq_2 := HQ.c2; have hq_l := HQ.lt) | (go_at_call 86; (with_reducible refine (CI.out _ HB).mono ?_); rintro e w2 ⟨rfl, hbk⟩; replace HB := HB.up hbk) | fail)
  go_ret
  exact ⟨rfl, HB⟩
theorem rlong_h {b : Bool} (h1 : n ≤ 12) (h2 : n' ≤ 12) : Calls Tryz.prog 21 #[.agg #[.bool b, .slice A n c, .slice A' n' c']] W (BoolR W false) := by
  have hf : decide ((12 : Int) < (n : Int)) = false := decide_eq_false (by omega)
  have hg : decide ((12 : Int) < (n' : Int)) = false := decide_eq_false (by omega)
  clear h1 h2
  go_enter Tryz.func21, Tryz.ntmps21
  go_wp2
  go_ret
  exact ⟨rfl, (Below.refl _ _).alloc (Nat.le_refl _) _⟩
theorem rlong_n {b : Bool} (h : ¬ (n ≤ 12 ∧ n' ≤ 12)) : Calls Tryz.prog 21 #[.agg #[.bool b, .slice A n c, .slice A' n' c']] W (BoolR W true) := by
  by_cases h1 : n ≤ 12
  · have hf : decide ((12 : Int) < (n : Int)) = false := decide_eq_false (by omega)
    have hg : decide ((12 : Int) < (n' : Int)) = true := decide_eq_true (by omega)
    clear h h1
    go_enter Tryz.func21, Tryz.ntmps21
    go_wp2
    go_ret
    exact ⟨rfl, (Below.refl _ _).alloc (Nat.le_refl _) _⟩
  · have hf : decide ((12 : Int) < (n : Int)) = true := decide_eq_true (by omega)
    clear h h1
    go_enter Tryz.func21, Tryz.ntmps21
    go_wp2
    go_ret
    exact ⟨rfl, (Below.refl _ _).alloc (Nat.le_refl _) _⟩
end
/-- Three over two; with its other sign; three; minus two. -/
def r32 : Rat := mkRat 3 2
def rm32 : Rat := -r32
def i3 : Int := 3
def im2 : Int := -2
theorem r32_num : r32.num = 3 := by decide +kernel
theorem r32_den : r32.den = 2 := by decide +kernel
theorem rm32_num : rm32.num = -3 := by decide +kernel
theorem rm32_den : rm32.den = 2 := by decide +kernel
theorem rm32_floor : rm32.floor = im2 := by decide +kernel
theorem dig1 {d : Nat} (h0 : 0 < d) (h : d < 10) : decL d = [letter d] := by
  unfold decL
  rw [if_neg (by omega), digs_pos (by decide) h0, Nat.mod_eq_of_lt h, Nat.div_eq_of_lt h, digs_zero]
  rfl
theorem decQ_r32 : decQ r32 = [51, 47, 50] := by
  unfold decQ
  rw [r32_den, r32_num, if_neg (by decide)]
  unfold decZ
  rw [if_neg (by decide), show (3 : Int).natAbs = 3 from rfl, dig1 (by decide) (by decide), dig1 (by decide) (by decide)]
  rfl
def StrR (W : World) (s : ByteArray) (e : Ending) (w' : World) : Prop := e = .returned (.string s) ∧ Hid (Below W.heap.size W w')
theorem str_of {W : World} {l : List UInt8} {s : ByteArray} {e : Ending} {w' : World} (h : TxR W l e w') (hs : s.data.toList = l) : StrR W s e w' := by
  obtain ⟨t, rfl, ht, hb⟩ := h
  exact ⟨by rw [show t = s from ByteArray.ext (Array.ext' (ht.out.trans hs.symm))], hb⟩
theorem w32_two {x K : Nat} (hx : x < 4294967296) (hK : 0 < K) : x < W32 ^ K := Nat.lt_of_lt_of_le hx (by
  have h := Nat.pow_le_pow_right (n := W32) (by decide) hK
  rw [Nat.pow_succ, Nat.pow_zero, Nat.one_mul] at h
  exact h)
theorem r32_bd : r32.num.natAbs < W32 ^ 1 ∧ r32.den < W32 ^ 1 := by rw [r32_num, r32_den]; exact ⟨w32_two (by decide) (by decide), w32_two (by decide) (by decide)⟩
theorem rm32_bd : rm32.num.natAbs < W32 ^ 1 ∧ rm32.den < W32 ^ 1 := by rw [rm32_num, rm32_den]; exact ⟨w32_two (by decide) (by decide), w32_two (by decide) (by decide)⟩

set_option maxHeartbeats 4000000 in
/-- What the document tells of six over four: it holds. -/
theorem awake3_any (W : World) : Calls Tryz.prog 7 #[] W (BoolR W true) := by
  obtain ⟨sg, hsg⟩ : ∃ s, s = decide (r32.num < 0) := ⟨_, rfl⟩
  obtain ⟨sn, hsn⟩ : ∃ s, s = decide (rm32.num < 0) := ⟨_, rfl⟩
  obtain ⟨s2, hs2⟩ : ∃ s, s = decide (im2 < 0) := ⟨_, rfl⟩
  obtain ⟨s3, hs3⟩ : ∃ s, s = decide (i3 < 0) := ⟨_, rfl⟩
  have CP : Hid (∀ W', Calls Tryz.prog 14 #[.string ⟨#[54, 47, 52]⟩] W' (OfYs W' sg r32)) := fun W' => by
    rw [hsg]
    exact rparse_frac (t := ⟨#[54]⟩) (u := ⟨#[52]⟩) (v := 6) (d := 4) (by decide) rfl (by decide) (fun W2 => zparse_h (b := false) (l := [54]) (by decide) rfl (by intro _; decide) (by decide) (by decide)) (by decide) (by decide) (by decide) (Nat.le_trans (dl_le (k := 1) (by decide)) (by decide)) (Nat.le_trans (dl_le (k := 1) (by decide)) (by decide)) (by decide +kernel)
  have CT : Hid (∀ W' A n c A' n' c', ZA W' sg A n c r32.num → Nm W' A' n' c' r32.den → Calls Tryz.prog 17 #[.agg #[.bool sg, .slice A n c, .slice A' n' c']] W' (StrR W' ⟨#[51, 47, 50]⟩)) := fun W' A n c A' n' c' h1 h2 => (rtext_h (qa_of h1 h2 r32_bd) (by decide) (by decide)).mono fun _ _ h => str_of h decQ_r32.symm
  have CI3 : Hid (∀ W', Calls Tryz.prog 76 #[.int .i64 3] W' (RZs W' s3 i3)) := fun W' => by rw [hs3]; exact zint_h (z := i3) (by decide) (by decide)
  have CS2 : Hid (∀ W', Calls Tryz.prog 77 #[.int .u64 2] W' (RefPost W' 2)) := fun W' => Small_any (n := 2) (by decide)
  have CQ : Hid (∀ W' A c A' c', Rn W' A c i3.natAbs → Rn W' A' c' 2 → Calls Tryz.prog 75 #[.agg #[.bool s3, .slice A (dq i3.natAbs) c], .slice A' (dq 2) c'] W' (RQs W' sg r32)) := fun W' A c A' c' h1 h2 => by
    rw [hsg]
    exact rqof_h h1 h2 (by rw [hs3]; exact zi_dec i3) (by decide) rfl (Nat.le_trans (dq_u64 (by decide)) (by decide)) (Nat.le_trans (dq_u64 (by decide)) (by decide))
  have CQI : Hid (∀ W' A c A' c' B d B' d', ZA W' sg A (dl r32.num.natAbs) c r32.num → Nm W' A' (dl r32.den) c' r32.den → Rn W' B d r32.num.natAbs → Rn W' B' d' r32.den → Calls Tryz.prog 15 #[.agg #[.bool sg, .slice A (dl r32.num.natAbs) c, .slice A' (dl r32.den) c'], .agg #[.bool sg, .slice B (dq r32.num.natAbs) d, .slice B' (dq r32.den) d']] W' (BoolR W' true)) := fun W' A c A' c' B d B' d' h1 h2 h3 h4 => qis_h h1 h2 h3 h4 hsg (Nat.lt_of_le_of_lt (dl_le r32_bd.1) (by decide)) (Nat.lt_of_le_of_lt (dl_le r32_bd.2) (by decide))
  have CN : Hid (∀ W' A n c A' n' c', ZA W' sg A n c r32.num → Nm W' A' n' c' r32.den → Calls Tryz.prog 29 #[.agg #[.bool sg, .slice A n c, .slice A' n' c']] W' (QRs W' sn rm32)) := fun W' A n c A' n' c' h1 h2 => by rw [hsn]; exact rneg_h (qa_of h1 h2 r32_bd) (by decide) (by decide)
  have CF : Hid (∀ W' A n c A' n' c', ZA W' sn A n c rm32.num → Nm W' A' n' c' rm32.den → Calls Tryz.prog 36 #[.agg #[.bool sn, .slice A n c, .slice A' n' c']] W' (ZRs W' s2 im2)) := fun W' A n c A' n' c' h1 h2 => by rw [hs2]; exact floor_h (qa_of h1 h2 rm32_bd) (by decide) (by decide) rm32_floor
  have CI2 : Hid (∀ W', Calls Tryz.prog 76 #[.int .i64 (-2)] W' (RZs W' s2 im2)) := fun W' => by rw [hs2]; exact zint_h (z := im2) (by decide) (by decide)
  have CZI : Hid (∀ W' A c B d, ZA W' s2 A (dl im2.natAbs) c im2 → Rn W' B d im2.natAbs → Calls Tryz.prog 35 #[.agg #[.bool s2, .slice A (dl im2.natAbs) c], .agg #[.bool s2, .slice B (dq im2.natAbs) d]] W' (BoolR W' true)) := fun W' A c B d h1 h2 => by rw [hs2] at h1 ⊢; exact zis3_h h1 h2 (Nat.lt_of_le_of_lt (dl_le (k := 1) (by decide)) (by decide))
  clear hsg hsn hs2 hs3
  have HB := Bel.refl W
  go_enter Tryz.func7, Tryz.ntmps7
  go_wp2_with (first | (go_at_call 14; (with_reducible refine (CP.out _).mono ?_); rintro e w1 ⟨A, c, A', c', rfl, nz, nd, hbk⟩; replace HB := HB.up hbk) | fail)
  go_region_held3 (fun w' => w'.cell? ⟨w1.heap.size, 0, none⟩ = some (.bool sg) ∧ w'.cell? ⟨w1.heap.size, 1, none⟩ = some (.slice A (dl r32.num.natAbs) c) ∧ w'.cell? ⟨w1.heap.size, 2, none⟩ = some (.slice A' (dl r32.den) c'))
    (first | exact ⟨(at_new0 _ _ _).dr.c0, (at_new0 _ _ _).dr.c1, (at_new0 _ _ _).dr.c2⟩ | exact ⟨HP.c0, HP.c1, HP.c2⟩)
    (first | (go_at_call 17; (with_reducible refine (CT.out _ _ _ _ _ _ _ (nz.al _).dr (nd.al _).dr).mono ?_); rintro e w2 ⟨rfl, hbk⟩; have HP := At.up (at_new0 _ _ _).dr hbk; replace HB := (HB.al _).dr.up hbk; replace nz := (nz.al _).dr.up hbk; replace nd := (nd.al _).dr.up hbk) | (go_at_call 76; (with_reducible refine (CI3.out _).mono ?_); rintro e w3 ⟨B3, d3, rfl, k3, hbk⟩; replace HB := HB.up hbk; replace HP := HP.up hbk; replace nz := nz.up hbk; replace nd := nd.up hbk; replace k3 := Rn.of k3) | (go_at_call 77; (with_reducible refine (CS2.out _).mono ?_); rintro e w4 ⟨B4, d4, rfl, k4, hbk⟩; replace HB := HB.up hbk; replace HP := HP.up hbk; replace nz := nz.up hbk; replace nd := nd.up hbk; replace k3 := k3.up hbk; replace k4 := Rn.of k4) | (go_at_call 75; (with_reducible refine (CQ.out _ _ _ _ _ k3 k4).mono ?_); rintro e w5 ⟨B5, d5, B6, d6, rfl, k5, k6, hbk⟩; replace HB := HB.up hbk; replace HP := HP.up hbk; replace nz := nz.up hbk; replace nd := nd.up hbk) | (go_at_call 15; (with_reducible refine (CQI.out _ _ _ _ _ _ _ _ _ nz nd k5 k6).mono ?_); rintro e w6 ⟨rfl, hbk⟩; replace HB := HB.up hbk; replace HP := HP.up hbk; replace nz := nz.up hbk; replace nd := nd.up hbk) | (go_at_call 29; (with_reducible refine (CN.out _ _ _ _ _ _ _ nz nd).mono ?_); rintro e w7 ⟨B7, d7, B8, d8, rfl, mz, md, hbk⟩; replace HB := HB.up hbk; replace HP := HP.up hbk; replace nz := nz.up hbk; replace nd := nd.up hbk) | (go_at_call 36; (with_reducible refine (CF.out _ _ _ _ _ _ _ mz md).mono ?_); rintro e w8 ⟨B9, d9, rfl, fz, hbk⟩; replace HB := HB.up hbk; replace HP := HP.up hbk; replace nz := nz.up hbk; replace nd := nd.up hbk) | (go_at_call 76; (with_reducible refine (CI2.out _).mono ?_); rintro e w9 ⟨Ba, da, rfl, ka, hbk⟩; replace HB := HB.up hbk; replace HP := HP.up hbk; replace nz := nz.up hbk; replace nd := nd.up hbk; replace fz := fz.up hbk; replace ka := Rn.of ka) | (go_at_call 35; (with_reducible refine (CZI.out _ _ _ _ _ fz ka).mono ?_); rintro e wa ⟨rfl, hbk⟩; replace HB := HB.up hbk; replace HP := HP.up hbk; replace nz := nz.up hbk; replace nd := nd.up hbk) | fail)
  go_wp2
  go_ret
  exact ⟨rfl, HB⟩
end Go.Proofs.YteahcbeohopdlaaGreatDoor
end

section
/- A fraction that came in; bounds of sums, products, floors. No conditions. -/
open Go.RowKit
set_option maxRecDepth 100000
namespace Go.Proofs.YteahcbeohopdlaaGreatDoor
def Bd (r : Rat) (K : Nat) : Prop := r.num.natAbs < W32 ^ K ∧ r.den < W32 ^ K
theorem Bd.more {r : Rat} {K L : Nat} (h : Bd r K) (hl : K ≤ L) : Bd r L := ⟨Nat.lt_of_lt_of_le h.1 (Nat.pow_le_pow_right (by decide) hl), Nat.lt_of_lt_of_le h.2 (Nat.pow_le_pow_right (by decide) hl)⟩
theorem Bd.tt {r : Rat} {K : Nat} (h : Bd r K) : TT r.num r.den r K := ⟨r.den_pos, Rat.mkRat_self r, h.1, h.2⟩
theorem Bd.add {r r' : Rat} {K : Nat} (h : Bd r K) (h' : Bd r' K) : Bd (r + r') (K + K + 1) := by
  obtain ⟨h1, h2, h3, h4⟩ := tt_add h.tt h'.tt
  exact tt_bd ⟨h1, h2, h3, Nat.lt_of_lt_of_le h4 (Nat.pow_le_pow_right (by decide) (by omega))⟩
theorem Bd.mul {r r' : Rat} {K : Nat} (h : Bd r K) (h' : Bd r' K) : Bd (r * r') (K + K) := by
  obtain ⟨h1, h2, h3, h4⟩ := tt_mul h.tt h'.tt
  exact tt_bd ⟨h1, h2, h3, h4⟩
theorem Bd.neg {r : Rat} {K : Nat} (h : Bd r K) : Bd (-r) K := ⟨by rw [Rat.neg_num, Int.natAbs_neg]; exact h.1, h.2⟩
theorem bd_int {z : Int} {K : Nat} (h : z.natAbs < W32 ^ K) (hK : 0 < K) : Bd (z : Rat) K := ⟨h, Nat.one_lt_pow (by omega) (by decide)⟩
theorem bd_floor {r : Rat} {K : Nat} (h : Bd r K) : r.floor.natAbs < W32 ^ K := by
  rw [Rat.floor_def]
  exact Nat.lt_of_le_of_lt (Int.natAbs_ediv_le_natAbs _ _) h.1
theorem QA.more {W : World} {b : Bool} {A A' : Option Addr} {n c n' c' K L : Nat} {r : Rat} (h : QA W b A n c A' n' c' r K) (hl : K ≤ L) : QA W b A n c A' n' c' r L := by
  obtain ⟨z, d, h1, h2, h3, h4, h5⟩ := h
  exact ⟨z, d, h1, h2, h3, Nat.lt_of_lt_of_le h4 (Nat.pow_le_pow_right (by decide) hl), Nat.lt_of_lt_of_le h5 (Nat.pow_le_pow_right (by decide) hl)⟩
/-- What came in: a sign and two slices of words. -/
theorem qa_in {w : World} {b : Bool} {A A' : Option Addr} {n c n' c' : Nat} {ws ws' : List Nat} (h : n = ws.length ∧ n ≤ c ∧ Rd U32 w w.heap.size A ws ∧ Good32 ws) (h' : n' = ws'.length ∧ n' ≤ c' ∧ Rd U32 w w.heap.size A' ws' ∧ Good32 ws') (hn : n ≤ 12 ∧ n' ≤ 12) :
    QA w b A n c A' n' c' (mkRat (zi b (val W32 ws)) (val W32 ws')) 12 := by
  have lt : ∀ {l : List Nat} {k : Nat}, Good32 l → k = l.length → k ≤ 12 → val W32 l < W32 ^ 12 := fun hg hk h12 => Nat.lt_of_lt_of_le (val_lt _ hg) (Nat.pow_le_pow_right (by decide) (by omega))
  exact ⟨_, _, za_of (nm_later (later_of h (by omega)) (Below.refl _ _)), nm_later (later_of h' (by omega)) (Below.refl _ _), rfl, by rw [zi_abs]; exact lt h.2.2.2 h.1 hn.1, lt h'.2.2.2 h'.1 hn.2⟩
section
variable {W : World} {p q : Nat} {v0 v1 v2 x y z : Value} {vs : List Value}
theorem At.put3 (h : At W p [v0, v1, v2]) (x y z : Value) : At (((W.setCell ⟨p, 0, none⟩ x).setCell ⟨p, 1, none⟩ y).setCell ⟨p, 2, none⟩ z) p [x, y, z] :=
  ((h.put (i := 0) (by simp) x).put (i := 1) (by simp) y).put (i := 2) (by simp) z
theorem At.far3 (h : At W p vs) (hq : q ≠ p) (x y z : Value) : At (((W.setCell ⟨q, 0, none⟩ x).setCell ⟨q, 1, none⟩ y).setCell ⟨q, 2, none⟩ z) p vs :=
  ((h.far hq x).far hq y).far hq z
theorem ZA.put3 {s : Bool} {A : Option Addr} {n c : Nat} {u : Int} {b0 : Bool} {B0 B1 : Option Addr} {k0 d0 k1 d1 : Nat} (h : ZA W s A n c u) (hp : At W p [.bool b0, .slice B0 k0 d0, .slice B1 k1 d1]) {b : Bool} {B B' : Option Addr} {k d k' d' : Nat} :
    ZA (((W.setCell ⟨p, 0, none⟩ (.bool b)).setCell ⟨p, 1, none⟩ (.slice B k d)).setCell ⟨p, 2, none⟩ (.slice B' k' d')) s A n c u := ⟨h.1.put3 hp now3, h.2⟩
end
end Go.Proofs.YteahcbeohopdlaaGreatDoor
end

section
/- Package rat: Good of any fraction, Inv. Conditions: terms of at most 20000 words. -/
open Go.RowKit
set_option maxRecDepth 100000
namespace Go.Proofs.YteahcbeohopdlaaGreatDoor
section
variable {W w : World} {b : Bool} {A A' : Option Addr} {n c n' c' K m m' : Nat} {r : Rat} {z : Int}
/-- Whether the words of a number are valid: one answer in every later world. -/
theorem ngood_e (h : Nm w A n c m) : ∃ g, ∀ W', Bel w W' → Calls Tryz.prog 91 #[.agg #[.slice A n c]] W' (RetB W' g) := by
  obtain ⟨ws, h1, h2, h3, hr, h4⟩ := h.out
  refine ⟨goodB ws, fun W' hb => ?_⟩
  exact (Good_any (c := c) h1 ((hr.below hb).more (Below.size hb)) (by omega)).mono fun e w' ⟨he, hb2⟩ => ⟨he, hb2⟩
set_option maxHeartbeats 1000000 in
theorem zgood_f (hn : ∀ W', Bel W W' → Calls Tryz.prog 91 #[.agg #[.slice A n c]] W' (RetB W' false)) :
    Calls Tryz.prog 90 #[.agg #[.bool b, .slice A n c]] W (RetB W false) := by
  have CG := hide hn
  clear hn
  have HB := Bel.refl W
  go_enter Tryz.func90, Tryz.ntmps90
  go_wp2_with (first | (go_at_call 91; (with_reducible refine (CG.out _ (HB.al _)).mono ?_); rintro e w1 ⟨rfl, hbk⟩; have HP := At.up (at_new0 _ _ _) hbk; replace HB := (HB.al _).up hbk; have hp_0 := HP.c0; have hp_1 := HP.c1; have hp_l := HP.lt) | fail)
  go_ret
  exact ⟨rfl, HB⟩
set_option maxHeartbeats 1000000 in
theorem zgood_p (hn : ∀ W', Bel W W' → Calls Tryz.prog 91 #[.agg #[.slice A n c]] W' (RetB W' true)) :
    Calls Tryz.prog 90 #[.agg #[.bool false, .slice A n c]] W (RetB W true) := by
  have CG := hide hn
  clear hn
  have HB := Bel.refl W
  go_enter Tryz.func90, Tryz.ntmps90
  go_wp2_with (first | (go_at_call 91; (with_reducible refine (CG.out _ (HB.al _)).mono ?_); rintro e w1 ⟨rfl, hbk⟩; have HP := At.up (at_new0 _ _ _) hbk; replace HB := (HB.al _).up hbk; have hp_0 := HP.c0; have hp_1 := HP.c1; have hp_l := HP.lt) | fail)
  go_ret
  exact ⟨rfl, HB⟩
set_option maxHeartbeats 1000000 in
theorem zgood_t (hn : ∀ W', Bel W W' → Calls Tryz.prog 91 #[.agg #[.slice A n c]] W' (RetB W' true)) (hz : ∀ W', Bel W W' → Calls Tryz.prog 145 #[.agg #[.slice A n c]] W' (BoolR W' false)) :
    Calls Tryz.prog 90 #[.agg #[.bool true, .slice A n c]] W (RetB W true) := by
  have CG := hide hn
  have CZ := hide hz
  clear hz
  clear hn
  have HB := Bel.refl W
  go_enter Tryz.func90, Tryz.ntmps90
  go_wp2_with (first | (go_at_call 91; (with_reducible refine (CG.out _ (HB.al _)).mono ?_); rintro e w1 ⟨rfl, hbk⟩; have HP := At.up (at_new0 _ _ _) hbk; replace HB := (HB.al _).up hbk; have hp_0 := HP.c0; have hp_1 := HP.c1; have hp_l := HP.lt) | (go_at_call 145; (with_reducible refine (CZ.out _ HB).mono ?_); rintro e w2 ⟨rfl, hbk⟩; replace HB := HB.up hbk) | fail)
  go_ret
  exact ⟨rfl, HB⟩
set_option maxHeartbeats 1000000 in
theorem zgood_n (hn : ∀ W', Bel W W' → Calls Tryz.prog 91 #[.agg #[.slice A n c]] W' (RetB W' true)) (hz : ∀ W', Bel W W' → Calls Tryz.prog 145 #[.agg #[.slice A n c]] W' (BoolR W' true)) :
    Calls Tryz.prog 90 #[.agg #[.bool true, .slice A n c]] W (RetB W false) := by
  have CG := hide hn
  have CZ := hide hz
  clear hz
  clear hn
  have HB := Bel.refl W
  go_enter Tryz.func90, Tryz.ntmps90
  go_wp2_with (first | (go_at_call 91; (with_reducible refine (CG.out _ (HB.al _)).mono ?_); rintro e w1 ⟨rfl, hbk⟩; have HP := At.up (at_new0 _ _ _) hbk; replace HB := (HB.al _).up hbk; have hp_0 := HP.c0; have hp_1 := HP.c1; have hp_l := HP.lt) | (go_at_call 145; (with_reducible refine (CZ.out _ HB).mono ?_); rintro e w2 ⟨rfl, hbk⟩; replace HB := HB.up hbk) | fail)
  go_ret
  exact ⟨rfl, HB⟩
theorem zisz_e (h : Nm w A n c m) : ∃ f, ∀ W', Bel w W' → Calls Tryz.prog 145 #[.agg #[.slice A n c]] W' (BoolR W' f) := by
  by_cases h0 : m = 0
  · exact ⟨true, fun W' hb => isZero_yes (h.up hb) h0⟩
  · exact ⟨false, fun W' hb => isZero_no (h.up hb) (by omega)⟩
/-- One of num.Good's two walks, in every later world with one answer. -/
theorem zgood_e (h : ZA w b A n c z) : ∃ u, ∀ W', Bel w W' → Calls Tryz.prog 90 #[.agg #[.bool b, .slice A n c]] W' (RetB W' u) := by
  obtain ⟨g, hg⟩ := ngood_e h.1
  obtain ⟨f, hf⟩ := zisz_e h.1
  cases g
  · refine ⟨false, fun W' hb => ?_⟩
    exact zgood_f (fun W2 hb2 => hg W2 (Bel.up hb hb2))
  · cases b
    · exact ⟨true, fun W' hb => zgood_p (fun W2 hb2 => hg W2 (Bel.up hb hb2))⟩
    · cases f
      · exact ⟨true, fun W' hb => zgood_t (fun W2 hb2 => hg W2 (Bel.up hb hb2)) (fun W2 hb2 => hf W2 (Bel.up hb hb2))⟩
      · exact ⟨false, fun W' hb => zgood_n (fun W2 hb2 => hg W2 (Bel.up hb hb2)) (fun W2 hb2 => hf W2 (Bel.up hb hb2))⟩
set_option maxHeartbeats 1000000 in
theorem rgood_1 (h1 : ∀ W', Bel W W' → Calls Tryz.prog 90 #[.agg #[.bool b, .slice A n c]] W' (RetB W' false)) :
    Calls Tryz.prog 18 #[.agg #[.bool b, .slice A n c, .slice A' n' c']] W (RetB W false) := by
  have C1 := hide h1
  clear h1
  have HB := Bel.refl W
  go_enter Tryz.func18, Tryz.ntmps18
  go_wp2_with (first | (go_at_call 90; (with_reducible refine (C1.out _ (HB.al _)).mono ?_); rintro e w1 ⟨rfl, hbk⟩; have HQ := At.up (at_new0 _ _ _) hbk; replace HB := (HB.al _).up hbk; have hq_0 := HQ.c0; have hq_1 := HQ.c1; have hq_2 := HQ.c2; have hq_l := HQ.lt) | fail)
  go_ret
  exact ⟨rfl, HB⟩
set_option maxHeartbeats 1000000 in
theorem rgood_2 (h1 : ∀ W', Bel W W' → Calls Tryz.prog 90 #[.agg #[.bool b, .slice A n c]] W' (RetB W' true)) (h2 : ∀ W', Bel W W' → Calls Tryz.prog 91 #[.agg #[.slice A' n' c']] W' (RetB W' false)) :
    Calls Tryz.prog 18 #[.agg #[.bool b, .slice A n c, .slice A' n' c']] W (RetB W false) := by
  have C1 := hide h1
  clear h1
  have C2 := hide h2
  clear h2
  have HB := Bel.refl W
  go_enter Tryz.func18, Tryz.ntmps18
  go_wp2_with (first | (go_at_call 90; (with_reducible refine (C1.out _ (HB.al _)).mono ?_); rintro e w1 ⟨rfl, hbk⟩; have HQ := At.up (at_new0 _ _ _) hbk; replace HB := (HB.al _).up hbk; have hq_0 := HQ.c0; have hq_1 := HQ.c1; have hq_2 := HQ.c2; have hq_l := HQ.lt) | (go_at_call 91; (with_reducible refine (C2.out _ HB).mono ?_); rintro e w2 ⟨rfl, hbk⟩; replace HB := HB.up hbk; replace HQ := HQ.up hbk; clear hq_0 hq_1 hq_2 hq_l; have hq_0 := HQ.c0; have hq_1 := HQ.c1; have hq_2 := HQ.c2; have hq_l := HQ.lt) | fail)
  go_ret
  exact ⟨rfl, HB⟩
set_option maxHeartbeats 1000000 in
theorem rgood_3 (h1 : ∀ W', Bel W W' → Calls Tryz.prog 90 #[.agg #[.bool b, .slice A n c]] W' (RetB W' true)) (h2 : ∀ W', Bel W W' → Calls Tryz.prog 91 #[.agg #[.slice A' n' c']] W' (RetB W' true)) (h3 : ∀ W', Bel W W' → Calls Tryz.prog 78 #[.agg #[.slice A' n' c']] W' (RetB W' true)) :
    Calls Tryz.prog 18 #[.agg #[.bool b, .slice A n c, .slice A' n' c']] W (RetB W false) := by
  have C1 := hide h1
  clear h1
  have C2 := hide h2
  clear h2
  have C3 := hide h3
  clear h3
  have HB := Bel.refl W
  go_enter Tryz.func18, Tryz.ntmps18
  go_wp2_with (first | (go_at_call 90; (with_reducible refine (C1.out _ (HB.al _)).mono ?_); rintro e w1 ⟨rfl, hbk⟩; have HQ := At.up (at_new0 _ _ _) hbk; replace HB := (HB.al _).up hbk; have hq_0 := HQ.c0; have hq_1 := HQ.c1; have hq_2 := HQ.c2; have hq_l := HQ.lt) | (go_at_call 91; (with_reducible refine (C2.out _ HB).mono ?_); rintro e w2 ⟨rfl, hbk⟩; replace HB := HB.up hbk; replace HQ := HQ.up hbk; clear hq_0 hq_1 hq_2 hq_l; have hq_0 := HQ.c0; have hq_1 := HQ.c1; have hq_2 := HQ.c2; have hq_l := HQ.lt) | (go_at_call 78; (with_reducible refine (C3.out _ HB).mono ?_); rintro e w3 ⟨rfl, hbk⟩; replace HB := HB.up hbk; replace HQ := HQ.up hbk; clear hq_0 hq_1 hq_2 hq_l; have hq_0 := HQ.c0; have hq_1 := HQ.c1; have hq_2 := HQ.c2; have hq_l := HQ.lt) | fail)
  go_ret
  exact ⟨rfl, HB⟩
set_option maxHeartbeats 1000000 in
theorem rgood_4 (h1 : ∀ W', Bel W W' → Calls Tryz.prog 90 #[.agg #[.bool b, .slice A n c]] W' (RetB W' true)) (h2 : ∀ W', Bel W W' → Calls Tryz.prog 91 #[.agg #[.slice A' n' c']] W' (RetB W' true)) (h3 : ∀ W', Bel W W' → Calls Tryz.prog 78 #[.agg #[.slice A' n' c']] W' (RetB W' false)) {g : Nat} {u : Bool} (h4 : ∀ W', Bel W W' → Calls Tryz.prog 92 #[.agg #[.slice A n c], .agg #[.slice A' n' c']] W' (NumR W' g)) (h5 : ∀ W' B e, Nm W' B (dl g) e g → Calls Tryz.prog 87 #[.agg #[.slice B (dl g) e]] W' (RetB W' u)) :
    Calls Tryz.prog 18 #[.agg #[.bool b, .slice A n c, .slice A' n' c']] W (RetB W u) := by
  have C1 := hide h1
  clear h1
  have C2 := hide h2
  clear h2
  have C3 := hide h3
  clear h3
  have C4 := hide h4
  clear h4
  have C5 := hide h5
  clear h5
  have HB := Bel.refl W
  go_enter Tryz.func18, Tryz.ntmps18
  go_wp2_with (first | (go_at_call 90; (with_reducible refine (C1.out _ (HB.al _)).mono ?_); rintro e w1 ⟨rfl, hbk⟩; have HQ := At.up (at_new0 _ _ _) hbk; replace HB := (HB.al _).up hbk; have hq_0 := HQ.c0; have hq_1 := HQ.c1; have hq_2 := HQ.c2; have hq_l := HQ.lt) | (go_at_call 91; (with_reducible refine (C2.out _ HB).mono ?_); rintro e w2 ⟨rfl, hbk⟩; replace HB := HB.up hbk; replace HQ := HQ.up hbk; clear hq_0 hq_1 hq_2 hq_l; have hq_0 := HQ.c0; have hq_1 := HQ.c1; have hq_2 := HQ.c2; have hq_l := HQ.lt) | (go_at_call 78; (with_reducible refine (C3.out _ HB).mono ?_); rintro e w3 ⟨rfl, hbk⟩; replace HB := HB.up hbk; replace HQ := HQ.up hbk; clear hq_0 hq_1 hq_2 hq_l; have hq_0 := HQ.c0; have hq_1 := HQ.c1; have hq_2 := HQ.c2; have hq_l := HQ.lt) | (go_at_call 92; (with_reducible refine (C4.out _ HB).mono ?_); rintro e w4 ⟨gA, gc, rfl, gn, hbk⟩; replace HB := HB.up hbk; replace HQ := HQ.up hbk; clear hq_0 hq_1 hq_2 hq_l; have hq_0 := HQ.c0; have hq_1 := HQ.c1; have hq_2 := HQ.c2; have hq_l := HQ.lt) | (go_at_call 87; (with_reducible refine (C5.out _ _ _ gn).mono ?_); rintro e w5 ⟨rfl, hbk⟩; replace HB := HB.up hbk) | fail)
  go_ret
  exact ⟨rfl, HB⟩

/-- Whether a fraction is valid: one answer in every later world. -/
theorem rgood_e (h : QA w b A n c A' n' c' r K) (hK : K ≤ 20000) : ∃ u, ∀ W', Bel w W' → Calls Tryz.prog 18 #[.agg #[.bool b, .slice A n c, .slice A' n' c']] W' (RetB W' u) := by
  obtain ⟨z, d, hz, hd, h1, h2, h3⟩ := h
  obtain ⟨u1, hu1⟩ := zgood_e hz
  obtain ⟨u2, hu2⟩ := ngood_e hd
  have e1 : ∀ W', Bel w W' → ∀ W2, Bel W' W2 → Calls Tryz.prog 90 #[.agg #[.bool b, .slice A n c]] W2 (RetB W2 u1) := fun W' hb W2 hb2 => hu1 W2 (Bel.up hb hb2)
  have e2 : ∀ W', Bel w W' → ∀ W2, Bel W' W2 → Calls Tryz.prog 91 #[.agg #[.slice A' n' c']] W2 (RetB W2 u2) := fun W' hb W2 hb2 => hu2 W2 (Bel.up hb hb2)
  have e3 : ∀ W', Bel w W' → ∀ W2, Bel W' W2 → Calls Tryz.prog 78 #[.agg #[.slice A' n' c']] W2 (RetB W2 (decide (d = 0))) := fun W' hb W2 hb2 => rzero_h (hd.up (Bel.up hb hb2))
  cases u1
  · exact ⟨false, fun W' hb => rgood_1 (e1 W' hb)⟩
  · cases u2
    · exact ⟨false, fun W' hb => rgood_2 (e1 W' hb) (e2 W' hb)⟩
    · by_cases h0 : d = 0
      · rw [decide_eq_true h0] at e3
        exact ⟨false, fun W' hb => rgood_3 (e1 W' hb) (e2 W' hb) (e3 W' hb)⟩
      · rw [decide_eq_false h0] at e3
        exact ⟨decide (Nat.gcd z.natAbs d = 1), fun W' hb => rgood_4 (g := Nat.gcd z.natAbs d) (e1 W' hb) (e2 W' hb) (e3 W' hb) (fun W2 hb2 => gcd_h (hz.up (Bel.up hb hb2)).1 (hd.up (Bel.up hb hb2)) rfl (dl_bd2 h2 (by omega)) (dl_bd2 h3 (by omega))) (fun W2 B e hn => rone_h hn)⟩
/-- What is valid is. -/
theorem rgood_yes (nz : ZA W (decide (r.num < 0)) A (dl r.num.natAbs) c r.num) (nd : Nm W A' (dl r.den) c' r.den) (hb : Bd r K) (hK : K ≤ 20000) : Calls Tryz.prog 18 #[.agg #[.bool (decide (r.num < 0)), .slice A (dl r.num.natAbs) c, .slice A' (dl r.den) c']] W (RetB W true) :=
  rgood_4 (g := 1) (u := true) (fun W2 hb2 => zgood_h (nz.up hb2)) (fun W2 hb2 => good_h (nd.up hb2)) (fun W2 hb2 => by
    have h1 := rzero_h (nd.up hb2)
    rw [decide_eq_false r.den_nz] at h1
    exact h1) (fun W2 hb2 => gcd_h (nz.up hb2).1 (nd.up hb2) r.reduced (dl_bd2 hb.1 (by omega)) (dl_bd2 hb.2 (by omega))) (fun W2 B e hn => by
    have h1 := rone_h hn
    rw [decide_eq_true rfl] at h1
    exact h1)
def OfYs2 (W : World) (sg : Bool) (r : Rat) (e : Ending) (w' : World) : Prop := ∃ A c A' c', e = .returned (.tuple #[.agg #[.bool sg, .slice A (dl r.num.natAbs) c, .slice A' (dl r.den) c'], .bool true]) ∧ ZA w' sg A (dl r.num.natAbs) c r.num ∧ Nm w' A' (dl r.den) c' r.den ∧ Hid (Below W.heap.size W w')
end
end Go.Proofs.YteahcbeohopdlaaGreatDoor
end

section
/- Package rat: Inv. -/
open Go.RowKit
set_option maxRecDepth 100000
namespace Go.Proofs.YteahcbeohopdlaaGreatDoor
section
variable {W w : World} {b : Bool} {A A' : Option Addr} {n c n' c' K m m' : Nat} {r : Rat} {z : Int}
theorem tt_inv {s : Bool} {z : Int} {d : Nat} {B : Option Addr} {k e : Nat} (hz : ZA W s B k e z) (h : TT z d r K) (h0 : r ≠ 0) : z ≠ 0 ∧ mkRat (zi s d) z.natAbs = r⁻¹ := by
  obtain ⟨h1, h2, _, _⟩ := h
  have hz0 : z ≠ 0 := by
    intro e
    apply h0
    rw [← h2, e]; simp
  refine ⟨hz0, ?_⟩
  have hs := za_sign hz hz0
  rw [← h2, inv_mk hz0 h1, hs]
  by_cases hn : z < 0
  · rw [if_pos hn, decide_eq_true hn, zi_true]
  · rw [if_neg hn, decide_eq_false hn, zi_false]

set_option maxHeartbeats 2000000 in
theorem inv_yes (h : QA W b A n c A' n' c' r K) (hK : 0 < K) (hK2 : K ≤ 20000) (h0 : r ≠ 0) : Calls Tryz.prog 11 #[.agg #[.bool b, .slice A n c, .slice A' n' c']] W (OfYes W r⁻¹) := by
  obtain ⟨si, hsi⟩ : ∃ s, s = decide ((r⁻¹).num < 0) := ⟨_, rfl⟩
  obtain ⟨v, hv⟩ : ∃ v, v = r⁻¹ := ⟨_, rfl⟩
  rw [← hv] at hsi
  have CT : Hid (∀ W', Bel W W' → Calls Tryz.prog 81 #[.agg #[.bool b, .slice A n c, .slice A' n' c']] W' (TermsR W' r K)) := fun W' hb => terms_h (h.up hb) hK
  have CO : Hid (∀ W' s B k e B' k' e' z d, ZA W' s B k e z → Nm W' B' k' e' d → Hid (TT z d r K) → Calls Tryz.prog 8 #[.agg #[.bool s, .slice B' k' e'], .agg #[.slice B k e]] W' (OfYs2 W' si v)) := fun W' s B k e B' k' e' z d h1 h2 h3 => by
    obtain ⟨e1, e2⟩ := tt_inv h1 h3.out h0
    rw [hsi, hv]
    exact of_yes (za_of h2) h1.1 (by omega) e2 (by rw [zi_abs]; exact dl_bd2 h3.out.2.2.2 (by omega)) (dl_bd2 h3.out.2.2.1 (by omega))
  rw [← hv]
  have HSI := hide hsi
  clear h h0 hsi hv
  have HB := Bel.refl W
  go_enter Tryz.func11, Tryz.ntmps11
  go_wp2_with (first | (go_at_call 81; (with_reducible refine (CT.out _ ((HB.al _).al _)).mono ?_); rintro e w1 ⟨ps, pA, pn, pc, pB, pm, pe, pz, pd, rfl, pzz, pnn, ph, hbk⟩; have HR := At.up (at_new1 _ _ _ _) hbk; replace HB := ((HB.al _).al _).up hbk; replace ph : Hid (TT pz pd r K) := ph) | (go_at_call 8; (with_reducible refine (CO.out _ _ _ _ _ _ _ _ _ _ ((pzz.al _).al _) ((pnn.al _).al _) ph).mono ?_); rintro e w2 ⟨B, e1, B', e2, rfl, nz, nd, hbk⟩; replace HB := ((HB.al _).al _).up hbk; replace HR := ((HR.al _).al _).up hbk; have hr_0 := HR.c0; have hr_1 := HR.c1; have hr_2 := HR.c2; have hr_l := HR.lt; have hr_f0 := HR.f0; have hr_f1 := HR.f1; have hr_f2 := HR.f2) | fail)
  refine bodyPost_ret (v := .tuple #[.agg #[.bool si, .slice B (dl v.num.natAbs) e1, .slice B' (dl v.den) e2], .bool true]) (by simp [results, Tryz.results11, go_sem, hr_0, hr_1, hr_2]) rfl ?_
  exact ⟨B, e1, B', e2, by rw [HSI.out], zr_of (nz.1.put3 HR now3), nd.put3 HR now3, below3 HB (by omega) _ _ _⟩
set_option maxHeartbeats 2000000 in
theorem inv_no (h : QA W b A n c A' n' c' r K) (hK : 0 < K) (h0 : r = 0) : Calls Tryz.prog 11 #[.agg #[.bool b, .slice A n c, .slice A' n' c']] W (OfNo W) := by
  have CT : Hid (∀ W', Bel W W' → Calls Tryz.prog 81 #[.agg #[.bool b, .slice A n c, .slice A' n' c']] W' (TermsR W' r K)) := fun W' hb => terms_h (h.up hb) hK
  have CO : Hid (∀ W' s B k e B' k' e' z d, ZA W' s B k e z → Nm W' B' k' e' d → Hid (TT z d r K) → Calls Tryz.prog 8 #[.agg #[.bool s, .slice B' k' e'], .agg #[.slice B k e]] W' (OfNo W')) := fun W' s B k e B' k' e' z d h1 h2 h3 => by
    have e1 : z = 0 := (Rat.mkRat_eq_zero (by have := h3.out.1; omega)).1 (h3.out.2.1.trans h0)
    subst e1
    exact of_no h1.1
  clear h h0
  have HB := Bel.refl W
  go_enter Tryz.func11, Tryz.ntmps11
  go_wp2_with (first | (go_at_call 81; (with_reducible refine (CT.out _ ((HB.al _).al _)).mono ?_); rintro e w1 ⟨ps, pA, pn, pc, pB, pm, pe, pz, pd, rfl, pzz, pnn, ph, hbk⟩; have HR := At.up (at_new1 _ _ _ _) hbk; replace HB := ((HB.al _).al _).up hbk; replace ph : Hid (TT pz pd r K) := ph) | (go_at_call 8; (with_reducible refine (CO.out _ _ _ _ _ _ _ _ _ _ ((pzz.al _).al _) ((pnn.al _).al _) ph).mono ?_); rintro e w2 ⟨rfl, hbk⟩; replace HB := ((HB.al _).al _).up hbk; replace HR := ((HR.al _).al _).up hbk; have hr_0 := HR.c0; have hr_1 := HR.c1; have hr_2 := HR.c2; have hr_l := HR.lt; have hr_f0 := HR.f0; have hr_f1 := HR.f1; have hr_f2 := HR.f2) | fail)
  refine bodyPost_ret (v := .tuple #[.agg #[.bool false, .slice none 0 0, .slice none 0 0], .bool false]) (by simp [results, Tryz.results11, go_sem, hr_0, hr_1, hr_2]) rfl ?_
  exact ⟨rfl, below3 HB (by omega) _ _ _⟩
end
end Go.Proofs.YteahcbeohopdlaaGreatDoor
end

section
/- Rounding in numbers: which integer beside p / q a mode takes; how near it is. No conditions. -/
open Go.RowKit
set_option maxRecDepth 100000
namespace Go.Proofs.YteahcbeohopdlaaGreatDoor
/-- Where the distances don't tell: does the mode m take the integer above f? -/
def lnUp (m f : Int) : Bool :=
  if m = 1 ∨ m = 5 then decide (f < 0) else if m = 2 ∨ m = 6 then !decide (f < 0) else if m = 7 then decide (f % 2 ≠ 0) else decide (m = 4)
/-- f + r / q is no integer: does the mode m take the integer above f? -/
def rdUp (m f : Int) (r q : Nat) : Bool :=
  if m ≤ 4 then lnUp m f else if r + r < q then false else if q < r + r then true else lnUp m f
/-- p / q rounded by the mode m; over 0 it is 0. -/
def rdZ (m p : Int) (q : Nat) : Int :=
  if q = 0 then 0 else if p % (q : Int) = 0 then p / (q : Int) else if rdUp m (p / (q : Int)) (p % (q : Int)).natAbs q = true then p / (q : Int) + 1 else p / (q : Int)
/-- A fraction rounded by the mode m. -/
def rdR (m : Int) (x : Rat) : Int := rdZ m x.num x.den
theorem rdUp_mul {m f : Int} {r q g : Nat} (hg : 0 < g) : rdUp m f (r * g) (q * g) = rdUp m f r q := by
  unfold rdUp
  have e1 : (r * g + r * g < q * g) = (r + r < q) := by rw [← Nat.add_mul]; exact propext (Nat.mul_lt_mul_right hg)
  have e2 : (q * g < r * g + r * g) = (q < r + r) := by rw [← Nat.add_mul]; exact propext (Nat.mul_lt_mul_right hg)
  simp only [e1, e2]
theorem rdZ_mul {m p : Int} {q g : Nat} (hg : 0 < g) : rdZ m (p * (g : Int)) (q * g) = rdZ m p q := by
  have hg' : (0 : Int) < (g : Int) := by omega
  unfold rdZ
  by_cases hq : q = 0
  · rw [if_pos hq, if_pos (by rw [hq, Nat.zero_mul])]
  have hq2 : q * g ≠ 0 := Nat.mul_ne_zero hq (by omega)
  rw [if_neg hq, if_neg hq2]
  have e1 : p * (g : Int) / ((q * g : Nat) : Int) = p / (q : Int) := by
    rw [Int.natCast_mul, Int.mul_comm p, Int.mul_comm (q : Int)]; exact Int.mul_ediv_mul_of_pos p (q : Int) hg'
  have e2 : p * (g : Int) % ((q * g : Nat) : Int) = p % (q : Int) * (g : Int) := by
    rw [Int.natCast_mul, Int.mul_comm p, Int.mul_comm (q : Int), Int.mul_emod_mul_of_pos p (q : Int) hg', Int.mul_comm]
  have e3 : (p % (q : Int) * (g : Int) = 0) = (p % (q : Int) = 0) := propext ⟨fun h => by
    rcases Int.mul_eq_zero.1 h with h | h
    · exact h
    · omega, fun h => by rw [h, Int.zero_mul]⟩
  have e4 : (p % (q : Int) * (g : Int)).natAbs = (p % (q : Int)).natAbs * g := by rw [Int.natAbs_mul, Int.natAbs_natCast]
  rw [e1, e2, e4, rdUp_mul hg]
  simp only [e3]
theorem rdZ_mk (m z : Int) (d : Nat) : rdZ m z d = rdR m (mkRat z d) := by
  by_cases hd : d = 0
  · subst hd
    rw [Rat.mkRat_zero]
    unfold rdR rdZ
    rw [if_pos rfl, if_neg (by decide)]
    rfl
  · obtain ⟨h1, h2, h3, h4, h5, h6⟩ := low_terms (z := z) (d := d) (by omega) rfl
    obtain ⟨g, hg⟩ : ∃ g, g = Nat.gcd z.natAbs d := ⟨_, rfl⟩
    rw [← hg] at h1 h2 h3 h4 h5
    have hden : d = (mkRat z d).den * g := by
      rw [h3]; exact (Nat.div_mul_cancel (Nat.dvd_of_mod_eq_zero h5)).symm
    have hx := mk_cross (z := z) (d := d) (by omega)
    have k1 : ∀ (num : Int) (den g d : Nat), num * (d : Int) = z * (den : Int) → d = den * g → 0 < den → z = num * (g : Int) := by
      rintro num den g d h rfl hp
      refine Int.eq_of_mul_eq_mul_right (by omega : (den : Int) ≠ 0) ?_
      rw [← h, Int.natCast_mul, Int.mul_assoc, Int.mul_comm (g : Int)]
    have k2 : ∀ (num : Int) (den g : Nat), z = num * (g : Int) → d = den * g → 0 < g → rdZ m z d = rdZ m num den := by
      rintro num den g rfl rfl hg
      exact rdZ_mul hg
    exact k2 _ _ g (k1 _ _ g d hx hden (mkRat z d).den_pos) hden h1
theorem rd_near {m p : Int} {q : Nat} (hq : 0 < q) : rdZ m p q * (q : Int) - p < (q : Int) ∧ -(q : Int) < rdZ m p q * (q : Int) - p ∧ (5 ≤ m → 2 * (rdZ m p q * (q : Int) - p) ≤ (q : Int) ∧ -(q : Int) ≤ 2 * (rdZ m p q * (q : Int) - p)) := by
  have h1 := Int.emod_add_mul_ediv p (q : Int)
  have h2 := Int.emod_nonneg p (by omega : (q : Int) ≠ 0)
  have h3 := Int.emod_lt_of_pos p (by omega : (0 : Int) < (q : Int))
  obtain ⟨f, hf⟩ : ∃ f, f = p / (q : Int) := ⟨_, rfl⟩
  obtain ⟨r, hr⟩ : ∃ r, r = p % (q : Int) := ⟨_, rfl⟩
  obtain ⟨X, hX⟩ : ∃ X, X = (q : Int) * f := ⟨_, rfl⟩
  unfold rdZ
  rw [if_neg (by omega), ← hf, ← hr]
  rw [← hr, ← hf, ← hX] at h1
  rw [← hr] at h2 h3
  by_cases h0 : r = 0
  · rw [if_pos h0, Int.mul_comm, ← hX]
    refine ⟨by omega, by omega, fun _ => ⟨by omega, by omega⟩⟩
  · rw [if_neg h0]
    by_cases hu : rdUp m f r.natAbs q = true
    · rw [if_pos hu, Int.add_mul, Int.one_mul, Int.mul_comm, ← hX]
      refine ⟨by omega, by omega, fun h5 => ?_⟩
      unfold rdUp at hu
      rw [if_neg (by omega)] at hu
      by_cases h6 : r.natAbs + r.natAbs < q
      · rw [if_pos h6] at hu; cases hu
      · exact ⟨by omega, by omega⟩
    · rw [if_neg hu, Int.mul_comm, ← hX]
      refine ⟨by omega, by omega, fun h5 => ?_⟩
      unfold rdUp at hu
      rw [if_neg (by omega)] at hu
      by_cases h6 : r.natAbs + r.natAbs < q
      · exact ⟨by omega, by omega⟩
      · rw [if_neg h6] at hu
        by_cases h7 : q < r.natAbs + r.natAbs
        · rw [if_pos h7] at hu; exact absurd rfl hu
        · exact ⟨by omega, by omega⟩
theorem rdR_int (m n : Int) : rdR m (n : Rat) = n := by
  unfold rdR rdZ
  rw [show ((n : Rat)).den = 1 from rfl, show ((n : Rat)).num = n from rfl, if_neg (by decide), if_pos (by omega)]
  omega
end Go.Proofs.YteahcbeohopdlaaGreatDoor
end

section
/- Low. Conditions: lengths that fit int. -/
open Go.RowKit
set_option maxRecDepth 100000
namespace Go.Proofs.YteahcbeohopdlaaGreatDoor
def LowPost (w : World) (m : Nat) (e : Ending) (w' : World) : Prop :=
  e = .returned (.tuple #[.int .u64 ((if m < 18446744073709551616 then m else 0 : Nat) : Int), .bool (decide (m < 18446744073709551616))]) ∧ Below w.heap.size w w'
theorem low_ret {v u : Int} {b b' : Bool} (h : v = u) (hb : b = b') : Ending.returned (.tuple #[.int .u64 v, .bool b]) = .returned (.tuple #[.int .u64 u, .bool b']) := by rw [h, hb]
end Go.Proofs.YteahcbeohopdlaaGreatDoor
end
