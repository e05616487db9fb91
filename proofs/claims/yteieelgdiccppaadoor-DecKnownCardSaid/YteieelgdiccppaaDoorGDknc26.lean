/- Several texts in one, each with its own sentence and conditions. -/
import Derived.Test.YteieelgdiccppaaDoorGDknc25
import Derived.Test.YteieelgdiccppaaDoorGDknc15
import Derived.Test.YteieelgdiccppaaDoorGDknc20
import Derived.Deep.RegionHeld3
import Derived.Test.YteieelgdiccppaaDoorGDknc23
import Derived.Test.YteieelgdiccppaaDoorDs
section
/- The document's own integers and fractions: ZOf, QOf. Conditions: less than 100000 fours of digits. -/
open Go.RowKit
set_option maxRecDepth 100000
namespace Go.Proofs.YteieelgdiccppaaDoor
/-- No number stands in a box of flags and slices. -/
def NoI (vs : List Value) : Prop := ∀ v ∈ vs, ∀ x : Nat, v ≠ I64 x
theorem RN.putn {W : World} {B p i : Nat} {vs : List Value} {A : Option Addr} {c m : Nat} (h : RN W B A c m) (hp : At W p vs) (hi : i < vs.length) (hw : NoI vs) (u : Value) : RN (W.setCell ⟨p, i, none⟩ u) B A c m :=
  h.setn (hp.all i _ (List.getElem?_eq_getElem hi)).1 (hw _ (List.getElem_mem hi)) u
/-- In world W the document's own number stands there. -/
def Rn (W : World) (A : Option Addr) (c m : Nat) : Prop := RN W W.heap.size A c m
theorem Rn.up {W W' : World} {A : Option Addr} {c m : Nat} (h : Rn W A c m) (hb : Hid (Below W.heap.size W W')) : Rn W' A c m := (RN.below h hb.out).more hb.out.size
theorem Rn.al {W : World} {A : Option Addr} {c m : Nat} (h : Rn W A c m) (o : Obj) : Rn (W.alloc o) A c m := h.up ((Below.refl _ _).alloc (Nat.le_refl _) o)
theorem Rn.dr {W : World} {A : Option Addr} {c m : Nat} (h : Rn W A c m) : Rn W.drew A c m := h
theorem Rn.of {W : World} {A : Option Addr} {c m : Nat} (h : Hid (RN W W.heap.size A c m)) : Rn W A c m := h
theorem Rn.put {W : World} {p i : Nat} {vs : List Value} {A : Option Addr} {c m : Nat} (h : Rn W A c m) (hp : At W p vs) (hi : i < vs.length) (hw : NoI vs) (u : Value) : Rn (W.setCell ⟨p, i, none⟩ u) A c m := by
  have h1 := RN.putn h hp hi hw u
  have e : (W.setCell ⟨p, i, none⟩ u).heap.size = W.heap.size := by simp [World.setCell]
  unfold Rn
  rw [e]; exact h1
theorem noi2 {b : Bool} {A : Option Addr} {n c : Nat} : NoI [.bool b, .slice A n c] := by
  intro u hu x
  simp at hu
  rcases hu with rfl | rfl <;> (intro e; cases e)
theorem noi3 {b : Bool} {A A' : Option Addr} {n c n' c' : Nat} : NoI [.bool b, .slice A n c, .slice A' n' c'] := by
  intro u hu x
  simp at hu
  rcases hu with rfl | rfl | rfl <;> (intro e; cases e)
theorem Rn.put2 {W : World} {p : Nat} {b0 : Bool} {B0 : Option Addr} {k0 d0 : Nat} {A : Option Addr} {c m : Nat} (h : Rn W A c m) (hp : At W p [.bool b0, .slice B0 k0 d0]) {b : Bool} {B : Option Addr} {k d : Nat} :
    Rn ((W.setCell ⟨p, 0, none⟩ (.bool b)).setCell ⟨p, 1, none⟩ (.slice B k d)) A c m :=
  (h.put hp (by simp) noi2 _).put (hp.put (i := 0) (by simp) (.bool b)) (by simp) noi2 _
theorem Rn.put3 {W : World} {p : Nat} {b0 : Bool} {B0 B1 : Option Addr} {k0 d0 k1 d1 : Nat} {A : Option Addr} {c m : Nat} (h : Rn W A c m) (hp : At W p [.bool b0, .slice B0 k0 d0, .slice B1 k1 d1]) {b : Bool} {B B' : Option Addr} {k d k' d' : Nat} :
    Rn (((W.setCell ⟨p, 0, none⟩ (.bool b)).setCell ⟨p, 1, none⟩ (.slice B k d)).setCell ⟨p, 2, none⟩ (.slice B' k' d')) A c m :=
  ((h.put hp (by simp) noi3 _).put (hp.put (i := 0) (by simp) (.bool b)) (by simp) noi3 _).put ((hp.put (i := 0) (by simp) (.bool b)).put (i := 1) (by simp) (.slice B k d)) (by simp) noi3 _
/-- What a call of the document's own leaves that returns a fraction. -/
def RQ (W : World) (r : Rat) (e : Ending) (w' : World) : Prop := ∃ A c A' c', e = .returned (.agg #[.bool (decide (r.num < 0)), .slice A (dq r.num.natAbs) c, .slice A' (dq r.den) c']) ∧ Rn w' A c r.num.natAbs ∧ Rn w' A' c' r.den ∧ Hid (Below W.heap.size W w')
def RZb (W : World) (b : Bool) (A : Option Addr) (n c m : Nat) (e : Ending) (w' : World) : Prop := e = .returned (.agg #[.bool b, .slice A n c]) ∧ Rn w' A c m ∧ Hid (Below W.heap.size W w')
theorem rn_two {W w0 : World} {p : Nat} {b0 : Bool} {B0 : Option Addr} {k0 d0 : Nat} {A : Option Addr} {c m : Nat} (hp : At W p [.bool b0, .slice B0 k0 d0]) (h : Rn W A c m) (hb : Bel w0 W) (hq : w0.heap.size ≤ p) (b : Bool) (n : Nat) :
    RZb w0 b A n c m (.returned (.agg #[.bool b, .slice A n c])) ((W.setCell ⟨p, 0, none⟩ (.bool b)).setCell ⟨p, 1, none⟩ (.slice A n c)) :=
  ⟨rfl, h.put2 hp, (Below.setCell hb hq _).setCell hq _⟩
section
variable {W : World} {A A' : Option Addr} {c c' m : Nat} {z : Int}
set_option maxHeartbeats 1000000 in
theorem rzof_h {b s : Bool} (h : Rn W A c m) (hs : s = (b && decide (0 < m))) : Calls Tryd.prog 92 #[.bool b, .slice A (dq m) c] W (RZb W s A (dq m) c m) := by
  have HE : Hid (∀ o, Rn (W.alloc o) A c m) := fun o => h.al o
  by_cases h0 : 0 < m
  · have h1 : 0 < dq m := dq_pos.2 h0
    have HS : Hid (s = b) := by unfold Hid; rw [hs, decide_eq_true h0, Bool.and_true]
    clear hs h h0
    cases b
    · go_enter Tryd.func92, Tryd.ntmps92
      go_wp2
      exact bodyPost_ret (v := .agg #[.bool false, .slice A (dq m) c]) (by simp [results, Tryd.results92, go_sem]) rfl ⟨by rw [HS.out], HE.out _, ((Bel.refl W).al _).hid⟩
    · go_enter Tryd.func92, Tryd.ntmps92
      go_wp2
      exact bodyPost_ret (v := .agg #[.bool true, .slice A (dq m) c]) (by simp [results, Tryd.results92, go_sem]) rfl ⟨by rw [HS.out], HE.out _, ((Bel.refl W).al _).hid⟩
  · have h1 : dq m = 0 := by have := dq_pos (n := m); omega
    have HS : Hid (s = false) := by unfold Hid; rw [hs, decide_eq_false h0, Bool.and_false]
    have HZ := hide h1
    clear hs h h0
    cases b
    all_goals
      go_enter Tryd.func92, Tryd.ntmps92
      go_wp2
      exact bodyPost_ret (v := .agg #[.bool false, .slice A 0 c]) (by simp [results, Tryd.results92, go_sem]) rfl ⟨by rw [HS.out, HZ.out], HE.out _, ((Bel.refl W).al _).hid⟩

theorem dq_mono {a b : Nat} (h : a ≤ b) : dq a ≤ dq b := digs_len_mono (b := D4) (by decide) h
theorem rz_of {s : Bool} {A : Option Addr} {c : Nat} {z : Int} {w' : World} {e : Ending} (h : RZb W s A (dq z.natAbs) c z.natAbs e w') (hs : s = decide (z < 0)) : RZ W z e w' := ⟨A, c, by rw [h.1, hs], h.2.1, h.2.2⟩
theorem zsig {b : Bool} {z : Int} (h : z = zi b z.natAbs) : decide (z < 0) = (b && decide (0 < z.natAbs)) := by
  cases b
  · rw [zi_false] at h; rw [Bool.false_and]; exact decide_eq_false (by omega)
  · rw [zi_true] at h
    by_cases h0 : 0 < z.natAbs
    · rw [decide_eq_true h0, Bool.true_and]; exact decide_eq_true (by omega)
    · rw [decide_eq_false h0, Bool.and_false]; exact decide_eq_false (by omega)
end
end Go.Proofs.YteieelgdiccppaaDoor
end

section
/- Statements of dec: is, dis, raw. Conditions: less than 4000 words. -/
open Go.RowKit
set_option maxRecDepth 100000
namespace Go.Proofs.YteieelgdiccppaaDoor
/-- Is a number, told just, the document's own? -/
theorem is4_any {A A' : Option Addr} {c c' m n : Nat} {w : World} (h : Can w w.heap.size A c m) (h' : RN w w.heap.size A' c' n) (hl : dl m < 4000) (hq : dq n ≤ 100000) :
    Calls Tryd.prog 98 #[.agg #[.slice A (dl m) c], .slice A' (dq n) c'] w fun e w' => e = .returned (.bool (decide (m = n))) ∧ Below w.heap.size w w' := by
  have HX : Hid (∀ o, Rd U32 (w.alloc o) (w.alloc o).heap.size A (digs W32 m)) := fun o => ((h.below ((Below.refl _ _).alloc (Nat.le_refl _) _)).more (by simp)).2
  have HY : Hid (∀ o, RN (w.alloc o) (w.alloc o).heap.size A' c' n) := fun o => (h'.below ((Below.refl _ _).alloc (Nat.le_refl _) _)).more (by simp)
  have HA : Hid (∀ o, Below w.heap.size w (w.alloc o)) := fun o => (Below.refl _ _).alloc (Nat.le_refl _) _
  have hqm : Hid (dq m ≤ 100000) := by have := dq_words (lt_pow_digs (b := W32) (by decide) m); unfold dl at hl; unfold Hid; omega
  have HG := hide (goodB_digs m)
  have hl2 : dl m ≤ 4000 := by omega
  have CW : Hid (∀ o W, Hid (Below (w.alloc o).heap.size (w.alloc o) W) → Calls Tryd.prog 84 #[.slice A (dl m) c] W (RefPost W m)) := fun o W hb => by
    have h1 := Words_any (c := c) (show dl m = (digs W32 m).length from rfl) (((HX.out o).below hb.out).more hb.out.size) (good_digs m) hl2
    rw [val_digs32] at h1
    exact h1
  clear h h'
  go_enter Tryd.func98, Tryd.ntmps98
  go_wp2_with (first | (go_at_call 20; go_must (refine (Good_any (show dl m = (digs W32 m).length from rfl) (HX.out _) (by omega)).mono ?_); rintro e w1 ⟨rfl, hb1⟩; have HB1 := hide hb1; have hg1 := HG.out; have hc1 : w1.cell? ⟨w.heap.size, 0, none⟩ = some (.slice A (dl m) c) := (hb1.cell (by simp)).trans (one_cell (heap_alloc_new w _)).1; clear hb1) | (go_at_call 84; go_must (refine (CW.out _ _ HB1).mono ?_); rintro e w2 ⟨A2, c2, rfl, hr2, hb2⟩) | (go_at_call 83; go_must (refine (rCmp_any hr2.out (((HY.out _).below HB1.out).below (hb2.out.mono HB1.out.size) |>.more (Nat.le_trans HB1.out.size hb2.out.size)) (Nat.le_trans hqm.out (by omega)) (by omega)).mono ?_); rintro e w3 ⟨rfl, q, rfl⟩))
  go_ret
  refine ⟨bool_ret ?_, below_drewN (((HA.out _).trans (HB1.out.mono (by simp))).trans (hb2.out.mono (Nat.le_trans (by simp) HB1.out.size))) q⟩
  exact cmpI_beq m n

theorem is4_same {W : World} {A A' : Option Addr} {c c' m : Nat} (h : Nm W A (dl m) c m) (h' : Hid (RN W W.heap.size A' c' m)) (hl : dl m < 4000) : Calls Tryd.prog 98 #[.agg #[.slice A (dl m) c], .slice A' (dq m) c'] W (BoolR W true) := by
  have hq : dq m ≤ 100000 := by have := dq_words (lt_pow_digs (b := W32) (by decide) m); unfold dl at hl; omega
  refine (is4_any (h.out.digs).1 h'.out hl hq).mono fun e w' ⟨he, hb⟩ => ⟨by rw [he, decide_eq_true rfl], hb⟩

/-- A write over a nought behind which the block ends: no number of the document's own is there. -/
theorem RN.setZ {W : World} {B : Nat} {A : Option Addr} {c m p : Nat} (h : RN W B A c m) (h2 : W.cell? ⟨p, 2, none⟩ = some (.int .i64 0)) (h3 : W.cell? ⟨p, 3, none⟩ = none) (u : Value) : RN (W.setCell ⟨p, 2, none⟩ u) B A c m := by
  refine ⟨h.1, fun hn => ?_⟩
  obtain ⟨ad, e, hb, hx⟩ := h.2 hn
  refine ⟨ad, e, hb, fun j x hj => ?_⟩
  have h6 := hx j x hj
  refine (World.cell?_setCell_other W ⟨p, 2, none⟩ _ u (fun e2 => ?_)).trans h6
  rw [← e2, h2] at h6
  injection h6 with h6
  have hx0 : x = 0 := by
    unfold I64 at h6
    injection h6 with _ h7
    omega
  subst hx0
  have hlt : j < (digs D4 m).length := by
    rcases Nat.lt_or_ge j (digs D4 m).length with h | h
    · exact h
    · rw [List.getElem?_eq_none h] at hj; cases hj
  rcases Nat.lt_or_ge (j + 1) (digs D4 m).length with h8 | h8
  · have h9 := hx (j + 1) _ (List.getElem?_eq_getElem h8)
    have e3 : ad.add (j + 1) = ⟨p, 3, none⟩ := by
      obtain ⟨g, o, r⟩ := ad
      simp only [Addr.add, if_neg (Nat.succ_ne_zero j)] at e2 ⊢
      by_cases hj0 : j = 0
      · rw [if_pos hj0] at e2
        injection e2 with q1 q2 q3
        subst q1; subst hj0; subst q2
        rfl
      · rw [if_neg hj0] at e2
        injection e2 with q1 q2 q3
        subst q1
        congr 1
        omega
    rw [e3, h3] at h9
    cases h9
  · refine digs_last (b := D4) (by decide) m 0 ?_ rfl
    rw [List.getLast?_eq_getElem?, show (digs D4 m).length - 1 = j by omega]
    exact hj
theorem end_new (W : World) (v0 v1 v2 : Value) (t : TypeId) : (W.alloc (.cells #[v0, v1, v2] t)).cell? ⟨W.heap.size, 3, none⟩ = none := by
  have h : (W.alloc (.cells #[v0, v1, v2] t)).heap[W.heap.size]? = some (.cells #[v0, v1, v2] t (0, 0)) := heap_alloc_new W _
  rw [cell_of_row _ _ 3 _ t (0, 0) h]
  rfl
theorem end_up {W w1 : World} {o : Obj} {v0 v1 v2 : Value} {t : TypeId} (hbk : Hid (Below ((W.alloc o).alloc (.cells #[v0, v1, v2] t)).heap.size ((W.alloc o).alloc (.cells #[v0, v1, v2] t)) w1)) : w1.cell? ⟨W.heap.size + 1, 3, none⟩ = none := by
  have e : (W.alloc o).heap.size = W.heap.size + 1 := by simp
  have h9 := end_new (W.alloc o) v0 v1 v2 t
  rw [e] at h9
  exact (hbk.out.cell (by show W.heap.size + 1 < _; simp)).trans h9
section
variable {W : World} {b b' : Bool} {A A' : Option Addr} {n c c' m s : Nat}
end
end Go.Proofs.YteieelgdiccppaaDoor
end

section
/- Statements of dec: awake. No conditions. -/
open Go.RowKit
set_option maxRecDepth 100000
namespace Go.Proofs.YteieelgdiccppaaDoor
/-- What a call leaves that returns a text that is known. -/
def DStr (W : World) (s : ByteArray) (e : Ending) (w' : World) : Prop := e = .returned (.string s) ∧ Hid (Below W.heap.size W w')
theorem dstr_of {W : World} {l : List UInt8} {s : ByteArray} {e : Ending} {w' : World} (h : TxR W l e w') (hs : s.data.toList = l) : DStr W s e w' := by
  obtain ⟨t, rfl, ht, hb⟩ := h
  exact ⟨by rw [show t = s from ByteArray.ext (Array.ext' (ht.out.trans hs.symm))], hb⟩
theorem lt10_3 {a b c : Nat} (ha : a < 10) (hb : b < 10) (hc : c < 10) : ∀ x ∈ [a, b, c], x < 10 := by
  intro x hx; simp at hx; rcases hx with rfl | rfl | rfl <;> assumption
theorem part_150 : partL 150 2 = [53, 48] := by
  unfold partL
  rw [show 10 ^ 2 + 150 % 10 ^ 2 = 150 from rfl, decL_lit (m := 150) (ds := [0, 5, 1]) (l := [49, 53, 48]) (lt10_3 (by decide) (by decide) (by decide)) (by intro x hx; simp at hx; subst hx; decide) rfl (by decide) (by decide)]
  rfl
theorem dec_1 : decL 1 = [49] := decL_lit (ds := [1]) (by intro x hx; simp at hx; subst hx; decide) (by intro x hx; simp at hx; subst hx; decide) rfl (by decide) (by decide)
theorem part_15 : partL 15 1 = [53] := by
  unfold partL
  rw [show 10 ^ 1 + 15 % 10 ^ 1 = 15 from rfl, decL_lit (m := 15) (ds := [5, 1]) (l := [49, 53]) (by intro x hx; simp at hx; rcases hx with rfl | rfl <;> decide) (by intro x hx; simp at hx; subst hx; decide) rfl (by decide) (by decide)]
  rfl
theorem short_150 : shortS 150 2 = 1 := by unfold shortS; rw [part_150]; decide
theorem text_150 : decD false 150 2 = [49, 46, 53, 48] := by
  unfold decD
  rw [if_neg (by decide), part_150, show 150 / 10 ^ 2 = 1 from rfl, dec_1]; rfl
theorem text_15 : decD false 15 1 = [49, 46, 53] := by
  unfold decD
  rw [if_neg (by decide), part_15, show 15 / 10 ^ 1 = 1 from rfl, dec_1]; rfl
theorem form_0150 : Form [48, 49, 46, 53, 48] false [48, 49] [53, 48] true :=
  ⟨_, rfl, (fun _ => by decide), ⟨(fun _ => rfl), (fun h => by cases h), by decide⟩⟩
set_option maxHeartbeats 4000000 in
theorem awake4_any (W : World) : Calls Tryd.prog 48 #[] W (BoolR W true) := by
  obtain ⟨m, hm⟩ : ∃ m : Nat, m = 150 := ⟨_, rfl⟩
  obtain ⟨s, hs⟩ : ∃ s : Nat, s = 2 := ⟨_, rfl⟩
  obtain ⟨v, hv⟩ : ∃ v : Nat, v = 15 := ⟨_, rfl⟩
  obtain ⟨j, hj⟩ : ∃ j : Nat, j = 1 := ⟨_, rfl⟩
  obtain ⟨q, hq⟩ : ∃ q : Nat, q = 1 := ⟨_, rfl⟩
  have dm : dl m ≤ 60 := by rw [hm]; exact Nat.le_trans (dl_le (k := 1) (by decide)) (by decide)
  have dv : dl v ≤ 60 := by rw [hv]; exact Nat.le_trans (dl_le (k := 1) (by decide)) (by decide)
  have CP : Hid (∀ W', Calls Tryd.prog 49 #[.string ⟨#[48, 49, 46, 53, 48]⟩] W' (DPR W' false m s)) := fun W' => by
    have h1 := dparse_ok (W := W') (s := ⟨#[48, 49, 46, 53, 48]⟩) (v := 150) form_0150 (by decide) (by decide) (fun _ => by decide) (by decide) (by decide) (by decide)
    rw [hm, hs]; exact h1
  have CX : Hid (∀ (W' : World) A c, Nm W' A (dl m) c m → DX W' false A (dl m) c m s) := fun W' A c h => dx_can h (by omega) (fun h => by cases h)
  have CT : Hid (∀ W' A c, DX W' false A (dl m) c m s → Calls Tryd.prog 51 #[.agg #[.bool false, .slice A (dl m) c, .int .i64 (s : Int)]] W' (DStr W' ⟨#[49, 46, 53, 48]⟩)) := fun W' A c h => (dtext_h h.y (by omega)).mono fun _ _ h1 => dstr_of h1 (by rw [hm, hs, text_150])
  have CS : Hid (∀ W' A c, DX W' false A (dl m) c m s → Calls Tryd.prog 54 #[.agg #[.bool false, .slice A (dl m) c, .int .i64 (s : Int)]] W' (ShR W' false v j)) := fun W' A c h => by
    have h1 := short_h h.y (by omega)
    rwa [show shortS m s = j by rw [hm, hs, short_150, hj], show m / 10 ^ (s - j) = v by rw [hm, hs, hj, hv]] at h1
  have CT2 : Hid (∀ (W' : World) A c, Nm W' A (dl v) c v → Calls Tryd.prog 51 #[.agg #[.bool false, .slice A (dl v) c, .int .i64 (j : Int)]] W' (DStr W' ⟨#[49, 46, 53]⟩)) := fun W' A c h => (dtext_h (dx_can (b := false) (s := j) h (by omega) (fun h => by cases h)).y (by omega)).mono fun _ _ h1 => dstr_of h1 (by rw [hv, hj, text_15])
  have CQ : Hid (∀ W' A c, DX W' false A (dl m) c m s → Calls Tryd.prog 53 #[.agg #[.bool false, .slice A (dl m) c, .int .i64 (s : Int)]] W' (DStr W' ⟨#[53, 48]⟩)) := fun W' A c h => (part_h h.y (by omega)).mono fun _ _ h1 => dstr_of h1 (by rw [hm, hs, part_150])
  have CW : Hid (∀ W' A c, DX W' false A (dl m) c m s → Calls Tryd.prog 99 #[.agg #[.bool false, .slice A (dl m) c, .int .i64 (s : Int)]] W' (NumR W' q)) := fun W' A c h => by
    have h1 := whole_h h.y (by omega)
    rwa [show m / 10 ^ s = q by rw [hm, hs, hq]] at h1
  have CR : Hid (∀ W', Calls Tryd.prog 19 #[.int .u64 1] W' (RefPost W' q)) := fun W' => by rw [hq]; exact Small_any (n := 1) (by omega)
  have CI : Hid (∀ (W' : World) A c A' c', Nm W' A (dl q) c q → Rn W' A' c' q → Calls Tryd.prog 98 #[.agg #[.slice A (dl q) c], .slice A' (dq q) c'] W' (BoolR W' true)) := fun W' A c A' c' h h' => is4_same h h' (Nat.lt_of_le_of_lt (dl_le (k := 1) (by rw [hq]; decide)) (by decide))
  have CG : Hid (∀ W' A c, DX W' false A (dl m) c m s → Calls Tryd.prog 52 #[.agg #[.bool false, .slice A (dl m) c, .int .i64 (s : Int)]] W' (RetB W' true)) := fun W' A c h => h.gd W' (Bel.refl _)
  clear hm hs hv hj hq dm dv
  have HB := Bel.refl W
  go_enter Tryd.func48, Tryd.ntmps48
  go_wp2_with (first | (go_at_call 49; (with_reducible refine (CP.out _).mono ?_); rintro e w1 ⟨A, c, rfl, nm, hbk⟩; have nx := CX.out _ _ _ nm; replace HB := HB.up hbk) | (go_at_call 51; (with_reducible refine (CT.out _ _ _ (nx.al _)).mono ?_); rintro e w2 ⟨rfl, hbk⟩; (with_reducible (have HD : At w2 w1.heap.size [.bool false, .slice A (dl m) c, .int .i64 (s : Int)] := At.up (at_new0 _ _ _) hbk; replace HB := (HB.al _).up hbk; replace nx := (nx.al _).up hbk)); have hd_0 := HD.c0; have hd_1 := HD.c1; have hd_2 := HD.c2; have hd_l := HD.lt) | (go_at_call 54; (with_reducible refine (CS.out _ _ _ nx).mono ?_); rintro e w3 ⟨As, cs, rfl, ns, hbk⟩; (with_reducible (replace HB := HB.up hbk; replace HD := HD.up hbk; replace nx := nx.up hbk)); clear hd_0 hd_1 hd_2 hd_l; have hd_0 := HD.c0; have hd_1 := HD.c1; have hd_2 := HD.c2; have hd_l := HD.lt) | (go_at_call 51; (with_reducible refine (CT2.out _ _ _ ns).mono ?_); rintro e w4 ⟨rfl, hbk⟩; (with_reducible (replace HB := HB.up hbk; replace HD := HD.up hbk; replace nx := nx.up hbk)); clear hd_0 hd_1 hd_2 hd_l; have hd_0 := HD.c0; have hd_1 := HD.c1; have hd_2 := HD.c2; have hd_l := HD.lt) | (go_at_call 53; (with_reducible refine (CQ.out _ _ _ nx).mono ?_); rintro e w5 ⟨rfl, hbk⟩; (with_reducible (replace HB := HB.up hbk; replace HD := HD.up hbk; replace nx := nx.up hbk)); clear hd_0 hd_1 hd_2 hd_l; have hd_0 := HD.c0; have hd_1 := HD.c1; have hd_2 := HD.c2; have hd_l := HD.lt) | (go_at_call 99; (with_reducible refine (CW.out _ _ _ nx).mono ?_); rintro e w6 ⟨Aw, cw, rfl, nw, hbk⟩; (with_reducible (replace HB := HB.up hbk; replace HD := HD.up hbk; replace nx := nx.up hbk)); clear hd_0 hd_1 hd_2 hd_l; have hd_0 := HD.c0; have hd_1 := HD.c1; have hd_2 := HD.c2; have hd_l := HD.lt) | (go_at_call 19; (with_reducible refine (CR.out _).mono ?_); rintro e w7 ⟨Ar, cr, rfl, rr, hbk⟩; (with_reducible (replace HB := HB.up hbk; replace HD := HD.up hbk; replace nx := nx.up hbk; replace nw := nw.up hbk)); clear hd_0 hd_1 hd_2 hd_l; have hd_0 := HD.c0; have hd_1 := HD.c1; have hd_2 := HD.c2; have hd_l := HD.lt; replace rr := Rn.of rr) | (go_at_call 98; (with_reducible refine (CI.out _ _ _ _ _ nw rr).mono ?_); rintro e w8 ⟨rfl, hbk⟩; (with_reducible (replace HB := HB.up hbk; replace HD := HD.up hbk; replace nx := nx.up hbk)); clear hd_0 hd_1 hd_2 hd_l; have hd_0 := HD.c0; have hd_1 := HD.c1; have hd_2 := HD.c2; have hd_l := HD.lt) | (go_at_call 52; (with_reducible refine (CG.out _ _ _ nx).mono ?_); rintro e w9 ⟨rfl, hbk⟩; replace hbk := Bel.hid hbk; replace HB := HB.up hbk) | fail)
  go_ret
  exact ⟨rfl, HB⟩
end Go.Proofs.YteieelgdiccppaaDoor
end

section
/- Package dec: Rat. Conditions: numbers of at most 99999 words. -/
open Go.RowKit
set_option maxRecDepth 100000
namespace Go.Proofs.YteieelgdiccppaaDoor
theorem At.sput3 {W : World} {p : Nat} {v0 v1 v2 : Value} (h : At W p [v0, v1, v2]) (x y z : Value) : At (((W.setCell ⟨p, 0, none⟩ x).setCell ⟨p, 1, none⟩ y).setCell ⟨p, 2, none⟩ z) p [x, y, z] := h.put3 x y z
/-- As QR, the sign by a name of its own. -/
def QRw (W : World) (sg : Bool) (r : Rat) (e : Ending) (w' : World) : Prop := ∃ A c A' c', e = .returned (.agg #[.bool sg, .slice A (dl r.num.natAbs) c, .slice A' (dl r.den) c']) ∧ ZA w' sg A (dl r.num.natAbs) c r.num ∧ Nm w' A' (dl r.den) c' r.den ∧ Hid (Below W.heap.size W w')
def OfYw (W : World) (sg : Bool) (r : Rat) (e : Ending) (w' : World) : Prop := ∃ A c A' c', e = .returned (.tuple #[.agg #[.bool sg, .slice A (dl r.num.natAbs) c, .slice A' (dl r.den) c'], .bool true]) ∧ ZA w' sg A (dl r.num.natAbs) c r.num ∧ Nm w' A' (dl r.den) c' r.den ∧ Hid (Below W.heap.size W w')
theorem noQ : ∀ x : Nat, Value.bool false ≠ U32 x := fun x h => by cases h
theorem Nm.putq {W : World} {p : Nat} {A : Option Addr} {n c m : Nat} (h : Nm W A n c m) (hp : At W p [.bool false, .slice none 0 0, .slice none 0 0]) (b : Bool) (B : Option Addr) (k d : Nat) (B' : Option Addr) (k' d' : Nat) :
    Nm (((W.setCell ⟨p, 0, none⟩ (.bool b)).setCell ⟨p, 1, none⟩ (.slice B k d)).setCell ⟨p, 2, none⟩ (.slice B' k' d')) A n c m := h.put3 hp now3
theorem Bel.put3 {w W : World} (h : Bel w W) {p : Nat} (hp : w.heap.size ≤ p) (x y z : Value) : Bel w (((W.setCell ⟨p, 0, none⟩ x).setCell ⟨p, 1, none⟩ y).setCell ⟨p, 2, none⟩ z) := below3 h hp x y z
section
variable {W : World} {b b0 : Bool} {A A0 : Option Addr} {n c m s n0 c0 : Nat} {s0 : Int} {r : Rat}
set_option maxHeartbeats 4000000 in
theorem drat_h (h : DY W (.agg #[.bool b0, .slice A0 n0 c0, .int .i64 s0]) b A n c m s) (hd : dl m ≤ 99999) (hr : mkRat (zi b m) (10 ^ s) = r) : Calls Tryd.prog 65 #[.agg #[.bool b0, .slice A0 n0 c0, .int .i64 s0]] W (QR W r) := by
  obtain ⟨p, hp⟩ : ∃ p, p = 10 ^ s := ⟨_, rfl⟩
  obtain ⟨sg, hsg⟩ : ∃ sg, sg = decide (r.num < 0) := ⟨_, rfl⟩
  have CC : Hid (∀ W', Bel W W' → Calls Tryd.prog 103 #[.agg #[.bool b0, .slice A0 n0 c0, .int .i64 s0]] W' (CnR W' b A n c s)) := h.2
  have CP : Hid (∀ W', Calls Tryd.prog 102 #[.int .i64 (s : Int)] W' (NumR W' p)) := fun W' => by rw [hp]; exact power_h h.1.sc
  have CO : Hid (∀ W' B e, Bel W W' → Nm W' B (dl p) e p → Calls Tryd.prog 70 #[.agg #[.bool b, .slice A n c], .agg #[.slice B (dl p) e]] W' (OfYw W' sg r)) := fun W' B e hb hn => by
    rw [hsg]
    exact of_yes (za_of (b := b) (h.1.nm.up hb)) hn (by rw [hp]; exact Nat.pow_pos (by decide)) (by rw [hp]; exact hr) (by rw [zi_abs]; exact hd) (by rw [hp]; exact Nat.le_trans (ten_le h.1.sc) (by decide))
  have HS := hide hsg
  clear h hd hp hr hsg
  have HB := Bel.refl W
  go_enter Tryd.func65, Tryd.ntmps65
  go_wp2_with (first | (go_at_call 103; (with_reducible refine (CC.out _ ((HB.al _).al _)).mono ?_); rintro e w1 ⟨rfl, hbk⟩; have HA := At.up ((at_new0 _ _ _).al _) hbk; have HR := At.up (at_new1 _ _ _ _) hbk; replace HB := ((HB.al _).al _).up hbk; have ha_0 := HA.c0; have ha_1 := HA.c1; have ha_2 := HA.c2; have ha_l := HA.lt; have ha_f0 := HA.f0; have ha_f1 := HA.f1; have ha_f2 := HA.f2) | fail)
  obtain ⟨W1, hW1⟩ : ∃ W1, W1 = ((w1.setCell ⟨W.heap.size, 0, none⟩ (.bool b)).setCell ⟨W.heap.size, 1, none⟩ (.slice A n c)).setCell ⟨W.heap.size, 2, none⟩ (.int .i64 (s : Int)) := ⟨_, rfl⟩
  rw [← hW1]
  replace HB : Bel W W1 := (by rw [hW1]; exact below3 HB (Nat.le_refl _) _ _ _)
  replace HR : At W1 (W.heap.size + 1) [.bool false, .slice none 0 0, .slice none 0 0] := (by rw [hW1]; exact HR.far3 (show W.heap.size ≠ _ by omega) _ _ _)
  replace HA : At W1 W.heap.size [.bool b, .slice A n c, .int .i64 (s : Int)] := (by rw [hW1]; exact HA.put3 _ _ _)
  clear hW1 ha_0 ha_1 ha_2 ha_l ha_f0 ha_f1 ha_f2
  have lb0 := HA.lt
  have lb1 := HR.lt
  go_region_held3 (fun w' => w'.cell? ⟨W.heap.size, 0, none⟩ = some (.bool b) ∧ w'.cell? ⟨W.heap.size, 1, none⟩ = some (.slice A n c) ∧ w'.cell? ⟨W.heap.size, 2, none⟩ = some (.int .i64 (s : Int)))
    (refine ⟨(?_ : At _ W.heap.size [.bool b, .slice A n c, .int .i64 (s : Int)]).c0, (?_ : At _ W.heap.size [.bool b, .slice A n c, .int .i64 (s : Int)]).c1, (?_ : At _ W.heap.size [.bool b, .slice A n c, .int .i64 (s : Int)]).c2⟩ <;> (repeat (first | with_reducible exact HA | (with_reducible refine At.dr ?_) | (with_reducible refine At.al ?_ _) | (with_reducible refine At.far ?_ (by omega) _))))
    (first | (go_at_call 102; (with_reducible refine (CP.out _).mono ?_); rintro e w2 ⟨Bp, ep, rfl, np, hbk⟩; (with_reducible (replace HB := HB.dr.up hbk; replace HA := HA.dr.up hbk; replace HR := HR.dr.up hbk)); have lz := HR.lt; have lz0 := HA.lt; (try have lz2 := HP0.lt)) | (go_at_call 102; (with_reducible refine (CP.out _).mono ?_); rintro e w2 ⟨Bp, ep, rfl, np, hbk⟩; (with_reducible (have HP0 := At.up (at_new0 _ [.bool false, .slice none 0 0, .slice none 0 0] _).dr hbk; replace HB := (HB.al _).dr.up hbk; replace HA := (HA.al _).dr.up hbk; replace HR := (HR.al _).dr.up hbk)); have lz := HR.lt; have lz0 := HA.lt; (try have lz2 := HP0.lt)) | (go_at_call 70; (with_reducible refine (CO.out _ _ _ HB np).mono ?_); rintro e w3 ⟨Aq, cq, Ar, cr, rfl, nq, nr, hbk⟩; (with_reducible (replace HB := HB.up hbk; replace HA := HA.up hbk; replace HR := HR.up hbk)); (try (with_reducible replace HP0 := HP0.up hbk)); (try have hp0_0 := HP0.c0); (try have hp0_1 := HP0.c1); (try have hp0_2 := HP0.c2); (try have hq0_0 := HQ0.c0); (try have hq0_1 := HQ0.c1); (try have hq0_2 := HQ0.c2); (try have fhp0_0 := HP0.f0); (try have fhp0_1 := HP0.f1); (try have fhp0_2 := HP0.f2); (try have fhq0_0 := HQ0.f0); (try have fhq0_1 := HQ0.f1); (try have fhq0_2 := HQ0.f2); (try have lp0 := HP0.lt); (try have lq0 := HQ0.lt); (try have hr_0 := HR.c0); (try have hr_1 := HR.c1); (try have hr_2 := HR.c2); (try have hr_l := HR.lt); (try have hr_f0 := HR.f0); (try have hr_f1 := HR.f1); (try have hr_f2 := HR.f2); have lz1 := HA.lt) | (go_at_call 70; (with_reducible refine (CO.out _ _ _ (HB.al _) (np.al _)).mono ?_); rintro e w3 ⟨Aq, cq, Ar, cr, rfl, nq, nr, hbk⟩; (with_reducible (have HQ0 := At.up (at_new0 _ [.bool false, .slice none 0 0, .slice none 0 0] _) hbk; replace HB := (HB.al _).up hbk; replace HA := (HA.al _).up hbk; replace HR := (HR.al _).up hbk)); (try (with_reducible replace HP0 := (HP0.al _).up hbk)); (try have hp0_0 := HP0.c0); (try have hp0_1 := HP0.c1); (try have hp0_2 := HP0.c2); (try have hq0_0 := HQ0.c0); (try have hq0_1 := HQ0.c1); (try have hq0_2 := HQ0.c2); (try have fhp0_0 := HP0.f0); (try have fhp0_1 := HP0.f1); (try have fhp0_2 := HP0.f2); (try have fhq0_0 := HQ0.f0); (try have fhq0_1 := HQ0.f1); (try have fhq0_2 := HQ0.f2); (try have lp0 := HP0.lt); (try have lq0 := HQ0.lt); (try have hr_0 := HR.c0); (try have hr_1 := HR.c1); (try have hr_2 := HR.c2); (try have hr_l := HR.lt); (try have hr_f0 := HR.f0); (try have hr_f1 := HR.f1); (try have hr_f2 := HR.f2); have lz1 := HA.lt) | fail)
  all_goals go_wp2_with fail
  all_goals
    have nq1 := nq.1
    refine name_end ?_
    intro W4 hW4
    have HF : At W4 (W.heap.size + 1) [.bool sg, .slice Aq (dl r.num.natAbs) cq, .slice Ar (dl r.den) cr] := by rw [hW4]; (repeat (first | with_reducible exact HR | (with_reducible refine At.dr ?_) | (with_reducible refine At.sput3 (v0 := .bool false) (v1 := .slice none 0 0) (v2 := .slice none 0 0) ?_ _ _ _) | (with_reducible refine At.al ?_ _) | (with_reducible refine At.far3 ?_ (by omega) _ _ _)))
    have NF : Nm W4 Aq (dl r.num.natAbs) cq r.num.natAbs := by rw [hW4]; (repeat (first | with_reducible exact nq1 | (with_reducible refine Nm.dr ?_) | (with_reducible refine Nm.al ?_ _) | (with_reducible refine Nm.putq ?_ ?_ _ _ _ _ _ _ _) | with_reducible exact HR | with_reducible exact HP0 | with_reducible exact HQ0 | (with_reducible refine At.dr ?_) | (with_reducible refine At.sput3 (v0 := .bool false) (v1 := .slice none 0 0) (v2 := .slice none 0 0) ?_ _ _ _) | (with_reducible refine At.al ?_ _) | (with_reducible refine At.far3 ?_ (by omega) _ _ _)))
    have DF : Nm W4 Ar (dl r.den) cr r.den := by rw [hW4]; (repeat (first | with_reducible exact nr | (with_reducible refine Nm.dr ?_) | (with_reducible refine Nm.al ?_ _) | (with_reducible refine Nm.putq ?_ ?_ _ _ _ _ _ _ _) | with_reducible exact HR | with_reducible exact HP0 | with_reducible exact HQ0 | (with_reducible refine At.dr ?_) | (with_reducible refine At.sput3 (v0 := .bool false) (v1 := .slice none 0 0) (v2 := .slice none 0 0) ?_ _ _ _) | (with_reducible refine At.al ?_ _) | (with_reducible refine At.far3 ?_ (by omega) _ _ _)))
    have BF : Bel W W4 := by rw [hW4]; (repeat (first | with_reducible exact HB | (with_reducible refine Bel.dr ?_) | (with_reducible refine Bel.al ?_ _) | (with_reducible refine Bel.put3 ?_ (by omega) _ _ _)))
    clear hW4
    refine bodyPost_ret (v := .agg #[.bool sg, .slice Aq (dl r.num.natAbs) cq, .slice Ar (dl r.den) cr]) (by simp [results, Tryd.results65, go_sem, HF.c0, HF.c1, HF.c2]) rfl ?_
    exact ⟨Aq, cq, Ar, cr, by rw [HS.out], zr_of NF, DF, BF⟩
end
end Go.Proofs.YteieelgdiccppaaDoor
end
