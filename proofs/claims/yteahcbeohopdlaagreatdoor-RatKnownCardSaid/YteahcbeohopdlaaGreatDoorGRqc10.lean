/- Several texts in one, each with its own sentence and conditions. -/
import Derived.Test.YteahcbeohopdlaaGreatDoorGRqc9
import Derived.Deep.RegionHeld3
import Derived.Test.YteahcbeohopdlaaGreatDoorGRqc7
import Derived.Deep.LoopGhost
section
/- Words for statements: arguments that tell numbers in every later world; cells of a statement's own variables kept through calls. No conditions. -/
open Go.RowKit
set_option maxRecDepth 100000
namespace Go.Proofs.YteahcbeohopdlaaGreatDoor
theorem keep4 {w W W' : World} {b : Nat} {v0 v1 v2 : Value} (hb : Hid (Below W.heap.size W W'))
    (h : W.cell? ⟨b, 0, none⟩ = some v0 ∧ W.cell? ⟨b + 1, 0, none⟩ = some v1 ∧ W.cell? ⟨b + 1 + 1, 0, none⟩ = some v2 ∧ Below w.heap.size w W ∧ b + 3 ≤ W.heap.size) :
    W'.cell? ⟨b, 0, none⟩ = some v0 ∧ W'.cell? ⟨b + 1, 0, none⟩ = some v1 ∧ W'.cell? ⟨b + 1 + 1, 0, none⟩ = some v2 ∧ Below w.heap.size w W' ∧ b + 3 ≤ W'.heap.size := by
  obtain ⟨h0, h1, h2, h3, h4⟩ := h
  have hs := hb.out.size
  exact ⟨(hb.out.cell (by simp; omega)).trans h0, (hb.out.cell (by simp; omega)).trans h1, (hb.out.cell (by simp; omega)).trans h2, h3.trans (hb.out.mono h3.size), by omega⟩
theorem start4 {w wa : World} {v0 v1 v2 : Value} {t : TypeId} (h : Hid (Below w.heap.size w wa)) :
    (((wa.alloc (.cells #[v0] t)).alloc (.cells #[v1] t)).alloc (.cells #[v2] t)).cell? ⟨wa.heap.size, 0, none⟩ = some v0 ∧
    (((wa.alloc (.cells #[v0] t)).alloc (.cells #[v1] t)).alloc (.cells #[v2] t)).cell? ⟨wa.heap.size + 1, 0, none⟩ = some v1 ∧
    (((wa.alloc (.cells #[v0] t)).alloc (.cells #[v1] t)).alloc (.cells #[v2] t)).cell? ⟨wa.heap.size + 1 + 1, 0, none⟩ = some v2 ∧
    Below w.heap.size w (((wa.alloc (.cells #[v0] t)).alloc (.cells #[v1] t)).alloc (.cells #[v2] t)) ∧ wa.heap.size + 3 ≤ (((wa.alloc (.cells #[v0] t)).alloc (.cells #[v1] t)).alloc (.cells #[v2] t)).heap.size := by
  have b1 : (wa.alloc (.cells #[v0] t)).heap[wa.heap.size]? = some (.cells #[v0] t (0, 0)) := heap_alloc_new wa _
  have b2 : ((wa.alloc (.cells #[v0] t)).alloc (.cells #[v1] t)).heap[wa.heap.size + 1]? = some (.cells #[v1] t (0, 0)) := by simpa using heap_alloc_new (wa.alloc (.cells #[v0] t)) (.cells #[v1] t)
  have b3 : (((wa.alloc (.cells #[v0] t)).alloc (.cells #[v1] t)).alloc (.cells #[v2] t)).heap[wa.heap.size + 1 + 1]? = some (.cells #[v2] t (0, 0)) := by simpa using heap_alloc_new ((wa.alloc (.cells #[v0] t)).alloc (.cells #[v1] t)) (.cells #[v2] t)
  have c1 : (((wa.alloc (.cells #[v0] t)).alloc (.cells #[v1] t)).alloc (.cells #[v2] t)).heap[wa.heap.size]? = some (.cells #[v0] t (0, 0)) :=
    (Below.heap_alloc _ _ _ (by simp; omega)).trans ((Below.heap_alloc _ _ _ (by simp)).trans b1)
  have c2 : (((wa.alloc (.cells #[v0] t)).alloc (.cells #[v1] t)).alloc (.cells #[v2] t)).heap[wa.heap.size + 1]? = some (.cells #[v1] t (0, 0)) := (Below.heap_alloc _ _ _ (by simp)).trans b2
  have hs := h.out.size
  exact ⟨(one_cell c1).1, (one_cell c2).1, (one_cell b3).1, ((h.out.alloc hs _).alloc (by simp; omega) _).alloc (by simp; omega) _, by simp⟩
theorem drew4 {w W : World} {b : Nat} {v0 v1 v2 : Value}
    (h : W.cell? ⟨b, 0, none⟩ = some v0 ∧ W.cell? ⟨b + 1, 0, none⟩ = some v1 ∧ W.cell? ⟨b + 1 + 1, 0, none⟩ = some v2 ∧ Below w.heap.size w W ∧ b + 3 ≤ W.heap.size) :
    W.drew.cell? ⟨b, 0, none⟩ = some v0 ∧ W.drew.cell? ⟨b + 1, 0, none⟩ = some v1 ∧ W.drew.cell? ⟨b + 1 + 1, 0, none⟩ = some v2 ∧ Below w.heap.size w W.drew ∧ b + 3 ≤ W.drew.heap.size :=
  ⟨h.1, h.2.1, h.2.2.1, h.2.2.2.1.drew, h.2.2.2.2⟩
theorem alloc4 {w W : World} {b : Nat} {v0 v1 v2 : Value} (o : Obj)
    (h : W.cell? ⟨b, 0, none⟩ = some v0 ∧ W.cell? ⟨b + 1, 0, none⟩ = some v1 ∧ W.cell? ⟨b + 1 + 1, 0, none⟩ = some v2 ∧ Below w.heap.size w W ∧ b + 3 ≤ W.heap.size) :
    (W.alloc o).cell? ⟨b, 0, none⟩ = some v0 ∧ (W.alloc o).cell? ⟨b + 1, 0, none⟩ = some v1 ∧ (W.alloc o).cell? ⟨b + 1 + 1, 0, none⟩ = some v2 ∧ Below w.heap.size w (W.alloc o) ∧ b + 3 ≤ (W.alloc o).heap.size := by
  have hb : Hid (Below W.heap.size W (W.alloc o)) := (Below.refl _ _).alloc (Nat.le_refl _) _
  exact keep4 hb h
theorem below4 {w W : World} {b : Nat} {v0 v1 v2 : Option Value} {a0 a1 a2 : Addr} (h : W.cell? a0 = v0 ∧ W.cell? a1 = v1 ∧ W.cell? a2 = v2 ∧ Below w.heap.size w W ∧ b ≤ W.heap.size) : Below w.heap.size w W := h.2.2.2.1
theorem cmpI_bd (a b : Nat) : -1 ≤ cmpI a b ∧ cmpI a b ≤ 1 := by
  rcases Nat.lt_trichotomy a b with h | h | h
  · rw [cmpI_lt h]; omega
  · rw [cmpI_eq h]; omega
  · rw [cmpI_gt h]; omega
theorem cmpI_le {a b : Nat} : cmpI a b ≤ 0 ↔ a ≤ b := by
  rcases Nat.lt_trichotomy a b with h | h | h
  · rw [cmpI_lt h]; omega
  · rw [cmpI_eq h]; omega
  · rw [cmpI_gt h]; omega
theorem cmpI_neg (a b : Nat) : cmpI a b = -cmpI b a := by
  rcases Nat.lt_trichotomy a b with h | h | h
  · rw [cmpI_lt h, cmpI_gt h]
  · rw [cmpI_eq h, cmpI_eq h.symm]; rfl
  · rw [cmpI_gt h, cmpI_lt h]; rfl
/-- A number that came in, in every later world. -/
def Later (w : World) (A : Option Addr) (l c m : Nat) : Prop := ∀ W, Below w.heap.size w W → Arg W W.heap.size A l c m
theorem later_of {w : World} {A : Option Addr} {l c : Nat} {z : List Nat} (h : l = z.length ∧ l ≤ c ∧ Rd U32 w w.heap.size A z ∧ Good32 z) (hl : l ≤ 100000) : Later w A l c (val W32 z) := fun _ hb =>
  ⟨z, h.1, h.2.1, hl, (h.2.2.1.below hb).more hb.size, h.2.2.2, rfl⟩
def IntPost (W : World) (v : Int) (e : Ending) (w' : World) : Prop := e = .returned (.int .i64 v) ∧ Hid (Below W.heap.size W w')
theorem cmp_later {w W : World} {A A' : Option Addr} {l l' c c' m m' : Nat} {v : Int} (h : Later w A l c m) (h' : Later w A' l' c' m') (hv : cmpI m m' = v) (hb : Below w.heap.size w W) :
    Calls Tryz.prog 131 #[.agg #[.slice A l c], .agg #[.slice A' l' c']] W (IntPost W v) := by
  subst hv
  exact (Cmp_any (h W hb) (h' W hb)).mono fun _ _ h => h
theorem sub_later {w W : World} {A A' : Option Addr} {l l' c c' m m' : Nat} {b : Bool} (h : Later w A l c m) (h' : Later w A' l' c' m') (hv : decide (m' ≤ m) = b) (hb : Below w.heap.size w W) :
    Calls Tryz.prog 148 #[.agg #[.slice A l c], .agg #[.slice A' l' c']] W fun e w' => ∃ A2 l2 c2, e = .returned (.tuple #[.agg #[.slice A2 l2 c2], .bool b]) ∧ Hid (Below W.heap.size W w') := by
  subst hv
  refine (Sub_any (h W hb) (h' W hb)).mono fun e w' h => ?_
  unfold SubPost at h
  split at h
  · rename_i hh
    obtain ⟨A2, c2, he, _, hb⟩ := h
    exact ⟨A2, _, c2, by rw [he, decide_eq_true hh], hb⟩
  · rename_i hh
    exact ⟨none, 0, 0, by rw [h.1, decide_eq_false hh], h.2⟩
theorem add_later {w W : World} {A A' : Option Addr} {l l' c c' m m' : Nat} (h : Later w A l c m) (h' : Later w A' l' c' m') (hb : Below w.heap.size w W) :
    Calls Tryz.prog 123 #[.agg #[.slice A l c], .agg #[.slice A' l' c']] W fun e w' => ∃ A2 c2, e = .returned (.agg #[.slice A2 (dl (m + m')) c2]) ∧ Hid (Can w' w'.heap.size A2 c2 (m + m')) ∧ Hid (Below W.heap.size W w') :=
  (Add_any (h W hb) (h' W hb)).mono fun _ _ h => h
theorem val_lt24 {z : List Nat} {l : Nat} (hg : Good32 z) (hl : l = z.length) (h : l ≤ 24) : val W32 z < W32 ^ 24 :=
  Nat.lt_of_lt_of_le (val_lt z hg) (Nat.pow_le_pow_right (by decide) (by omega))
end Go.Proofs.YteahcbeohopdlaaGreatDoor
end

section
/- Gcd of any two numbers. Conditions: less than 100000 words. -/
open Go.RowKit
set_option maxRecDepth 100000
namespace Go.Proofs.YteahcbeohopdlaaGreatDoor
/-- What a call leaves that returns a number, hidden. -/
def NumH2 (w : World) (v : Nat) (e : Ending) (w' : World) : Prop := ∃ A c, e = .returned (.agg #[.slice A (dl v) c]) ∧ Hid (Can w' w'.heap.size A c v) ∧ Hid (Below w.heap.size w w')
theorem gcd_step (X Y : Nat) : Nat.gcd Y (X % Y) = Nat.gcd X Y := by
  rw [Nat.gcd_comm X Y, Nat.gcd_rec Y X, Nat.gcd_comm]
theorem keep5 {w W W' : World} {b : Nat} {v0 v1 v2 : Value} (hb : Hid (Below W.heap.size W W'))
    (h : W.cell? ⟨b, 0, none⟩ = some v0 ∧ W.cell? ⟨b + 1, 0, none⟩ = some v1 ∧ W.cell? ⟨b + 1 + 1, 0, none⟩ = some v2 ∧ W.frozen? ⟨b + 1 + 1, 0, none⟩ = false ∧ Below w.heap.size w W ∧ b + 3 ≤ W.heap.size) :
    W'.cell? ⟨b, 0, none⟩ = some v0 ∧ W'.cell? ⟨b + 1, 0, none⟩ = some v1 ∧ W'.cell? ⟨b + 1 + 1, 0, none⟩ = some v2 ∧ W'.frozen? ⟨b + 1 + 1, 0, none⟩ = false ∧ Below w.heap.size w W' ∧ b + 3 ≤ W'.heap.size := by
  obtain ⟨h0, h1, h2, hf, h3, h4⟩ := h
  have hs := hb.out.size
  exact ⟨(hb.out.cell (by simp; omega)).trans h0, (hb.out.cell (by simp; omega)).trans h1, (hb.out.cell (by simp; omega)).trans h2, (hb.out.frozen (by simp; omega)).trans hf, h3.trans (hb.out.mono h3.size), by omega⟩
theorem start5 {w wa : World} {v0 v1 v2 : Value} {t : TypeId} (h : Hid (Below w.heap.size w wa)) :
    (((wa.alloc (.cells #[v0] t)).alloc (.cells #[v1] t)).alloc (.cells #[v2] t)).drew.cell? ⟨wa.heap.size, 0, none⟩ = some v0 ∧
    (((wa.alloc (.cells #[v0] t)).alloc (.cells #[v1] t)).alloc (.cells #[v2] t)).drew.cell? ⟨wa.heap.size + 1, 0, none⟩ = some v1 ∧
    (((wa.alloc (.cells #[v0] t)).alloc (.cells #[v1] t)).alloc (.cells #[v2] t)).drew.cell? ⟨wa.heap.size + 1 + 1, 0, none⟩ = some v2 ∧
    (((wa.alloc (.cells #[v0] t)).alloc (.cells #[v1] t)).alloc (.cells #[v2] t)).drew.frozen? ⟨wa.heap.size + 1 + 1, 0, none⟩ = false ∧
    Below w.heap.size w (((wa.alloc (.cells #[v0] t)).alloc (.cells #[v1] t)).alloc (.cells #[v2] t)).drew ∧ wa.heap.size + 3 ≤ (((wa.alloc (.cells #[v0] t)).alloc (.cells #[v1] t)).alloc (.cells #[v2] t)).drew.heap.size := by
  obtain ⟨a0, a1, a2, a3, a4⟩ := drew4 (start4 (v0 := v0) (v1 := v1) (v2 := v2) (t := t) h)
  have b3 : (((wa.alloc (.cells #[v0] t)).alloc (.cells #[v1] t)).alloc (.cells #[v2] t)).heap[wa.heap.size + 1 + 1]? = some (.cells #[v2] t (0, 0)) := by simpa using heap_alloc_new ((wa.alloc (.cells #[v0] t)).alloc (.cells #[v1] t)) (.cells #[v2] t)
  exact ⟨a0, a1, a2, (one_cell b3).2, a3, a4⟩
theorem below5 {w W : World} {b : Nat} {f : Prop} {v0 v1 v2 : Option Value} {a0 a1 a2 : Addr} (h : W.cell? a0 = v0 ∧ W.cell? a1 = v1 ∧ W.cell? a2 = v2 ∧ f ∧ Below w.heap.size w W ∧ b ≤ W.heap.size) : Below w.heap.size w W := h.2.2.2.2.1
theorem box3 (w : World) (o1 o2 : Obj) (v : Value) (t : TypeId) : ((w.alloc o1).alloc o2).alloc (.cells #[v] t) = ((((w.alloc o1).alloc o2).alloc (.cells #[v] t)).drewN 0) := rfl
set_option maxHeartbeats 4000000 in
theorem Gcd_any {A A' : Option Addr} {n n' c c' m m' : Nat} {w : World} (h : Arg w w.heap.size A n c m) (h' : Arg w w.heap.size A' n' c' m') (hl : dl m ≤ 99999) (hl' : dl m' ≤ 99999) :
    Calls Tryz.prog 92 #[.agg #[.slice A n c], .agg #[.slice A' n' c']] w (NumH2 w (Nat.gcd m m')) := by
  have H : Hid (∀ W, Below w.heap.size w W → Arg W W.heap.size A n c m) := fun W hb => (h.below hb).more hb.size
  have H' : Hid (∀ W, Below w.heap.size w W → Arg W W.heap.size A' n' c' m') := fun W hb => (h'.below hb).more hb.size
  have CF : Hid (∀ W, Below w.heap.size w W → Calls Tryz.prog 142 #[.slice A (dl m) c] W (NewCan W m)) := fun W hb => fresh_can (H.out W hb).digs.1.2 (by omega)
  have CF' : Hid (∀ W, Below w.heap.size w W → Calls Tryz.prog 142 #[.slice A' (dl m') c'] W (NewCan W m')) := fun W hb => fresh_can (H'.out W hb).digs.1.2 (by omega)
  have HL := hide hl
  have HL' := hide hl'
  clear h h' hl hl'
  go_enter Tryz.func92, Tryz.ntmps92
  go_wp2_with fail
  have HR0 : Hid (Below w.heap.size w w) := Below.refl _ _
  go_region_held3 (fun w' => w'.cell? ⟨w.heap.size, 0, none⟩ = some (.slice A n c) ∧ w'.cell? ⟨w.heap.size + 1, 0, none⟩ = some (.slice A' n' c') ∧ w'.cell? ⟨w.heap.size + 1 + 1, 0, none⟩ = some (.slice none 0 0) ∧ w'.frozen? ⟨w.heap.size + 1 + 1, 0, none⟩ = false ∧ Below w.heap.size w w' ∧ w.heap.size + 3 ≤ w'.heap.size)
    (first | exact start5 HR0 | exact keep5 hbk (by assumption) | assumption)
    (first | (go_at_call 80; (with_reducible refine (trim_arg (H.out _ (below5 (by assumption)))).mono ?_); rintro e w' ⟨rfl, rfl⟩) | (go_at_call 80; (with_reducible refine (trim_arg (H'.out _ (below5 (by assumption)))).mono ?_); rintro e w' ⟨rfl, rfl⟩) | (go_at_call 142; (with_reducible refine (CF.out _ (below5 (by assumption))).mono ?_); rintro e w1 ⟨g1, rfl, hg1, hb1, hbk⟩) | (go_at_call 142; (with_reducible refine (CF'.out _ (below5 (by assumption))).mono ?_); rintro e w2 ⟨g2, rfl, hg2, hb2, hbk⟩; have hb1 := hide (hb1.out.below hbk.out hb1.out.lt)))
  have hS := ‹w2.cell? ⟨w.heap.size, 0, none⟩ = some (.slice A n c) ∧ _›
  have HS := hide hS
  have HC1 := hide (can_own hb1.out (show dl m = (digs W32 m).length from rfl) (good_digs m) (Nat.le_refl _) (val_digs32 m))
  have HC2 := hide (can_own hb2.out (show dl m' = (digs W32 m').length from rfl) (good_digs m') (Nat.le_refl _) (val_digs32 m'))
  clear hS hbk hb1 hb2 hg1 hg2
  go_wp2_with fail
  have HG2 : Hid (w.heap.size + 3 ≤ w2.heap.size) := HS.out.2.2.2.2.2
  go_loopg [5, 6] m' (fun K xv yv wr => ∃ (X Y : Nat) (A1 A2 : Option Addr) (c1 c2 : Nat), Hid (Y ≤ K) ∧ xv = .slice A1 (dl X) c1 ∧ yv = .slice A2 (dl Y) c2 ∧ Hid (Can wr wr.heap.size A1 c1 X) ∧ Hid (Can wr wr.heap.size A2 c2 Y) ∧ Hid (Nat.gcd X Y = Nat.gcd m m') ∧ Hid (dl X ≤ 99999 ∧ dl Y ≤ 99999) ∧ Hid (Below (w.heap.size + 3) w2 wr))
  case atStart => exact ⟨m, m', _, _, _, _, Nat.le_refl _, rfl, rfl, HC1, HC2, rfl, ⟨HL.out, HL'.out⟩, Below.refl _ _⟩
  case round =>
    obtain ⟨X, Y, A1, A2, c1, c2, hK, rfl, rfl, hX, hY, hg, hd, hbl⟩ := hrel
    have hcr : wr.cell? ⟨w.heap.size + 1 + 1, 0, none⟩ = some (.slice none 0 0) := (hbl.out.cell (by show w.heap.size + 1 + 1 < _; omega)).trans HS.out.2.2.1
    have hfr : wr.frozen? ⟨w.heap.size + 1 + 1, 0, none⟩ = false := (hbl.out.frozen (by show w.heap.size + 1 + 1 < _; omega)).trans HS.out.2.2.2.1
    by_cases h0 : Y = 0
    · have hy0 : dl Y = 0 := by rw [h0]; exact dl0
      have HG : Hid (Nat.gcd m m' = X) := by unfold Hid; rw [← hg.out, h0, Nat.gcd_zero_right]
      clear h0
      go_wp2_with fail
      refine bodyPost_ret (v := .agg #[.slice A1 (dl X) c1]) (by simp [results, Tryz.results92, go_sem, hcr]) rfl ?_
      refine ⟨A1, c1, by rw [HG.out], ?_, ((below5 HS.out).trans (hbl.out.mono (by omega))).setCell (by simp; omega) _⟩
      rw [HG.out]
      refine ⟨hX.out.1, ?_⟩
      have h1 := Rd.setBox hX.out.2 hcr (.slice A1 (dl X) c1)
      simpa [World.setCell] using h1
    · have hy0 : 0 < dl Y := by
        rcases Nat.eq_zero_or_pos (dl Y) with h | h
        · exact absurd (dl_zero h) h0
        · exact h
      have CD : Hid (Calls Tryz.prog 115 #[.agg #[.slice A1 (dl X) c1], .agg #[.slice A2 (dl Y) c2]] wr (DivPost wr X Y)) := by
        have h1 := hd.out
        exact Div_any (hX.out.arg (by omega)) (hY.out.arg (by omega)) (by omega) h1.1
      have H0 := hide h0
      clear h0
      go_wp2_with (go_at_call 115; (with_reducible refine CD.out.mono ?_); rintro e w4 ⟨A3, c3, A4, c4, rfl, hq, hr, hb4⟩)
      go_quiet (fail)
      go_wp2
      go_roundg (X % Y)
      case measure => exact Nat.lt_of_lt_of_le (Nat.mod_lt _ (Nat.pos_of_ne_zero H0.out)) hK.out
      case rel =>
        have hbs : Below w4.heap.size w4 ((w4.alloc (.cells #[.slice A3 (dl (X / Y)) c3] 25)).alloc (.cells #[.slice A4 (dl (X % Y)) c4] 25)) := ((Below.refl _ _).alloc (Nat.le_refl _) _).alloc (by simp) _
        refine ⟨Y, X % Y, A2, A4, c2, c4, Nat.le_refl _, rfl, rfl, ?_, ?_, ?_, ⟨hd.out.2, Nat.le_trans (digs_len_mono (by decide) (Nat.mod_le _ _)) hd.out.1⟩, ?_⟩
        · exact (((hY.out.below hb4.out).more hb4.out.size).below hbs).more hbs.size
        · exact (hr.out.below hbs).more hbs.size
        · unfold Hid; rw [gcd_step]; exact hg.out
        · exact below_drewN (hbl.out.trans ((hb4.out.trans (hbs.mono hb4.out.size)).mono (Nat.le_trans HG2.out hbl.out.size))) _
end Go.Proofs.YteahcbeohopdlaaGreatDoor
end
