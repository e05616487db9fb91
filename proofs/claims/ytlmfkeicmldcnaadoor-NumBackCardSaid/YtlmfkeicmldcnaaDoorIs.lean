/- is, awake: the statements' own helpers. Conditions: fewer than 4000 words. -/
import Derived.Test.YtlmfkeicmldcnaaDoorRfd
import Derived.Test.YtlmfkeicmldcnaaDoorSml
import Derived.Test.YtlmfkeicmldcnaaDoorPar
import Derived.Test.YtlmfkeicmldcnaaDoorTxt
open Go.RowKit
set_option maxRecDepth 100000
namespace Go.Proofs.YtlmfkeicmldcnaaDoor
theorem goodB_digs (m : Nat) : goodB (digs W32 m) = true := by
  unfold goodB
  rw [bne_iff_ne]
  intro h
  exact digs_last (b := W32) (by decide) m 0 h rfl
theorem cmpI_beq (m n : Nat) : (cmpI m n == 0) = decide (m = n) := by
  rcases Nat.lt_trichotomy m n with h | h | h
  · rw [cmpI_lt h, decide_eq_false (by omega)]; rfl
  · rw [cmpI_eq h, decide_eq_true h]; rfl
  · rw [cmpI_gt h, decide_eq_false (by omega)]; rfl
/-- Is a number, told just, the document's own? -/
theorem is_any {A A' : Option Addr} {c c' m n : Nat} {w : World} (h : Can w w.heap.size A c m) (h' : RN w w.heap.size A' c' n) (hl : dl m < 4000) (hq : dq n ≤ 100000) :
    Calls Tryd.prog 20 #[.agg #[.slice A (dl m) c], .slice A' (dq n) c'] w fun e w' => e = .returned (.bool (decide (m = n))) ∧ Below w.heap.size w w' := by
  have HX : Hid (∀ o, Rd U32 (w.alloc o) (w.alloc o).heap.size A (digs W32 m)) := fun o => ((h.below ((Below.refl _ _).alloc (Nat.le_refl _) _)).more (by simp)).2
  have HY : Hid (∀ o, RN (w.alloc o) (w.alloc o).heap.size A' c' n) := fun o => (h'.below ((Below.refl _ _).alloc (Nat.le_refl _) _)).more (by simp)
  have HA : Hid (∀ o, Below w.heap.size w (w.alloc o)) := fun o => (Below.refl _ _).alloc (Nat.le_refl _) _
  have hqm : Hid (dq m ≤ 100000) := by have := dq_words (lt_pow_digs (b := W32) (by decide) m); unfold dl at hl; unfold Hid; omega
  have HG := hide (goodB_digs m)
  have hl2 : dl m ≤ 4000 := by omega
  have CW : Hid (∀ o W, Hid (Below (w.alloc o).heap.size (w.alloc o) W) → Calls Tryd.prog 27 #[.slice A (dl m) c] W (RefPost W m)) := fun o W hb => by
    have h1 := Words_any (c := c) (show dl m = (digs W32 m).length from rfl) (((HX.out o).below hb.out).more hb.out.size) (good_digs m) hl2
    rw [val_digs32] at h1
    exact h1
  clear h h'
  go_enter Tryd.func20, Tryd.ntmps20
  go_wp2_with (first | (go_at_call 22; go_must (refine (Good_any (show dl m = (digs W32 m).length from rfl) (HX.out _) (by omega)).mono ?_); rintro e w1 ⟨rfl, hb1⟩; have HB1 := hide hb1; have hg1 := HG.out; have hc1 : w1.cell? ⟨w.heap.size, 0, none⟩ = some (.slice A (dl m) c) := (hb1.cell (by simp)).trans (one_cell (heap_alloc_new w _)).1; clear hb1) | (go_at_call 27; go_must (refine (CW.out _ _ HB1).mono ?_); rintro e w2 ⟨A2, c2, rfl, hr2, hb2⟩) | (go_at_call 28; go_must (refine (rCmp_any hr2.out (((HY.out _).below HB1.out).below (hb2.out.mono HB1.out.size) |>.more (Nat.le_trans HB1.out.size hb2.out.size)) (Nat.le_trans hqm.out (by omega)) (by omega)).mono ?_); rintro e w3 ⟨rfl, q, rfl⟩))
  go_ret
  refine ⟨bool_ret ?_, below_drewN (((HA.out _).trans (HB1.out.mono (by simp))).trans (hb2.out.mono (Nat.le_trans (by simp) HB1.out.size))) q⟩
  exact cmpI_beq m n
theorem chain {w a b : World} (h : Hid (Below w.heap.size w a)) (hb : Below a.heap.size a b) : Hid (Below w.heap.size w b) := h.out.trans (hb.mono h.out.size)
def two32 : Nat := 4294967296
theorem digs_two32 : digs W32 two32 = [0, 1] := by
  have h := digs_val (b := W32) (by decide) [0, 1] (by intro x hx; simp at hx; rcases hx with rfl | rfl <;> decide) (by intro x hx; simp at hx; subst hx; decide)
  exact h
theorem dl_two32 : dl two32 = 2 := by unfold dl; rw [digs_two32]; rfl
theorem decL_two32 : decL two32 = [52, 50, 57, 52, 57, 54, 55, 50, 57, 54] := by
  have h := digs_val (b := 10) (by decide) [6, 9, 2, 7, 6, 9, 4, 9, 2, 4] (by intro x hx; simp at hx; rcases hx with rfl | rfl | rfl | rfl | rfl | rfl | rfl | rfl | rfl | rfl <;> decide) (by intro x hx; simp at hx; subst hx; decide)
  unfold decL
  rw [if_neg (by decide), show two32 = val 10 [6, 9, 2, 7, 6, 9, 4, 9, 2, 4] from rfl, h]
  rfl
def AwParse (w : World) (e : Ending) (w' : World) : Prop := ∃ ad c, e = .returned (.tuple #[.agg #[.slice (some ad) 2 c], .bool true]) ∧ Hid (Can w' w'.heap.size (some ad) c two32) ∧ Below w.heap.size w w'
theorem aw_parse (w : World) : Calls Tryd.prog 18 #[.string ⟨#[52, 50, 57, 52, 57, 54, 55, 50, 57, 54]⟩] w (AwParse w) := by
  refine (Parse_any ⟨#[52, 50, 57, 52, 57, 54, 55, 50, 57, 54]⟩ w (by decide)).mono fun e w' h => ?_
  unfold ParsePost at h
  rw [if_pos (by decide)] at h
  obtain ⟨A, c, rfl, hc, hb⟩ := h
  have e1 : numL ((⟨#[52, 50, 57, 52, 57, 54, 55, 50, 57, 54]⟩ : ByteArray).data.toList) = two32 := by decide
  rw [e1] at hc ⊢
  have h2 := hc.2
  rw [digs_two32] at h2
  obtain ⟨ad, rfl, _⟩ := h2 (by simp)
  exact ⟨ad, c, by rw [dl_two32], hc, hb⟩
theorem aw_cells {w : World} {B c : Nat} {ad : Addr} (h : Can w B (some ad) c two32) : w.cell? ad = some (.int .u32 0) ∧ w.cell? ⟨ad.block, ad.off + 1, none⟩ = some (.int .u32 1) := by
  have h2 := h.2
  rw [digs_two32] at h2
  obtain ⟨ad', e, _, hc⟩ := h2 (by simp)
  cases e
  exact ⟨hc 0 0 rfl, hc 1 1 rfl⟩
theorem aw_text {w : World} {c : Nat} {ad : Addr} (h : Can w w.heap.size (some ad) c two32) : Calls Tryd.prog 19 #[.agg #[.slice (some ad) 2 c]] w fun e w' => e = .returned (.string ⟨#[52, 50, 57, 52, 57, 54, 55, 50, 57, 54]⟩) ∧ Below w.heap.size w w' := by
  have h1 := Text_any (h.arg (by rw [dl_two32]; decide))
  rw [dl_two32] at h1
  refine h1.mono fun e w' ⟨t, he, ht, hb⟩ => ⟨?_, hb⟩
  rw [he, str_ret]
  obtain ⟨⟨l⟩⟩ := t
  rw [decL_two32] at ht
  have ht : l = [52, 50, 57, 52, 57, 54, 55, 50, 57, 54] := ht
  subst ht; rfl
theorem aw_good {w : World} {c : Nat} {ad : Addr} (h : Can w w.heap.size (some ad) c two32) : Calls Tryd.prog 22 #[.agg #[.slice (some ad) 2 c]] w fun e w' => e = .returned (.bool true) ∧ Below w.heap.size w w' := by
  have h1 := Good_any (c := c) (n := 2) (show 2 = (digs W32 two32).length by rw [digs_two32]; rfl) h.2 (by decide)
  refine h1.mono fun e w' ⟨he, hb⟩ => ⟨?_, hb⟩
  rw [he, goodB_digs]
def AwNum (w : World) (v : Nat) (e : Ending) (w' : World) : Prop := ∃ A c, e = .returned (.agg #[.slice A (dl v) c]) ∧ Hid (Can w' w'.heap.size A c v) ∧ Below w.heap.size w w'
def n16 : Nat := 65536
theorem dl_n16 : dl n16 ≤ 100000 := by
  have h : dl n16 ≤ 1 := dl_le (by decide)
  omega
theorem aw_of (w : World) : Calls Tryd.prog 14 #[.int .u64 65536] w (AwNum w n16) := (Of_any (n := n16) (w := w) (by decide)).mono fun _ _ h => h
theorem aw_mul {w : World} {A A' : Option Addr} {c c' : Nat} (h : Can w w.heap.size A c n16) (h' : Can w w.heap.size A' c' n16) : Calls Tryd.prog 33 #[.agg #[.slice A (dl n16) c], .agg #[.slice A' (dl n16) c']] w (AwNum w two32) :=
  (Mul_any (h.arg dl_n16) (h'.arg dl_n16)).mono fun _ _ h => h
theorem aw_small (w : World) : Calls Tryd.prog 21 #[.int .u64 4294967296] w (RefPost w two32) := Small_any (n := two32) (w := w) (by decide)
theorem aw_is {w : World} {A A' : Option Addr} {c c' : Nat} (h : Can w w.heap.size A c two32) (h' : RN w w.heap.size A' c' two32) : Calls Tryd.prog 20 #[.agg #[.slice A (dl two32) c], .slice A' (dq two32) c'] w fun e w' => e = .returned (.bool true) ∧ Below w.heap.size w w' :=
  (is_any h h' (by rw [dl_two32]; decide) (Nat.le_trans (dq_u64 (by decide)) (by decide))).mono fun _ _ ⟨he, hb⟩ => ⟨by rw [he, decide_eq_true rfl], hb⟩
/-- What the document tells of two to thirty-two: it holds. -/
theorem awake_any (w : World) : Calls Tryd.prog 13 #[] w fun e w' => e = .returned (.bool true) ∧ Below w.heap.size w w' := by
  have mk1 : Hid True := trivial
  go_enter Tryd.func13, Tryd.ntmps13
  go_wp2_with (first | (go_at_call 18; go_must (refine (aw_parse _).mono ?_); rintro e w1 ⟨ad, c, rfl, hc1, hb1⟩; have HB1 : Hid (Below w.heap.size w w1) := hb1; have hc2 : Hid (Can (w1.alloc (.cells #[.slice (some ad) 2 c] 25)) (w1.alloc (.cells #[.slice (some ad) 2 c] 25)).heap.size (some ad) c two32) := (hc1.out.below ((Below.refl _ _).alloc (Nat.le_refl _) _)).more (by simp); have ha0 := (aw_cells hc2.out).1; have ha1 := (aw_cells hc2.out).2; clear hb1) | (go_at_call 19; go_must (refine (aw_text hc2.out).mono ?_); rintro e w2 ⟨rfl, hb2⟩; have HB2 := chain (HB1.out.alloc HB1.out.size _) hb2; have hx2 : w2.cell? ⟨w1.heap.size, 0, none⟩ = some (.slice (some ad) 2 c) := (hb2.cell (by simp)).trans (one_cell (heap_alloc_new w1 _)).1; have hc3 := hide ((hc2.out.below hb2).more hb2.size); clear hb2) | (go_at_call 22; go_must (refine (aw_good hc3.out).mono ?_); rintro e w3 ⟨rfl, hb3⟩; have HB3 := chain HB2 hb3; clear hb3) | (go_at_call 14; clear mk1; refine (aw_of _).mono ?_; rintro e w4 ⟨A4, c4, rfl, hc4, hb4⟩; have HB4 := chain HB3 hb4; clear hb4) | (go_at_call 14; refine (aw_of _).mono ?_; rintro e w5 ⟨A5, c5, rfl, hc5, hb5⟩; have HB5 := chain HB4 hb5; have hc6 := hide ((hc4.out.below hb5).more hb5.size); clear hb5) | (go_at_call 33; go_must (refine (aw_mul hc6.out hc5.out).mono ?_); rintro e w6 ⟨A6, c6, rfl, hc7, hb6⟩; have HB6 := chain HB5 hb6; clear hb6) | (go_at_call 21; go_must (refine (aw_small _).mono ?_); rintro e w7 ⟨A7, c7, rfl, hr7, hb7⟩; have HB7 := chain HB6 hb7.out; have hc8 := hide ((hc7.out.below hb7.out).more hb7.out.size)) | (go_at_call 20; go_must (refine (aw_is hc8.out hr7.out).mono ?_); rintro e w8 ⟨rfl, hb8⟩; have HB8 := chain HB7 hb8; clear hb8))
  go_ret
  exact ⟨rfl, HB8.out⟩
end Go.Proofs.YtlmfkeicmldcnaaDoor
