/- Several texts in one, each with its own sentence and conditions. -/
import Derived.Test.YteieelgdiccppabDoorGWdc6
import Derived.Test.YteieelgdiccppabDoorGWdc1
import Derived.Deep.AppendLies
import Derived.Deep.LoopGhost
import Derived.Deep.RegionHeld3
import Derived.WalkSpells
import Derived.Lib.Strings
section
/- Div by a number of at most one word. Conditions: at most 100000 words. -/
open Go.RowKit
set_option maxRecDepth 100000
namespace Go.Proofs.YteieelgdiccppabDoor
theorem pre4 (w : World) (o1 o2 : Obj) (v u : Value) (t : TypeId) (k : Nat) :
    Below w.heap.size w (((((w.alloc o1).alloc o2).alloc (.cells #[v] t)).alloc (.cells #[u] t)).drewN k) ∧ (((((w.alloc o1).alloc o2).alloc (.cells #[v] t)).alloc (.cells #[u] t)).drewN k).heap.size = w.heap.size + 4 ∧
    (((((w.alloc o1).alloc o2).alloc (.cells #[v] t)).alloc (.cells #[u] t)).drewN k).heap[w.heap.size + 2]? = some (.cells #[v] t (0, 0)) ∧
    (((((w.alloc o1).alloc o2).alloc (.cells #[v] t)).alloc (.cells #[u] t)).drewN k).heap[w.heap.size + 3]? = some (.cells #[u] t (0, 0)) := by
  obtain ⟨p1, p2, p3⟩ := pre3 w o1 o2 v t 0
  refine ⟨below_drewN (((((Below.refl _ _).alloc (Nat.le_refl _) _).alloc (by simp) _).alloc (by simp; omega) _).alloc (by simp; omega) _) k, by simp, ?_, ?_⟩
  · exact (Below.heap_alloc _ _ _ (by simp)).trans p3
  · have := heap_alloc_new (((w.alloc o1).alloc o2).alloc (.cells #[v] t)) (.cells #[u] t)
    simpa using this
theorem dl0 : dl 0 = 0 := by unfold dl; rw [digs_zero]; rfl
theorem after4 {w w1 : World} {o1 o2 : Obj} {v u : Value} {t : TypeId} {k : Nat} (h : Below (((((w.alloc o1).alloc o2).alloc (.cells #[v] t)).alloc (.cells #[u] t)).drewN k).heap.size (((((w.alloc o1).alloc o2).alloc (.cells #[v] t)).alloc (.cells #[u] t)).drewN k) w1) :
    Below w.heap.size w w1 ∧ w1.heap[w.heap.size + 2]? = some (.cells #[v] t (0, 0)) ∧ w1.heap[w.heap.size + 3]? = some (.cells #[u] t (0, 0)) ∧ w.heap.size + 4 ≤ w1.heap.size := by
  obtain ⟨p1, p2, p3, p4⟩ := pre4 w o1 o2 v u t k
  exact ⟨p1.trans (h.mono p1.size), (h.block _ (by omega)).trans p3, (h.block _ (by omega)).trans p4, by have := h.size; omega⟩
/-- What Div leaves where b isn't 0. -/
def DivPost (w : World) (m n : Nat) (e : Ending) (w' : World) : Prop :=
  ∃ A c A' c', e = .returned (.tuple #[.agg #[.slice A (dl (m / n)) c], .agg #[.slice A' (dl (m % n)) c'], .bool true]) ∧ Hid (Can w' w'.heap.size A c (m / n)) ∧ Hid (Can w' w'.heap.size A' c' (m % n)) ∧ Hid (Below w.heap.size w w')
def DivNone (w : World) (e : Ending) (w' : World) : Prop := e = .returned (.tuple #[.agg #[.slice none 0 0], .agg #[.slice none 0 0], .bool false]) ∧ Hid (Below w.heap.size w w')
set_option maxHeartbeats 2000000 in
theorem Div_zero {A A' : Option Addr} {n n' c c' m m' : Nat} {w : World} (h : Arg w w.heap.size A n c m) (h' : Arg w w.heap.size A' n' c' m') (h0 : m' = 0) :
    Calls Tryd.prog 11 #[.agg #[.slice A n c], .agg #[.slice A' n' c']] w (DivNone w) := by
  have H : Hid (∀ o1 o2 v u t k, Arg (((((w.alloc o1).alloc o2).alloc (.cells #[v] t)).alloc (.cells #[u] t)).drewN k) w.heap.size A n c m) := fun o1 o2 v u t k => h.below (pre4 w o1 o2 v u t k).1
  have H' : Hid (∀ o1 o2 v u t k, Arg (((((w.alloc o1).alloc o2).alloc (.cells #[v] t)).alloc (.cells #[u] t)).drewN k) w.heap.size A' n' c' m') := fun o1 o2 v u t k => h'.below (pre4 w o1 o2 v u t k).1
  have hd : dl m' = 0 := by rw [h0]; unfold dl; rw [digs_zero]; rfl
  clear h h' h0
  go_enter Tryd.func11, Tryd.ntmps11
  go_wp2_with fail
  go_quiet ((go_at_call 22; first | exact quiet_left (trim_arg (H.out _ _ _ _ _ _)) | exact quiet_left (trim_arg (H'.out _ _ _ _ _ _))))
  go_wp2
  refine bodyPost_ret (v := .tuple #[.agg #[.slice none 0 0], .agg #[.slice none 0 0], .bool false]) (by simp [results, Tryd.results11, go_sem]) rfl ?_
  refine ⟨rfl, ?_⟩
  exact ((pre4 w _ _ _ _ _ _).1.setCell (by simp; omega) _).setCell (by simp; omega) _
set_option maxHeartbeats 2000000 in
theorem Div_less {A A' : Option Addr} {n n' c c' m m' : Nat} {w : World} (h : Arg w w.heap.size A n c m) (h' : Arg w w.heap.size A' n' c' m') (h0 : m < m') :
    Calls Tryd.prog 11 #[.agg #[.slice A n c], .agg #[.slice A' n' c']] w (DivPost w m m') := by
  have H : Hid (∀ o1 o2 v u t k, Arg (((((w.alloc o1).alloc o2).alloc (.cells #[v] t)).alloc (.cells #[u] t)).drewN k) w.heap.size A n c m) := fun o1 o2 v u t k => h.below (pre4 w o1 o2 v u t k).1
  have H' : Hid (∀ o1 o2 v u t k, Arg (((((w.alloc o1).alloc o2).alloc (.cells #[v] t)).alloc (.cells #[u] t)).drewN k) w.heap.size A' n' c' m') := fun o1 o2 v u t k => h'.below (pre4 w o1 o2 v u t k).1
  have hl : dl m ≤ 100000 := by have := h.digs.2; obtain ⟨_, _, _, h3, _⟩ := h; omega
  have hl' : dl m' ≤ 100000 := by have := h'.digs.2; obtain ⟨_, _, _, h3, _⟩ := h'; omega
  have hd : 0 < dl m' := by
    rcases Nat.eq_zero_or_pos (dl m') with h1 | h1
    · have := dl_zero h1; omega
    · exact h1
  have hdz : (((dl m' : Nat) : Int) == 0) = false := by rw [beq_eq_false_iff_ne]; omega
  have hcm : cmpI m m' < 0 := by rw [cmpI_lt h0]; omega
  have HX := hide h.digs.1
  have HLT := hide h0
  clear h h' h0
  go_enter Tryd.func11, Tryd.ntmps11
  go_wp2_with fail
  go_quiet ((go_at_call 22; first | exact quiet_left (trim_arg (H.out _ _ _ _ _ _)) | exact quiet_left (trim_arg (H'.out _ _ _ _ _ _))))
  go_wp2_with (first | (go_at_call 26; go_must (refine (compare_can (H.out _ _ _ _ _ _).digs.1 (H'.out _ _ _ _ _ _).digs.1 hl hl').mono ?_); rintro e w' ⟨rfl, q, rfl⟩) | (go_at_call 27; go_must (refine (fresh_can ((HX.out.below (pre4 w _ _ _ _ _ _).1).more (pre4 w _ _ _ _ _ _).1.size).2 (by omega)).mono ?_); rintro e w1 ⟨g, rfl, HGE, HBLK, HBEL⟩; obtain ⟨hw1, hq2, hq3, hsz⟩ := after4 HBEL.out; have HW1 := hide hw1; have r2 := (one_cell hq2).1; have f2 := (one_cell hq2).2; have r3 := (one_cell hq3).1; have f3 := (one_cell hq3).2; have HGB := hide (Nat.le_trans (Nat.le_of_eq (pre4 w _ _ _ _ _ _).2.1.symm) HGE.out); clear hq2 hq3 hw1 HGE HBEL))
  refine bodyPost_ret (v := .tuple #[.agg #[.slice none 0 0], .agg #[.slice (some ⟨g, 0, none⟩) (dl m) (dl m)], .bool true]) (by simp [results, Tryd.results11, go_sem, r2, r3]) rfl ?_
  have hgb := HGB.out
  refine ⟨none, 0, some ⟨g, 0, none⟩, dl m, by rw [Nat.div_eq_of_lt HLT.out, Nat.mod_eq_of_lt HLT.out, dl0], ?_, ?_, (HW1.out.setCell (by simp; omega) _).setCell (by simp; omega) _⟩
  · rw [Nat.div_eq_of_lt HLT.out]
    exact ⟨by rw [dl0]; exact Nat.le_refl _, by rw [digs_zero]; exact Rd.nil⟩
  · rw [Nat.mod_eq_of_lt HLT.out]
    exact can_own ((HBLK.out.far (p := ⟨w.heap.size + 1 + 1, 0, none⟩) (by simp; omega) _).far (p := ⟨w.heap.size + 1 + 1 + 1, 0, none⟩) (by simp; omega) _) (show dl m = (digs W32 m).length from rfl) (good_digs m) (Nat.le_refl _) (val_digs32 m)
theorem Rd.setBox {w : World} {B : Nat} {A : Option Addr} {xs : List Nat} (h : Rd U32 w B A xs) {p : Addr} {a : Option Addr} {l c : Nat} (hc : w.cell? p = some (.slice a l c)) (u : Value) : Rd U32 (w.setCell p u) B A xs := fun hn => by
  obtain ⟨ad, e, hb, hx⟩ := h hn
  refine ⟨ad, e, hb, fun j x hj => ?_⟩
  have h1 := hx j x hj
  rw [World.cell?_setCell_other w p _ u (by intro e; rw [← e, hc] at h1; cases h1)]
  exact h1
theorem div_parts {w : World} {g m d rest : Nat} {q : List Nat} {w2 : World} (_h : Hid (Blk U32 53 w g (digs W32 m))) (_hq1 : Hid (q.length = dl m)) (hq3 : Hid (val W32 ((digs W32 m).take (dl m)) = val W32 q * d + rest)) (hq4 : Hid (Blk U32 53 w2 g (q ++ (digs W32 m).drop (dl m)))) (hr : rest < d) :
    Hid (Blk U32 53 w2 g q) ∧ Hid (val W32 q = m / d) ∧ Hid (rest = m % d) := by
  have h1 := hq3.out
  rw [List.take_of_length_le (show (digs W32 m).length ≤ dl m from Nat.le_refl _), val_digs32] at h1
  have h2 := hq4.out
  rw [List.drop_of_length_le (show (digs W32 m).length ≤ dl m from Nat.le_refl _), List.append_nil] at h2
  refine ⟨h2, ?_, ?_⟩
  · unfold Hid
    rw [h1, Nat.mul_comm, Nat.mul_add_div (by omega), Nat.div_eq_of_lt hr, Nat.add_zero]
  · unfold Hid
    rw [h1, Nat.mul_comm, Nat.mul_add_mod, Nat.mod_eq_of_lt hr]
set_option maxHeartbeats 2000000 in
theorem Div_one {A A' : Option Addr} {n n' c c' m m' : Nat} {w : World} (h : Arg w w.heap.size A n c m) (h' : Arg w w.heap.size A' n' c' m') (h0 : m' ≤ m) (h1 : dl m' = 1) :
    Calls Tryd.prog 11 #[.agg #[.slice A n c], .agg #[.slice A' n' c']] w (DivPost w m m') := by
  have H : Hid (∀ o1 o2 v u t k, Arg (((((w.alloc o1).alloc o2).alloc (.cells #[v] t)).alloc (.cells #[u] t)).drewN k) w.heap.size A n c m) := fun o1 o2 v u t k => h.below (pre4 w o1 o2 v u t k).1
  have H' : Hid (∀ o1 o2 v u t k, Arg (((((w.alloc o1).alloc o2).alloc (.cells #[v] t)).alloc (.cells #[u] t)).drewN k) w.heap.size A' n' c' m') := fun o1 o2 v u t k => h'.below (pre4 w o1 o2 v u t k).1
  have hl : dl m ≤ 100000 := by have := h.digs.2; obtain ⟨_, _, _, h3, _⟩ := h; omega
  have hcm : ¬ cmpI m m' < 0 := by unfold cmpI; rw [if_neg (by omega)]; split <;> omega
  obtain ⟨hdg, hmw⟩ := digs_one h1
  have hm9 : m' ≤ 4294967295 := word_le hmw
  have hm0 : 1 ≤ m' := by
    rcases Nat.eq_zero_or_pos m' with rfl | h2
    · rw [dl0] at h1; omega
    · exact h2
  have HX := hide h.digs.1
  have hy2 := h'.digs.1.2
  rw [hdg] at hy2
  obtain ⟨ad, rfl, hab, hca⟩ := hy2.at_ (k := 0) (by simp)
  replace hca : w.cell? ad = some (.int .u32 (m' : Int)) := hca
  replace hab : ad.block < w.heap.size := hab
  have HH1 := hide h1
  have HDL := hide (show dl m' ≤ 100000 by omega)
  have HCA := hide hca
  have HAB := hide hab
  have T' : Hid (∀ o1 o2 v u t k, Calls Tryd.prog 22 #[.slice (some ad) n' c'] (((((w.alloc o1).alloc o2).alloc (.cells #[v] t)).alloc (.cells #[u] t)).drewN k) fun e w' => e = .returned (.slice (some ad) 1 c') ∧ (((((w.alloc o1).alloc o2).alloc (.cells #[v] t)).alloc (.cells #[u] t)).drewN k) = w') := fun o1 o2 v u t k => by
    have h5 := trim_arg (H'.out o1 o2 v u t k)
    rw [h1] at h5
    exact h5
  have CC : Hid (∀ o1 o2 v u t k, Calls Tryd.prog 26 #[.slice A (dl m) c, .slice (some ad) 1 c'] (((((w.alloc o1).alloc o2).alloc (.cells #[v] t)).alloc (.cells #[u] t)).drewN k) fun e w' => e = .returned (.int .i64 (cmpI m m')) ∧ ∃ q, w' = (((((w.alloc o1).alloc o2).alloc (.cells #[v] t)).alloc (.cells #[u] t)).drewN k).drewN q) := fun o1 o2 v u t k => by
    have h5 := compare_can (H.out o1 o2 v u t k).digs.1 (H'.out o1 o2 v u t k).digs.1 hl HDL.out
    rw [h1] at h5
    exact h5
  clear h h' h0 h1 hdg hmw hy2 hca hab
  go_enter Tryd.func11, Tryd.ntmps11
  go_wp2_with fail
  go_quiet ((go_at_call 22; first | exact quiet_left (trim_arg (H.out _ _ _ _ _ _)) | exact quiet_left (T'.out _ _ _ _ _ _)))
  go_wp2_with (first | (go_at_call 26; go_must (refine (CC.out _ _ _ _ _ _).mono ?_); rintro e w' ⟨rfl, q, rfl⟩) | (go_at_call 27; go_must (refine (fresh_can ((HX.out.below (pre4 w _ _ _ _ _ _).1).more (pre4 w _ _ _ _ _ _).1.size).2 (by omega)).mono ?_); rintro e w1 ⟨g, rfl, HGE, HBLK, HBEL⟩; obtain ⟨hw1, hq2, hq3, hsz⟩ := after4 HBEL.out; have HW1 := hide hw1; have HQ2 := hide hq2; have HQ3 := hide hq3; have HGB := hide (Nat.le_trans (Nat.le_of_eq (pre4 w _ _ _ _ _ _).2.1.symm) HGE.out); have hcy : w1.cell? ad = some (.int .u32 (m' : Int)) := (hw1.cell HAB.out).trans HCA.out; clear hq2 hq3 hw1 HGE HBEL) | (go_at_call 28; go_must (refine (divideByWord_any (k := dl m) (d := m') HBLK.out (Nat.le_refl _) (good_digs m) (by omega) hm9 hm0).mono ?_); rintro e w2 ⟨q2, rest, rfl, hq1, hq2, hrest, hq3, hq4, hq5⟩; have HQ5 := hide hq5; clear hq5; obtain ⟨HB2, HQV, HRV⟩ := div_parts HBLK hq1 hq3 hq4 hrest; have hz2 := HGB.out; have HR2 := hide ((HQ5.out.block _ (by omega) (by intro e; injection e with e; omega)).trans HQ2.out); have HR3 := hide ((HQ5.out.block _ (by omega) (by intro e; injection e with e; omega)).trans HQ3.out); have HS2 := hide HQ5.out.size) | (go_at_call 22; go_must (refine (trim_own HB2.out hq1.out.symm hq2.out (by omega) (Nat.le_refl _) HQV.out).mono ?_); rintro e w5 ⟨rfl, rfl⟩) | (go_at_call 9; go_must (refine (Of_any (n := rest) (by omega)).mono ?_); rintro e w3 ⟨A3, c3, rfl, hcn, hbl⟩; have HCN := hide hcn; have HBL := hide hbl; obtain ⟨r2, f2⟩ := one_cell ((hbl.block _ (by have := HS2.out; omega)).trans HR2.out); obtain ⟨r3, f3⟩ := one_cell ((hbl.block _ (by have := HS2.out; omega)).trans HR3.out); clear hcn hbl))
  refine bodyPost_ret (v := .tuple #[.agg #[.slice (some ⟨g, 0, none⟩) (dl (m / m')) (dl m)], .agg #[.slice A3 (dl rest) c3], .bool true]) (by simp [results, Tryd.results11, go_sem, r2, r3]) rfl ?_
  have hgb := HGB.out
  have hb2 : Blk U32 53 w3 g q2 := HB2.out.below HBL.out HB2.out.lt
  refine ⟨some ⟨g, 0, none⟩, dl m, A3, c3, by rw [HRV.out], ?_, ?_, ?_⟩
  · exact can_own ((hb2.far (p := ⟨w.heap.size + 1 + 1, 0, none⟩) (by simp; omega) _).far (p := ⟨w.heap.size + 1 + 1 + 1, 0, none⟩) (by simp; omega) _) hq1.out.symm hq2.out (Nat.le_refl _) HQV.out
  · rw [← HRV.out]
    have h23 : (w3.setCell ⟨w.heap.size + 1 + 1, 0, none⟩ (.slice (some ⟨g, 0, none⟩) (dl (m / m')) (dl m))).cell? ⟨w.heap.size + 1 + 1 + 1, 0, none⟩ = some (.slice none 0 0) :=
      (World.cell?_setCell_other w3 _ _ _ (by intro e; injection e with e; omega)).trans r3
    refine ⟨HCN.out.1, ?_⟩
    have h1 := Rd.setBox (Rd.setBox HCN.out.2 (p := ⟨w.heap.size + 1 + 1, 0, none⟩) r2 (.slice (some ⟨g, 0, none⟩) (dl (m / m')) (dl m))) h23 (.slice A3 (dl rest) c3)
    simpa [World.setCell] using h1
  · exact (((HW1.out.trans (grown_below HQ5.out (by omega) HBLK.out.lt)).trans (HBL.out.mono (Nat.le_trans HW1.out.size HS2.out))).setCell (by simp; omega) _).setCell (by simp; omega) _
end Go.Proofs.YteieelgdiccppabDoor
end

section
/- Div whole: the quotient and the rest of any two numbers. Conditions: less than 100000 words. -/
open Go.RowKit
set_option maxRecDepth 100000
namespace Go.Proofs.YteieelgdiccppabDoor
set_option maxHeartbeats 4000000 in
theorem Div_long {A A' : Option Addr} {n n' c c' m m' : Nat} {w : World} (h : Arg w w.heap.size A n c m) (h' : Arg w w.heap.size A' n' c' m') (h0 : m' ≤ m) (h1 : 2 ≤ dl m') (hl9 : dl m ≤ 99999) :
    Calls Tryd.prog 11 #[.agg #[.slice A n c], .agg #[.slice A' n' c']] w (DivPost w m m') := by
  have H : Hid (∀ o1 o2 v u t k, Arg (((((w.alloc o1).alloc o2).alloc (.cells #[v] t)).alloc (.cells #[u] t)).drewN k) w.heap.size A n c m) := fun o1 o2 v u t k => h.below (pre4 w o1 o2 v u t k).1
  have H' : Hid (∀ o1 o2 v u t k, Arg (((((w.alloc o1).alloc o2).alloc (.cells #[v] t)).alloc (.cells #[u] t)).drewN k) w.heap.size A' n' c' m') := fun o1 o2 v u t k => h'.below (pre4 w o1 o2 v u t k).1
  have hl : dl m ≤ 100000 := by omega
  have hmono : dl m' ≤ dl m := digs_len_mono (b := W32) (by decide) h0
  have hcm : ¬ cmpI m m' < 0 := by unfold cmpI; rw [if_neg (by omega)]; split <;> omega
  have H0 := hide h0
  have hd1 : (((dl m' : Nat) : Int) == 0) = false := by rw [beq_eq_false_iff_ne]; omega
  have hd2 : (((dl m' : Nat) : Int) == 1) = false := by rw [beq_eq_false_iff_ne]; omega
  have CC : Hid (∀ o1 o2 v u t k, Calls Tryd.prog 26 #[.slice A (dl m) c, .slice A' (dl m') c'] (((((w.alloc o1).alloc o2).alloc (.cells #[v] t)).alloc (.cells #[u] t)).drewN k) fun e w' => e = .returned (.int .i64 (cmpI m m')) ∧ ∃ q, w' = (((((w.alloc o1).alloc o2).alloc (.cells #[v] t)).alloc (.cells #[u] t)).drewN k).drewN q) := fun o1 o2 v u t k =>
    compare_can (H.out o1 o2 v u t k).digs.1 (H'.out o1 o2 v u t k).digs.1 hl (by omega)
  have CL : Hid (∀ o1 o2 v u t k, Calls Tryd.prog 29 #[.slice A (dl m) c, .slice A' (dl m') c'] (((((w.alloc o1).alloc o2).alloc (.cells #[v] t)).alloc (.cells #[u] t)).drewN k) (LongPost (((((w.alloc o1).alloc o2).alloc (.cells #[v] t)).alloc (.cells #[u] t)).drewN k) m m')) := fun o1 o2 v u t k => by
    have p := (pre4 w o1 o2 v u t k).1.size
    exact divideLong_any ((H.out o1 o2 v u t k).digs.1.more p) ((H'.out o1 o2 v u t k).digs.1.more p) H0.out h1 hl9
  clear h h' h0 h1 hl9
  go_enter Tryd.func11, Tryd.ntmps11
  go_wp2_with fail
  go_quiet ((go_at_call 22; first | exact quiet_left (trim_arg (H.out _ _ _ _ _ _)) | exact quiet_left (trim_arg (H'.out _ _ _ _ _ _))))
  go_wp2_with (first | (go_at_call 26; go_must (refine (CC.out _ _ _ _ _ _).mono ?_); rintro e w' ⟨rfl, q, rfl⟩) | (go_at_call 29; go_must (refine (CL.out _ _ _ _ _ _).mono ?_); rintro e w1 ⟨gq, gr, nq, nr, Q, R, rfl, hq, hqq, hr, hrr, hge, hbel⟩; obtain ⟨hw1, hq2, hq3, hsz⟩ := after4 hbel.out; have HW1 := hide hw1; have r2 := (one_cell hq2).1; have f2 := (one_cell hq2).2; have r3 := (one_cell hq3).1; have f3 := (one_cell hq3).2; clear hq2 hq3 hw1 hbel) | (go_at_call 22; (with_reducible refine (trim_own hq.out hqq.out.1 hqq.out.2.1 (by have := hqq.out.2.2.1; omega) (Nat.le_refl _) hqq.out.2.2.2).mono ?_); rintro e w5 ⟨rfl, rfl⟩) | (go_at_call 22; (with_reducible refine (trim_own hr.out hrr.out.1 hrr.out.2.1 (by have := hrr.out.2.2.1; omega) (Nat.le_refl _) hrr.out.2.2.2).mono ?_); rintro e w6 ⟨rfl, rfl⟩))
  refine bodyPost_ret (v := .tuple #[.agg #[.slice (some ⟨gq, 0, none⟩) (dl (m / m')) nq], .agg #[.slice (some ⟨gr, 0, none⟩) (dl (m % m')) nr], .bool true]) (by simp [results, Tryd.results11, go_sem, r2, r3]) rfl ?_
  obtain ⟨ha, hb⟩ := hge.out
  rw [(pre4 w _ _ _ _ _ _).2.1] at ha hb
  refine ⟨some ⟨gq, 0, none⟩, nq, some ⟨gr, 0, none⟩, nr, rfl, ?_, ?_, (HW1.out.setCell (by simp; omega) _).setCell (by simp; omega) _⟩
  · exact can_own ((hq.out.far (p := ⟨w.heap.size + 1 + 1, 0, none⟩) (by simp; omega) _).far (p := ⟨w.heap.size + 1 + 1 + 1, 0, none⟩) (by simp; omega) _) hqq.out.1 hqq.out.2.1 (Nat.le_refl _) hqq.out.2.2.2
  · exact can_own ((hr.out.far (p := ⟨w.heap.size + 1 + 1, 0, none⟩) (by simp; omega) _).far (p := ⟨w.heap.size + 1 + 1 + 1, 0, none⟩) (by simp; omega) _) hrr.out.1 hrr.out.2.1 (Nat.le_refl _) hrr.out.2.2.2
/-- Div of any two numbers, b not 0. -/
theorem Div_any {A A' : Option Addr} {n n' c c' m m' : Nat} {w : World} (h : Arg w w.heap.size A n c m) (h' : Arg w w.heap.size A' n' c' m') (h0 : 0 < m') (hl : dl m ≤ 99999) :
    Calls Tryd.prog 11 #[.agg #[.slice A n c], .agg #[.slice A' n' c']] w (DivPost w m m') := by
  rcases Nat.lt_or_ge m m' with h1 | h1
  · exact Div_less h h' h1
  · rcases Nat.lt_or_ge (dl m') 2 with h2 | h2
    · refine Div_one h h' h1 ?_
      rcases Nat.eq_zero_or_pos (dl m') with h3 | h3
      · have := dl_zero h3; omega
      · omega
    · exact Div_long h h' h1 h2 hl
end Go.Proofs.YteieelgdiccppabDoor
end

section
/- appendGroup. Conditions: at most 1000000 words. -/
open Go.RowKit
set_option maxRecDepth 100000
namespace Go.Proofs.YteieelgdiccppabDoor
theorem set_at {seg L : List Nat} {i v : Nat} (h : seg.length = i) (hi : i < L.length) : (seg ++ L.drop i).set i v = (seg ++ [v]) ++ L.drop (i + 1) := by
  rw [List.set_append, if_neg (by omega), h, Nat.sub_self, List.drop_eq_getElem_cons hi, List.set_cons_zero]; simp
theorem get_at {seg L : List Nat} {i : Nat} (h : seg.length = i) : (seg ++ L.drop i)[i]? = L[i]? := by
  rw [List.getElem?_append_right (by omega), h, Nat.sub_self, List.getElem?_drop]; rfl
/-- Words of the value's own length that tell enough are its digits. -/
theorem digs_of_big {b : Nat} (hb : 2 ≤ b) (l : List Nat) (h : ∀ x ∈ l, x < b) (hv : 0 < l.length → b ^ (l.length - 1) ≤ val b l) : digs b (val b l) = l := by
  have h1 := digs_take hb l h
  have h2 := digs_len_le hb l h
  have h3 : l.length ≤ (digs b (val b l)).length := by
    rcases Nat.eq_zero_or_pos l.length with h0 | h0
    · omega
    · have h4 := hv h0
      have h5 := lt_pow_digs hb (val b l)
      rcases Nat.lt_or_ge (digs b (val b l)).length l.length with h6 | h6
      · have : b ^ (digs b (val b l)).length ≤ b ^ (l.length - 1) := Nat.pow_le_pow_right (by omega) (by omega)
        omega
      · exact h6
  rw [← h1, List.take_of_length_le h3]
/-- A slice of the call's own that reads as ws, with room perhaps. -/
def OwnF (f : Nat → Value) (t : TypeId) (w : World) (base g cap : Nat) (ws : List Nat) : Prop := w.ownsRow base t 1 (.slice (some ⟨g, 0, none⟩) ws.length cap) ws.length (ws.map f)
section
variable {f : Nat → Value} {t : TypeId} {w : World} {base g cap : Nat} {ws : List Nat}
theorem OwnF.cell (h : OwnF f t w base g cap ws) {i x : Nat} (hx : ws[i]? = some x) : w.cell? ⟨g, i, none⟩ = some (f x) := by
  have hi : i < ws.length := by
    rcases Nat.lt_or_ge i ws.length with h1 | h1
    · exact h1
    · rw [List.getElem?_eq_none h1] at hx; cases hx
  rw [World.ownsRow.cellAt h i (by omega), List.getElem?_map, hx]; rfl
theorem OwnF.set_ (h : OwnF f t w base g cap ws) (i v : Nat) : OwnF f t (w.setCell ⟨g, i, none⟩ (f v)) base g cap (ws.set i v) := by
  have := (World.ownsRow.stored h i (f v)).1
  unfold OwnF
  rw [List.length_set, List.map_set]
  exact this
theorem OwnF.ge (h : OwnF f t w base g cap ws) : base ≤ g ∧ g < w.heap.size := h.lt g rfl
theorem OwnF.frozen (h : OwnF f t w base g cap ws) (i : Nat) : w.frozen? ⟨g, i, none⟩ = false := World.ownsRow.frozenAt h i
theorem OwnF.drewN (h : OwnF f t w base g cap ws) (n : Nat) : OwnF f t (w.drewN n) base g cap ws := h
theorem OwnF.drew (h : OwnF f t w base g cap ws) : OwnF f t w.drew base g cap ws := h
end
def OwnG (w : World) (base g cap : Nat) (ws : List Nat) : Prop := OwnF U32 53 w base g cap ws
theorem OwnG.cell {w : World} {base g cap : Nat} {ws : List Nat} (h : OwnG w base g cap ws) {i x : Nat} (hx : ws[i]? = some x) : w.cell? ⟨g, i, none⟩ = some (.int .u32 (x : Int)) := OwnF.cell h hx
theorem OwnG.set_ {w : World} {base g cap : Nat} {ws : List Nat} (h : OwnG w base g cap ws) (i v : Nat) : OwnG (w.setCell ⟨g, i, none⟩ (.int .u32 (v : Int))) base g cap (ws.set i v) := OwnF.set_ h i v
theorem OwnG.ge {w : World} {base g cap : Nat} {ws : List Nat} (h : OwnG w base g cap ws) : base ≤ g ∧ g < w.heap.size := OwnF.ge h
def AGPost (w : World) (base M : Nat) (e : Ending) (w' : World) : Prop :=
  ∃ g' cap', e = .returned (.slice (some ⟨g', 0, none⟩) (dl M) cap') ∧ Hid (OwnG w' base g' cap' (digs W32 M)) ∧ Hid (Below base w w')
theorem OwnG.can {w : World} {base g cap m : Nat} (h : OwnG w base g cap (digs W32 m)) {p : Addr} (hp : g ≠ p.block) (u : Value) : Can (w.setCell p u) (w.setCell p u).heap.size (some ⟨g, 0, none⟩) cap m := by
  refine ⟨?_, fun _ => ⟨_, rfl, by have := h.ge.2; simpa [World.setCell] using this, fun j x hx => ?_⟩⟩
  · rcases h.2 with ⟨h', _⟩ | ⟨g', cap', cur, h', _, _, hn, _⟩
    · cases h'
    · simp only [Value.slice.injEq, Option.some.injEq, Addr.mk.injEq, and_true, true_and] at h'
      obtain ⟨_, rfl⟩ := h'
      exact hn
  · rw [World.cell?_setCell_other w p _ u (by intro e; rw [e, block_add] at hp; exact hp rfl)]
    exact World.ownsRow.cells h rfl j _ (by rw [List.getElem?_map, hx]; rfl)
theorem ag_math {P V c vt group q r x W : Nat} (h : V + P * c = vt * 1000000000 + group) (hq : r + W * q = c + x * 1000000000) : V + P * r + P * W * q = (vt + P * x) * 1000000000 + group := by
  have e1 : P * r + P * W * q = P * c + P * (x * 1000000000) := by rw [Nat.mul_assoc, ← Nat.mul_add, hq, Nat.mul_add]
  rw [Nat.add_mul, Nat.mul_assoc P x]; omega
end Go.Proofs.YteieelgdiccppabDoor
end

section
/- The document's own numbers, four digits each: trim, at, Cmp, Small. Conditions: at most 1000000 of them. -/
open Go.RowKit
set_option maxRecDepth 100000
namespace Go.Proofs.YteieelgdiccppabDoor
def D4 : Nat := 10000
theorem D4_eq : D4 = 10000 := rfl
def dq (m : Nat) : Nat := (digs D4 m).length
def Good4 (ws : List Nat) : Prop := ∀ x ∈ ws, x < D4
def RN (w : World) (B : Nat) (A : Option Addr) (c m : Nat) : Prop := dq m ≤ c ∧ Rd I64 w B A (digs D4 m)
section
variable {w w' : World} {B B' : Nat} {A : Option Addr} {c m : Nat}
theorem RN.below (h : RN w B A c m) (hb : Below B w w') : RN w' B A c m := ⟨h.1, h.2.below hb⟩
theorem RN.more (h : RN w B A c m) (hb : B ≤ B') : RN w B' A c m := ⟨h.1, h.2.more hb⟩
theorem RN.drewN (h : RN w B A c m) (k : Nat) : RN (w.drewN k) B A c m := h
end
def RefPost (w : World) (m : Nat) (e : Ending) (w' : World) : Prop := ∃ A c, e = .returned (.slice A (dq m) c) ∧ Hid (RN w' w'.heap.size A c m) ∧ Hid (Below w.heap.size w w')
theorem good4_digs (m : Nat) : Good4 (digs D4 m) := digs_lt (by decide) m
theorem val_digs4 (m : Nat) : val D4 (digs D4 m) = m := val_digs (by decide) m
def trimmed4 (ws : List Nat) : Nat := dq (val D4 ws)
theorem trimmed4_of {ws : List Nat} {k : Nat} (h : Good4 ws) (hk : k ≤ ws.length) (hz : ∀ j : Nat, k ≤ j → ws[j]?.getD 0 = 0) (hl : 0 < k → ws[k - 1]?.getD 0 ≠ 0) : trimmed4 ws = k := by
  unfold trimmed4 dq
  rw [← trim_eq (by decide) ws k h hk hz hl, List.length_take, Nat.min_eq_left hk]
theorem rdigs_take (ws : List Nat) (h : Good4 ws) : ws.take (dq (val D4 ws)) = digs D4 (val D4 ws) := digs_take (by decide) ws h
theorem rn_of {A : Option Addr} {ws : List Nat} {n c v : Nat} {w : World} {B : Nat} (hn : n = ws.length) (hv : val D4 ws = v) (h : Rd I64 w B A ws) (hw : Good4 ws) (hc : n ≤ c) : RN w B A c v := by
  subst hn; subst hv
  have hle : dq (val D4 ws) ≤ ws.length := digs_len_le (by decide) ws hw
  refine ⟨by omega, ?_⟩
  have := h.take (dq (val D4 ws))
  rwa [rdigs_take ws hw] at this
theorem cmpI_len4 {m n : Nat} (h : dq m ≠ dq n) : cmpI (dq m) (dq n) = cmpI m n := by
  rcases Nat.lt_or_ge (dq m) (dq n) with h1 | h1
  · rw [cmpI_lt h1, cmpI_lt (digs_len_lt (b := D4) (by decide) h1)]
  · rw [cmpI_gt (by omega), cmpI_gt (digs_len_lt (b := D4) (by decide) (show dq n < dq m by omega))]
theorem cmpI_at4 {m n i : Nat} (hlen : dq m = dq n) (hi : i < dq m) (heq : (digs D4 m).drop (i + 1) = (digs D4 n).drop (i + 1)) {x y : Nat} (hx : (digs D4 m)[i]? = some x) (hy : (digs D4 n)[i]? = some y) (hne : x ≠ y) : cmpI x y = cmpI m n := by
  have key : ∀ {m n x y : Nat}, dq m = dq n → i < dq m → (digs D4 m).drop (i + 1) = (digs D4 n).drop (i + 1) → (digs D4 m)[i]? = some x → (digs D4 n)[i]? = some y → x < y → m < n := by
    intro m n x y hlen hi heq hx hy hlt
    have := val_cmp (b := D4) (digs D4 m) (digs D4 n) i (digs_lt (by decide) m) hlen hi heq (by rw [hx, hy]; exact hlt)
    rwa [val_digs (by decide), val_digs (by decide)] at this
  rcases Nat.lt_or_ge x y with h | h
  · rw [cmpI_lt h, cmpI_lt (key hlen hi heq hx hy h)]
  · rw [cmpI_gt (by omega), cmpI_gt (key hlen.symm (by omega) heq.symm hy hx (by omega))]
end Go.Proofs.YteieelgdiccppabDoor
end

section
/- The document's own numbers: Small, Add. Conditions: at most 100000 fours of digits. -/
open Go.RowKit
set_option maxRecDepth 100000
namespace Go.Proofs.YteieelgdiccppabDoor
theorem row_rd {f : Nat → Value} {t : TypeId} {w : World} {base : Nat} {v : Value} {dd : List Nat} (h : w.ownsRow base t 1 v dd.length (dd.map f)) : ∃ A c, v = .slice A dd.length c ∧ dd.length ≤ c ∧ Rd f w w.heap.size A dd := by
  have h' := h
  rcases h.2 with ⟨rfl, h0⟩ | ⟨g, cap, cur, rfl, _, _, hn, _⟩
  · have := List.eq_nil_of_length_eq_zero h0
    subst this
    exact ⟨none, 0, rfl, Nat.le_refl _, Rd.nil⟩
  · exact ⟨_, cap, rfl, hn, fun _ => ⟨_, rfl, (h'.lt g rfl).2, fun j x hx => World.ownsRow.cells h' rfl j _ (by rw [List.getElem?_map, hx]; rfl)⟩⟩
theorem app_below {w wr w1 : World} {base n : Nat} {t : TypeId} {dv : Value} {xs : List Value} {o : Obj} (hown : wr.ownsRow base t 1 dv n xs) (hbel : Below w.heap.size w wr) (hg : w.heap.size ≤ base) (hgrow : (wr.alloc o).grownBy w1 dv.ownBlock) : Below w.heap.size w w1 :=
  (hbel.alloc hbel.size _).grown hgrow (by have := hbel.size; simp; omega) (fun k hk => by have := (hown.lt k hk).1; omega)
theorem dq_u64 {n : Nat} (h : n < 100000000000000000000) : dq n ≤ 5 := by
  rcases Nat.eq_zero_or_pos n with rfl | h0
  · unfold dq; rw [digs_zero]; simp
  · have h1 := pow_le_of_digs (b := D4) (by decide) h0
    have h2 : D4 ^ (dq n - 1) < D4 ^ 5 := Nat.lt_of_le_of_lt h1 (by rw [D4_eq]; omega)
    have h3 := (Nat.pow_lt_pow_iff_right (a := D4) (by decide)).1 h2
    omega
theorem val_take_getD (b : Nat) (L : List Nat) (i : Nat) : val b (L.take (i + 1)) = val b (L.take i) + b ^ i * (L[i]?.getD 0) := by
  rcases Nat.lt_or_ge i L.length with h | h
  · rw [val_take_succ b (List.getElem?_eq_getElem h), List.getElem?_eq_getElem h]; rfl
  · rw [val_take_more b h, List.getElem?_eq_none h]; rfl
theorem getD_lt {L : List Nat} (h : Good4 L) (i : Nat) : L[i]?.getD 0 ≤ 9999 := by
  rcases Nat.lt_or_ge i L.length with h1 | h1
  · rw [List.getElem?_eq_getElem h1]
    have := h _ (List.getElem_mem h1)
    rw [D4_eq] at this
    show L[i] ≤ 9999; omega
  · rw [List.getElem?_eq_none h1]; exact Nat.zero_le _
theorem lohi4 (t : Nat) : t % D4 + D4 * (t / D4) = t := Nat.mod_add_div t D4
end Go.Proofs.YteieelgdiccppabDoor
end

section
/- The document's own numbers: Mul. Conditions: at most 100000 fours of digits. -/
open Go.RowKit
set_option maxRecDepth 100000
namespace Go.Proofs.YteieelgdiccppabDoor
theorem made_i64 (w : World) (n : Nat) : Blk I64 3 (w.alloc (.cells (madeCells #[.int .i64 0] n) 3)) w.heap.size (List.replicate n 0) := made_zeros w _ _ n
theorem rmul_end {R seg : List Nat} {i k x m' X : Nat} (hi : i + k ≤ R.length) (hs : seg.length = k) (hR : val D4 R = X * m') (hv : val D4 seg = val D4 ((R.drop i).take k) + x * m') :
    val D4 (R.take i ++ (seg ++ R.drop (i + k))) = (X + D4 ^ i * x) * m' := by
  rw [val_append, val_append, hv, hs, List.length_take, Nat.min_eq_left (by omega)]
  have e : val D4 R = val D4 (R.take i) + D4 ^ i * (val D4 ((R.drop i).take k) + D4 ^ k * val D4 (R.drop (i + k))) := by
    have h1 := val_append D4 (R.take i) (R.drop i)
    rw [List.take_append_drop, List.length_take, Nat.min_eq_left (by omega)] at h1
    have h2 := val_append D4 ((R.drop i).take k) ((R.drop i).drop k)
    rw [List.take_append_drop, List.length_take, List.length_drop, Nat.min_eq_left (by omega), List.drop_drop] at h2
    rw [h1, h2]
  rw [Nat.add_mul, ← hR, e, Nat.mul_assoc]
  generalize D4 ^ i = P
  simp only [Nat.mul_add]; omega
theorem good4_app {l m : List Nat} (h : Good4 l) (hm : Good4 m) : Good4 (l ++ m) := by
  intro x hx
  rcases List.mem_append.1 hx with hx | hx
  · exact h x hx
  · exact hm x hx
theorem rmul_math {P V c A x Y s y t q r : Nat} (h : V + P * c = A + x * Y) (ht : t = s + x * y + c) (hq : r + D4 * q = t) : V + P * r + P * D4 * q = A + P * s + x * (Y + P * y) := by
  have e1 : P * r + P * D4 * q = P * t := by rw [← hq, Nat.mul_add, Nat.mul_assoc]
  have e2 : P * t = P * s + P * (x * y) + P * c := by rw [ht, Nat.mul_add, Nat.mul_add]
  have e3 : x * (P * y) = P * (x * y) := by rw [Nat.mul_left_comm]
  rw [Nat.mul_add x, e3]; omega
end Go.Proofs.YteieelgdiccppabDoor
end

section
/- The document's own numbers: Words. Conditions: at most 4000 words. -/
open Go.RowKit
set_option maxRecDepth 100000
namespace Go.Proofs.YteieelgdiccppabDoor
theorem dq_le {m k : Nat} (h : m < D4 ^ k) : dq m ≤ k := by
  rcases Nat.eq_zero_or_pos m with rfl | h0
  · unfold dq; rw [digs_zero]; simp
  · have h1 := pow_le_of_digs (b := D4) (by decide) h0
    have h2 : D4 ^ (dq m - 1) < D4 ^ k := Nat.lt_of_le_of_lt h1 h
    have h3 := (Nat.pow_lt_pow_iff_right (a := D4) (by decide)).1 h2
    omega
theorem dq_words {m k : Nat} (h : m < W32 ^ k) : dq m ≤ 3 * k := by
  refine dq_le (Nat.lt_of_lt_of_le h ?_)
  rw [Nat.pow_mul]
  exact Nat.pow_le_pow_left (by decide) k
theorem dq_zero : dq 0 = 0 := by unfold dq; rw [digs_zero]; rfl
theorem u64_of_word {x : Nat} (h : x ≤ 4294967295) : x < 18446744073709551616 := by omega
theorem keepS {wr W W' : World} {a : Addr} {v : Option Value} (hlt : a.block < wr.heap.size) (hb : Hid (Below W.heap.size W W')) (h : W.cell? a = v ∧ Below wr.heap.size wr W) : W'.cell? a = v ∧ Below wr.heap.size wr W' :=
  ⟨(hb.out.cell (Nat.lt_of_lt_of_le hlt h.2.size)).trans h.1, h.2.trans (hb.out.mono h.2.size)⟩
end Go.Proofs.YteieelgdiccppabDoor
end

section
/- Strings of digits: trimLeftByte, TrimLeft, isDigits, valueOf. Conditions: lengths within the model's own bound. -/
open Go.RowKit
set_option maxRecDepth 100000
namespace Go.Proofs.YteieelgdiccppabDoor
theorem toList_drop1 (t : ByteArray) : (t.extract 1 t.size).data.toList = t.data.toList.drop 1 := by
  rw [Lib.extract_data, List.take_of_length_le]
  rw [List.length_drop]; exact Nat.le_refl _
theorem size_list (t : ByteArray) : t.size = t.data.toList.length := rfl
theorem str_ret {t u : ByteArray} (h : t = u) : Ending.returned (.string t) = .returned (.string u) := by rw [h]
def TrimPost (l : List UInt8) (w : World) (e : Ending) (w' : World) : Prop := ∃ t : ByteArray, e = .returned (.string t) ∧ t.data.toList = l.dropWhile (· == 48) ∧ w = w'
theorem drop_yes {t : ByteArray} {h : 0 < t.size} (hx : t[0] = 48) : t.data.toList.dropWhile (· == 48) = (t.data.toList.drop 1).dropWhile (· == 48) := by
  obtain ⟨⟨l⟩⟩ := t
  cases l with
  | nil => simp [ByteArray.size] at h
  | cons a l =>
    have : a = 48 := hx
    subst this
    rfl
theorem drop_no {t : ByteArray} {h : 0 < t.size} (hx : t[0] ≠ 48) : t.data.toList.dropWhile (· == 48) = t.data.toList := by
  obtain ⟨⟨l⟩⟩ := t
  cases l with
  | nil => simp [ByteArray.size] at h
  | cons a l =>
    have : (a == 48) = false := by
      have : a ≠ 48 := hx
      simpa using this
    rw [List.dropWhile_cons, this]; rfl
set_option maxHeartbeats 400000 in
theorem trimByte_any (s : ByteArray) (w : World) :
    Calls Tryd.prog 60 #[.string s, .int .u8 48] w (TrimPost s.data.toList w) := by
  go_enter Tryd.func60, Tryd.ntmps60
  go_wp2
  go_loop [0] (fun sv => ∃ t : ByteArray, sv = .string t ∧ Hid (s.data.toList.dropWhile (· == 48) = t.data.toList.dropWhile (· == 48)) ∧ t.size ≤ s.size) (fun sv => match sv with | .string t => t.size | _ => 0)
  case atStart => exact ⟨s, rfl, rfl, Nat.le_refl _⟩
  case round =>
    obtain ⟨t, rfl, ht, hts⟩ := hrel
    by_cases h0 : t.size = 0
    · have HZ := hide h0
      have h1 : ¬ 0 < t.size := by omega
      clear h0
      go_wp2
      go_ret
      exact ⟨t, rfl, by rw [ht.out, List.eq_nil_of_length_eq_zero (show t.data.toList.length = 0 from HZ.out)]; rfl, rfl⟩
    · have h1 : 0 < t.size := by omega
      by_cases hx : t[0] = 48
      · have HX := hide hx
        have hxt : ((t[0].toNat : Int) == 48) = true := by rw [hx]; rfl
        clear hx
        go_wp2
        go_round
        case rel => exact ⟨_, rfl, by unfold Hid; rw [ht.out, toList_drop1, drop_yes HX.out], by simp; omega⟩
        case measure => simp; omega
      · have HX := hide hx
        have hxt : ((t[0].toNat : Int) == 48) = false := by
          rw [beq_eq_false_iff_ne]
          intro e
          exact hx (UInt8.toNat_inj.1 (by simpa using (show t[0].toNat = 48 by omega)))
        clear hx
        go_wp2
        go_ret
        exact ⟨t, rfl, by rw [ht.out, drop_no HX.out], rfl⟩
set_option maxHeartbeats 400000 in
theorem TrimLeft_any (s : ByteArray) (w : World) :
    Calls Tryd.prog 40 #[.string s, .string ⟨#[48]⟩] w (TrimPost s.data.toList w) := by
  by_cases h0 : s.size = 0
  · have hl : s.toList = [] := by rw [Lib.toList_data]; exact List.eq_nil_of_length_eq_zero h0
    have HL : Hid (s.data.toList = []) := List.eq_nil_of_length_eq_zero h0
    clear h0
    go_enter Tryd.func40, Tryd.ntmps40
    go_wp2
    go_ret
    exact ⟨s, rfl, by rw [HL.out]; rfl, rfl⟩
  · have hl : s.toList.isEmpty = false := by
      rw [Lib.toList_data]
      cases h : s.data.toList with
      | nil => exact absurd (show s.size = 0 by rw [size_list, h]; rfl) h0
      | cons a l => rfl
    clear h0
    go_enter Tryd.func40, Tryd.ntmps40
    go_wp2_with (first | (go_at_call 60; go_must (refine (trimByte_any s _).mono ?_); rintro e w' ⟨t, rfl, ht, rfl⟩))
    go_ret
    exact ⟨t, rfl, ht, rfl⟩
/-- Is it a digit? -/
def isDig (c : UInt8) : Bool := decide (48 ≤ c.toNat) && decide (c.toNat ≤ 57)
/-- One or more digits. -/
def digB (l : List UInt8) : Bool := !l.isEmpty && l.all isDig
def numL (l : List UInt8) : Nat := l.foldl (fun a c => a * 10 + (c.toNat - 48)) 0
theorem numL_snoc (l : List UInt8) (c : UInt8) : numL (l ++ [c]) = numL l * 10 + (c.toNat - 48) := by simp [numL]
theorem take_snoc {s : ByteArray} {k : Nat} (h : k < s.size) : s.data.toList.take (k + 1) = s.data.toList.take k ++ [s[k]] := by
  rw [List.take_succ_eq_append_getElem (by simpa using h)]; rfl
theorem bool_ret {a b : Bool} (h : a = b) : Ending.returned (.bool a) = .returned (.bool b) := by rw [h]
theorem dig_iff (c : UInt8) : isDig c = true ↔ 48 ≤ (c.toNat : Int) ∧ (c.toNat : Int) ≤ 57 := by unfold isDig; simp; omega
/-- The digits' numbers, the least significant first. -/
def dvs (l : List UInt8) : List Nat := l.reverse.map fun c => c.toNat - 48
theorem fold_val (l : List UInt8) : ∀ a : Nat, l.foldl (fun a c => a * 10 + (c.toNat - 48)) a = a * 10 ^ l.length + val 10 (dvs l) := by
  induction l with
  | nil => intro a; simp [dvs, val]
  | cons c l ih =>
    intro a
    rw [List.foldl_cons, ih]
    unfold dvs
    rw [List.reverse_cons, List.map_append, val_append, List.length_cons, Nat.pow_succ]
    simp only [List.map_cons, List.map_nil, val, List.length_map, List.length_reverse, Nat.mul_zero, Nat.add_zero]
    rw [Nat.add_mul, Nat.mul_assoc, Nat.mul_comm 10, Nat.mul_comm (10 ^ l.length) (c.toNat - 48)]
    omega
theorem numL_val (l : List UInt8) : numL l = val 10 (dvs l) := by unfold numL; rw [fold_val]; simp
theorem dvs_len (l : List UInt8) : (dvs l).length = l.length := by simp [dvs]
theorem dvs_lt {l : List UInt8} (h : l.all isDig = true) : ∀ x ∈ dvs l, x < 10 := by
  intro x hx
  unfold dvs at hx
  obtain ⟨c, hc, rfl⟩ := List.mem_map.1 hx
  have := (dig_iff c).1 (List.all_eq_true.1 h c (List.mem_reverse.1 hc))
  omega
theorem numL_lt (l : List UInt8) (h : l.all isDig = true) : numL l < 10 ^ l.length := by
  rw [numL_val, ← dvs_len]
  exact val_lt _ (dvs_lt h)
end Go.Proofs.YteieelgdiccppabDoor
end

section
/- Parse. Conditions: at most 100000 letters. -/
open Go.RowKit
set_option maxRecDepth 100000
namespace Go.Proofs.YteieelgdiccppabDoor
/-- What Parse leaves. -/
def ParsePost (w : World) (l : List UInt8) (e : Ending) (w' : World) : Prop :=
  if digB l = true then ∃ A c, e = .returned (.tuple #[.agg #[.slice A (dl (numL l)) c], .bool true]) ∧ Can w' w'.heap.size A c (numL l) ∧ Below w.heap.size w w'
  else e = .returned (.tuple #[.agg #[.slice none 0 0], .bool false]) ∧ Below w.heap.size w w'
theorem numL_drop (l : List UInt8) : numL (l.dropWhile (· == 48)) = numL l := by
  induction l with
  | nil => rfl
  | cons c l ih =>
    by_cases h : c = 48
    · subst h
      rw [show (48 :: l).dropWhile (· == (48 : UInt8)) = l.dropWhile (· == 48) from rfl, ih]
      rfl
    · rw [List.dropWhile_cons, if_neg (by simpa using h)]
theorem all_drop {l : List UInt8} (h : l.all isDig = true) : (l.dropWhile (· == 48)).all isDig = true := by
  rw [List.all_eq_true] at *
  exact fun c hc => h c ((List.dropWhile_sublist _).subset hc)
theorem len_drop (l : List UInt8) : (l.dropWhile (· == 48)).length ≤ l.length := (List.dropWhile_sublist _).length_le
theorem numL_append (l m : List UInt8) : numL (l ++ m) = numL l * 10 ^ m.length + numL m := by
  rw [show numL (l ++ m) = m.foldl (fun a c => a * 10 + (c.toNat - 48)) (numL l) by unfold numL; rw [List.foldl_append], fold_val, ← numL_val]
theorem own_made (w : World) (base cap : Nat) (hb : base ≤ w.heap.size) (hm : cap ≤ 1000000) : ∀ cur : Array Value, cur.size = cap → OwnG (w.alloc (.cells cur 53)) base w.heap.size cap [] := fun cur hs =>
  World.ownsRow_made w cur cap hb (by simp only [maxLen]; omega) (by omega)
theorem dl_le {m k : Nat} (h : m < W32 ^ k) : dl m ≤ k := by
  rcases Nat.eq_zero_or_pos m with rfl | h0
  · unfold dl; rw [digs_zero]; simp
  · have h1 := pow_le_of_digs (b := W32) (by decide) h0
    have h2 : W32 ^ (dl m - 1) < W32 ^ k := Nat.lt_of_le_of_lt h1 h
    have h3 := (Nat.pow_lt_pow_iff_right (a := W32) (by decide)).1 h2
    omega
end Go.Proofs.YteieelgdiccppabDoor
end

section
/- slices.Reverse over bytes of the call's own. Conditions: at most 10000000 of them. -/
open Go.RowKit
set_option maxRecDepth 100000
namespace Go.Proofs.YteieelgdiccppabDoor
def RevPost (w : World) (base g cap : Nat) (xs : List Nat) (e : Ending) (w' : World) : Prop := e = .returned (.tuple #[]) ∧ OwnF U8 5 w' base g cap xs.reverse ∧ w.grownBy w' (some g)
set_option maxHeartbeats 1000000 in
theorem Reverse_any {base g cap n : Nat} {xs : List Nat} {w : World} (hn : n = xs.length) (h : OwnF U8 5 w base g cap xs) (hl : n ≤ 10000000) :
    Calls Tryd.prog 39 #[.slice (some ⟨g, 0, none⟩) n cap] w (RevPost w base g cap xs) := by
  have HN := hide hn
  have H := hide h
  clear hn h
  go_enter Tryd.func39, Tryd.ntmps39
  go_wp2
  go_loopw [2, 3] (fun iv jv wr => ∃ k j : Nat, ∃ cur : List Nat, k ≤ j ∧ j + k ≤ n ∧ n ≤ j + k ∧ iv = .int .i64 (k : Int) ∧ jv = .int .i64 ((j : Int) - 1) ∧ Hid (cur.length = n) ∧
      Hid (∀ x, x < n → cur[x]? = if x < k ∨ j ≤ x then xs[n - 1 - x]? else xs[x]?) ∧ Hid (OwnF U8 5 wr base g cap cur) ∧ Hid (w.grownBy wr (some g)))
    (fun _ jv _ => (intOf jv + 1).toNat)
  case atStart => exact ⟨0, n, xs, Nat.zero_le _, by omega, by omega, rfl, rfl, HN.out.symm, fun x hx => by rw [if_neg (by omega)], H, World.grownBy.refl _ _⟩
  case round =>
    obtain ⟨k, j, cur, hkj, hjk, hjk', rfl, rfl, hcl, hcur, hown, hgr⟩ := hrel
    by_cases hlt : k + 1 < j
    · obtain ⟨i, rfl⟩ : ∃ i, j = i + 1 := ⟨j - 1, by omega⟩
      have hkc : k < cur.length := by rw [hcl.out]; omega
      have hic : i < cur.length := by rw [hcl.out]; omega
      obtain ⟨a, ha⟩ : ∃ a, a = cur[k] := ⟨_, rfl⟩
      obtain ⟨b, hb⟩ : ∃ b, b = cur[i] := ⟨_, rfl⟩
      have hca : wr.cell? ⟨g, k, none⟩ = some (.int .u8 (a : Int)) := hown.out.cell (by rw [ha]; exact List.getElem?_eq_getElem hkc)
      have hcb : wr.cell? ⟨g, i, none⟩ = some (.int .u8 (b : Int)) := hown.out.cell (by rw [hb]; exact List.getElem?_eq_getElem hic)
      have hfa := hown.out.frozen k
      have hfb := hown.out.frozen i
      have hown1 : OwnF U8 5 (wr.setCell ⟨g, k, none⟩ (.int .u8 (b : Int))) base g cap (cur.set k b) := hown.out.set_ k b
      have hown2 : OwnF U8 5 (((wr.setCell ⟨g, k, none⟩ (.int .u8 (b : Int))).setCell ⟨g, i, none⟩ (.int .u8 (a : Int))).drew) base g cap ((cur.set k b).set i a) := hown1.set_ i a
      have hgr2 : w.grownBy (((wr.setCell ⟨g, k, none⟩ (.int .u8 (b : Int))).setCell ⟨g, i, none⟩ (.int .u8 (a : Int))).drew) (some g) := grown_drewN (grown_set (grown_set hgr.out _ _) _ _) 1
      have hnew : ∀ x, x < n → ((cur.set k b).set i a)[x]? = if x < k + 1 ∨ i ≤ x then xs[n - 1 - x]? else xs[x]? := by
        intro x hx
        have hkx := hcur.out k (by omega)
        have hix := hcur.out i (by omega)
        rw [if_neg (by omega), List.getElem?_eq_getElem hkc, ← ha] at hkx
        rw [if_neg (by omega), List.getElem?_eq_getElem hic, ← hb] at hix
        by_cases hxi : x = i
        · subst hxi
          rw [List.getElem?_set_self (by rw [List.length_set]; exact hic), if_pos (by omega), hkx]; congr 1; omega
        · rw [List.getElem?_set_ne (by omega)]
          by_cases hxk : x = k
          · subst hxk
            rw [List.getElem?_set_self hkc, if_pos (by omega), hix]; congr 1; omega
          · rw [List.getElem?_set_ne (by omega), hcur.out x hx]
            by_cases h3 : x < k ∨ i + 1 ≤ x
            · rw [if_pos h3, if_pos (by omega)]
            · rw [if_neg h3, if_neg (by omega)]
      have HNEW := hide hnew
      have HO2 := hide hown2
      have HG2 := hide hgr2
      clear ha hb hkc hic hown1 hown2 hgr2 hnew
      go_wp2_with fail
      go_region
      go_wp2
      go_roundw
      case rel => exact ⟨k + 1, i, (cur.set k b).set i a, by omega, by omega, by omega, by go_num, by first | rfl | (congr 1; omega), by unfold Hid; rw [List.length_set, List.length_set]; exact hcl.out, HNEW.out, HO2, HG2⟩
      case measure => simp [intOf]
    · have HE : Hid (cur = xs.reverse) := by
        unfold Hid
        apply List.ext_getElem?
        intro x
        rcases Nat.lt_or_ge x n with hx | hx
        · rw [hcur.out x hx, List.getElem?_reverse (by rw [← HN.out]; exact hx), ← HN.out]
          split
          · rfl
          · congr 1; omega
        · rw [List.getElem?_eq_none (by rw [hcl.out]; exact hx), List.getElem?_eq_none (by rw [List.length_reverse, ← HN.out]; exact hx)]
      go_wp2
      go_end0
      exact ⟨rfl, by rw [← HE.out]; exact hown.out, hgr.out⟩
end Go.Proofs.YteieelgdiccppabDoor
end
