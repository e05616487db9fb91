/- Several texts in one, each with its own sentence and conditions. -/
import Derived.Test.YteahcbeohopdlaaGreatDoorGRqc6
import Derived.Test.YteahcbeohopdlaaGreatDoorGRqc1
import Derived.Deep.AppendLies
section
/- Div by a number of at most one word. Conditions: at most 100000 words. -/
open Go.RowKit
set_option maxRecDepth 100000
namespace Go.Proofs.YteahcbeohopdlaaGreatDoor
theorem pre4 (w : World) (o1 o2 : Obj) (v u : Value) (t : TypeId) (k : Nat) :
    Below w.heap.size w (((((w.alloc o1).alloc o2).alloc (.cells #[v] t)).alloc (.cells #[u] t)).drewN k) ∧ (((((w.alloc o1).alloc o2).alloc (.cells #[v] t)).alloc (.cells #[u] t)).drewN k).heap.size = w.heap.size + 4 ∧
    (((((w.alloc o1).alloc o2).alloc (.cells #[v] t)).alloc (.cells #[u] t)).drewN k).heap[w.heap.size + 2]? = some (.cells #[v] t (0, 0)) ∧
    (((((w.alloc o1).alloc o2).alloc (.cells #[v] t)).alloc (.cells #[u] t)).drewN k).heap[w.heap.size + 3]? = some (.cells #[u] t (0, 0)) := by
  obtain ⟨p1, p2, p3⟩ := pre3 w o1 o2 v t 0
  refine ⟨below_drewN (((((Below.refl _ _).alloc (Nat.le_refl _) _).alloc (by simp) _).alloc (by simp; omega) _).alloc (by simp; omega) _) k, by simp, ?_, ?_⟩
  · exact (Below.heap_alloc _ _ _ (by simp)).trans p3
  · have := heap_alloc_new (((w.alloc o1).alloc o2).alloc (.cells #[v] t)) (.cells #[u] t)
    simpa using this
theorem dl0 : dl 0 = 0 := by unfold dl; rw [digs_zero]; rfl
theorem after4 {w w1 : World} {o1 o2 : Obj} {v u : Value} {t : TypeId} {k : Nat} (h : Below (((((w.alloc o1).alloc o2).alloc (.cells #[v] t)).alloc (.cells #[u] t)).drewN k).heap.size (((((w.alloc o1).alloc o2).alloc (.cells #[v] t)).alloc (.cells #[u] t)).drewN k) w1) :
    Below w.heap.size w w1 ∧ w1.heap[w.heap.size + 2]? = some (.cells #[v] t (0, 0)) ∧ w1.heap[w.heap.size + 3]? = some (.cells #[u] t (0, 0)) ∧ w.heap.size + 4 ≤ w1.heap.size := by
  obtain ⟨p1, p2, p3, p4⟩ := pre4 w o1 o2 v u t k
  exact ⟨p1.trans (h.mono p1.size), (h.block _ (by omega)).trans p3, (h.block _ (by omega)).trans p4, by have := h.size; omega⟩
/-- What Div leaves where b isn't 0. -/
def DivPost (w : World) (m n : Nat) (e : Ending) (w' : World) : Prop :=
  ∃ A c A' c', e = .returned (.tuple #[.agg #[.slice A (dl (m / n)) c], .agg #[.slice A' (dl (m % n)) c'], .bool true]) ∧ Hid (Can w' w'.heap.size A c (m / n)) ∧ Hid (Can w' w'.heap.size A' c' (m % n)) ∧ Hid (Below w.heap.size w w')
def DivNone (w : World) (e : Ending) (w' : World) : Prop := e = .returned (.tuple #[.agg #[.slice none 0 0], .agg #[.slice none 0 0], .bool false]) ∧ Hid (Below w.heap.size w w')
set_option maxHeartbeats 2000000 in
theorem Div_zero {A A' : Option Addr} {n n' c c' m m' : Nat} {w : World} (h : Arg w w.heap.size A n c m) (h' : Arg w w.heap.size A' n' c' m') (h0 : m' = 0) :
    Calls Tryz.prog 115 #[.agg #[.slice A n c], .agg #[.slice A' n' c']] w (DivNone w) := by
  have H : Hid (∀ o1 o2 v u t k, Arg (((((w.alloc o1).alloc o2).alloc (.cells #[v] t)).alloc (.cells #[u] t)).drewN k) w.heap.size A n c m) := fun o1 o2 v u t k => h.below (pre4 w o1 o2 v u t k).1
  have H' : Hid (∀ o1 o2 v u t k, Arg (((((w.alloc o1).alloc o2).alloc (.cells #[v] t)).alloc (.cells #[u] t)).drewN k) w.heap.size A' n' c' m') := fun o1 o2 v u t k => h'.below (pre4 w o1 o2 v u t k).1
  have hd : dl m' = 0 := by rw [h0]; unfold dl; rw [digs_zero]; rfl
  clear h h' h0
  go_enter Tryz.func115, Tryz.ntmps115
  go_wp2_with fail
  go_quiet ((go_at_call 80; first | exact quiet_left (trim_arg (H.out _ _ _ _ _ _)) | exact quiet_left (trim_arg (H'.out _ _ _ _ _ _))))
  go_wp2
  refine bodyPost_ret (v := .tuple #[.agg #[.slice none 0 0], .agg #[.slice none 0 0], .bool false]) (by simp [results, Tryz.results115, go_sem]) rfl ?_
  refine ⟨rfl, ?_⟩
  exact ((pre4 w _ _ _ _ _ _).1.setCell (by simp; omega) _).setCell (by simp; omega) _
set_option maxHeartbeats 2000000 in
theorem Div_less {A A' : Option Addr} {n n' c c' m m' : Nat} {w : World} (h : Arg w w.heap.size A n c m) (h' : Arg w w.heap.size A' n' c' m') (h0 : m < m') :
    Calls Tryz.prog 115 #[.agg #[.slice A n c], .agg #[.slice A' n' c']] w (DivPost w m m') := by
  have H : Hid (∀ o1 o2 v u t k, Arg (((((w.alloc o1).alloc o2).alloc (.cells #[v] t)).alloc (.cells #[u] t)).drewN k) w.heap.size A n c m) := fun o1 o2 v u t k => h.below (pre4 w o1 o2 v u t k).1
  have H' : Hid (∀ o1 o2 v u t k, Arg (((((w.alloc o1).alloc o2).alloc (.cells #[v] t)).alloc (.cells #[u] t)).drewN k) w.heap.size A' n' c' m') := fun o1 o2 v u t k => h'.below (pre4 w o1 o2 v u t k).1
  have hl : dl m ≤ 100000 := by have := h.digs.2; obtain ⟨_, _, _, h3, _⟩ := h; omega
  have hl' : dl m' ≤ 100000 := by have := h'.digs.2; obtain ⟨_, _, _, h3, _⟩ := h'; omega
  have hd : 0 < dl m' := by
    rcases Nat.eq_zero_or_pos (dl m') with h1 | h1
    · have := dl_zero h1; omega
    · exact h1
  have hdz : (((dl m' : Nat) : Int) == 0) = false := by rw [beq_eq_false_iff_ne]; omega
  have hcm : cmpI m m' < 0 := by rw [cmpI_lt h0]; omega
  have HX := hide h.digs.1
  have HLT := hide h0
  clear h h' h0
  go_enter Tryz.func115, Tryz.ntmps115
  go_wp2_with fail
  go_quiet ((go_at_call 80; first | exact quiet_left (trim_arg (H.out _ _ _ _ _ _)) | exact quiet_left (trim_arg (H'.out _ _ _ _ _ _))))
  go_wp2_with (first | (go_at_call 153; go_must (refine (compare_can (H.out _ _ _ _ _ _).digs.1 (H'.out _ _ _ _ _ _).digs.1 hl hl').mono ?_); rintro e w' ⟨rfl, q, rfl⟩) | (go_at_call 142; go_must (refine (fresh_can ((HX.out.below (pre4 w _ _ _ _ _ _).1).more (pre4 w _ _ _ _ _ _).1.size).2 (by omega)).mono ?_); rintro e w1 ⟨g, rfl, HGE, HBLK, HBEL⟩; obtain ⟨hw1, hq2, hq3, hsz⟩ := after4 HBEL.out; have HW1 := hide hw1; have r2 := (one_cell hq2).1; have f2 := (one_cell hq2).2; have r3 := (one_cell hq3).1; have f3 := (one_cell hq3).2; have HGB := hide (Nat.le_trans (Nat.le_of_eq (pre4 w _ _ _ _ _ _).2.1.symm) HGE.out); clear hq2 hq3 hw1 HGE HBEL))
  refine bodyPost_ret (v := .tuple #[.agg #[.slice none 0 0], .agg #[.slice (some ⟨g, 0, none⟩) (dl m) (dl m)], .bool true]) (by simp [results, Tryz.results115, go_sem, r2, r3]) rfl ?_
  have hgb := HGB.out
  refine ⟨none, 0, some ⟨g, 0, none⟩, dl m, by rw [Nat.div_eq_of_lt HLT.out, Nat.mod_eq_of_lt HLT.out, dl0], ?_, ?_, (HW1.out.setCell (by simp; omega) _).setCell (by simp; omega) _⟩
  · rw [Nat.div_eq_of_lt HLT.out]
    exact ⟨by rw [dl0]; exact Nat.le_refl _, by rw [digs_zero]; exact Rd.nil⟩
  · rw [Nat.mod_eq_of_lt HLT.out]
    exact can_own ((HBLK.out.far (p := ⟨w.heap.size + 1 + 1, 0, none⟩) (by simp; omega) _).far (p := ⟨w.heap.size + 1 + 1 + 1, 0, none⟩) (by simp; omega) _) (show dl m = (digs W32 m).length from rfl) (good_digs m) (Nat.le_refl _) (val_digs32 m)
theorem Rd.setBox {w : World} {B : Nat} {A : Option Addr} {xs : List Nat} (h : Rd U32 w B A xs) {p : Addr} {a : Option Addr} {l c : Nat} (hc : w.cell? p = some (.slice a l c)) (u : Value) : Rd U32 (w.setCell p u) B A xs := fun hn => by
  obtain ⟨ad, e, hb, hx⟩ := h hn
  refine ⟨ad, e, hb, fun j x hj => ?_⟩
  have h1 := hx j x hj
  rw [World.cell?_setCell_other w p _ u (by intro e; rw [← e, hc] at h1; cases h1)]
  exact h1
theorem div_parts {w : World} {g m d rest : Nat} {q : List Nat} {w2 : World} (_h : Hid (Blk U32 109 w g (digs W32 m))) (_hq1 : Hid (q.length = dl m)) (hq3 : Hid (val W32 ((digs W32 m).take (dl m)) = val W32 q * d + rest)) (hq4 : Hid (Blk U32 109 w2 g (q ++ (digs W32 m).drop (dl m)))) (hr : rest < d) :
    Hid (Blk U32 109 w2 g q) ∧ Hid (val W32 q = m / d) ∧ Hid (rest = m % d) := by
  have h1 := hq3.out
  rw [List.take_of_length_le (show (digs W32 m).length ≤ dl m from Nat.le_refl _), val_digs32] at h1
  have h2 := hq4.out
  rw [List.drop_of_length_le (show (digs W32 m).length ≤ dl m from Nat.le_refl _), List.append_nil] at h2
  refine ⟨h2, ?_, ?_⟩
  · unfold Hid
    rw [h1, Nat.mul_comm, Nat.mul_add_div (by omega), Nat.div_eq_of_lt hr, Nat.add_zero]
  · unfold Hid
    rw [h1, Nat.mul_comm, Nat.mul_add_mod, Nat.mod_eq_of_lt hr]
set_option maxHeartbeats 2000000 in
theorem Div_one {A A' : Option Addr} {n n' c c' m m' : Nat} {w : World} (h : Arg w w.heap.size A n c m) (h' : Arg w w.heap.size A' n' c' m') (h0 : m' ≤ m) (h1 : dl m' = 1) :
    Calls Tryz.prog 115 #[.agg #[.slice A n c], .agg #[.slice A' n' c']] w (DivPost w m m') := by
  have H : Hid (∀ o1 o2 v u t k, Arg (((((w.alloc o1).alloc o2).alloc (.cells #[v] t)).alloc (.cells #[u] t)).drewN k) w.heap.size A n c m) := fun o1 o2 v u t k => h.below (pre4 w o1 o2 v u t k).1
  have H' : Hid (∀ o1 o2 v u t k, Arg (((((w.alloc o1).alloc o2).alloc (.cells #[v] t)).alloc (.cells #[u] t)).drewN k) w.heap.size A' n' c' m') := fun o1 o2 v u t k => h'.below (pre4 w o1 o2 v u t k).1
  have hl : dl m ≤ 100000 := by have := h.digs.2; obtain ⟨_, _, _, h3, _⟩ := h; omega
  have hcm : ¬ cmpI m m' < 0 := by unfold cmpI; rw [if_neg (by omega)]; split <;> omega
  obtain ⟨hdg, hmw⟩ := digs_one h1
  have hm9 : m' ≤ 4294967295 := word_le hmw
  have hm0 : 1 ≤ m' := by
    rcases Nat.eq_zero_or_pos m' with rfl | h2
    · rw [dl0] at h1; omega
    · exact h2
  have HX := hide h.digs.1
  have hy2 := h'.digs.1.2
  rw [hdg] at hy2
  obtain ⟨ad, rfl, hab, hca⟩ := hy2.at_ (k := 0) (by simp)
  replace hca : w.cell? ad = some (.int .u32 (m' : Int)) := hca
  replace hab : ad.block < w.heap.size := hab
  have HH1 := hide h1
  have HDL := hide (show dl m' ≤ 100000 by omega)
  have HCA := hide hca
  have HAB := hide hab
  have T' : Hid (∀ o1 o2 v u t k, Calls Tryz.prog 80 #[.slice (some ad) n' c'] (((((w.alloc o1).alloc o2).alloc (.cells #[v] t)).alloc (.cells #[u] t)).drewN k) fun e w' => e = .returned (.slice (some ad) 1 c') ∧ (((((w.alloc o1).alloc o2).alloc (.cells #[v] t)).alloc (.cells #[u] t)).drewN k) = w') := fun o1 o2 v u t k => by
    have h5 := trim_arg (H'.out o1 o2 v u t k)
    rw [h1] at h5
    exact h5
  have CC : Hid (∀ o1 o2 v u t k, Calls Tryz.prog 153 #[.slice A (dl m) c, .slice (some ad) 1 c'] (((((w.alloc o1).alloc o2).alloc (.cells #[v] t)).alloc (.cells #[u] t)).drewN k) fun e w' => e = .returned (.int .i64 (cmpI m m')) ∧ ∃ q, w' = (((((w.alloc o1).alloc o2).alloc (.cells #[v] t)).alloc (.cells #[u] t)).drewN k).drewN q) := fun o1 o2 v u t k => by
    have h5 := compare_can (H.out o1 o2 v u t k).digs.1 (H'.out o1 o2 v u t k).digs.1 hl HDL.out
    rw [h1] at h5
    exact h5
  clear h h' h0 h1 hdg hmw hy2 hca hab
  go_enter Tryz.func115, Tryz.ntmps115
  go_wp2_with fail
  go_quiet ((go_at_call 80; first | exact quiet_left (trim_arg (H.out _ _ _ _ _ _)) | exact quiet_left (T'.out _ _ _ _ _ _)))
  go_wp2_with (first | (go_at_call 153; go_must (refine (CC.out _ _ _ _ _ _).mono ?_); rintro e w' ⟨rfl, q, rfl⟩) | (go_at_call 142; go_must (refine (fresh_can ((HX.out.below (pre4 w _ _ _ _ _ _).1).more (pre4 w _ _ _ _ _ _).1.size).2 (by omega)).mono ?_); rintro e w1 ⟨g, rfl, HGE, HBLK, HBEL⟩; obtain ⟨hw1, hq2, hq3, hsz⟩ := after4 HBEL.out; have HW1 := hide hw1; have HQ2 := hide hq2; have HQ3 := hide hq3; have HGB := hide (Nat.le_trans (Nat.le_of_eq (pre4 w _ _ _ _ _ _).2.1.symm) HGE.out); have hcy : w1.cell? ad = some (.int .u32 (m' : Int)) := (hw1.cell HAB.out).trans HCA.out; clear hq2 hq3 hw1 HGE HBEL) | (go_at_call 143; go_must (refine (divideByWord_any (k := dl m) (d := m') HBLK.out (Nat.le_refl _) (good_digs m) (by omega) hm9 hm0).mono ?_); rintro e w2 ⟨q2, rest, rfl, hq1, hq2, hrest, hq3, hq4, hq5⟩; have HQ5 := hide hq5; clear hq5; obtain ⟨HB2, HQV, HRV⟩ := div_parts HBLK hq1 hq3 hq4 hrest; have hz2 := HGB.out; have HR2 := hide ((HQ5.out.block _ (by omega) (by intro e; injection e with e; omega)).trans HQ2.out); have HR3 := hide ((HQ5.out.block _ (by omega) (by intro e; injection e with e; omega)).trans HQ3.out); have HS2 := hide HQ5.out.size) | (go_at_call 80; go_must (refine (trim_own HB2.out hq1.out.symm hq2.out (by omega) (Nat.le_refl _) HQV.out).mono ?_); rintro e w5 ⟨rfl, rfl⟩) | (go_at_call 10; go_must (refine (Of_any (n := rest) (by omega)).mono ?_); rintro e w3 ⟨A3, c3, rfl, hcn, hbl⟩; have HCN := hide hcn; have HBL := hide hbl; obtain ⟨r2, f2⟩ := one_cell ((hbl.block _ (by have := HS2.out; omega)).trans HR2.out); obtain ⟨r3, f3⟩ := one_cell ((hbl.block _ (by have := HS2.out; omega)).trans HR3.out); clear hcn hbl))
  refine bodyPost_ret (v := .tuple #[.agg #[.slice (some ⟨g, 0, none⟩) (dl (m / m')) (dl m)], .agg #[.slice A3 (dl rest) c3], .bool true]) (by simp [results, Tryz.results115, go_sem, r2, r3]) rfl ?_
  have hgb := HGB.out
  have hb2 : Blk U32 109 w3 g q2 := HB2.out.below HBL.out HB2.out.lt
  refine ⟨some ⟨g, 0, none⟩, dl m, A3, c3, by rw [HRV.out], ?_, ?_, ?_⟩
  · exact can_own ((hb2.far (p := ⟨w.heap.size + 1 + 1, 0, none⟩) (by simp; omega) _).far (p := ⟨w.heap.size + 1 + 1 + 1, 0, none⟩) (by simp; omega) _) hq1.out.symm hq2.out (Nat.le_refl _) HQV.out
  · rw [← HRV.out]
    have h23 : (w3.setCell ⟨w.heap.size + 1 + 1, 0, none⟩ (.slice (some ⟨g, 0, none⟩) (dl (m / m')) (dl m))).cell? ⟨w.heap.size + 1 + 1 + 1, 0, none⟩ = some (.slice none 0 0) :=
      (World.cell?_setCell_other w3 _ _ _ (by intro e; injection e with e; omega)).trans r3
    refine ⟨HCN.out.1, ?_⟩
    have h1 := Rd.setBox (Rd.setBox HCN.out.2 (p := ⟨w.heap.size + 1 + 1, 0, none⟩) r2 (.slice (some ⟨g, 0, none⟩) (dl (m / m')) (dl m))) h23 (.slice A3 (dl rest) c3)
    simpa [World.setCell] using h1
  · exact (((HW1.out.trans (grown_below HQ5.out (by omega) HBLK.out.lt)).trans (HBL.out.mono (Nat.le_trans HW1.out.size HS2.out))).setCell (by simp; omega) _).setCell (by simp; omega) _
end Go.Proofs.YteahcbeohopdlaaGreatDoor
end

section
/- Div whole: the quotient and the rest of any two numbers. Conditions: less than 100000 words. -/
open Go.RowKit
set_option maxRecDepth 100000
namespace Go.Proofs.YteahcbeohopdlaaGreatDoor
set_option maxHeartbeats 4000000 in
theorem Div_long {A A' : Option Addr} {n n' c c' m m' : Nat} {w : World} (h : Arg w w.heap.size A n c m) (h' : Arg w w.heap.size A' n' c' m') (h0 : m' ≤ m) (h1 : 2 ≤ dl m') (hl9 : dl m ≤ 99999) :
    Calls Tryz.prog 115 #[.agg #[.slice A n c], .agg #[.slice A' n' c']] w (DivPost w m m') := by
  have H : Hid (∀ o1 o2 v u t k, Arg (((((w.alloc o1).alloc o2).alloc (.cells #[v] t)).alloc (.cells #[u] t)).drewN k) w.heap.size A n c m) := fun o1 o2 v u t k => h.below (pre4 w o1 o2 v u t k).1
  have H' : Hid (∀ o1 o2 v u t k, Arg (((((w.alloc o1).alloc o2).alloc (.cells #[v] t)).alloc (.cells #[u] t)).drewN k) w.heap.size A' n' c' m') := fun o1 o2 v u t k => h'.below (pre4 w o1 o2 v u t k).1
  have hl : dl m ≤ 100000 := by omega
  have hmono : dl m' ≤ dl m := digs_len_mono (b := W32) (by decide) h0
  have hcm : ¬ cmpI m m' < 0 := by unfold cmpI; rw [if_neg (by omega)]; split <;> omega
  have H0 := hide h0
  have hd1 : (((dl m' : Nat) : Int) == 0) = false := by rw [beq_eq_false_iff_ne]; omega
  have hd2 : (((dl m' : Nat) : Int) == 1) = false := by rw [beq_eq_false_iff_ne]; omega
  have CC : Hid (∀ o1 o2 v u t k, Calls Tryz.prog 153 #[.slice A (dl m) c, .slice A' (dl m') c'] (((((w.alloc o1).alloc o2).alloc (.cells #[v] t)).alloc (.cells #[u] t)).drewN k) fun e w' => e = .returned (.int .i64 (cmpI m m')) ∧ ∃ q, w' = (((((w.alloc o1).alloc o2).alloc (.cells #[v] t)).alloc (.cells #[u] t)).drewN k).drewN q) := fun o1 o2 v u t k =>
    compare_can (H.out o1 o2 v u t k).digs.1 (H'.out o1 o2 v u t k).digs.1 hl (by omega)
  have CL : Hid (∀ o1 o2 v u t k, Calls Tryz.prog 154 #[.slice A (dl m) c, .slice A' (dl m') c'] (((((w.alloc o1).alloc o2).alloc (.cells #[v] t)).alloc (.cells #[u] t)).drewN k) (LongPost (((((w.alloc o1).alloc o2).alloc (.cells #[v] t)).alloc (.cells #[u] t)).drewN k) m m')) := fun o1 o2 v u t k => by
    have p := (pre4 w o1 o2 v u t k).1.size
    exact divideLong_any ((H.out o1 o2 v u t k).digs.1.more p) ((H'.out o1 o2 v u t k).digs.1.more p) H0.out h1 hl9
  clear h h' h0 h1 hl9
  go_enter Tryz.func115, Tryz.ntmps115
  go_wp2_with fail
  go_quiet ((go_at_call 80; first | exact quiet_left (trim_arg (H.out _ _ _ _ _ _)) | exact quiet_left (trim_arg (H'.out _ _ _ _ _ _))))
  go_wp2_with (first | (go_at_call 153; go_must (refine (CC.out _ _ _ _ _ _).mono ?_); rintro e w' ⟨rfl, q, rfl⟩) | (go_at_call 154; go_must (refine (CL.out _ _ _ _ _ _).mono ?_); rintro e w1 ⟨gq, gr, nq, nr, Q, R, rfl, hq, hqq, hr, hrr, hge, hbel⟩; obtain ⟨hw1, hq2, hq3, hsz⟩ := after4 hbel.out; have HW1 := hide hw1; have r2 := (one_cell hq2).1; have f2 := (one_cell hq2).2; have r3 := (one_cell hq3).1; have f3 := (one_cell hq3).2; clear hq2 hq3 hw1 hbel) | (go_at_call 80; (with_reducible refine (trim_own hq.out hqq.out.1 hqq.out.2.1 (by have := hqq.out.2.2.1; omega) (Nat.le_refl _) hqq.out.2.2.2).mono ?_); rintro e w5 ⟨rfl, rfl⟩) | (go_at_call 80; (with_reducible refine (trim_own hr.out hrr.out.1 hrr.out.2.1 (by have := hrr.out.2.2.1; omega) (Nat.le_refl _) hrr.out.2.2.2).mono ?_); rintro e w6 ⟨rfl, rfl⟩))
  refine bodyPost_ret (v := .tuple #[.agg #[.slice (some ⟨gq, 0, none⟩) (dl (m / m')) nq], .agg #[.slice (some ⟨gr, 0, none⟩) (dl (m % m')) nr], .bool true]) (by simp [results, Tryz.results115, go_sem, r2, r3]) rfl ?_
  obtain ⟨ha, hb⟩ := hge.out
  rw [(pre4 w _ _ _ _ _ _).2.1] at ha hb
  refine ⟨some ⟨gq, 0, none⟩, nq, some ⟨gr, 0, none⟩, nr, rfl, ?_, ?_, (HW1.out.setCell (by simp; omega) _).setCell (by simp; omega) _⟩
  · exact can_own ((hq.out.far (p := ⟨w.heap.size + 1 + 1, 0, none⟩) (by simp; omega) _).far (p := ⟨w.heap.size + 1 + 1 + 1, 0, none⟩) (by simp; omega) _) hqq.out.1 hqq.out.2.1 (Nat.le_refl _) hqq.out.2.2.2
  · exact can_own ((hr.out.far (p := ⟨w.heap.size + 1 + 1, 0, none⟩) (by simp; omega) _).far (p := ⟨w.heap.size + 1 + 1 + 1, 0, none⟩) (by simp; omega) _) hrr.out.1 hrr.out.2.1 (Nat.le_refl _) hrr.out.2.2.2
/-- Div of any two numbers, b not 0. -/
theorem Div_any {A A' : Option Addr} {n n' c c' m m' : Nat} {w : World} (h : Arg w w.heap.size A n c m) (h' : Arg w w.heap.size A' n' c' m') (h0 : 0 < m') (hl : dl m ≤ 99999) :
    Calls Tryz.prog 115 #[.agg #[.slice A n c], .agg #[.slice A' n' c']] w (DivPost w m m') := by
  rcases Nat.lt_or_ge m m' with h1 | h1
  · exact Div_less h h' h1
  · rcases Nat.lt_or_ge (dl m') 2 with h2 | h2
    · refine Div_one h h' h1 ?_
      rcases Nat.eq_zero_or_pos (dl m') with h3 | h3
      · have := dl_zero h3; omega
      · omega
    · exact Div_long h h' h1 h2 hl
end Go.Proofs.YteahcbeohopdlaaGreatDoor
end

section
/- appendGroup. Conditions: at most 1000000 words. -/
open Go.RowKit
set_option maxRecDepth 100000
namespace Go.Proofs.YteahcbeohopdlaaGreatDoor
theorem set_at {seg L : List Nat} {i v : Nat} (h : seg.length = i) (hi : i < L.length) : (seg ++ L.drop i).set i v = (seg ++ [v]) ++ L.drop (i + 1) := by
  rw [List.set_append, if_neg (by omega), h, Nat.sub_self, List.drop_eq_getElem_cons hi, List.set_cons_zero]; simp
theorem get_at {seg L : List Nat} {i : Nat} (h : seg.length = i) : (seg ++ L.drop i)[i]? = L[i]? := by
  rw [List.getElem?_append_right (by omega), h, Nat.sub_self, List.getElem?_drop]; rfl
/-- Words of the value's own length that tell enough are its digits. -/
theorem digs_of_big {b : Nat} (hb : 2 ≤ b) (l : List Nat) (h : ∀ x ∈ l, x < b) (hv : 0 < l.length → b ^ (l.length - 1) ≤ val b l) : digs b (val b l) = l := by
  have h1 := digs_take hb l h
  have h2 := digs_len_le hb l h
  have h3 : l.length ≤ (digs b (val b l)).length := by
    rcases Nat.eq_zero_or_pos l.length with h0 | h0
    · omega
    · have h4 := hv h0
      have h5 := lt_pow_digs hb (val b l)
      rcases Nat.lt_or_ge (digs b (val b l)).length l.length with h6 | h6
      · have : b ^ (digs b (val b l)).length ≤ b ^ (l.length - 1) := Nat.pow_le_pow_right (by omega) (by omega)
        omega
      · exact h6
  rw [← h1, List.take_of_length_le h3]
/-- A slice of the call's own that reads as ws, with room perhaps. -/
def OwnF (f : Nat → Value) (t : TypeId) (w : World) (base g cap : Nat) (ws : List Nat) : Prop := w.ownsRow base t 1 (.slice (some ⟨g, 0, none⟩) ws.length cap) ws.length (ws.map f)
section
variable {f : Nat → Value} {t : TypeId} {w : World} {base g cap : Nat} {ws : List Nat}
theorem OwnF.cell (h : OwnF f t w base g cap ws) {i x : Nat} (hx : ws[i]? = some x) : w.cell? ⟨g, i, none⟩ = some (f x) := by
  have hi : i < ws.length := by
    rcases Nat.lt_or_ge i ws.length with h1 | h1
    · exact h1
    · rw [List.getElem?_eq_none h1] at hx; cases hx
  rw [World.ownsRow.cellAt h i (by omega), List.getElem?_map, hx]; rfl
theorem OwnF.set_ (h : OwnF f t w base g cap ws) (i v : Nat) : OwnF f t (w.setCell ⟨g, i, none⟩ (f v)) base g cap (ws.set i v) := by
  have := (World.ownsRow.stored h i (f v)).1
  unfold OwnF
  rw [List.length_set, List.map_set]
  exact this
theorem OwnF.ge (h : OwnF f t w base g cap ws) : base ≤ g ∧ g < w.heap.size := h.lt g rfl
theorem OwnF.frozen (h : OwnF f t w base g cap ws) (i : Nat) : w.frozen? ⟨g, i, none⟩ = false := World.ownsRow.frozenAt h i
theorem OwnF.drewN (h : OwnF f t w base g cap ws) (n : Nat) : OwnF f t (w.drewN n) base g cap ws := h
theorem OwnF.drew (h : OwnF f t w base g cap ws) : OwnF f t w.drew base g cap ws := h
end
def OwnG (w : World) (base g cap : Nat) (ws : List Nat) : Prop := OwnF U32 109 w base g cap ws
theorem OwnG.cell {w : World} {base g cap : Nat} {ws : List Nat} (h : OwnG w base g cap ws) {i x : Nat} (hx : ws[i]? = some x) : w.cell? ⟨g, i, none⟩ = some (.int .u32 (x : Int)) := OwnF.cell h hx
theorem OwnG.set_ {w : World} {base g cap : Nat} {ws : List Nat} (h : OwnG w base g cap ws) (i v : Nat) : OwnG (w.setCell ⟨g, i, none⟩ (.int .u32 (v : Int))) base g cap (ws.set i v) := OwnF.set_ h i v
theorem OwnG.ge {w : World} {base g cap : Nat} {ws : List Nat} (h : OwnG w base g cap ws) : base ≤ g ∧ g < w.heap.size := OwnF.ge h
def AGPost (w : World) (base M : Nat) (e : Ending) (w' : World) : Prop :=
  ∃ g' cap', e = .returned (.slice (some ⟨g', 0, none⟩) (dl M) cap') ∧ Hid (OwnG w' base g' cap' (digs W32 M)) ∧ Hid (Below base w w')
theorem OwnG.can {w : World} {base g cap m : Nat} (h : OwnG w base g cap (digs W32 m)) {p : Addr} (hp : g ≠ p.block) (u : Value) : Can (w.setCell p u) (w.setCell p u).heap.size (some ⟨g, 0, none⟩) cap m := by
  refine ⟨?_, fun _ => ⟨_, rfl, by have := h.ge.2; simpa [World.setCell] using this, fun j x hx => ?_⟩⟩
  · rcases h.2 with ⟨h', _⟩ | ⟨g', cap', cur, h', _, _, hn, _⟩
    · cases h'
    · simp only [Value.slice.injEq, Option.some.injEq, Addr.mk.injEq, and_true, true_and] at h'
      obtain ⟨_, rfl⟩ := h'
      exact hn
  · rw [World.cell?_setCell_other w p _ u (by intro e; rw [e, block_add] at hp; exact hp rfl)]
    exact World.ownsRow.cells h rfl j _ (by rw [List.getElem?_map, hx]; rfl)
theorem ag_math {P V c vt group q r x W : Nat} (h : V + P * c = vt * 1000000000 + group) (hq : r + W * q = c + x * 1000000000) : V + P * r + P * W * q = (vt + P * x) * 1000000000 + group := by
  have e1 : P * r + P * W * q = P * c + P * (x * 1000000000) := by rw [Nat.mul_assoc, ← Nat.mul_add, hq, Nat.mul_add]
  rw [Nat.add_mul, Nat.mul_assoc P x]; omega
set_option maxHeartbeats 1000000 in
theorem appendGroup_any {g cap base m group : Nat} {w : World} (h : OwnG w base g cap (digs W32 m)) (hg : group ≤ 999999999) (hl : dl m ≤ 1000000) :
    Calls Tryz.prog 140 #[.slice (some ⟨g, 0, none⟩) (dl m) cap, .int .u32 (group : Int)] w (AGPost w base (m * 1000000000 + group)) := by
  have H := hide h
  have HBG := hide h.ge
  clear h
  obtain ⟨i0, hi0, hz0, hz1, hz2⟩ := info_parts Tryz.infoU32
  have I0 := hide hi0
  have Z0 := hide hz0
  have Z1 := hide hz1
  have Z2 := hide hz2
  clear hi0 hz0 hz1 hz2
  go_enter Tryz.func140, Tryz.ntmps140
  go_wp2
  go_loopw [5, 12] (fun cv iv wr => ∃ i c : Nat, ∃ seg : List Nat, i ≤ dl m ∧ c ≤ 999999999 ∧ cv = .int .u64 (c : Int) ∧ iv = .int .i64 (i : Int) ∧ Hid (seg.length = i) ∧ Hid (Good32 seg) ∧ Hid (val W32 seg + W32 ^ i * c = val W32 ((digs W32 m).take i) * 1000000000 + group) ∧
      Hid (OwnG wr base g cap (seg ++ (digs W32 m).drop i)) ∧ Hid (w.grownBy wr (some g)))
    (fun _ iv _ => dl m - (intOf iv).toNat)
  case atStart => exact ⟨0, group, [], Nat.zero_le _, hg, rfl, rfl, rfl, by intro x hx; simp at hx, by simp [Hid, val], H, World.grownBy.refl _ _⟩
  case round =>
    obtain ⟨i, c, seg, hi, hc, rfl, rfl, hsl, hsg, hval, hown, hgr⟩ := hrel
    by_cases hlt : i < dl m
    · have hix : i < (digs W32 m).length := hlt
      obtain ⟨x, hxe⟩ : ∃ x, x = (digs W32 m)[i] := ⟨_, rfl⟩
      have hxL : (digs W32 m)[i]? = some x := by rw [hxe]; exact List.getElem?_eq_getElem hix
      have RX := hide (val_take_succ W32 (L := digs W32 m) (i := i) (x := x) hxL)
      have hxW : x ≤ 4294967295 := word_le (by rw [hxe]; exact good_digs m _ (List.getElem_mem _))
      have hcx := hown.out.cell (show (seg ++ (digs W32 m).drop i)[i]? = some x by rw [get_at hsl.out]; exact hxL)
      have hfz := World.ownsRow.frozenAt hown.out i
      have RM := hide (ag_math (W := W32) hval.out (lohi (c + x * 1000000000)))
      have HS := hide (set_at (v := (c + x * 1000000000) % W32) hsl.out hix)
      clear hxe hix hxL
      go_wp2
      go_roundw
      case rel =>
        refine ⟨i + 1, (c + x * 1000000000) / W32, seg ++ [(c + x * 1000000000) % W32], by omega, by rw [W32_eq]; omega, rfl, by go_num, by unfold Hid; simp [hsl.out], good_snoc hsg.out (lo_lt _), ?_, ?_, grown_set hgr.out _ _⟩
        · unfold Hid
          rw [val_snoc, hsl.out, Nat.pow_succ, RX.out]
          exact RM.out
        · have h1 := hown.out.set_ i ((c + x * 1000000000) % W32)
          rw [HS.out] at h1
          exact h1
      case measure => simp [intOf]; omega
    · obtain rfl : i = dl m := by omega
      have hd : (digs W32 m).drop (dl m) = [] := List.drop_of_length_le (Nat.le_refl _)
      rw [hd, List.append_nil] at hown
      have HV : Hid (val W32 seg + W32 ^ dl m * c = m * 1000000000 + group) := by
        have := hval.out
        rw [List.take_of_length_le (show (digs W32 m).length ≤ dl m from Nat.le_refl _), val_digs32] at this
        exact this
      clear hd hval
      by_cases hc0 : c = 0
      · subst hc0
        have HM : Hid (digs W32 (m * 1000000000 + group) = seg) := by
          unfold Hid
          have h1 := HV.out
          rw [Nat.mul_zero, Nat.add_zero] at h1
          rw [← h1]
          refine digs_of_big (by decide) seg hsg.out fun h0 => ?_
          rw [hsl.out] at h0 ⊢
          have h2 := pow_le_of_digs (b := W32) (n := m) (by decide) (by
            rcases Nat.eq_zero_or_pos m with rfl | h3
            · exact absurd h0 (by unfold dl; rw [digs_zero]; simp)
            · exact h3)
          exact Nat.le_trans h2 (by rw [h1]; omega)
        have HDL : Hid (dl (m * 1000000000 + group) = dl m) := by unfold Hid; rw [show dl (m * 1000000000 + group) = seg.length by unfold dl; rw [HM.out], hsl.out]
        go_wp2
        go_ret
        refine ⟨g, cap, slice_ret HDL.out.symm, ?_, grown_below hgr.out HBG.out.1 HBG.out.2⟩
        rw [HM.out]
        exact hown
      · have hcp : (0 : Int) < (c : Int) := by omega
        have HM : Hid (digs W32 (m * 1000000000 + group) = seg ++ [c]) := by
          unfold Hid
          have h1 : val W32 (seg ++ [c]) = m * 1000000000 + group := by rw [val_snoc, hsl.out]; exact HV.out
          rw [← h1]
          refine digs_of_big (by decide) _ (good_snoc hsg.out (by rw [W32_eq]; omega)) fun _ => ?_
          rw [val_snoc, List.length_append, List.length_singleton, Nat.add_sub_cancel]
          exact Nat.le_trans (Nat.le_mul_of_pos_right _ (by omega)) (Nat.le_add_left _ _)
        have HDL : Hid (dl (m * 1000000000 + group) = dl m + 1) := by unfold Hid; rw [show dl (m * 1000000000 + group) = (seg ++ [c]).length by unfold dl; rw [HM.out]]; simp [hsl.out]
        have HO : Hid (wr.ownsRow base 109 1 (.slice (some ⟨g, 0, none⟩) (dl m) cap) (dl m) (seg.map U32)) := by
          have := hown.out
          unfold OwnG OwnF at this
          rw [hsl.out] at this
          exact this
        have HBW := hide (Nat.le_trans HBG.out.1 (Nat.le_of_lt (Nat.lt_of_lt_of_le HBG.out.2 hgr.out.size)))
        clear hc0
        go_wp2_with (first | (at_builtin; go_must (refine wpList_append_own _ rfl (.tmp 32) (.tmp 35) 23 rfl base 109 i0 (.int .u32 0) 1 4 Tryz.underlying23 I0.out Z0.out Z1.out Z2.out rfl (by decide) _ _ _ rfl (HO.out.alloc _) ⟨wr.heap.size, 0, none⟩ 1 1 [.int .u32 (c : Int)] rfl rfl (cell_one_new _ _ _) (by intro u hu; simp at hu; subst hu; rfl) (by simp only [maxLen]; omega) (by omega) (by have := HBW.out; simp; omega) ?_; intro v' w1 hown' hgrow hnil)))
        go_ret
        have hown2 := hown'
        rcases hown'.2 with ⟨_, h0⟩ | ⟨g', cap', cur, rfl, _⟩
        · omega
        · refine ⟨g', cap', slice_ret HDL.out.symm, ?_, ?_⟩
          · unfold Hid OwnG OwnF
            rw [HM.out, List.length_append, hsl.out, List.map_append]
            exact hown2
          · exact ((grown_below hgr.out HBG.out.1 HBG.out.2).alloc HBW.out _).grown hgrow (by have := HBW.out; simp; omega) (by intro k hk; have e : some g = some k := hk; injection e with e; have := HBG.out.1; omega)
end Go.Proofs.YteahcbeohopdlaaGreatDoor
end

section
/- The document's own numbers, four digits each: trim, at, Cmp, Small. Conditions: at most 1000000 of them. -/
open Go.RowKit
set_option maxRecDepth 100000
namespace Go.Proofs.YteahcbeohopdlaaGreatDoor
def D4 : Nat := 10000
theorem D4_eq : D4 = 10000 := rfl
def dq (m : Nat) : Nat := (digs D4 m).length
def Good4 (ws : List Nat) : Prop := ∀ x ∈ ws, x < D4
def RN (w : World) (B : Nat) (A : Option Addr) (c m : Nat) : Prop := dq m ≤ c ∧ Rd I64 w B A (digs D4 m)
section
variable {w w' : World} {B B' : Nat} {A : Option Addr} {c m : Nat}
theorem RN.below (h : RN w B A c m) (hb : Below B w w') : RN w' B A c m := ⟨h.1, h.2.below hb⟩
theorem RN.more (h : RN w B A c m) (hb : B ≤ B') : RN w B' A c m := ⟨h.1, h.2.more hb⟩
theorem RN.drewN (h : RN w B A c m) (k : Nat) : RN (w.drewN k) B A c m := h
end
def RefPost (w : World) (m : Nat) (e : Ending) (w' : World) : Prop := ∃ A c, e = .returned (.slice A (dq m) c) ∧ Hid (RN w' w'.heap.size A c m) ∧ Hid (Below w.heap.size w w')
theorem good4_digs (m : Nat) : Good4 (digs D4 m) := digs_lt (by decide) m
theorem val_digs4 (m : Nat) : val D4 (digs D4 m) = m := val_digs (by decide) m
def trimmed4 (ws : List Nat) : Nat := dq (val D4 ws)
theorem trimmed4_of {ws : List Nat} {k : Nat} (h : Good4 ws) (hk : k ≤ ws.length) (hz : ∀ j : Nat, k ≤ j → ws[j]?.getD 0 = 0) (hl : 0 < k → ws[k - 1]?.getD 0 ≠ 0) : trimmed4 ws = k := by
  unfold trimmed4 dq
  rw [← trim_eq (by decide) ws k h hk hz hl, List.length_take, Nat.min_eq_left hk]
set_option maxHeartbeats 400000 in
theorem rtrim_any (A : Option Addr) (ws : List Nat) (c : Nat) (w : World) (B : Nat) (h : Rd I64 w B A ws) (hw : Good4 ws) (hl : ws.length ≤ 1000000) (hc : ws.length ≤ c) :
    Calls Tryz.prog 146 #[.slice A ws.length c] w fun e w' => e = .returned (.slice A (trimmed4 ws) c) ∧ w = w' := by
  obtain ⟨n, hn⟩ : ∃ n, n = ws.length := ⟨_, rfl⟩
  have hl' : n ≤ 1000000 := by omega
  have hc' : n ≤ c := by omega
  rw [← hn]
  have HN := hide hn; have HW := hide hw; have HR := hide h
  clear hw hn hl hc h
  go_enter Tryz.func146, Tryz.ntmps146
  go_wp2
  go_loop [0] (fun l => ∃ k : Nat, k ≤ n ∧ Hid (∀ j : Nat, k ≤ j → ws[j]?.getD 0 = 0) ∧ l = .slice A k c) lenOf
  case atStart => exact ⟨n, Nat.le_refl _, fun j hj => by rw [List.getElem?_eq_none (by have := HN.out; omega)]; rfl, rfl⟩
  case round =>
    obtain ⟨k, hk, hz, rfl⟩ := hrel
    by_cases h0 : k = 0
    · subst h0
      go_wp2
      go_ret
      exact ⟨slice_ret (trimmed4_of HW.out (by omega) hz.out (by omega)).symm, rfl⟩
    · obtain ⟨m, rfl⟩ : ∃ m, k = m + 1 := ⟨k - 1, by omega⟩
      have hm : m < ws.length := by have := HN.out; omega
      obtain ⟨ad, rfl, hb, hcell⟩ := HR.out.at_ hm
      have hx : ws[m]?.getD 0 = ws[m] := by rw [List.getElem?_eq_getElem hm]; rfl
      obtain ⟨x, hxe⟩ : ∃ x, x = ws[m] := ⟨_, rfl⟩
      rw [← hxe] at hcell hx
      unfold I64 at hcell
      have HX := hide hx
      clear hx hxe hm
      by_cases hx0 : x = 0
      · have hx1 : ((x : Int) == 0) = true := by subst hx0; rfl
        have HX0 := hide hx0
        clear hx0
        go_wp2
        go_round
        case rel => exact ⟨m, by omega, fun j hj => by rcases Nat.eq_or_lt_of_le hj with rfl | hj; (· rw [HX.out, HX0.out]); (· exact hz.out j hj), by first | rfl | simp⟩
        case measure => simp [lenOf]
      · have hx1 : ((x : Int) == 0) = false := by simp; omega
        have HX0 := hide hx0
        clear hx0
        go_wp2
        go_ret
        exact ⟨slice_ret (trimmed4_of HW.out (by have := HN.out; omega) hz.out (fun _ => by rw [Nat.add_sub_cancel, HX.out]; exact HX0.out)).symm, rfl⟩
theorem rdigs_take (ws : List Nat) (h : Good4 ws) : ws.take (dq (val D4 ws)) = digs D4 (val D4 ws) := digs_take (by decide) ws h
/-- trim over a row of the call's own. -/
theorem rtrim_post {A : Option Addr} {ws : List Nat} {n c v : Nat} {w : World} (hn : n = ws.length) (hv : val D4 ws = v) (h : Rd I64 w w.heap.size A ws) (hw : Good4 ws) (hl : n ≤ 1000000) (hc : n ≤ c) :
    Calls Tryz.prog 146 #[.slice A n c] w fun e w' => e = .returned (.slice A (dq v) c) ∧ w = w' := by
  subst hn; subst hv
  exact rtrim_any A ws c w _ h hw hl hc
theorem rn_of {A : Option Addr} {ws : List Nat} {n c v : Nat} {w : World} {B : Nat} (hn : n = ws.length) (hv : val D4 ws = v) (h : Rd I64 w B A ws) (hw : Good4 ws) (hc : n ≤ c) : RN w B A c v := by
  subst hn; subst hv
  have hle : dq (val D4 ws) ≤ ws.length := digs_len_le (by decide) ws hw
  refine ⟨by omega, ?_⟩
  have := h.take (dq (val D4 ws))
  rwa [rdigs_take ws hw] at this
set_option maxHeartbeats 400000 in
theorem at_any {A : Option Addr} {ws : List Nat} {n c i : Nat} {w : World} {B : Nat} (hn : n = ws.length) (h : Rd I64 w B A ws) :
    Calls Tryz.prog 147 #[.slice A n c, .int .i64 (i : Int)] w fun e w' => e = .returned (.int .i64 ((ws[i]?.getD 0 : Nat) : Int)) ∧ w = w' := by
  by_cases hlt : i < n
  · have hi2 : i < ws.length := by omega
    obtain ⟨ad, rfl, hb, hc⟩ := h.at_ hi2
    obtain ⟨x, hx⟩ : ∃ x, x = ws[i] := ⟨_, rfl⟩
    have HX : Hid (ws[i]?.getD 0 = x) := by unfold Hid; rw [hx, List.getElem?_eq_getElem hi2]; rfl
    rw [← hx] at hc
    unfold I64 at hc
    clear hx hi2 h hn
    go_enter Tryz.func147, Tryz.ntmps147
    go_wp2
    go_ret
    exact ⟨by rw [HX.out]; rfl, rfl⟩
  · have HX : Hid (ws[i]?.getD 0 = 0) := by unfold Hid; rw [List.getElem?_eq_none (by omega)]; rfl
    clear h hn
    go_enter Tryz.func147, Tryz.ntmps147
    go_wp2
    go_ret
    exact ⟨by rw [HX.out]; rfl, rfl⟩
theorem cmpI_len4 {m n : Nat} (h : dq m ≠ dq n) : cmpI (dq m) (dq n) = cmpI m n := by
  rcases Nat.lt_or_ge (dq m) (dq n) with h1 | h1
  · rw [cmpI_lt h1, cmpI_lt (digs_len_lt (b := D4) (by decide) h1)]
  · rw [cmpI_gt (by omega), cmpI_gt (digs_len_lt (b := D4) (by decide) (show dq n < dq m by omega))]
theorem cmpI_at4 {m n i : Nat} (hlen : dq m = dq n) (hi : i < dq m) (heq : (digs D4 m).drop (i + 1) = (digs D4 n).drop (i + 1)) {x y : Nat} (hx : (digs D4 m)[i]? = some x) (hy : (digs D4 n)[i]? = some y) (hne : x ≠ y) : cmpI x y = cmpI m n := by
  have key : ∀ {m n x y : Nat}, dq m = dq n → i < dq m → (digs D4 m).drop (i + 1) = (digs D4 n).drop (i + 1) → (digs D4 m)[i]? = some x → (digs D4 n)[i]? = some y → x < y → m < n := by
    intro m n x y hlen hi heq hx hy hlt
    have := val_cmp (b := D4) (digs D4 m) (digs D4 n) i (digs_lt (by decide) m) hlen hi heq (by rw [hx, hy]; exact hlt)
    rwa [val_digs (by decide), val_digs (by decide)] at this
  rcases Nat.lt_or_ge x y with h | h
  · rw [cmpI_lt h, cmpI_lt (key hlen hi heq hx hy h)]
  · rw [cmpI_gt (by omega), cmpI_gt (key hlen.symm (by omega) heq.symm hy hx (by omega))]
set_option maxHeartbeats 1000000 in
theorem rCmp_any {A A' : Option Addr} {m n c c' : Nat} {w : World} {B : Nat} (h : RN w B A c m) (h' : RN w B A' c' n) (hl : dq m ≤ 1000000) (hl' : dq n ≤ 1000000) :
    Calls Tryz.prog 121 #[.slice A (dq m) c, .slice A' (dq n) c'] w fun e w' => e = .returned (.int .i64 (cmpI m n)) ∧ ∃ q, w' = w.drewN q := by
  obtain ⟨k, hk⟩ : ∃ k, k = dq m := ⟨_, rfl⟩
  obtain ⟨k', hk'⟩ : ∃ k, k = dq n := ⟨_, rfl⟩
  have HR := hide h.2; have HR' := hide h'.2
  rw [← hk] at hl ⊢
  rw [← hk'] at hl' ⊢
  have HK := hide hk; have HK' := hide hk'
  clear hk hk' h h'
  by_cases hlen : k = k'
  · subst hlen
    go_enter Tryz.func121, Tryz.ntmps121
    go_wp2
    go_loopw [5] (fun i wr => ∃ j q : Nat, j ≤ k ∧ Hid ((digs D4 m).drop j = (digs D4 n).drop j) ∧ i = .int .i64 ((j : Int) - 1) ∧ Hid (wr = w.drewN q)) (fun i _ => (intOf i + 1).toNat)
    case atStart => exact ⟨k, 0, Nat.le_refl _, by unfold Hid; rw [List.drop_of_length_le (Nat.le_of_eq HK.out.symm), List.drop_of_length_le (Nat.le_of_eq HK'.out.symm)], rfl, rfl⟩
    case round =>
      obtain ⟨j, q, hj, hd, rfl, HQ⟩ := hrel
      by_cases h0 : j = 0
      · subst h0
        go_wp2
        go_ret
        exact ⟨int_ret (cmpI_eq (digs_inj (b := D4) (by decide) hd.out)).symm, q, HQ.out⟩
      · obtain ⟨i, rfl⟩ : ∃ i, j = i + 1 := ⟨j - 1, by omega⟩
        have hi : i < (digs D4 m).length := Nat.lt_of_lt_of_eq (by omega) HK.out
        have hi' : i < (digs D4 n).length := Nat.lt_of_lt_of_eq (by omega) HK'.out
        obtain ⟨ad, rfl, hb, hcell⟩ := HR.out.at_ hi
        obtain ⟨ad', rfl, hb', hcell'⟩ := HR'.out.at_ hi'
        obtain ⟨x, hx⟩ : ∃ x, x = (digs D4 m)[i] := ⟨_, rfl⟩
        obtain ⟨y, hy⟩ : ∃ x, x = (digs D4 n)[i] := ⟨_, rfl⟩
        rw [← hx] at hcell
        rw [← hy] at hcell'
        have HX : Hid ((digs D4 m)[i]? = some x) := by unfold Hid; rw [hx, List.getElem?_eq_getElem hi]
        have HY : Hid ((digs D4 n)[i]? = some y) := by unfold Hid; rw [hy, List.getElem?_eq_getElem hi']
        unfold I64 at hcell hcell'
        replace hcell : wr.cell? (ad.add i) = some (.int .i64 x) := by rw [HQ.out]; exact hcell
        replace hcell' : wr.cell? (ad'.add i) = some (.int .i64 y) := by rw [HQ.out]; exact hcell'
        have hli : i < dq m := hi
        have HLI := hide hli
        have hdrop : x = y → (digs D4 m).drop i = (digs D4 n).drop i := fun e => by
          rw [List.drop_eq_getElem_cons hi, List.drop_eq_getElem_cons hi', ← hx, ← hy, e, hd.out]
        have HD := hide hdrop
        clear hx hy hi hi' hli hdrop
        rcases Nat.lt_trichotomy x y with hxy | hxy | hxy
        · go_wp2_with fail
          go_quiet (fail)
          go_wp2
          go_ret
          exact ⟨int_ret ((cmpI_lt hxy).symm.trans (cmpI_at4 (by rw [← HK.out]; exact HK'.out) HLI.out hd.out HX.out HY.out (by omega))), drew_end HQ⟩
        · subst hxy
          go_wp2_with fail
          go_quiet (fail)
          rename_i nq
          obtain ⟨W2, hW2⟩ : ∃ W2, W2 = wr.drewN nq := ⟨_, rfl⟩
          rw [← hW2]
          have HC := drew_cell hW2 hcell
          have HC' := drew_cell hW2 hcell'
          have HW2 := drew_hid hW2 HQ
          clear hW2 hcell hcell' HQ
          go_wp2_with fail
          go_quiet (fail)
          go_wp2
          go_roundw
          case rel => exact ⟨i, _, by omega, HD.out (by first | rfl | trivial), rfl, drew_more HW2⟩
          case measure => simp [intOf]
        · go_wp2_with fail
          go_quiet (fail)
          rename_i nq
          obtain ⟨W2, hW2⟩ : ∃ W2, W2 = wr.drewN nq := ⟨_, rfl⟩
          rw [← hW2]
          have HC := drew_cell hW2 hcell
          have HC' := drew_cell hW2 hcell'
          have HW2 := drew_hid hW2 HQ
          clear hW2 hcell hcell' HQ
          go_wp2_with fail
          go_quiet (fail)
          go_wp2
          go_ret
          exact ⟨int_ret ((cmpI_gt hxy).symm.trans (cmpI_at4 (by rw [← HK.out]; exact HK'.out) HLI.out hd.out HX.out HY.out (by omega))), drew_end HW2⟩
  · rcases Nat.lt_or_ge k k' with hlt | hge
    · have H1 : Hid (cmpI m n = -1) := by unfold Hid; rw [← cmpI_len4 (by rw [← HK.out, ← HK'.out]; exact hlen), ← HK.out, ← HK'.out, cmpI_lt hlt]
      go_enter Tryz.func121, Tryz.ntmps121
      go_wp2
      go_ret
      exact ⟨int_ret H1.out.symm, 0, rfl⟩
    · have H1 : Hid (cmpI m n = 1) := by unfold Hid; rw [← cmpI_len4 (by rw [← HK.out, ← HK'.out]; exact hlen), ← HK.out, ← HK'.out, cmpI_gt (by omega)]
      have hge2 : ¬ k < k' := by omega
      go_enter Tryz.func121, Tryz.ntmps121
      go_wp2
      go_ret
      exact ⟨int_ret H1.out.symm, 0, rfl⟩
end Go.Proofs.YteahcbeohopdlaaGreatDoor
end
