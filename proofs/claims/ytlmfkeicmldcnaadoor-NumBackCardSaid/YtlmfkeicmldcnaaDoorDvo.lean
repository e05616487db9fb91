/- Div by a number of at most one word. Conditions: at most 100000 words. -/
import Derived.Test.YtlmfkeicmldcnaaDoorSml
import Derived.Test.YtlmfkeicmldcnaaDoorDbw
open Go.RowKit
set_option maxRecDepth 100000
namespace Go.Proofs.YtlmfkeicmldcnaaDoor
theorem pre4 (w : World) (o1 o2 : Obj) (v u : Value) (t : TypeId) (k : Nat) :
    Below w.heap.size w (((((w.alloc o1).alloc o2).alloc (.cells #[v] t)).alloc (.cells #[u] t)).drewN k) ∧ (((((w.alloc o1).alloc o2).alloc (.cells #[v] t)).alloc (.cells #[u] t)).drewN k).heap.size = w.heap.size + 4 ∧
    (((((w.alloc o1).alloc o2).alloc (.cells #[v] t)).alloc (.cells #[u] t)).drewN k).heap[w.heap.size + 2]? = some (.cells #[v] t (0, 0)) ∧
    (((((w.alloc o1).alloc o2).alloc (.cells #[v] t)).alloc (.cells #[u] t)).drewN k).heap[w.heap.size + 3]? = some (.cells #[u] t (0, 0)) := by
  obtain ⟨p1, p2, p3⟩ := pre3 w o1 o2 v t 0
  refine ⟨below_drewN (((((Below.refl _ _).alloc (Nat.le_refl _) _).alloc (by simp) _).alloc (by simp; omega) _).alloc (by simp; omega) _) k, by simp, ?_, ?_⟩
  · exact (Below.heap_alloc _ _ _ (by simp)).trans p3
  · have := heap_alloc_new (((w.alloc o1).alloc o2).alloc (.cells #[v] t)) (.cells #[u] t)
    simpa using this
theorem dl0 : dl 0 = 0 := by unfold dl; rw [digs_zero]; rfl
theorem after4 {w w1 : World} {o1 o2 : Obj} {v u : Value} {t : TypeId} {k : Nat} (h : Below (((((w.alloc o1).alloc o2).alloc (.cells #[v] t)).alloc (.cells #[u] t)).drewN k).heap.size (((((w.alloc o1).alloc o2).alloc (.cells #[v] t)).alloc (.cells #[u] t)).drewN k) w1) :
    Below w.heap.size w w1 ∧ w1.heap[w.heap.size + 2]? = some (.cells #[v] t (0, 0)) ∧ w1.heap[w.heap.size + 3]? = some (.cells #[u] t (0, 0)) ∧ w.heap.size + 4 ≤ w1.heap.size := by
  obtain ⟨p1, p2, p3, p4⟩ := pre4 w o1 o2 v u t k
  exact ⟨p1.trans (h.mono p1.size), (h.block _ (by omega)).trans p3, (h.block _ (by omega)).trans p4, by have := h.size; omega⟩
/-- What Div leaves where b isn't 0. -/
def DivPost (w : World) (m n : Nat) (e : Ending) (w' : World) : Prop :=
  ∃ A c A' c', e = .returned (.tuple #[.agg #[.slice A (dl (m / n)) c], .agg #[.slice A' (dl (m % n)) c'], .bool true]) ∧ Hid (Can w' w'.heap.size A c (m / n)) ∧ Hid (Can w' w'.heap.size A' c' (m % n)) ∧ Hid (Below w.heap.size w w')
def DivNone (w : World) (e : Ending) (w' : World) : Prop := e = .returned (.tuple #[.agg #[.slice none 0 0], .agg #[.slice none 0 0], .bool false]) ∧ Hid (Below w.heap.size w w')
set_option maxHeartbeats 2000000 in
theorem Div_zero {A A' : Option Addr} {n n' c c' m m' : Nat} {w : World} (h : Arg w w.heap.size A n c m) (h' : Arg w w.heap.size A' n' c' m') (h0 : m' = 0) :
    Calls Tryd.prog 17 #[.agg #[.slice A n c], .agg #[.slice A' n' c']] w (DivNone w) := by
  have H : Hid (∀ o1 o2 v u t k, Arg (((((w.alloc o1).alloc o2).alloc (.cells #[v] t)).alloc (.cells #[u] t)).drewN k) w.heap.size A n c m) := fun o1 o2 v u t k => h.below (pre4 w o1 o2 v u t k).1
  have H' : Hid (∀ o1 o2 v u t k, Arg (((((w.alloc o1).alloc o2).alloc (.cells #[v] t)).alloc (.cells #[u] t)).drewN k) w.heap.size A' n' c' m') := fun o1 o2 v u t k => h'.below (pre4 w o1 o2 v u t k).1
  have hd : dl m' = 0 := by rw [h0]; unfold dl; rw [digs_zero]; rfl
  clear h h' h0
  go_enter Tryd.func17, Tryd.ntmps17
  go_wp2_with fail
  go_quiet ((go_at_call 61; first | exact quiet_left (trim_arg (H.out _ _ _ _ _ _)) | exact quiet_left (trim_arg (H'.out _ _ _ _ _ _))))
  go_wp2
  refine bodyPost_ret (v := .tuple #[.agg #[.slice none 0 0], .agg #[.slice none 0 0], .bool false]) (by simp [results, Tryd.results17, go_sem]) rfl ?_
  refine ⟨rfl, ?_⟩
  exact ((pre4 w _ _ _ _ _ _).1.setCell (by simp; omega) _).setCell (by simp; omega) _
set_option maxHeartbeats 2000000 in
theorem Div_less {A A' : Option Addr} {n n' c c' m m' : Nat} {w : World} (h : Arg w w.heap.size A n c m) (h' : Arg w w.heap.size A' n' c' m') (h0 : m < m') :
    Calls Tryd.prog 17 #[.agg #[.slice A n c], .agg #[.slice A' n' c']] w (DivPost w m m') := by
  have H : Hid (∀ o1 o2 v u t k, Arg (((((w.alloc o1).alloc o2).alloc (.cells #[v] t)).alloc (.cells #[u] t)).drewN k) w.heap.size A n c m) := fun o1 o2 v u t k => h.below (pre4 w o1 o2 v u t k).1
  have H' : Hid (∀ o1 o2 v u t k, Arg (((((w.alloc o1).alloc o2).alloc (.cells #[v] t)).alloc (.cells #[u] t)).drewN k) w.heap.size A' n' c' m') := fun o1 o2 v u t k => h'.below (pre4 w o1 o2 v u t k).1
  have hl : dl m ≤ 100000 := by have := h.digs.2; obtain ⟨_, _, _, h3, _⟩ := h; omega
  have hl' : dl m' ≤ 100000 := by have := h'.digs.2; obtain ⟨_, _, _, h3, _⟩ := h'; omega
  have hd : 0 < dl m' := by
    rcases Nat.eq_zero_or_pos (dl m') with h1 | h1
    · have := dl_zero h1; omega
    · exact h1
  have hdz : (((dl m' : Nat) : Int) == 0) = false := by rw [beq_eq_false_iff_ne]; omega
  have hcm : cmpI m m' < 0 := by rw [cmpI_lt h0]; omega
  have HX := hide h.digs.1
  have HLT := hide h0
  clear h h' h0
  go_enter Tryd.func17, Tryd.ntmps17
  go_wp2_with fail
  go_quiet ((go_at_call 61; first | exact quiet_left (trim_arg (H.out _ _ _ _ _ _)) | exact quiet_left (trim_arg (H'.out _ _ _ _ _ _))))
  go_wp2_with (first | (go_at_call 62; go_must (refine (compare_can (H.out _ _ _ _ _ _).digs.1 (H'.out _ _ _ _ _ _).digs.1 hl hl').mono ?_); rintro e w' ⟨rfl, q, rfl⟩) | (go_at_call 63; go_must (refine (fresh_can ((HX.out.below (pre4 w _ _ _ _ _ _).1).more (pre4 w _ _ _ _ _ _).1.size).2 (by omega)).mono ?_); rintro e w1 ⟨g, rfl, HGE, HBLK, HBEL⟩; obtain ⟨hw1, hq2, hq3, hsz⟩ := after4 HBEL.out; have HW1 := hide hw1; have r2 := (one_cell hq2).1; have f2 := (one_cell hq2).2; have r3 := (one_cell hq3).1; have f3 := (one_cell hq3).2; have HGB := hide (Nat.le_trans (Nat.le_of_eq (pre4 w _ _ _ _ _ _).2.1.symm) HGE.out); clear hq2 hq3 hw1 HGE HBEL))
  refine bodyPost_ret (v := .tuple #[.agg #[.slice none 0 0], .agg #[.slice (some ⟨g, 0, none⟩) (dl m) (dl m)], .bool true]) (by simp [results, Tryd.results17, go_sem, r2, r3]) rfl ?_
  have hgb := HGB.out
  refine ⟨none, 0, some ⟨g, 0, none⟩, dl m, by rw [Nat.div_eq_of_lt HLT.out, Nat.mod_eq_of_lt HLT.out, dl0], ?_, ?_, (HW1.out.setCell (by simp; omega) _).setCell (by simp; omega) _⟩
  · rw [Nat.div_eq_of_lt HLT.out]
    exact ⟨by rw [dl0]; exact Nat.le_refl _, by rw [digs_zero]; exact Rd.nil⟩
  · rw [Nat.mod_eq_of_lt HLT.out]
    exact can_own ((HBLK.out.far (p := ⟨w.heap.size + 1 + 1, 0, none⟩) (by simp; omega) _).far (p := ⟨w.heap.size + 1 + 1 + 1, 0, none⟩) (by simp; omega) _) (show dl m = (digs W32 m).length from rfl) (good_digs m) (Nat.le_refl _) (val_digs32 m)
theorem Rd.setBox {w : World} {B : Nat} {A : Option Addr} {xs : List Nat} (h : Rd U32 w B A xs) {p : Addr} {a : Option Addr} {l c : Nat} (hc : w.cell? p = some (.slice a l c)) (u : Value) : Rd U32 (w.setCell p u) B A xs := fun hn => by
  obtain ⟨ad, e, hb, hx⟩ := h hn
  refine ⟨ad, e, hb, fun j x hj => ?_⟩
  have h1 := hx j x hj
  rw [World.cell?_setCell_other w p _ u (by intro e; rw [← e, hc] at h1; cases h1)]
  exact h1
theorem div_parts {w : World} {g m d rest : Nat} {q : List Nat} {w2 : World} (_h : Hid (Blk U32 30 w g (digs W32 m))) (_hq1 : Hid (q.length = dl m)) (hq3 : Hid (val W32 ((digs W32 m).take (dl m)) = val W32 q * d + rest)) (hq4 : Hid (Blk U32 30 w2 g (q ++ (digs W32 m).drop (dl m)))) (hr : rest < d) :
    Hid (Blk U32 30 w2 g q) ∧ Hid (val W32 q = m / d) ∧ Hid (rest = m % d) := by
  have h1 := hq3.out
  rw [List.take_of_length_le (show (digs W32 m).length ≤ dl m from Nat.le_refl _), val_digs32] at h1
  have h2 := hq4.out
  rw [List.drop_of_length_le (show (digs W32 m).length ≤ dl m from Nat.le_refl _), List.append_nil] at h2
  refine ⟨h2, ?_, ?_⟩
  · unfold Hid
    rw [h1, Nat.mul_comm, Nat.mul_add_div (by omega), Nat.div_eq_of_lt hr, Nat.add_zero]
  · unfold Hid
    rw [h1, Nat.mul_comm, Nat.mul_add_mod, Nat.mod_eq_of_lt hr]
set_option maxHeartbeats 2000000 in
theorem Div_one {A A' : Option Addr} {n n' c c' m m' : Nat} {w : World} (h : Arg w w.heap.size A n c m) (h' : Arg w w.heap.size A' n' c' m') (h0 : m' ≤ m) (h1 : dl m' = 1) :
    Calls Tryd.prog 17 #[.agg #[.slice A n c], .agg #[.slice A' n' c']] w (DivPost w m m') := by
  have H : Hid (∀ o1 o2 v u t k, Arg (((((w.alloc o1).alloc o2).alloc (.cells #[v] t)).alloc (.cells #[u] t)).drewN k) w.heap.size A n c m) := fun o1 o2 v u t k => h.below (pre4 w o1 o2 v u t k).1
  have H' : Hid (∀ o1 o2 v u t k, Arg (((((w.alloc o1).alloc o2).alloc (.cells #[v] t)).alloc (.cells #[u] t)).drewN k) w.heap.size A' n' c' m') := fun o1 o2 v u t k => h'.below (pre4 w o1 o2 v u t k).1
  have hl : dl m ≤ 100000 := by have := h.digs.2; obtain ⟨_, _, _, h3, _⟩ := h; omega
  have hcm : ¬ cmpI m m' < 0 := by unfold cmpI; rw [if_neg (by omega)]; split <;> omega
  obtain ⟨hdg, hmw⟩ := digs_one h1
  have hm9 : m' ≤ 4294967295 := word_le hmw
  have hm0 : 1 ≤ m' := by
    rcases Nat.eq_zero_or_pos m' with rfl | h2
    · rw [dl0] at h1; omega
    · exact h2
  have HX := hide h.digs.1
  have hy2 := h'.digs.1.2
  rw [hdg] at hy2
  obtain ⟨ad, rfl, hab, hca⟩ := hy2.at_ (k := 0) (by simp)
  replace hca : w.cell? ad = some (.int .u32 (m' : Int)) := hca
  replace hab : ad.block < w.heap.size := hab
  have HH1 := hide h1
  have HDL := hide (show dl m' ≤ 100000 by omega)
  have HCA := hide hca
  have HAB := hide hab
  have T' : Hid (∀ o1 o2 v u t k, Calls Tryd.prog 61 #[.slice (some ad) n' c'] (((((w.alloc o1).alloc o2).alloc (.cells #[v] t)).alloc (.cells #[u] t)).drewN k) fun e w' => e = .returned (.slice (some ad) 1 c') ∧ (((((w.alloc o1).alloc o2).alloc (.cells #[v] t)).alloc (.cells #[u] t)).drewN k) = w') := fun o1 o2 v u t k => by
    have h5 := trim_arg (H'.out o1 o2 v u t k)
    rw [h1] at h5
    exact h5
  have CC : Hid (∀ o1 o2 v u t k, Calls Tryd.prog 62 #[.slice A (dl m) c, .slice (some ad) 1 c'] (((((w.alloc o1).alloc o2).alloc (.cells #[v] t)).alloc (.cells #[u] t)).drewN k) fun e w' => e = .returned (.int .i64 (cmpI m m')) ∧ ∃ q, w' = (((((w.alloc o1).alloc o2).alloc (.cells #[v] t)).alloc (.cells #[u] t)).drewN k).drewN q) := fun o1 o2 v u t k => by
    have h5 := compare_can (H.out o1 o2 v u t k).digs.1 (H'.out o1 o2 v u t k).digs.1 hl HDL.out
    rw [h1] at h5
    exact h5
  clear h h' h0 h1 hdg hmw hy2 hca hab
  go_enter Tryd.func17, Tryd.ntmps17
  go_wp2_with fail
  go_quiet ((go_at_call 61; first | exact quiet_left (trim_arg (H.out _ _ _ _ _ _)) | exact quiet_left (T'.out _ _ _ _ _ _)))
  go_wp2_with (first | (go_at_call 62; go_must (refine (CC.out _ _ _ _ _ _).mono ?_); rintro e w' ⟨rfl, q, rfl⟩) | (go_at_call 63; go_must (refine (fresh_can ((HX.out.below (pre4 w _ _ _ _ _ _).1).more (pre4 w _ _ _ _ _ _).1.size).2 (by omega)).mono ?_); rintro e w1 ⟨g, rfl, HGE, HBLK, HBEL⟩; obtain ⟨hw1, hq2, hq3, hsz⟩ := after4 HBEL.out; have HW1 := hide hw1; have HQ2 := hide hq2; have HQ3 := hide hq3; have HGB := hide (Nat.le_trans (Nat.le_of_eq (pre4 w _ _ _ _ _ _).2.1.symm) HGE.out); have hcy : w1.cell? ad = some (.int .u32 (m' : Int)) := (hw1.cell HAB.out).trans HCA.out; clear hq2 hq3 hw1 HGE HBEL) | (go_at_call 64; go_must (refine (divideByWord_any (k := dl m) (d := m') HBLK.out (Nat.le_refl _) (good_digs m) (by omega) hm9 hm0).mono ?_); rintro e w2 ⟨q2, rest, rfl, hq1, hq2, hrest, hq3, hq4, hq5⟩; have HQ5 := hide hq5; clear hq5; obtain ⟨HB2, HQV, HRV⟩ := div_parts HBLK hq1 hq3 hq4 hrest; have hz2 := HGB.out; have HR2 := hide ((HQ5.out.block _ (by omega) (by intro e; injection e with e; omega)).trans HQ2.out); have HR3 := hide ((HQ5.out.block _ (by omega) (by intro e; injection e with e; omega)).trans HQ3.out); have HS2 := hide HQ5.out.size) | (go_at_call 61; go_must (refine (trim_own HB2.out hq1.out.symm hq2.out (by omega) (Nat.le_refl _) HQV.out).mono ?_); rintro e w5 ⟨rfl, rfl⟩) | (go_at_call 14; go_must (refine (Of_any (n := rest) (by omega)).mono ?_); rintro e w3 ⟨A3, c3, rfl, hcn, hbl⟩; have HCN := hide hcn; have HBL := hide hbl; obtain ⟨r2, f2⟩ := one_cell ((hbl.block _ (by have := HS2.out; omega)).trans HR2.out); obtain ⟨r3, f3⟩ := one_cell ((hbl.block _ (by have := HS2.out; omega)).trans HR3.out); clear hcn hbl))
  refine bodyPost_ret (v := .tuple #[.agg #[.slice (some ⟨g, 0, none⟩) (dl (m / m')) (dl m)], .agg #[.slice A3 (dl rest) c3], .bool true]) (by simp [results, Tryd.results17, go_sem, r2, r3]) rfl ?_
  have hgb := HGB.out
  have hb2 : Blk U32 30 w3 g q2 := HB2.out.below HBL.out HB2.out.lt
  refine ⟨some ⟨g, 0, none⟩, dl m, A3, c3, by rw [HRV.out], ?_, ?_, ?_⟩
  · exact can_own ((hb2.far (p := ⟨w.heap.size + 1 + 1, 0, none⟩) (by simp; omega) _).far (p := ⟨w.heap.size + 1 + 1 + 1, 0, none⟩) (by simp; omega) _) hq1.out.symm hq2.out (Nat.le_refl _) HQV.out
  · rw [← HRV.out]
    have h23 : (w3.setCell ⟨w.heap.size + 1 + 1, 0, none⟩ (.slice (some ⟨g, 0, none⟩) (dl (m / m')) (dl m))).cell? ⟨w.heap.size + 1 + 1 + 1, 0, none⟩ = some (.slice none 0 0) :=
      (World.cell?_setCell_other w3 _ _ _ (by intro e; injection e with e; omega)).trans r3
    refine ⟨HCN.out.1, ?_⟩
    have h1 := Rd.setBox (Rd.setBox HCN.out.2 (p := ⟨w.heap.size + 1 + 1, 0, none⟩) r2 (.slice (some ⟨g, 0, none⟩) (dl (m / m')) (dl m))) h23 (.slice A3 (dl rest) c3)
    simpa [World.setCell] using h1
  · exact (((HW1.out.trans (grown_below HQ5.out (by omega) HBLK.out.lt)).trans (HBL.out.mono (Nat.le_trans HW1.out.size HS2.out))).setCell (by simp; omega) _).setCell (by simp; omega) _
end Go.Proofs.YtlmfkeicmldcnaaDoor
