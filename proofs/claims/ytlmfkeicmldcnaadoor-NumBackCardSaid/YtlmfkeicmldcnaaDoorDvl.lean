/- Div whole: the quotient and the rest of any two numbers. Conditions: less than 100000 words. -/
import Derived.Test.YtlmfkeicmldcnaaDoorDlg
import Derived.Test.YtlmfkeicmldcnaaDoorDvo
open Go.RowKit
set_option maxRecDepth 100000
namespace Go.Proofs.YtlmfkeicmldcnaaDoor
set_option maxHeartbeats 4000000 in
theorem Div_long {A A' : Option Addr} {n n' c c' m m' : Nat} {w : World} (h : Arg w w.heap.size A n c m) (h' : Arg w w.heap.size A' n' c' m') (h0 : m' ≤ m) (h1 : 2 ≤ dl m') (hl9 : dl m ≤ 99999) :
    Calls Tryd.prog 17 #[.agg #[.slice A n c], .agg #[.slice A' n' c']] w (DivPost w m m') := by
  have H : Hid (∀ o1 o2 v u t k, Arg (((((w.alloc o1).alloc o2).alloc (.cells #[v] t)).alloc (.cells #[u] t)).drewN k) w.heap.size A n c m) := fun o1 o2 v u t k => h.below (pre4 w o1 o2 v u t k).1
  have H' : Hid (∀ o1 o2 v u t k, Arg (((((w.alloc o1).alloc o2).alloc (.cells #[v] t)).alloc (.cells #[u] t)).drewN k) w.heap.size A' n' c' m') := fun o1 o2 v u t k => h'.below (pre4 w o1 o2 v u t k).1
  have hl : dl m ≤ 100000 := by omega
  have hmono : dl m' ≤ dl m := digs_len_mono (b := W32) (by decide) h0
  have hcm : ¬ cmpI m m' < 0 := by unfold cmpI; rw [if_neg (by omega)]; split <;> omega
  have H0 := hide h0
  have hd1 : (((dl m' : Nat) : Int) == 0) = false := by rw [beq_eq_false_iff_ne]; omega
  have hd2 : (((dl m' : Nat) : Int) == 1) = false := by rw [beq_eq_false_iff_ne]; omega
  have CC : Hid (∀ o1 o2 v u t k, Calls Tryd.prog 62 #[.slice A (dl m) c, .slice A' (dl m') c'] (((((w.alloc o1).alloc o2).alloc (.cells #[v] t)).alloc (.cells #[u] t)).drewN k) fun e w' => e = .returned (.int .i64 (cmpI m m')) ∧ ∃ q, w' = (((((w.alloc o1).alloc o2).alloc (.cells #[v] t)).alloc (.cells #[u] t)).drewN k).drewN q) := fun o1 o2 v u t k =>
    compare_can (H.out o1 o2 v u t k).digs.1 (H'.out o1 o2 v u t k).digs.1 hl (by omega)
  have CL : Hid (∀ o1 o2 v u t k, Calls Tryd.prog 65 #[.slice A (dl m) c, .slice A' (dl m') c'] (((((w.alloc o1).alloc o2).alloc (.cells #[v] t)).alloc (.cells #[u] t)).drewN k) (LongPost (((((w.alloc o1).alloc o2).alloc (.cells #[v] t)).alloc (.cells #[u] t)).drewN k) m m')) := fun o1 o2 v u t k => by
    have p := (pre4 w o1 o2 v u t k).1.size
    exact divideLong_any ((H.out o1 o2 v u t k).digs.1.more p) ((H'.out o1 o2 v u t k).digs.1.more p) H0.out h1 hl9
  clear h h' h0 h1 hl9
  go_enter Tryd.func17, Tryd.ntmps17
  go_wp2_with fail
  go_quiet ((go_at_call 61; first | exact quiet_left (trim_arg (H.out _ _ _ _ _ _)) | exact quiet_left (trim_arg (H'.out _ _ _ _ _ _))))
  go_wp2_with (first | (go_at_call 62; go_must (refine (CC.out _ _ _ _ _ _).mono ?_); rintro e w' ⟨rfl, q, rfl⟩) | (go_at_call 65; go_must (refine (CL.out _ _ _ _ _ _).mono ?_); rintro e w1 ⟨gq, gr, nq, nr, Q, R, rfl, hq, hqq, hr, hrr, hge, hbel⟩; obtain ⟨hw1, hq2, hq3, hsz⟩ := after4 hbel.out; have HW1 := hide hw1; have r2 := (one_cell hq2).1; have f2 := (one_cell hq2).2; have r3 := (one_cell hq3).1; have f3 := (one_cell hq3).2; clear hq2 hq3 hw1 hbel) | (go_at_call 61; (with_reducible refine (trim_own hq.out hqq.out.1 hqq.out.2.1 (by have := hqq.out.2.2.1; omega) (Nat.le_refl _) hqq.out.2.2.2).mono ?_); rintro e w5 ⟨rfl, rfl⟩) | (go_at_call 61; (with_reducible refine (trim_own hr.out hrr.out.1 hrr.out.2.1 (by have := hrr.out.2.2.1; omega) (Nat.le_refl _) hrr.out.2.2.2).mono ?_); rintro e w6 ⟨rfl, rfl⟩))
  refine bodyPost_ret (v := .tuple #[.agg #[.slice (some ⟨gq, 0, none⟩) (dl (m / m')) nq], .agg #[.slice (some ⟨gr, 0, none⟩) (dl (m % m')) nr], .bool true]) (by simp [results, Tryd.results17, go_sem, r2, r3]) rfl ?_
  obtain ⟨ha, hb⟩ := hge.out
  rw [(pre4 w _ _ _ _ _ _).2.1] at ha hb
  refine ⟨some ⟨gq, 0, none⟩, nq, some ⟨gr, 0, none⟩, nr, rfl, ?_, ?_, (HW1.out.setCell (by simp; omega) _).setCell (by simp; omega) _⟩
  · exact can_own ((hq.out.far (p := ⟨w.heap.size + 1 + 1, 0, none⟩) (by simp; omega) _).far (p := ⟨w.heap.size + 1 + 1 + 1, 0, none⟩) (by simp; omega) _) hqq.out.1 hqq.out.2.1 (Nat.le_refl _) hqq.out.2.2.2
  · exact can_own ((hr.out.far (p := ⟨w.heap.size + 1 + 1, 0, none⟩) (by simp; omega) _).far (p := ⟨w.heap.size + 1 + 1 + 1, 0, none⟩) (by simp; omega) _) hrr.out.1 hrr.out.2.1 (Nat.le_refl _) hrr.out.2.2.2
/-- Div of any two numbers, b not 0. -/
theorem Div_any {A A' : Option Addr} {n n' c c' m m' : Nat} {w : World} (h : Arg w w.heap.size A n c m) (h' : Arg w w.heap.size A' n' c' m') (h0 : 0 < m') (hl : dl m ≤ 99999) :
    Calls Tryd.prog 17 #[.agg #[.slice A n c], .agg #[.slice A' n' c']] w (DivPost w m m') := by
  rcases Nat.lt_or_ge m m' with h1 | h1
  · exact Div_less h h' h1
  · rcases Nat.lt_or_ge (dl m') 2 with h2 | h2
    · refine Div_one h h' h1 ?_
      rcases Nat.eq_zero_or_pos (dl m') with h3 | h3
      · have := dl_zero h3; omega
      · omega
    · exact Div_long h h' h1 h2 hl
end Go.Proofs.YtlmfkeicmldcnaaDoor
