/- RowsBack: the walk. No conditions. -/
import Derived.Test.YtbmpbcnhgnmekaaDoorEj
import Derived.Test.YtbmpbcnhgnmekaaDoorEk
open Go.RowKit
set_option maxRecDepth 100000
namespace Go.Proofs.YtbmpbcnhgnmekaaDoor
theorem back_long {t : ByteArray} (w : World) (h : ¬ t.size ≤ 2000) : Calls Tryd.prog 5 #[.string t] w (TextsR w true) := by
  have d : decide ((2000 : Int) < (t.size : Int)) = true := decide_eq_true (by omega)
  clear h
  go_enter Tryd.func5, Tryd.ntmps5
  go_wp2_with (first | (go_at_call 7; (with_reducible refine (awake7_h _).mono ?_); rintro e w1 ⟨rfl, hb⟩) | fail)
  go_ret
  exact ⟨rfl, hb⟩
theorem parse_form {t : ByteArray} {rs : List TRow} {n e : Nat} (h : tableOf t = (rs, n, e)) (V : World) : Calls Tryd.prog 8 #[.string t] V fun x w' => ∃ A c, x = .returned (.tuple #[.slice A rs.length c, .int .i64 (n : Int), .int .i64 (e : Int)]) ∧ Rs w' A rs ∧ Hid (Below V.heap.size V w') :=
  (parse_any h V).mono fun _ _ ⟨A, c, h1, _, h3, h4⟩ => ⟨A, c, h1, h3, h4⟩
theorem back_err {t : ByteArray} {n e : Nat} (w : World) (ht : t.size ≤ 2000) (h : tableOf t = ([], n, e)) (he : e ≠ 0) : Calls Tryd.prog 5 #[.string t] w (TextsR w true) := by
  have d : decide ((2000 : Int) < (t.size : Int)) = false := decide_eq_false (by omega)
  have C1 := ehide (parse_form h)
  have d2 : ((e : Int) == 0) = false := by rw [beq_eq_false_iff_ne]; omega
  have d3 : ((e : Int) != 0) = true := by rw [bne_iff_ne]; omega
  clear ht h he
  go_enter Tryd.func5, Tryd.ntmps5
  go_wp2_with (first | (go_at_call 7; (with_reducible refine (awake7_h _).mono ?_); rintro e w1 ⟨rfl, hb⟩) | (go_at_call 8; (with_reducible refine (C1.out _).mono ?_); rintro e w2 ⟨A, c, rfl, HR, hb2⟩) | fail)
  go_ret
  exact ⟨rfl, hb.out.trans (hb2.out.mono hb.out.size)⟩
set_option maxHeartbeats 8000000 in
theorem back_ok {t : ByteArray} {rs : List TRow} (w : World) (ht : t.size ≤ 2000) (h : tableOf t = (rs, 0, 0)) : Calls Tryd.prog 5 #[.string t] w (TextsR w true) := by
  have d : decide ((2000 : Int) < (t.size : Int)) = false := decide_eq_false (by omega)
  obtain ⟨g1, g2, g3, g4⟩ := table_show ht h
  obtain ⟨rs2, hrs2⟩ : ∃ x, x = renum 0 rs := ⟨_, rfl⟩
  rw [← hrs2] at g1
  obtain ⟨u, hu⟩ : ∃ u, showB rs = u := ⟨_, rfl⟩
  have hu2 : showB rs2 = u := by rw [← hu, hrs2]; unfold showB; rw [showL_renum]
  rw [hu] at g1
  obtain ⟨n, hn⟩ : ∃ n, n = rs.length := ⟨_, rfl⟩
  have hn2 : n = rs2.length := by rw [hrs2, renum_len]; exact hn
  have hnn : n ≤ 2000 := by omega
  have w4 : ∀ r ∈ rs2, r.2.length ≤ 24 := fun r hr => by
    obtain ⟨j, hj, e⟩ := List.getElem_of_mem hr
    have hj3 : j < rs.length := by rw [← hn, hn2]; exact hj
    have hj2 : rs[j]? = some rs[j] := List.getElem?_eq_getElem hj3
    have h5 := renum_get rs 0 j _ hj2
    rw [← hrs2, List.getElem?_eq_getElem hj, e] at h5
    injection h5 with h5
    rw [h5]
    exact g4 rs[j] (List.getElem_mem hj3)
  have C1 : Hid (∀ V, Calls Tryd.prog 8 #[.string t] V fun x w' => ∃ A c, x = .returned (.tuple #[.slice A n c, .int .i64 0, .int .i64 0]) ∧ Rs w' A rs ∧ Hid (Below V.heap.size V w')) := fun V => by rw [hn]; exact parse_form h V
  have C2 : Hid (∀ V, Calls Tryd.prog 8 #[.string u] V fun x w' => ∃ A c, x = .returned (.tuple #[.slice A n c, .int .i64 0, .int .i64 0]) ∧ Rs w' A rs2 ∧ Hid (Below V.heap.size V w')) := fun V => by rw [hn2]; exact parse_form g1 V
  have C3 : Hid (∀ V A c, Rs V A rs → Calls Tryd.prog 15 #[.slice A n c] V (StrR V u)) := fun V A c hh => show_any hu hh hn (by omega) (fun r hr => by have := g4 r hr; omega) (by omega)
  have C4 : Hid (∀ V A c, Rs V A rs2 → Calls Tryd.prog 15 #[.slice A n c] V (StrR V u)) := fun V A c hh => show_any hu2 hh hn2 (by omega) (fun r hr => by have := w4 r hr; omega) (by rw [hrs2, showL_renum]; omega)
  have HN := ehide hn
  have HN2 := ehide hn2
  have HR2 := ehide hrs2
  have HG4 := ehide g4
  clear hu hu2 hn hn2 hrs2 g1 g2 g3 g4 w4 ht h
  go_enter Tryd.func5, Tryd.ntmps5
  go_wp2_with (first
    | (go_at_call 7; (with_reducible refine (awake7_h _).mono ?_); rintro e w1 ⟨rfl, hb⟩)
    | (go_at_call 8; (with_reducible refine (C1.out _).mono ?_); rintro e w2 ⟨A, c, rfl, HA, hb2⟩; replace hb : Hid (Below w.heap.size w w2) := hb.out.trans (hb2.out.mono hb.out.size); clear hb2)
    | (go_at_call 15; (with_reducible refine (C3.out _ _ _ HA).mono ?_); rintro e w3 ⟨rfl, hb3⟩; replace HA := HA.up hb3; replace hb : Hid (Below w.heap.size w w3) := hb.out.trans (hb3.out.mono hb.out.size); clear hb3)
    | (go_at_call 8; (with_reducible refine (C2.out _).mono ?_); rintro e w4 ⟨A', c', rfl, HA', hb4⟩; replace HA := HA.up hb4; replace hb : Hid (Below w.heap.size w w4) := hb.out.trans (hb4.out.mono hb.out.size); clear hb4)
    | fail)
  go_loopw [9] (fun iv wr => ∃ k : Nat, k ≤ n ∧ iv = .int .i64 (k : Int) ∧ Hid (Below w4.heap.size w4 wr)) (fun iv _ => n - (intOf iv).toNat)
  case atStart => exact ⟨0, Nat.zero_le _, rfl, Below.refl _ _⟩
  case round =>
    obtain ⟨k, hk, rfl, HW⟩ := hrel
    have HWW : Hid (Below w.heap.size w wr) := hb.out.trans (HW.out.mono hb.out.size)
    by_cases hlt : k < n
    · obtain ⟨r, hr⟩ : ∃ r, rs[k]? = some r := ⟨rs[k]'(by rw [← HN.out]; exact hlt), List.getElem?_eq_getElem (by rw [← HN.out]; exact hlt)⟩
      have hr2 := renum_get rs 0 k r hr
      rw [← HR2.out] at hr2
      obtain ⟨g, A2, c2, rfl, hg, hc0, hc1, _, _, hss⟩ := (HA.up HW).row hr
      obtain ⟨g', A3, c3, rfl, hg', hd0, hd1, _, _, hss'⟩ := (HA'.up HW).row hr2
      have hrm := HG4.out r (List.mem_of_getElem? hr)
      obtain ⟨r1, r2⟩ := r
      obtain ⟨m, hm⟩ : ∃ m, r2.length = m := ⟨_, rfl⟩
      replace hc1 : wr.cell? ⟨g, k * 2 + 1, none⟩ = some (.slice A2 m c2) := by rw [← hm]; exact hc1
      replace hd1 : wr.cell? ⟨g', k * 2 + 1, none⟩ = some (.slice A3 m c3) := by rw [← hm]; exact hd1
      replace hd0 : wr.cell? ⟨g', k * 2, none⟩ = some (.int .i64 ((k : Int) + 1)) := by
        rw [hd0]; simp
      have CT : Hid (Calls Tryd.prog 12 #[.slice A2 m c2, .slice A3 m c3] wr.drew (TextsR wr.drew true)) := by
        have h1 := texts_any (c := c2) (c' := c3) hss.dr hss'.dr hm.symm hm.symm (by rw [← hm]; exact Nat.le_trans hrm (by decide)) (by rw [← hm]; exact Nat.le_trans hrm (by decide))
        rwa [decide_eq_true rfl] at h1
      have w1' : IntKind.i64.wrap ((k : Int) + 1) = (k : Int) + 1 := IntWalk.i64_in _ (by omega)
      clear hm hrm hr hr2 hss hss' hc0
      go_wp2_with fail
      refine wp_region_held_drew (S := fun w' => w'.cell? ⟨g, k * 2 + 1, none⟩ = some (.slice A2 m c2) ∧ w'.cell? ⟨g', k * 2 + 1, none⟩ = some (.slice A3 m c3) ∧ w'.cell? ⟨g', k * 2, none⟩ = some (.int .i64 ((k : Int) + 1))) (by kernel_rfl) ?_ (fun hHeld => ?_)
      · exact ⟨hc1, hd1, hd0⟩
      (refine wpAnyH_take (i := 0) (v := ?_) rfl (by decide +kernel) (by decide +kernel) (by decide +kernel) (fun _ _ _ h => h) (Or.inl ⟨by rfl, ?_⟩) (by assumption) ?_; rotate_left; (focus ((intro w hSw; (try dsimp only at hSw); go_simp); (try (with_reducible rfl)); done)); (try simp only [List.getElem_toArray, List.getElem_cons_zero, List.getElem_cons_succ, Act.put, List.setIfInBounds_toArray, List.set_cons_zero, List.set_cons_succ]))
      (refine wpAnyH_take (i := 1) (v := ?_) rfl (by decide +kernel) (by decide +kernel) (by decide +kernel) (fun _ _ _ h => h) (Or.inl ⟨by rfl, ?_⟩) (by assumption) ?_; rotate_left; (focus ((intro w hSw; (try dsimp only at hSw); go_simp); (try (with_reducible rfl)); done)); (try simp only [List.getElem_toArray, List.getElem_cons_zero, List.getElem_cons_succ, Act.put, List.setIfInBounds_toArray, List.set_cons_zero, List.set_cons_succ]))
      (refine wpAnyH_take (i := 2) (v := ?_) rfl (by decide +kernel) (by decide +kernel) (by decide +kernel) (fun _ _ _ h => h) (Or.inl ⟨by rfl, ?_⟩) (by assumption) ?_; rotate_left; (focus ((intro w hSw; (try dsimp only at hSw); go_simp); (try (with_reducible rfl)); done)); (try simp only [List.getElem_toArray, List.getElem_cons_zero, List.getElem_cons_succ, Act.put, List.setIfInBounds_toArray, List.set_cons_zero, List.set_cons_succ]))
      (refine wpAnyH_take (i := 3) (v := ?_) rfl (by decide +kernel) (by decide +kernel) (by decide +kernel) (fun _ _ _ h => h) (Or.inl ⟨by rfl, ?_⟩) (by assumption) ?_; rotate_left; (focus ((intro w hSw; (try dsimp only at hSw); go_simp); (try (with_reducible rfl)); done)); (try simp only [List.getElem_toArray, List.getElem_cons_zero, List.getElem_cons_succ, Act.put, List.setIfInBounds_toArray, List.set_cons_zero, List.set_cons_succ]))
      (refine wpAnyH_take (i := 4) (v := ?_) rfl (by decide +kernel) (by decide +kernel) (by decide +kernel) (fun _ _ _ h => h) (Or.inl ⟨by rfl, ?_⟩) (by assumption) ?_; rotate_left; (focus ((intro w hSw; (try dsimp only at hSw); go_simp); (try (with_reducible rfl)); done)); (try simp only [List.getElem_toArray, List.getElem_cons_zero, List.getElem_cons_succ, Act.put, List.setIfInBounds_toArray, List.set_cons_zero, List.set_cons_succ]))
      (refine wpAnyH_take (i := 5) (v := ?_) rfl (by decide +kernel) (by decide +kernel) (by decide +kernel) (fun _ _ _ h => h) (Or.inl ⟨by rfl, ?_⟩) (by assumption) ?_; rotate_left; (focus ((intro w hSw; (try dsimp only at hSw); go_simp); (try (with_reducible rfl)); done)); (try simp only [List.getElem_toArray, List.getElem_cons_zero, List.getElem_cons_succ, Act.put, List.setIfInBounds_toArray, List.set_cons_zero, List.set_cons_succ]))
      (refine wpAnyH_take (i := 6) (v := ?_) rfl (by decide +kernel) (by decide +kernel) (by decide +kernel) (fun _ _ _ h => h) (Or.inl ⟨by rfl, ?_⟩) (by assumption) ?_; rotate_left; (focus ((intro w hSw; (try dsimp only at hSw); go_simp); (try (with_reducible rfl)); done)); (try simp only [List.getElem_toArray, List.getElem_cons_zero, List.getElem_cons_succ, Act.put, List.setIfInBounds_toArray, List.set_cons_zero, List.set_cons_succ]))
      (refine wpAnyH_take (i := 7) (v := ?_) rfl (by decide +kernel) (by decide +kernel) (by decide +kernel) (fun _ _ _ h => h) (Or.inl ⟨by rfl, ?_⟩) (by assumption) ?_; rotate_left; (focus ((intro w hSw; (try dsimp only at hSw); go_simp); (try (with_reducible rfl)); done)); (try simp only [List.getElem_toArray, List.getElem_cons_zero, List.getElem_cons_succ, Act.put, List.setIfInBounds_toArray, List.set_cons_zero, List.set_cons_succ]))
      (refine wpAnyH_take (i := 8) (v := ?_) rfl (by decide +kernel) (by decide +kernel) (by decide +kernel) (fun _ _ _ h => h) (Or.inl ⟨by rfl, ?_⟩) (by assumption) ?_; rotate_left; (focus ((intro w hSw; (try dsimp only at hSw); go_simp); (try (with_reducible rfl)); done)); (try simp only [List.getElem_toArray, List.getElem_cons_zero, List.getElem_cons_succ, Act.put, List.setIfInBounds_toArray, List.set_cons_zero, List.set_cons_succ]))
      (refine wpAnyH_take (i := 9) (v := ?_) rfl (by decide +kernel) (by decide +kernel) (by decide +kernel) (fun _ _ _ h => h) (Or.inl ⟨by rfl, ?_⟩) (by assumption) ?_; rotate_left; (focus ((intro w hSw; (try dsimp only at hSw); go_simp); (try (with_reducible rfl)); done)); (try simp only [List.getElem_toArray, List.getElem_cons_zero, List.getElem_cons_succ, Act.put, List.setIfInBounds_toArray, List.set_cons_zero, List.set_cons_succ]))
      (refine wpAnyH_ready (rs := [10]) (by decide +kernel) (by simp) ?_; refine AllReadyH.cons rfl (fun K hK => ?_) AllReadyH.nil; go_simp; (go_at_call 12; (with_reducible refine CT.out.mono ?_); rintro e x1 ⟨rfl, hbk⟩); (try (go_wp2_with fail)); refine hK.out _ _ ?_ (fun hHeld => ?_); (focus ((try dsimp only); exact ⟨(hbk.out.cell (p := ⟨g, k * 2 + 1, none⟩) hg).trans hc1, (hbk.out.cell (p := ⟨g', k * 2 + 1, none⟩) hg').trans hd1, (hbk.out.cell (p := ⟨g', k * 2, none⟩) hg').trans hd0⟩)); clear hK K; (try simp only [List.getElem_toArray, List.getElem_cons_zero, List.getElem_cons_succ, Act.put, List.setIfInBounds_toArray, List.set_cons_zero, List.set_cons_succ]))
      (refine wpAnyH_take (i := 11) (v := ?_) rfl (by decide +kernel) (by decide +kernel) (by decide +kernel) (fun _ _ _ h => h) (Or.inl ⟨by rfl, ?_⟩) (by assumption) ?_; rotate_left; (focus ((intro w hSw; (try dsimp only at hSw); go_simp); (try (with_reducible rfl)); done)); (try simp only [List.getElem_toArray, List.getElem_cons_zero, List.getElem_cons_succ, Act.put, List.setIfInBounds_toArray, List.set_cons_zero, List.set_cons_succ]))
      (refine wpAnyH_take (i := 12) (v := ?_) rfl (by decide +kernel) (by decide +kernel) (by decide +kernel) (fun _ _ _ h => h) (Or.inl ⟨by rfl, ?_⟩) (by assumption) ?_; rotate_left; (focus ((intro w hSw; (try dsimp only at hSw); go_simp); (try (with_reducible rfl)); done)); (try simp only [List.getElem_toArray, List.getElem_cons_zero, List.getElem_cons_succ, Act.put, List.setIfInBounds_toArray, List.set_cons_zero, List.set_cons_succ]))
      (refine wpAnyH_take (i := 13) (v := ?_) rfl (by decide +kernel) (by decide +kernel) (by decide +kernel) (fun _ _ _ h => h) (Or.inl ⟨by rfl, ?_⟩) (by assumption) ?_; rotate_left; (focus ((intro w hSw; (try dsimp only at hSw); go_simp); (try (with_reducible rfl)); done)); (try simp only [List.getElem_toArray, List.getElem_cons_zero, List.getElem_cons_succ, Act.put, List.setIfInBounds_toArray, List.set_cons_zero, List.set_cons_succ]))
      (refine wpAnyH_take (i := 14) (v := ?_) rfl (by decide +kernel) (by decide +kernel) (by decide +kernel) (fun _ _ _ h => h) (Or.inl ⟨by rfl, ?_⟩) (by assumption) ?_; rotate_left; (focus ((intro w hSw; (try dsimp only at hSw); go_simp); (try (with_reducible rfl)); done)); (try simp only [List.getElem_toArray, List.getElem_cons_zero, List.getElem_cons_succ, Act.put, List.setIfInBounds_toArray, List.set_cons_zero, List.set_cons_succ]))
      (refine wpAnyH_take (i := 15) (v := ?_) rfl (by decide +kernel) (by decide +kernel) (by decide +kernel) (fun _ _ _ h => h) (Or.inl ⟨by rfl, ?_⟩) (by assumption) ?_; rotate_left; (focus ((intro w hSw; (try dsimp only at hSw); go_simp); (try (with_reducible rfl)); done)); (try simp only [List.getElem_toArray, List.getElem_cons_zero, List.getElem_cons_succ, Act.put, List.setIfInBounds_toArray, List.set_cons_zero, List.set_cons_succ]))
      (refine wpAnyH_take (i := 16) (v := ?_) rfl (by decide +kernel) (by decide +kernel) (by decide +kernel) (fun _ _ _ h => h) (Or.inl ⟨by rfl, ?_⟩) (by assumption) ?_; rotate_left; (focus ((intro w hSw; (try dsimp only at hSw); go_simp); (try (with_reducible rfl)); done)); (try simp only [List.getElem_toArray, List.getElem_cons_zero, List.getElem_cons_succ, Act.put, List.setIfInBounds_toArray, List.set_cons_zero, List.set_cons_succ]))
      (refine wpAnyH_take (i := 17) (v := ?_) rfl (by decide +kernel) (by decide +kernel) (by decide +kernel) (fun _ _ _ h => h) (Or.inl ⟨by rfl, ?_⟩) (by assumption) ?_; rotate_left; (focus ((intro w hSw; (try dsimp only at hSw); go_simp); (try (with_reducible rfl)); done)); (try simp only [List.getElem_toArray, List.getElem_cons_zero, List.getElem_cons_succ, Act.put, List.setIfInBounds_toArray, List.set_cons_zero, List.set_cons_succ]))
      (refine wpAnyH_take (i := 18) (v := ?_) rfl (by decide +kernel) (by decide +kernel) (by decide +kernel) (fun _ _ _ h => h) (Or.inl ⟨by rfl, ?_⟩) (by assumption) ?_; rotate_left; (focus ((intro w hSw; (try dsimp only at hSw); go_simp); (try (with_reducible rfl)); done)); (try simp only [List.getElem_toArray, List.getElem_cons_zero, List.getElem_cons_succ, Act.put, List.setIfInBounds_toArray, List.set_cons_zero, List.set_cons_succ]))
      (refine wpAnyH_take (i := 19) (v := ?_) rfl (by decide +kernel) (by decide +kernel) (by decide +kernel) (fun _ _ _ h => h) (Or.inl ⟨by rfl, ?_⟩) (by assumption) ?_; rotate_left; (focus ((intro w hSw; (try dsimp only at hSw); go_simp); (try (with_reducible rfl)); done)); (try simp only [List.getElem_toArray, List.getElem_cons_zero, List.getElem_cons_succ, Act.put, List.setIfInBounds_toArray, List.set_cons_zero, List.set_cons_succ]))
      (refine wpAnyH_take (i := 20) (v := ?_) rfl (by decide +kernel) (by decide +kernel) (by decide +kernel) (fun _ _ _ h => h) (Or.inl ⟨by rfl, ?_⟩) (by assumption) ?_; rotate_left; (focus ((intro w hSw; (try dsimp only at hSw); go_simp); (try (with_reducible rfl)); done)); (try simp only [List.getElem_toArray, List.getElem_cons_zero, List.getElem_cons_succ, Act.put, List.setIfInBounds_toArray, List.set_cons_zero, List.set_cons_succ]))
      (refine wpAnyH_take (i := 21) (v := ?_) rfl (by decide +kernel) (by decide +kernel) (by decide +kernel) (fun _ _ _ h => h) (Or.inl ⟨by rfl, ?_⟩) (by assumption) ?_; rotate_left; (focus ((intro w hSw; (try dsimp only at hSw); go_simp); (try (with_reducible rfl)); done)); (try simp only [List.getElem_toArray, List.getElem_cons_zero, List.getElem_cons_succ, Act.put, List.setIfInBounds_toArray, List.set_cons_zero, List.set_cons_succ]))
      refine wpAnyH_done (by decide +kernel) ?_ _
      go_wp2
      go_roundw
      case rel => exact ⟨k + 1, by omega, by go_num, HW.out.drew.trans (hbk.out.mono HW.out.size)⟩
      case measure => simp [intOf]; omega
    · obtain rfl : k = n := by omega
      have HA2 := HA.up HW
      have HA3 := HA'.up HW
      go_wp2_with (first
        | (go_at_call 15; (with_reducible refine (C4.out _ _ _ HA3).mono ?_); rintro e w5 ⟨rfl, hb5⟩; replace HA2 := HA2.up hb5; replace HWW : Hid (Below w.heap.size w w5) := HWW.out.trans (hb5.out.mono HWW.out.size); clear hb5)
        | (go_at_call 15; (with_reducible refine (C3.out _ _ _ HA2).mono ?_); rintro e w6 ⟨rfl, hb6⟩; replace HWW : Hid (Below w.heap.size w w6) := HWW.out.trans (hb6.out.mono HWW.out.size); clear hb6)
        | fail)
      go_ret
      exact ⟨rfl, HWW⟩
theorem back_walk {t : ByteArray} (w : World) (_ : t.size ≤ maxLen) : Calls Tryd.prog 5 #[.string t] w fun e w' => e = .returned (.bool true) ∧ Below w.heap.size w w' := by
  by_cases ht : t.size ≤ 2000
  · obtain ⟨⟨rs, n, e⟩, h⟩ : ∃ x, tableOf t = x := ⟨_, rfl⟩
    by_cases he : e = 0
    · subst he
      have hn : n = 0 := by
        have h1 := (rowsOf_form (pieces 10 t) 0 0).1
        unfold tableOf at h
        rw [if_neg (by omega)] at h
        rw [h] at h1
        exact h1 rfl
      subst hn
      exact back_ok w ht h
    · have h2 := table_err h he
      subst h2
      exact back_err w ht h he
  · exact back_long w ht
end Go.Proofs.YtbmpbcnhgnmekaaDoor
