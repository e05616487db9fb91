/- Several texts in one, each with its own sentence and conditions. -/
import Derived.Test.YtfcamfkimnlfgaaGreatDoorGRsmc35
import Derived.Test.YtfcamfkimnlfgaaGreatDoorGRsmc29
import Derived.Deep.CutRange
import Derived.Test.YtfcamfkimnlfgaaGreatDoorGRsmc32
section
/- Package round: limit of a numeral with digits behind the point; what is refused; Sig of nought. Package rat: Pow of a negative power of what is greater than 0. Conditions: see there. -/
open Go.RowKit
set_option maxRecDepth 100000
namespace Go.Proofs.YtfcamfkimnlfgaaGreatDoor
/-- What a call leaves that returns an error alone. -/
def DEr (W : World) (er : Int) (e : Ending) (w' : World) : Prop := e = .returned (.tuple #[.agg #[.bool false, .slice none 0 0, .int .i64 0], .int .i64 er]) ∧ Hid (Below W.heap.size W w')
section
variable {W : World} {b b' sg : Bool} {A A' A2 : Option Addr} {n n' n2 c c' c2 m2 s K q d : Nat} {m z e sc : Int} {r pw : Rat}
set_option maxHeartbeats 8000000 in
theorem limit_lt {k : Nat} (h : Nm W A n c q) (hk : k ≤ 2000) (hs : 0 < s) (hq : q < 10 ^ k) : Calls Tryz.prog 124 #[.agg #[.bool b, .slice A n c, .int .i64 (s : Int)], .int .i64 (k : Int)] W (fun e w' => e = .returned (.agg #[.bool b, .slice A n c, .int .i64 (s : Int)]) ∧ Nm w' A n c q ∧ Hid (Below W.heap.size W w')) := by
  obtain ⟨P, hP⟩ : ∃ P, P = 10 ^ k := ⟨_, rfl⟩
  obtain ⟨u, hu⟩ : ∃ u, cmpI q P = u := ⟨_, rfl⟩
  have CP : Hid (∀ W', Calls Tryz.prog 158 #[.int .i64 (k : Int)] W' (NumR W' P)) := fun W' => by rw [hP]; exact rpower_h hk
  have CC : Hid (∀ W' B e, Bel W W' → Nm W' B (dl P) e P → Calls Tryz.prog 125 #[.agg #[.slice A n c], .agg #[.slice B (dl P) e]] W' (IntPost W' u)) := fun W' B e hw hn => cmp_h (h.up hw.hid) hn hu
  have hz : ((s : Int) == 0) = false := by simp; omega
  have hu1 : decide (u < 0) = true := decide_eq_true (by rw [← hu, hP, cmpI_lt hq]; decide)
  have hu2 : u < 0 := of_decide_eq_true hu1
  have HN : Hid (∀ W', Bel W W' → Nm W' A n c q) := fun W' hw => h.up hw.hid
  clear h hk hs hq hP hu
  have HB := Bel.refl W
  go_enter Tryz.func124, Tryz.ntmps124
  go_wp2_with fail
  obtain ⟨W1, hW1⟩ : ∃ X, X = (W.alloc (.cells #[.bool b, .slice A n c, .int .i64 (s : Int)] 63)).alloc (.cells #[.bool false, .slice none 0 0, .int .i64 0] 63) := ⟨_, rfl⟩
  rw [← hW1]
  have H0 : At W1 W.heap.size [.bool b, .slice A n c, .int .i64 (s : Int)] := by rw [hW1]; exact (at_new0 _ _ _).al _
  have HR : At W1 (W.heap.size + 1) [.bool false, .slice none 0 0, .int .i64 0] := by rw [hW1]; exact at_new1 _ _ _ _
  replace HB : Bel W W1 := by rw [hW1]; exact (HB.al _).al _
  clear hW1
  have l0 := H0.lt
  have l1 := HR.lt
  refine wp_region_held_drew (S := fun w' => w'.cell? ⟨W.heap.size, 0, none⟩ = some (.bool b) ∧ w'.cell? ⟨W.heap.size, 1, none⟩ = some (.slice A n c) ∧ w'.cell? ⟨W.heap.size, 2, none⟩ = some (.int .i64 (s : Int))) (by kernel_rfl) ?_ (fun hHeld => ?_)
  · (refine ⟨(?_ : At _ W.heap.size [.bool b, .slice A n c, .int .i64 (s : Int)]).c0, (?_ : At _ W.heap.size [.bool b, .slice A n c, .int .i64 (s : Int)]).c1, (?_ : At _ W.heap.size [.bool b, .slice A n c, .int .i64 (s : Int)]).c2⟩ <;> (repeat (first | with_reducible exact H0 | (with_reducible refine At.dr ?_) | (with_reducible refine At.al ?_ _) | (with_reducible refine At.far ?_ (by omega) _))))
  (refine wpAnyH_take (i := 0) (v := ?_) rfl (by decide +kernel) (by decide +kernel) (by decide +kernel) (fun _ _ _ h => h) (Or.inl ⟨by rfl, ?_⟩) (by assumption) ?_; rotate_left; (focus ((intro w hSw; (try dsimp only at hSw); go_simp); (try (with_reducible rfl)); done)); (try simp only [List.getElem_toArray, List.getElem_cons_zero, List.getElem_cons_succ, Act.put, List.setIfInBounds_toArray, List.set_cons_zero, List.set_cons_succ]))
  (refine wpAnyH_take (i := 1) (v := ?_) rfl (by decide +kernel) (by decide +kernel) (by decide +kernel) (fun _ _ _ h => h) (Or.inl ⟨by rfl, ?_⟩) (by assumption) ?_; rotate_left; (focus ((intro w hSw; (try dsimp only at hSw); go_simp); (try (with_reducible rfl)); done)); (try simp only [List.getElem_toArray, List.getElem_cons_zero, List.getElem_cons_succ, Act.put, List.setIfInBounds_toArray, List.set_cons_zero, List.set_cons_succ]))
  (refine wpAnyH_take (i := 2) (v := ?_) rfl (by decide +kernel) (by decide +kernel) (by decide +kernel) (fun _ _ _ h => h) (Or.inl ⟨by rfl, ?_⟩) (by assumption) ?_; rotate_left; (focus ((intro w hSw; (try dsimp only at hSw); go_simp); (try (with_reducible rfl)); done)); (try simp only [List.getElem_toArray, List.getElem_cons_zero, List.getElem_cons_succ, Act.put, List.setIfInBounds_toArray, List.set_cons_zero, List.set_cons_succ]))
  (refine wpAnyH_take (i := 3) (v := ?_) rfl (by decide +kernel) (by decide +kernel) (by decide +kernel) (fun _ _ _ h => h) (Or.inl ⟨by rfl, ?_⟩) (by assumption) ?_; rotate_left; (focus ((intro w hSw; (try dsimp only at hSw); go_simp); (try (with_reducible rfl)); done)); (try simp only [List.getElem_toArray, List.getElem_cons_zero, List.getElem_cons_succ, Act.put, List.setIfInBounds_toArray, List.set_cons_zero, List.set_cons_succ]))
  (refine wpAnyH_take (i := 4) (v := ?_) rfl (by decide +kernel) (by decide +kernel) (by decide +kernel) (fun _ _ _ h => h) (Or.inl ⟨by rfl, ?_⟩) (by assumption) ?_; rotate_left; (focus ((intro w hSw; (try dsimp only at hSw); go_simp); (try (with_reducible rfl)); done)); (try simp only [List.getElem_toArray, List.getElem_cons_zero, List.getElem_cons_succ, Act.put, List.setIfInBounds_toArray, List.set_cons_zero, List.set_cons_succ]))
  (refine wpAnyH_take (i := 5) (v := ?_) rfl (by decide +kernel) (by decide +kernel) (by decide +kernel) (fun _ _ _ h => h) (Or.inl ⟨by rfl, ?_⟩) (by assumption) ?_; rotate_left; (focus ((intro w hSw; (try dsimp only at hSw); go_simp); (try (with_reducible rfl)); done)); (try simp only [List.getElem_toArray, List.getElem_cons_zero, List.getElem_cons_succ, Act.put, List.setIfInBounds_toArray, List.set_cons_zero, List.set_cons_succ]))
  (refine wpAnyH_take (i := 6) (v := ?_) rfl (by decide +kernel) (by decide +kernel) (by decide +kernel) (fun _ _ _ h => h) (Or.inl ⟨by rfl, ?_⟩) (by assumption) ?_; rotate_left; (focus ((intro w hSw; (try dsimp only at hSw); go_simp); (try (with_reducible rfl)); done)); (try simp only [List.getElem_toArray, List.getElem_cons_zero, List.getElem_cons_succ, Act.put, List.setIfInBounds_toArray, List.set_cons_zero, List.set_cons_succ]))
  (refine wpAnyH_ready (rs := [7]) (by decide +kernel) (by simp) ?_; refine AllReadyH.cons rfl (fun K hK => ?_) AllReadyH.nil; go_simp; (first | (go_at_call 158; (with_reducible refine (CP.out _).mono ?_); rintro e w2 ⟨Bp, ep, rfl, np, hbk⟩; (with_reducible (replace HB := HB.dr.up hbk; replace H0 := H0.dr.up hbk; replace HR := HR.dr.up hbk))) | (go_at_call 125; (with_reducible refine (CC.out _ _ _ HB np).mono ?_); rintro e w3 ⟨rfl, hbk⟩; (with_reducible (replace HB := HB.up hbk; replace H0 := H0.up hbk; replace HR := HR.up hbk))) | fail); (try (go_wp2_with fail)); refine hK.out _ _ ?_ (fun hHeld => ?_); (focus ((try dsimp only); (refine ⟨(?_ : At _ W.heap.size [.bool b, .slice A n c, .int .i64 (s : Int)]).c0, (?_ : At _ W.heap.size [.bool b, .slice A n c, .int .i64 (s : Int)]).c1, (?_ : At _ W.heap.size [.bool b, .slice A n c, .int .i64 (s : Int)]).c2⟩ <;> (repeat (first | with_reducible exact H0 | (with_reducible refine At.dr ?_) | (with_reducible refine At.al ?_ _) | (with_reducible refine At.far ?_ (by omega) _)))))); clear hK K; (try simp only [List.getElem_toArray, List.getElem_cons_zero, List.getElem_cons_succ, Act.put, List.setIfInBounds_toArray, List.set_cons_zero, List.set_cons_succ]))
  (refine wpAnyH_ready (rs := [8]) (by decide +kernel) (by simp) ?_; refine AllReadyH.cons rfl (fun K hK => ?_) AllReadyH.nil; go_simp; (first | (go_at_call 158; (with_reducible refine (CP.out _).mono ?_); rintro e w2 ⟨Bp, ep, rfl, np, hbk⟩; (with_reducible (replace HB := HB.dr.up hbk; replace H0 := H0.dr.up hbk; replace HR := HR.dr.up hbk))) | (go_at_call 125; (with_reducible refine (CC.out _ _ _ HB np).mono ?_); rintro e w3 ⟨rfl, hbk⟩; (with_reducible (replace HB := HB.up hbk; replace H0 := H0.up hbk; replace HR := HR.up hbk))) | fail); (try (go_wp2_with fail)); refine hK.out _ _ ?_ (fun hHeld => ?_); (focus ((try dsimp only); (refine ⟨(?_ : At _ W.heap.size [.bool b, .slice A n c, .int .i64 (s : Int)]).c0, (?_ : At _ W.heap.size [.bool b, .slice A n c, .int .i64 (s : Int)]).c1, (?_ : At _ W.heap.size [.bool b, .slice A n c, .int .i64 (s : Int)]).c2⟩ <;> (repeat (first | with_reducible exact H0 | (with_reducible refine At.dr ?_) | (with_reducible refine At.al ?_ _) | (with_reducible refine At.far ?_ (by omega) _)))))); clear hK K; (try simp only [List.getElem_toArray, List.getElem_cons_zero, List.getElem_cons_succ, Act.put, List.setIfInBounds_toArray, List.set_cons_zero, List.set_cons_succ]))
  (refine wpAnyH_take (i := 9) (v := ?_) rfl (by decide +kernel) (by decide +kernel) (by decide +kernel) (fun _ _ _ h => h) (Or.inl ⟨by rfl, ?_⟩) (by assumption) ?_; rotate_left; (focus ((intro w hSw; (try dsimp only at hSw); go_simp); (try (with_reducible rfl)); done)); (try simp only [List.getElem_toArray, List.getElem_cons_zero, List.getElem_cons_succ, Act.put, List.setIfInBounds_toArray, List.set_cons_zero, List.set_cons_succ]))
  (refine wpAnyH_take (i := 10) (v := ?_) rfl (by decide +kernel) (by decide +kernel) (by decide +kernel) (fun _ _ _ h => h) (Or.inl ⟨by rfl, ?_⟩) (by assumption) ?_; rotate_left; (focus ((intro w hSw; (try dsimp only at hSw); go_simp); (try (with_reducible rfl)); done)); (try simp only [List.getElem_toArray, List.getElem_cons_zero, List.getElem_cons_succ, Act.put, List.setIfInBounds_toArray, List.set_cons_zero, List.set_cons_succ]))
  refine wpAnyH_done (by decide +kernel) ?_ _
  have h0_0 := H0.c0
  have h0_1 := H0.c1
  have h0_2 := H0.c2
  have h0_l := H0.lt
  have hr_0 := HR.c0
  have hr_1 := HR.c1
  have hr_2 := HR.c2
  have hr_l := HR.lt
  have hr_f0 := HR.f0
  have hr_f1 := HR.f1
  have hr_f2 := HR.f2
  go_wp2_with fail
  refine bodyPost_ret (v := .agg #[.bool b, .slice A n c, .int .i64 (s : Int)]) (by simp [results, Tryz.results124, go_sem, hr_0, hr_1, hr_2]) rfl ?_
  exact ⟨rfl, (HN.out _ HB).putd HR _ _ _ _ _, (HB.uput3 (by omega) _ _ _).hid⟩
set_option maxHeartbeats 8000000 in
theorem limit_ge {k : Nat} (h : Nm W A n c q) (hk : k ≤ 2000) (hs : 0 < s) (hs2 : s ≤ 1000) (hq : ¬ q < 10 ^ k) (hd : dl q ≤ 99999) : Calls Tryz.prog 124 #[.agg #[.bool b, .slice A n c, .int .i64 (s : Int)], .int .i64 (k : Int)] W (DvR W b (q / 10) ((s : Int) - 1)) := by
  obtain ⟨P, hP⟩ : ∃ P, P = 10 ^ k := ⟨_, rfl⟩
  obtain ⟨u, hu⟩ : ∃ u, cmpI q P = u := ⟨_, rfl⟩
  have CP : Hid (∀ W', Calls Tryz.prog 158 #[.int .i64 (k : Int)] W' (NumR W' P)) := fun W' => by rw [hP]; exact rpower_h hk
  have CC : Hid (∀ W' B e, Bel W W' → Nm W' B (dl P) e P → Calls Tryz.prog 125 #[.agg #[.slice A n c], .agg #[.slice B (dl P) e]] W' (IntPost W' u)) := fun W' B e hw hn => cmp_h (h.up hw.hid) hn hu
  have hz : ((s : Int) == 0) = false := by simp; omega
  have hu1 : decide (u < 0) = false := decide_eq_false (by rw [← hu, hP]; unfold cmpI; rw [if_neg hq]; split <;> decide)
  have hu2 : ¬ u < 0 := of_decide_eq_false hu1
  obtain ⟨ten, hten⟩ : ∃ t : Nat, t = 10 := ⟨_, rfl⟩
  obtain ⟨y, hy⟩ : ∃ y, q / 10 = y := ⟨_, rfl⟩
  obtain ⟨x, hx⟩ : ∃ x, q % 10 = x := ⟨_, rfl⟩
  have CT : Hid (∀ W', Calls Tryz.prog 77 #[.int .u64 10] W' (NumR W' ten)) := fun W' => by rw [hten]; exact of_h (v := 10) (by decide)
  have CD : Hid (∀ W' B e, Bel W W' → Nm W' B (dl ten) e ten → Calls Tryz.prog 108 #[.agg #[.slice A n c], .agg #[.slice B (dl ten) e]] W' (DivV W' y x)) := fun W' B e hw hn => div_v (h.up hw.hid) hn (by rw [hten]; decide) hd (by rw [hten]; exact hy) (by rw [hten]; exact hx)
  have hw1 : IntKind.i64.wrap ((s : Int) - 1) = (s : Int) - 1 := IntWalk.i64_in _ (by omega)
  have hw2 : wrap64 ((s : Int) - 1) = (s : Int) - 1 := IntWalk.wrap64_in _ (by omega)
  rw [hy]
  clear h hk hs hs2 hq hP hu hten hy hx hd
  have HB := Bel.refl W
  go_enter Tryz.func124, Tryz.ntmps124
  go_wp2_with fail
  obtain ⟨W1, hW1⟩ : ∃ X, X = (W.alloc (.cells #[.bool b, .slice A n c, .int .i64 (s : Int)] 63)).alloc (.cells #[.bool false, .slice none 0 0, .int .i64 0] 63) := ⟨_, rfl⟩
  rw [← hW1]
  have H0 : At W1 W.heap.size [.bool b, .slice A n c, .int .i64 (s : Int)] := by rw [hW1]; exact (at_new0 _ _ _).al _
  have HR : At W1 (W.heap.size + 1) [.bool false, .slice none 0 0, .int .i64 0] := by rw [hW1]; exact at_new1 _ _ _ _
  replace HB : Bel W W1 := by rw [hW1]; exact (HB.al _).al _
  clear hW1
  have l0 := H0.lt
  have l1 := HR.lt
  refine wp_region_held_drew (S := fun w' => w'.cell? ⟨W.heap.size, 0, none⟩ = some (.bool b) ∧ w'.cell? ⟨W.heap.size, 1, none⟩ = some (.slice A n c) ∧ w'.cell? ⟨W.heap.size, 2, none⟩ = some (.int .i64 (s : Int))) (by kernel_rfl) ?_ (fun hHeld => ?_)
  · (refine ⟨(?_ : At _ W.heap.size [.bool b, .slice A n c, .int .i64 (s : Int)]).c0, (?_ : At _ W.heap.size [.bool b, .slice A n c, .int .i64 (s : Int)]).c1, (?_ : At _ W.heap.size [.bool b, .slice A n c, .int .i64 (s : Int)]).c2⟩ <;> (repeat (first | with_reducible exact H0 | (with_reducible refine At.dr ?_) | (with_reducible refine At.al ?_ _) | (with_reducible refine At.far ?_ (by omega) _))))
  (refine wpAnyH_take (i := 0) (v := ?_) rfl (by decide +kernel) (by decide +kernel) (by decide +kernel) (fun _ _ _ h => h) (Or.inl ⟨by rfl, ?_⟩) (by assumption) ?_; rotate_left; (focus ((intro w hSw; (try dsimp only at hSw); go_simp); (try (with_reducible rfl)); done)); (try simp only [List.getElem_toArray, List.getElem_cons_zero, List.getElem_cons_succ, Act.put, List.setIfInBounds_toArray, List.set_cons_zero, List.set_cons_succ]))
  (refine wpAnyH_take (i := 1) (v := ?_) rfl (by decide +kernel) (by decide +kernel) (by decide +kernel) (fun _ _ _ h => h) (Or.inl ⟨by rfl, ?_⟩) (by assumption) ?_; rotate_left; (focus ((intro w hSw; (try dsimp only at hSw); go_simp); (try (with_reducible rfl)); done)); (try simp only [List.getElem_toArray, List.getElem_cons_zero, List.getElem_cons_succ, Act.put, List.setIfInBounds_toArray, List.set_cons_zero, List.set_cons_succ]))
  (refine wpAnyH_take (i := 2) (v := ?_) rfl (by decide +kernel) (by decide +kernel) (by decide +kernel) (fun _ _ _ h => h) (Or.inl ⟨by rfl, ?_⟩) (by assumption) ?_; rotate_left; (focus ((intro w hSw; (try dsimp only at hSw); go_simp); (try (with_reducible rfl)); done)); (try simp only [List.getElem_toArray, List.getElem_cons_zero, List.getElem_cons_succ, Act.put, List.setIfInBounds_toArray, List.set_cons_zero, List.set_cons_succ]))
  (refine wpAnyH_take (i := 3) (v := ?_) rfl (by decide +kernel) (by decide +kernel) (by decide +kernel) (fun _ _ _ h => h) (Or.inl ⟨by rfl, ?_⟩) (by assumption) ?_; rotate_left; (focus ((intro w hSw; (try dsimp only at hSw); go_simp); (try (with_reducible rfl)); done)); (try simp only [List.getElem_toArray, List.getElem_cons_zero, List.getElem_cons_succ, Act.put, List.setIfInBounds_toArray, List.set_cons_zero, List.set_cons_succ]))
  (refine wpAnyH_take (i := 4) (v := ?_) rfl (by decide +kernel) (by decide +kernel) (by decide +kernel) (fun _ _ _ h => h) (Or.inl ⟨by rfl, ?_⟩) (by assumption) ?_; rotate_left; (focus ((intro w hSw; (try dsimp only at hSw); go_simp); (try (with_reducible rfl)); done)); (try simp only [List.getElem_toArray, List.getElem_cons_zero, List.getElem_cons_succ, Act.put, List.setIfInBounds_toArray, List.set_cons_zero, List.set_cons_succ]))
  (refine wpAnyH_take (i := 5) (v := ?_) rfl (by decide +kernel) (by decide +kernel) (by decide +kernel) (fun _ _ _ h => h) (Or.inl ⟨by rfl, ?_⟩) (by assumption) ?_; rotate_left; (focus ((intro w hSw; (try dsimp only at hSw); go_simp); (try (with_reducible rfl)); done)); (try simp only [List.getElem_toArray, List.getElem_cons_zero, List.getElem_cons_succ, Act.put, List.setIfInBounds_toArray, List.set_cons_zero, List.set_cons_succ]))
  (refine wpAnyH_take (i := 6) (v := ?_) rfl (by decide +kernel) (by decide +kernel) (by decide +kernel) (fun _ _ _ h => h) (Or.inl ⟨by rfl, ?_⟩) (by assumption) ?_; rotate_left; (focus ((intro w hSw; (try dsimp only at hSw); go_simp); (try (with_reducible rfl)); done)); (try simp only [List.getElem_toArray, List.getElem_cons_zero, List.getElem_cons_succ, Act.put, List.setIfInBounds_toArray, List.set_cons_zero, List.set_cons_succ]))
  (refine wpAnyH_ready (rs := [7]) (by decide +kernel) (by simp) ?_; refine AllReadyH.cons rfl (fun K hK => ?_) AllReadyH.nil; go_simp; (first | (go_at_call 158; (with_reducible refine (CP.out _).mono ?_); rintro e w2 ⟨Bp, ep, rfl, np, hbk⟩; (with_reducible (replace HB := HB.dr.up hbk; replace H0 := H0.dr.up hbk; replace HR := HR.dr.up hbk))) | (go_at_call 125; (with_reducible refine (CC.out _ _ _ HB np).mono ?_); rintro e w3 ⟨rfl, hbk⟩; (with_reducible (replace HB := HB.up hbk; replace H0 := H0.up hbk; replace HR := HR.up hbk))) | fail); (try (go_wp2_with fail)); refine hK.out _ _ ?_ (fun hHeld => ?_); (focus ((try dsimp only); (refine ⟨(?_ : At _ W.heap.size [.bool b, .slice A n c, .int .i64 (s : Int)]).c0, (?_ : At _ W.heap.size [.bool b, .slice A n c, .int .i64 (s : Int)]).c1, (?_ : At _ W.heap.size [.bool b, .slice A n c, .int .i64 (s : Int)]).c2⟩ <;> (repeat (first | with_reducible exact H0 | (with_reducible refine At.dr ?_) | (with_reducible refine At.al ?_ _) | (with_reducible refine At.far ?_ (by omega) _)))))); clear hK K; (try simp only [List.getElem_toArray, List.getElem_cons_zero, List.getElem_cons_succ, Act.put, List.setIfInBounds_toArray, List.set_cons_zero, List.set_cons_succ]))
  (refine wpAnyH_ready (rs := [8]) (by decide +kernel) (by simp) ?_; refine AllReadyH.cons rfl (fun K hK => ?_) AllReadyH.nil; go_simp; (first | (go_at_call 158; (with_reducible refine (CP.out _).mono ?_); rintro e w2 ⟨Bp, ep, rfl, np, hbk⟩; (with_reducible (replace HB := HB.dr.up hbk; replace H0 := H0.dr.up hbk; replace HR := HR.dr.up hbk))) | (go_at_call 125; (with_reducible refine (CC.out _ _ _ HB np).mono ?_); rintro e w3 ⟨rfl, hbk⟩; (with_reducible (replace HB := HB.up hbk; replace H0 := H0.up hbk; replace HR := HR.up hbk))) | fail); (try (go_wp2_with fail)); refine hK.out _ _ ?_ (fun hHeld => ?_); (focus ((try dsimp only); (refine ⟨(?_ : At _ W.heap.size [.bool b, .slice A n c, .int .i64 (s : Int)]).c0, (?_ : At _ W.heap.size [.bool b, .slice A n c, .int .i64 (s : Int)]).c1, (?_ : At _ W.heap.size [.bool b, .slice A n c, .int .i64 (s : Int)]).c2⟩ <;> (repeat (first | with_reducible exact H0 | (with_reducible refine At.dr ?_) | (with_reducible refine At.al ?_ _) | (with_reducible refine At.far ?_ (by omega) _)))))); clear hK K; (try simp only [List.getElem_toArray, List.getElem_cons_zero, List.getElem_cons_succ, Act.put, List.setIfInBounds_toArray, List.set_cons_zero, List.set_cons_succ]))
  (refine wpAnyH_take (i := 9) (v := ?_) rfl (by decide +kernel) (by decide +kernel) (by decide +kernel) (fun _ _ _ h => h) (Or.inl ⟨by rfl, ?_⟩) (by assumption) ?_; rotate_left; (focus ((intro w hSw; (try dsimp only at hSw); go_simp); (try (with_reducible rfl)); done)); (try simp only [List.getElem_toArray, List.getElem_cons_zero, List.getElem_cons_succ, Act.put, List.setIfInBounds_toArray, List.set_cons_zero, List.set_cons_succ]))
  (refine wpAnyH_take (i := 10) (v := ?_) rfl (by decide +kernel) (by decide +kernel) (by decide +kernel) (fun _ _ _ h => h) (Or.inl ⟨by rfl, ?_⟩) (by assumption) ?_; rotate_left; (focus ((intro w hSw; (try dsimp only at hSw); go_simp); (try (with_reducible rfl)); done)); (try simp only [List.getElem_toArray, List.getElem_cons_zero, List.getElem_cons_succ, Act.put, List.setIfInBounds_toArray, List.set_cons_zero, List.set_cons_succ]))
  refine wpAnyH_done (by decide +kernel) ?_ _
  go_wp2_with fail
  obtain ⟨W2, hW2⟩ : ∃ X, X = w3 := ⟨_, rfl⟩
  rw [← hW2] at HB H0 HR ⊢
  clear hW2
  have l2 := H0.lt
  have l3 := HR.lt
  go_cut [5] from 20 to 27 (fun o w' => ∃ p B e, o = .pointer (some ⟨p, 0, none⟩) ∧ W.heap.size + 1 < p ∧ At w' p [.slice B (dl y) e] ∧ Nm w' B (dl y) e y ∧ Bel W2 w')
  case first =>
    have HW := Bel.refl W2
    go_region_held3 (fun w' => w'.cell? ⟨W.heap.size, 0, none⟩ = some (.bool b) ∧ w'.cell? ⟨W.heap.size, 1, none⟩ = some (.slice A n c) ∧ w'.cell? ⟨W.heap.size, 2, none⟩ = some (.int .i64 (s : Int)))
      (refine ⟨(?_ : At _ W.heap.size [.bool b, .slice A n c, .int .i64 (s : Int)]).c0, (?_ : At _ W.heap.size [.bool b, .slice A n c, .int .i64 (s : Int)]).c1, (?_ : At _ W.heap.size [.bool b, .slice A n c, .int .i64 (s : Int)]).c2⟩ <;> (repeat (first | with_reducible exact H0 | (with_reducible refine At.dr ?_) | (with_reducible refine At.al ?_ _) | (with_reducible refine At.far ?_ (by omega) _))))
      (first | (go_at_call 77; (with_reducible refine (CT.out _).mono ?_); rintro e v1 ⟨O1, o1, rfl, no, hbk⟩; (with_reducible (replace HB := HB.dr.up hbk; replace HW := HW.dr.up hbk; replace H0 := H0.dr.up hbk)); have lz0 := H0.lt; (try have lz2 := HP0.lt); (try have lz3 := HP1.lt); (try have lz4 := HQ0.lt); (try have lz5 := HQ1.lt); have zs1 := Below.size HW) | (go_at_call 77; (with_reducible refine (CT.out _).mono ?_); rintro e v1 ⟨O1, o1, rfl, no, hbk⟩; (with_reducible (have HP0 := At.up (at_new0 _ [.slice none 0 0] _).dr hbk; replace HB := (HB.al _).dr.up hbk; replace HW := (HW.al _).dr.up hbk; replace H0 := (H0.al _).dr.up hbk)); have lz0 := H0.lt; (try have lz2 := HP0.lt); (try have lz3 := HP1.lt); (try have lz4 := HQ0.lt); (try have lz5 := HQ1.lt); have zs1 := Below.size HW) | (go_at_call 77; (with_reducible refine (CT.out _).mono ?_); rintro e v1 ⟨O1, o1, rfl, no, hbk⟩; (with_reducible (have HP0 := At.up ((at_new0 _ [.slice none 0 0] _).al _).dr hbk; have HP1 := At.up (at_new1 _ _ [.slice none 0 0] _).dr hbk; replace HB := ((HB.al _).al _).dr.up hbk; replace HW := ((HW.al _).al _).dr.up hbk; replace H0 := ((H0.al _).al _).dr.up hbk)); have lz0 := H0.lt; (try have lz2 := HP0.lt); (try have lz3 := HP1.lt); (try have lz4 := HQ0.lt); (try have lz5 := HQ1.lt); have zs1 := Below.size HW) | (go_at_call 108; (with_reducible refine (CD.out _ _ _ HB no).mono ?_); rintro e v2 ⟨By, ey, Bx, ex, rfl, ny, nx, hbk⟩; (with_reducible (replace HB := HB.up hbk; replace HW := HW.up hbk; replace H0 := H0.up hbk)); (try (with_reducible replace HP0 := HP0.up hbk)); (try (with_reducible replace HP1 := HP1.up hbk)); (try have hp0_0 := HP0.c0); (try have fhp0_0 := HP0.f0); (try have lhp0 := HP0.lt); (try have hp1_0 := HP1.c0); (try have fhp1_0 := HP1.f0); (try have lhp1 := HP1.lt); (try have hq0_0 := HQ0.c0); (try have fhq0_0 := HQ0.f0); (try have lhq0 := HQ0.lt); (try have hq1_0 := HQ1.c0); (try have fhq1_0 := HQ1.f0); (try have lhq1 := HQ1.lt); have lz0 := H0.lt; (try have lz2 := HP0.lt); (try have lz3 := HP1.lt); (try have lz4 := HQ0.lt); (try have lz5 := HQ1.lt); have zs2 := Below.size HW) | (go_at_call 108; (with_reducible refine (CD.out _ _ _ (HB.al _) (no.al _)).mono ?_); rintro e v2 ⟨By, ey, Bx, ex, rfl, ny, nx, hbk⟩; (with_reducible (have HQ0 := At.up (at_new0 _ [.slice none 0 0] _) hbk; replace HB := (HB.al _).up hbk; replace HW := (HW.al _).up hbk; replace H0 := (H0.al _).up hbk)); (try (with_reducible replace HP0 := (HP0.al _).up hbk)); (try (with_reducible replace HP1 := (HP1.al _).up hbk)); (try have hp0_0 := HP0.c0); (try have fhp0_0 := HP0.f0); (try have lhp0 := HP0.lt); (try have hp1_0 := HP1.c0); (try have fhp1_0 := HP1.f0); (try have lhp1 := HP1.lt); (try have hq0_0 := HQ0.c0); (try have fhq0_0 := HQ0.f0); (try have lhq0 := HQ0.lt); (try have hq1_0 := HQ1.c0); (try have fhq1_0 := HQ1.f0); (try have lhq1 := HQ1.lt); have lz0 := H0.lt; (try have lz2 := HP0.lt); (try have lz3 := HP1.lt); (try have lz4 := HQ0.lt); (try have lz5 := HQ1.lt); have zs2 := Below.size HW) | (go_at_call 108; (with_reducible refine (CD.out _ _ _ ((HB.al _).al _) ((no.al _).al _)).mono ?_); rintro e v2 ⟨By, ey, Bx, ex, rfl, ny, nx, hbk⟩; (with_reducible (have HQ0 := At.up ((at_new0 _ [.slice none 0 0] _).al _) hbk; have HQ1 := At.up (at_new1 _ _ [.slice none 0 0] _) hbk; replace HB := ((HB.al _).al _).up hbk; replace HW := ((HW.al _).al _).up hbk; replace H0 := ((H0.al _).al _).up hbk)); (try (with_reducible replace HP0 := ((HP0.al _).al _).up hbk)); (try (with_reducible replace HP1 := ((HP1.al _).al _).up hbk)); (try have hp0_0 := HP0.c0); (try have fhp0_0 := HP0.f0); (try have lhp0 := HP0.lt); (try have hp1_0 := HP1.c0); (try have fhp1_0 := HP1.f0); (try have lhp1 := HP1.lt); (try have hq0_0 := HQ0.c0); (try have fhq0_0 := HQ0.f0); (try have lhq0 := HQ0.lt); (try have hq1_0 := HQ1.c0); (try have fhq1_0 := HQ1.f0); (try have lhq1 := HQ1.lt); have lz0 := H0.lt; (try have lz2 := HP0.lt); (try have lz3 := HP1.lt); (try have lz4 := HQ0.lt); (try have lz5 := HQ1.lt); have zs2 := Below.size HW) | fail)
    all_goals
      go_wp2_with fail
      go_meet
      case rel =>
        refine ⟨_, By, ey, rfl, (by first | omega | (show _ < W2.heap.size; omega) | (show _ < W2.heap.size + 1; omega)), ?_, ?_, ?_⟩ <;> (repeat (first | with_reducible exact ny | with_reducible exact HW | with_reducible exact HP0 | with_reducible exact HP1 | with_reducible exact HQ0 | with_reducible exact HQ1 | with_reducible exact at_new0 _ _ _ | with_reducible exact at_new1 _ _ _ _ | with_reducible exact at_newS _ _ _ _ | (with_reducible refine Bel.dr ?_) | (with_reducible refine Bel.al ?_ _) | (with_reducible refine Bel.put ?_ (by omega) _) | (with_reducible refine Nm.dr ?_) | (with_reducible refine Nm.al ?_ _) | (with_reducible refine Nm.putx ?_ ⟨.slice none 0 0, At.c0 (vs := []) ?_, not_u32⟩ _) | (with_reducible refine At.dr ?_) | (with_reducible refine At.al ?_ _) | (with_reducible refine At.put1 (v := .slice none 0 0) ?_ _) | (with_reducible refine At.far ?_ (by omega) _)))
  case rest =>
    obtain ⟨p, By, ey, rfl, hp, HY, ny, hW⟩ := hcut
    replace HB := HB.up hW.hid
    replace H0 := H0.up hW.hid
    replace HR := HR.up hW.hid
    clear hW l0 l1 l2 l3
    have h0_0 := H0.c0
    have h0_1 := H0.c1
    have h0_2 := H0.c2
    have h0_l := H0.lt
    have hr_0 := HR.c0
    have hr_1 := HR.c1
    have hr_2 := HR.c2
    have hr_l := HR.lt
    have hr_f0 := HR.f0
    have hr_f1 := HR.f1
    have hr_f2 := HR.f2
    have hy_0 := HY.c0
    have hy_l := HY.lt
    go_wp2_with fail
    refine bodyPost_ret (v := .agg #[.bool b, .slice By (dl y) ey, .int .i64 ((s : Int) - 1)]) (by simp [results, Tryz.results124, go_sem, hr_0, hr_1, hr_2]) rfl ?_
    exact ret_d HB (by omega) HR ny
set_option maxHeartbeats 4000000 in
theorem to_lo (hm : 1 ≤ m ∧ m ≤ 7) (h : sc < 0) : Calls Tryz.prog 58 #[.agg #[.bool b, .slice A n c, .slice A' n' c'], .int .i64 sc, .int .i64 m] W (DEr W 1) := by
  have CM : Hid (∀ W', Calls Tryz.prog 61 #[.int .i64 m] W' (RetB W' true)) := fun W' => by
    have h1 := mode_h (W := W') (m := m)
    rwa [decide_eq_true hm] at h1
  have g1 : decide (sc < 0) = true := decide_eq_true (by omega)
  have g1' : (sc < 0) := by omega
  clear hm h
  have HB := Bel.refl W
  go_enter Tryz.func58, Tryz.ntmps58
  go_wp2_with (first | (go_at_call 61; (with_reducible refine (CM.out _).mono ?_); rintro e w1 ⟨rfl, hbk⟩; replace hbk := Bel.hid hbk; (with_reducible (have HR : At w1 (W.heap.size + 1) [.bool false, .slice none 0 0, .int .i64 0] := At.up (at_new1 _ _ _ _) hbk; replace HB := ((HB.al _).al _).up hbk)); have hr_0 := HR.c0; have hr_1 := HR.c1; have hr_2 := HR.c2; have hr_l := HR.lt; have hr_f0 := HR.f0; have hr_f1 := HR.f1; have hr_f2 := HR.f2) | fail)
  refine bodyPost_ret (v := .tuple #[.agg #[.bool false, .slice none 0 0, .int .i64 0], .int .i64 1]) (by simp [results, Tryz.results58, go_sem, hr_0, hr_1, hr_2]) rfl ?_
  exact ⟨rfl, (HB.uput3 (by omega) _ _ _).hid⟩
set_option maxHeartbeats 4000000 in
theorem to_hi (hm : 1 ≤ m ∧ m ≤ 7) (h0 : 0 ≤ sc) (h : 60 < sc) : Calls Tryz.prog 58 #[.agg #[.bool b, .slice A n c, .slice A' n' c'], .int .i64 sc, .int .i64 m] W (DEr W 1) := by
  have CM : Hid (∀ W', Calls Tryz.prog 61 #[.int .i64 m] W' (RetB W' true)) := fun W' => by
    have h1 := mode_h (W := W') (m := m)
    rwa [decide_eq_true hm] at h1
  have g1 : decide (sc < 0) = false := decide_eq_false (by omega)
  have g1' : ¬ (sc < 0) := by omega
  have g2 : decide (60 < sc) = true := decide_eq_true (by omega)
  have g2' : (60 < sc) := by omega
  clear hm h h0
  have HB := Bel.refl W
  go_enter Tryz.func58, Tryz.ntmps58
  go_wp2_with (first | (go_at_call 61; (with_reducible refine (CM.out _).mono ?_); rintro e w1 ⟨rfl, hbk⟩; replace hbk := Bel.hid hbk; (with_reducible (have HR : At w1 (W.heap.size + 1) [.bool false, .slice none 0 0, .int .i64 0] := At.up (at_new1 _ _ _ _) hbk; replace HB := ((HB.al _).al _).up hbk)); have hr_0 := HR.c0; have hr_1 := HR.c1; have hr_2 := HR.c2; have hr_l := HR.lt; have hr_f0 := HR.f0; have hr_f1 := HR.f1; have hr_f2 := HR.f2) | fail)
  refine bodyPost_ret (v := .tuple #[.agg #[.bool false, .slice none 0 0, .int .i64 0], .int .i64 1]) (by simp [results, Tryz.results58, go_sem, hr_0, hr_1, hr_2]) rfl ?_
  exact ⟨rfl, (HB.uput3 (by omega) _ _ _).hid⟩
set_option maxHeartbeats 4000000 in
theorem sig_lo (hm : 1 ≤ m ∧ m ≤ 7) (h : sc < 1) : Calls Tryz.prog 59 #[.agg #[.bool b, .slice A n c, .slice A' n' c'], .int .i64 sc, .int .i64 m] W (DEr W 1) := by
  have CM : Hid (∀ W', Calls Tryz.prog 61 #[.int .i64 m] W' (RetB W' true)) := fun W' => by
    have h1 := mode_h (W := W') (m := m)
    rwa [decide_eq_true hm] at h1
  have g1 : decide (sc < 1) = true := decide_eq_true (by omega)
  have g1' : (sc < 1) := by omega
  clear hm h
  have HB := Bel.refl W
  go_enter Tryz.func59, Tryz.ntmps59
  go_wp2_with (first | (go_at_call 61; (with_reducible refine (CM.out _).mono ?_); rintro e w1 ⟨rfl, hbk⟩; replace hbk := Bel.hid hbk; (with_reducible (have HR : At w1 (W.heap.size + 1) [.bool false, .slice none 0 0, .int .i64 0] := At.up (at_new1 _ _ _ _) hbk; replace HB := ((HB.al _).al _).up hbk)); have hr_0 := HR.c0; have hr_1 := HR.c1; have hr_2 := HR.c2; have hr_l := HR.lt; have hr_f0 := HR.f0; have hr_f1 := HR.f1; have hr_f2 := HR.f2) | fail)
  refine bodyPost_ret (v := .tuple #[.agg #[.bool false, .slice none 0 0, .int .i64 0], .int .i64 1]) (by simp [results, Tryz.results59, go_sem, hr_0, hr_1, hr_2]) rfl ?_
  exact ⟨rfl, (HB.uput3 (by omega) _ _ _).hid⟩
set_option maxHeartbeats 4000000 in
theorem sig_hi (hm : 1 ≤ m ∧ m ≤ 7) (h0 : 1 ≤ sc) (h : 40 < sc) : Calls Tryz.prog 59 #[.agg #[.bool b, .slice A n c, .slice A' n' c'], .int .i64 sc, .int .i64 m] W (DEr W 1) := by
  have CM : Hid (∀ W', Calls Tryz.prog 61 #[.int .i64 m] W' (RetB W' true)) := fun W' => by
    have h1 := mode_h (W := W') (m := m)
    rwa [decide_eq_true hm] at h1
  have g1 : decide (sc < 1) = false := decide_eq_false (by omega)
  have g1' : ¬ (sc < 1) := by omega
  have g2 : decide (40 < sc) = true := decide_eq_true (by omega)
  have g2' : (40 < sc) := by omega
  clear hm h h0
  have HB := Bel.refl W
  go_enter Tryz.func59, Tryz.ntmps59
  go_wp2_with (first | (go_at_call 61; (with_reducible refine (CM.out _).mono ?_); rintro e w1 ⟨rfl, hbk⟩; replace hbk := Bel.hid hbk; (with_reducible (have HR : At w1 (W.heap.size + 1) [.bool false, .slice none 0 0, .int .i64 0] := At.up (at_new1 _ _ _ _) hbk; replace HB := ((HB.al _).al _).up hbk)); have hr_0 := HR.c0; have hr_1 := HR.c1; have hr_2 := HR.c2; have hr_l := HR.lt; have hr_f0 := HR.f0; have hr_f1 := HR.f1; have hr_f2 := HR.f2) | fail)
  refine bodyPost_ret (v := .tuple #[.agg #[.bool false, .slice none 0 0, .int .i64 0], .int .i64 1]) (by simp [results, Tryz.results59, go_sem, hr_0, hr_1, hr_2]) rfl ?_
  exact ⟨rfl, (HB.uput3 (by omega) _ _ _).hid⟩
end
end Go.Proofs.YtfcamfkimnlfgaaGreatDoor
end

section
/- Package round: Step of a step that is greater than 0. Conditions: terms of at most 6000 words. -/
open Go.RowKit
set_option maxRecDepth 100000
namespace Go.Proofs.YtfcamfkimnlfgaaGreatDoor
section
variable {W : World} {b : Bool} {A A' A2 : Option Addr} {n n' n2 c c' c2 m2 s K : Nat} {m : Int} {r : Rat}
set_option maxHeartbeats 8000000 in
theorem step_h (h : QA W b A n c A' n' c' r K) (hd : DX W false A2 n2 c2 m2 s) (h0 : 0 < m2) (bs : m2 < W32 ^ K) (hm : 1 ≤ m ∧ m ≤ 7) (hK0 : 0 < K) (hK : K ≤ 6000) {t : Int} (ht : rdR m (r * mkRat (10 ^ s : Nat) m2) = t) : Calls Tryz.prog 60 #[.agg #[.bool b, .slice A n c, .slice A' n' c'], .agg #[.bool false, .slice A2 n2 c2, .int .i64 (s : Int)], .int .i64 m] W (ToR W (decide (t < 0)) (t.natAbs * m2) (s : Int)) := by
  obtain ⟨v, hv⟩ : ∃ v : Nat, v = t.natAbs * m2 := ⟨_, rfl⟩
  obtain ⟨st, hst⟩ : ∃ u, u = decide (t < 0) := ⟨_, rfl⟩
  have CM : Hid (∀ W', Calls Tryz.prog 61 #[.int .i64 m] W' (RetB W' true)) := fun W' => by
    have h1 := mode_h (W := W') (m := m)
    rwa [decide_eq_true hm] at h1
  have CG : Hid (∀ W', Bel W W' → Calls Tryz.prog 66 #[.agg #[.bool false, .slice A2 n2 c2, .int .i64 (s : Int)]] W' (RetB W' true)) := fun W' hw => hd.gd W' hw
  have CC : Hid (∀ W', Bel W W' → Calls Tryz.prog 125 #[.agg #[.slice A2 n2 c2], .agg #[.slice none 0 0]] W' (IntPost W' 1)) := fun W' hw => cmp_h (hd.nm.up hw.hid) (nm_nil W' none 0) (cmpI_gt h0)
  have CX : Hid (∀ W', Bel W W' → Calls Tryz.prog 121 #[.agg #[.bool b, .slice A n c, .slice A' n' c'], .agg #[.bool false, .slice A2 n2 c2, .int .i64 (s : Int)], .int .i64 m] W' (DvR W' st v (s : Int))) := fun W' hw => by
    have h1 := multiple_h (b' := false) (h.up hw.hid) (hd.nm.up hw.hid) bs hd.sc hm hK0 hK
    rw [ht, ← hst, ← hv] at h1
    exact h1
  rw [← hst, ← hv]
  clear h hd h0 bs hm hK0 hK ht hv hst
  have HB := Bel.refl W
  go_enter Tryz.func60, Tryz.ntmps60
  go_wp2_with (first | (go_at_call 61; (with_reducible refine (CM.out _).mono ?_); rintro e w1 ⟨rfl, hbk⟩; replace hbk := Bel.hid hbk; (with_reducible (have H0 : At w1 W.heap.size [.bool b, .slice A n c, .slice A' n' c'] := At.up (((at_new0 _ _ _).al _).al _) hbk; have H1 : At w1 (W.heap.size + 1) [.bool false, .slice A2 n2 c2, .int .i64 (s : Int)] := At.up ((at_new1 _ _ _ _).al _) hbk; have HR : At w1 (W.heap.size + 1 + 1) [.bool false, .slice none 0 0, .int .i64 0] := At.up (at_new2 _ _ _ _ _) hbk; replace HB := (((HB.al _).al _).al _).up hbk)); have h0_0 := H0.c0; have h0_1 := H0.c1; have h0_2 := H0.c2; have h0_l := H0.lt; have h1_0 := H1.c0; have h1_1 := H1.c1; have h1_2 := H1.c2; have h1_l := H1.lt) | (go_at_call 66; (with_reducible refine (CG.out _ HB).mono ?_); rintro e w2 ⟨rfl, hbk⟩; replace hbk := Bel.hid hbk; (with_reducible (replace HB := HB.up hbk; replace H0 := H0.up hbk; replace H1 := H1.up hbk; replace HR := HR.up hbk)); clear h0_0 h0_1 h0_2 h0_l h1_0 h1_1 h1_2 h1_l; have h0_0 := H0.c0; have h0_1 := H0.c1; have h0_2 := H0.c2; have h0_l := H0.lt; have h1_0 := H1.c0; have h1_1 := H1.c1; have h1_2 := H1.c2; have h1_l := H1.lt) | (go_at_call 125; (with_reducible refine (CC.out _ HB).mono ?_); rintro e w3 ⟨rfl, hbk⟩; (with_reducible (replace HB := HB.up hbk; replace H0 := H0.up hbk; replace H1 := H1.up hbk; replace HR := HR.up hbk)); clear h0_0 h0_1 h0_2 h0_l h1_0 h1_1 h1_2 h1_l; have h0_0 := H0.c0; have h0_1 := H0.c1; have h0_2 := H0.c2; have h0_l := H0.lt; have h1_0 := H1.c0; have h1_1 := H1.c1; have h1_2 := H1.c2; have h1_l := H1.lt) | (go_at_call 121; (with_reducible refine (CX.out _ HB).mono ?_); rintro e w4 ⟨Bt, et, rfl, nt, hbk⟩; (with_reducible (replace HB := HB.up hbk; replace HR := HR.up hbk)); clear h0_0 h0_1 h0_2 h0_l h1_0 h1_1 h1_2 h1_l; have hr_0 := HR.c0; have hr_1 := HR.c1; have hr_2 := HR.c2; have hr_l := HR.lt; have hr_f0 := HR.f0; have hr_f1 := HR.f1; have hr_f2 := HR.f2) | fail)
  refine bodyPost_ret (v := .tuple #[.agg #[.bool st, .slice Bt (dl v) et, .int .i64 (s : Int)], .int .i64 0]) (by simp [results, Tryz.results60, go_sem, hr_0, hr_1, hr_2]) rfl ?_
  exact ⟨Bt, et, rfl, nt.putd HR _ _ _ _ _, (HB.uput3 (by omega) _ _ _).hid⟩
end
end Go.Proofs.YtfcamfkimnlfgaaGreatDoor
end
