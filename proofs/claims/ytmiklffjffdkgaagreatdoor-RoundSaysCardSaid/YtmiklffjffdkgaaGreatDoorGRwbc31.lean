/- Several texts in one, each with its own sentence and conditions. -/
import Derived.Test.YtmiklffjffdkgaaGreatDoorGRwbc30
import Derived.Test.YtmiklffjffdkgaaGreatDoorGRwbc29
import Derived.Deep.CutRange
import Derived.Test.YtmiklffjffdkgaaGreatDoorGRwbc25
import Derived.Test.YtmiklffjffdkgaaGreatDoorGRwbc13
import Derived.Test.YtmiklffjffdkgaaGreatDoorGRwbc20
section
/- Package round: limit of a numeral with digits behind the point; what is refused; Sig of nought. Package rat: Pow of a negative power of what is greater than 0. Conditions: see there. -/
open Go.RowKit
set_option maxRecDepth 100000
namespace Go.Proofs.YtmiklffjffdkgaaGreatDoor
/-- What a call leaves that returns an error alone. -/
def DEr (W : World) (er : Int) (e : Ending) (w' : World) : Prop := e = .returned (.tuple #[.agg #[.bool false, .slice none 0 0, .int .i64 0], .int .i64 er]) ∧ Hid (Below W.heap.size W w')
section
variable {W : World} {b b' sg : Bool} {A A' A2 : Option Addr} {n n' n2 c c' c2 m2 s K q d : Nat} {m z e sc : Int} {r pw : Rat}
set_option maxHeartbeats 8000000 in
theorem limit_lt {k : Nat} (h : Nm W A n c q) (hk : k ≤ 2000) (hs : 0 < s) (hq : q < 10 ^ k) : Calls Tryz.prog 30 #[.agg #[.bool b, .slice A n c, .int .i64 (s : Int)], .int .i64 (k : Int)] W (fun e w' => e = .returned (.agg #[.bool b, .slice A n c, .int .i64 (s : Int)]) ∧ Nm w' A n c q ∧ Hid (Below W.heap.size W w')) := by
  obtain ⟨P, hP⟩ : ∃ P, P = 10 ^ k := ⟨_, rfl⟩
  obtain ⟨u, hu⟩ : ∃ u, cmpI q P = u := ⟨_, rfl⟩
  have CP : Hid (∀ W', Calls Tryz.prog 67 #[.int .i64 (k : Int)] W' (NumR W' P)) := fun W' => by rw [hP]; exact rpower_h hk
  have CC : Hid (∀ W' B e, Bel W W' → Nm W' B (dl P) e P → Calls Tryz.prog 31 #[.agg #[.slice A n c], .agg #[.slice B (dl P) e]] W' (IntPost W' u)) := fun W' B e hw hn => cmp_h (h.up hw.hid) hn hu
  have hz : ((s : Int) == 0) = false := by simp; omega
  have hu1 : decide (u < 0) = true := decide_eq_true (by rw [← hu, hP, cmpI_lt hq]; decide)
  have hu2 : u < 0 := of_decide_eq_true hu1
  have HN : Hid (∀ W', Bel W W' → Nm W' A n c q) := fun W' hw => h.up hw.hid
  clear h hk hs hq hP hu
  have HB := Bel.refl W
  go_enter Tryz.func30, Tryz.ntmps30
  go_wp2_with fail
  obtain ⟨W1, hW1⟩ : ∃ X, X = (W.alloc (.cells #[.bool b, .slice A n c, .int .i64 (s : Int)] 30)).alloc (.cells #[.bool false, .slice none 0 0, .int .i64 0] 30) := ⟨_, rfl⟩
  rw [← hW1]
  have H0 : At W1 W.heap.size [.bool b, .slice A n c, .int .i64 (s : Int)] := by rw [hW1]; exact (at_new0 _ _ _).al _
  have HR : At W1 (W.heap.size + 1) [.bool false, .slice none 0 0, .int .i64 0] := by rw [hW1]; exact at_new1 _ _ _ _
  replace HB : Bel W W1 := by rw [hW1]; exact (HB.al _).al _
  clear hW1
  have l0 := H0.lt
  have l1 := HR.lt
  refine wp_region_held_drew (S := fun w' => w'.cell? ⟨W.heap.size, 0, none⟩ = some (.bool b) ∧ w'.cell? ⟨W.heap.size, 1, none⟩ = some (.slice A n c) ∧ w'.cell? ⟨W.heap.size, 2, none⟩ = some (.int .i64 (s : Int))) (by kernel_rfl) ?_ (fun hHeld => ?_)
  · (refine ⟨(?_ : At _ W.heap.size [.bool b, .slice A n c, .int .i64 (s : Int)]).c0, (?_ : At _ W.heap.size [.bool b, .slice A n c, .int .i64 (s : Int)]).c1, (?_ : At _ W.heap.size [.bool b, .slice A n c, .int .i64 (s : Int)]).c2⟩ <;> (repeat (first | with_reducible exact H0 | (with_reducible refine At.dr ?_) | (with_reducible refine At.al ?_ _) | (with_reducible refine At.far ?_ (by omega) _))))
  (refine wpAnyH_take (i := 0) (v := ?_) rfl (by decide +kernel) (by decide +kernel) (by decide +kernel) (fun _ _ _ h => h) (Or.inl ⟨by rfl, ?_⟩) (by assumption) ?_; rotate_left; (focus ((intro w hSw; (try dsimp only at hSw); go_simp); (try (with_reducible rfl)); done)); (try simp only [List.getElem_toArray, List.getElem_cons_zero, List.getElem_cons_succ, Act.put, List.setIfInBounds_toArray, List.set_cons_zero, List.set_cons_succ]))
  (refine wpAnyH_take (i := 1) (v := ?_) rfl (by decide +kernel) (by decide +kernel) (by decide +kernel) (fun _ _ _ h => h) (Or.inl ⟨by rfl, ?_⟩) (by assumption) ?_; rotate_left; (focus ((intro w hSw; (try dsimp only at hSw); go_simp); (try (with_reducible rfl)); done)); (try simp only [List.getElem_toArray, List.getElem_cons_zero, List.getElem_cons_succ, Act.put, List.setIfInBounds_toArray, List.set_cons_zero, List.set_cons_succ]))
  (refine wpAnyH_take (i := 2) (v := ?_) rfl (by decide +kernel) (by decide +kernel) (by decide +kernel) (fun _ _ _ h => h) (Or.inl ⟨by rfl, ?_⟩) (by assumption) ?_; rotate_left; (focus ((intro w hSw; (try dsimp only at hSw); go_simp); (try (with_reducible rfl)); done)); (try simp only [List.getElem_toArray, List.getElem_cons_zero, List.getElem_cons_succ, Act.put, List.setIfInBounds_toArray, List.set_cons_zero, List.set_cons_succ]))
  (refine wpAnyH_take (i := 3) (v := ?_) rfl (by decide +kernel) (by decide +kernel) (by decide +kernel) (fun _ _ _ h => h) (Or.inl ⟨by rfl, ?_⟩) (by assumption) ?_; rotate_left; (focus ((intro w hSw; (try dsimp only at hSw); go_simp); (try (with_reducible rfl)); done)); (try simp only [List.getElem_toArray, List.getElem_cons_zero, List.getElem_cons_succ, Act.put, List.setIfInBounds_toArray, List.set_cons_zero, List.set_cons_succ]))
  (refine wpAnyH_take (i := 4) (v := ?_) rfl (by decide +kernel) (by decide +kernel) (by decide +kernel) (fun _ _ _ h => h) (Or.inl ⟨by rfl, ?_⟩) (by assumption) ?_; rotate_left; (focus ((intro w hSw; (try dsimp only at hSw); go_simp); (try (with_reducible rfl)); done)); (try simp only [List.getElem_toArray, List.getElem_cons_zero, List.getElem_cons_succ, Act.put, List.setIfInBounds_toArray, List.set_cons_zero, List.set_cons_succ]))
  (refine wpAnyH_take (i := 5) (v := ?_) rfl (by decide +kernel) (by decide +kernel) (by decide +kernel) (fun _ _ _ h => h) (Or.inl ⟨by rfl, ?_⟩) (by assumption) ?_; rotate_left; (focus ((intro w hSw; (try dsimp only at hSw); go_simp); (try (with_reducible rfl)); done)); (try simp only [List.getElem_toArray, List.getElem_cons_zero, List.getElem_cons_succ, Act.put, List.setIfInBounds_toArray, List.set_cons_zero, List.set_cons_succ]))
  (refine wpAnyH_take (i := 6) (v := ?_) rfl (by decide +kernel) (by decide +kernel) (by decide +kernel) (fun _ _ _ h => h) (Or.inl ⟨by rfl, ?_⟩) (by assumption) ?_; rotate_left; (focus ((intro w hSw; (try dsimp only at hSw); go_simp); (try (with_reducible rfl)); done)); (try simp only [List.getElem_toArray, List.getElem_cons_zero, List.getElem_cons_succ, Act.put, List.setIfInBounds_toArray, List.set_cons_zero, List.set_cons_succ]))
  (refine wpAnyH_ready (rs := [7]) (by decide +kernel) (by simp) ?_; refine AllReadyH.cons rfl (fun K hK => ?_) AllReadyH.nil; go_simp; (first | (go_at_call 67; (with_reducible refine (CP.out _).mono ?_); rintro e w2 ⟨Bp, ep, rfl, np, hbk⟩; (with_reducible (replace HB := HB.dr.up hbk; replace H0 := H0.dr.up hbk; replace HR := HR.dr.up hbk))) | (go_at_call 31; (with_reducible refine (CC.out _ _ _ HB np).mono ?_); rintro e w3 ⟨rfl, hbk⟩; (with_reducible (replace HB := HB.up hbk; replace H0 := H0.up hbk; replace HR := HR.up hbk))) | fail); (try (go_wp2_with fail)); refine hK.out _ _ ?_ (fun hHeld => ?_); (focus ((try dsimp only); (refine ⟨(?_ : At _ W.heap.size [.bool b, .slice A n c, .int .i64 (s : Int)]).c0, (?_ : At _ W.heap.size [.bool b, .slice A n c, .int .i64 (s : Int)]).c1, (?_ : At _ W.heap.size [.bool b, .slice A n c, .int .i64 (s : Int)]).c2⟩ <;> (repeat (first | with_reducible exact H0 | (with_reducible refine At.dr ?_) | (with_reducible refine At.al ?_ _) | (with_reducible refine At.far ?_ (by omega) _)))))); clear hK K; (try simp only [List.getElem_toArray, List.getElem_cons_zero, List.getElem_cons_succ, Act.put, List.setIfInBounds_toArray, List.set_cons_zero, List.set_cons_succ]))
  (refine wpAnyH_ready (rs := [8]) (by decide +kernel) (by simp) ?_; refine AllReadyH.cons rfl (fun K hK => ?_) AllReadyH.nil; go_simp; (first | (go_at_call 67; (with_reducible refine (CP.out _).mono ?_); rintro e w2 ⟨Bp, ep, rfl, np, hbk⟩; (with_reducible (replace HB := HB.dr.up hbk; replace H0 := H0.dr.up hbk; replace HR := HR.dr.up hbk))) | (go_at_call 31; (with_reducible refine (CC.out _ _ _ HB np).mono ?_); rintro e w3 ⟨rfl, hbk⟩; (with_reducible (replace HB := HB.up hbk; replace H0 := H0.up hbk; replace HR := HR.up hbk))) | fail); (try (go_wp2_with fail)); refine hK.out _ _ ?_ (fun hHeld => ?_); (focus ((try dsimp only); (refine ⟨(?_ : At _ W.heap.size [.bool b, .slice A n c, .int .i64 (s : Int)]).c0, (?_ : At _ W.heap.size [.bool b, .slice A n c, .int .i64 (s : Int)]).c1, (?_ : At _ W.heap.size [.bool b, .slice A n c, .int .i64 (s : Int)]).c2⟩ <;> (repeat (first | with_reducible exact H0 | (with_reducible refine At.dr ?_) | (with_reducible refine At.al ?_ _) | (with_reducible refine At.far ?_ (by omega) _)))))); clear hK K; (try simp only [List.getElem_toArray, List.getElem_cons_zero, List.getElem_cons_succ, Act.put, List.setIfInBounds_toArray, List.set_cons_zero, List.set_cons_succ]))
  (refine wpAnyH_take (i := 9) (v := ?_) rfl (by decide +kernel) (by decide +kernel) (by decide +kernel) (fun _ _ _ h => h) (Or.inl ⟨by rfl, ?_⟩) (by assumption) ?_; rotate_left; (focus ((intro w hSw; (try dsimp only at hSw); go_simp); (try (with_reducible rfl)); done)); (try simp only [List.getElem_toArray, List.getElem_cons_zero, List.getElem_cons_succ, Act.put, List.setIfInBounds_toArray, List.set_cons_zero, List.set_cons_succ]))
  (refine wpAnyH_take (i := 10) (v := ?_) rfl (by decide +kernel) (by decide +kernel) (by decide +kernel) (fun _ _ _ h => h) (Or.inl ⟨by rfl, ?_⟩) (by assumption) ?_; rotate_left; (focus ((intro w hSw; (try dsimp only at hSw); go_simp); (try (with_reducible rfl)); done)); (try simp only [List.getElem_toArray, List.getElem_cons_zero, List.getElem_cons_succ, Act.put, List.setIfInBounds_toArray, List.set_cons_zero, List.set_cons_succ]))
  refine wpAnyH_done (by decide +kernel) ?_ _
  have h0_0 := H0.c0
  have h0_1 := H0.c1
  have h0_2 := H0.c2
  have h0_l := H0.lt
  have hr_0 := HR.c0
  have hr_1 := HR.c1
  have hr_2 := HR.c2
  have hr_l := HR.lt
  have hr_f0 := HR.f0
  have hr_f1 := HR.f1
  have hr_f2 := HR.f2
  go_wp2_with fail
  refine bodyPost_ret (v := .agg #[.bool b, .slice A n c, .int .i64 (s : Int)]) (by simp [results, Tryz.results30, go_sem, hr_0, hr_1, hr_2]) rfl ?_
  exact ⟨rfl, (HN.out _ HB).putd HR _ _ _ _ _, (HB.uput3 (by omega) _ _ _).hid⟩
set_option maxHeartbeats 8000000 in
theorem limit_ge {k : Nat} (h : Nm W A n c q) (hk : k ≤ 2000) (hs : 0 < s) (hs2 : s ≤ 1000) (hq : ¬ q < 10 ^ k) (hd : dl q ≤ 99999) : Calls Tryz.prog 30 #[.agg #[.bool b, .slice A n c, .int .i64 (s : Int)], .int .i64 (k : Int)] W (DvR W b (q / 10) ((s : Int) - 1)) := by
  obtain ⟨P, hP⟩ : ∃ P, P = 10 ^ k := ⟨_, rfl⟩
  obtain ⟨u, hu⟩ : ∃ u, cmpI q P = u := ⟨_, rfl⟩
  have CP : Hid (∀ W', Calls Tryz.prog 67 #[.int .i64 (k : Int)] W' (NumR W' P)) := fun W' => by rw [hP]; exact rpower_h hk
  have CC : Hid (∀ W' B e, Bel W W' → Nm W' B (dl P) e P → Calls Tryz.prog 31 #[.agg #[.slice A n c], .agg #[.slice B (dl P) e]] W' (IntPost W' u)) := fun W' B e hw hn => cmp_h (h.up hw.hid) hn hu
  have hz : ((s : Int) == 0) = false := by simp; omega
  have hu1 : decide (u < 0) = false := decide_eq_false (by rw [← hu, hP]; unfold cmpI; rw [if_neg hq]; split <;> decide)
  have hu2 : ¬ u < 0 := of_decide_eq_false hu1
  obtain ⟨ten, hten⟩ : ∃ t : Nat, t = 10 := ⟨_, rfl⟩
  obtain ⟨y, hy⟩ : ∃ y, q / 10 = y := ⟨_, rfl⟩
  obtain ⟨x, hx⟩ : ∃ x, q % 10 = x := ⟨_, rfl⟩
  have CT : Hid (∀ W', Calls Tryz.prog 56 #[.int .u64 10] W' (NumR W' ten)) := fun W' => by rw [hten]; exact of_h (v := 10) (by decide)
  have CD : Hid (∀ W' B e, Bel W W' → Nm W' B (dl ten) e ten → Calls Tryz.prog 73 #[.agg #[.slice A n c], .agg #[.slice B (dl ten) e]] W' (DivV W' y x)) := fun W' B e hw hn => div_v (h.up hw.hid) hn (by rw [hten]; decide) hd (by rw [hten]; exact hy) (by rw [hten]; exact hx)
  have hw1 : IntKind.i64.wrap ((s : Int) - 1) = (s : Int) - 1 := IntWalk.i64_in _ (by omega)
  have hw2 : wrap64 ((s : Int) - 1) = (s : Int) - 1 := IntWalk.wrap64_in _ (by omega)
  rw [hy]
  clear h hk hs hs2 hq hP hu hten hy hx hd
  have HB := Bel.refl W
  go_enter Tryz.func30, Tryz.ntmps30
  go_wp2_with fail
  obtain ⟨W1, hW1⟩ : ∃ X, X = (W.alloc (.cells #[.bool b, .slice A n c, .int .i64 (s : Int)] 30)).alloc (.cells #[.bool false, .slice none 0 0, .int .i64 0] 30) := ⟨_, rfl⟩
  rw [← hW1]
  have H0 : At W1 W.heap.size [.bool b, .slice A n c, .int .i64 (s : Int)] := by rw [hW1]; exact (at_new0 _ _ _).al _
  have HR : At W1 (W.heap.size + 1) [.bool false, .slice none 0 0, .int .i64 0] := by rw [hW1]; exact at_new1 _ _ _ _
  replace HB : Bel W W1 := by rw [hW1]; exact (HB.al _).al _
  clear hW1
  have l0 := H0.lt
  have l1 := HR.lt
  refine wp_region_held_drew (S := fun w' => w'.cell? ⟨W.heap.size, 0, none⟩ = some (.bool b) ∧ w'.cell? ⟨W.heap.size, 1, none⟩ = some (.slice A n c) ∧ w'.cell? ⟨W.heap.size, 2, none⟩ = some (.int .i64 (s : Int))) (by kernel_rfl) ?_ (fun hHeld => ?_)
  · (refine ⟨(?_ : At _ W.heap.size [.bool b, .slice A n c, .int .i64 (s : Int)]).c0, (?_ : At _ W.heap.size [.bool b, .slice A n c, .int .i64 (s : Int)]).c1, (?_ : At _ W.heap.size [.bool b, .slice A n c, .int .i64 (s : Int)]).c2⟩ <;> (repeat (first | with_reducible exact H0 | (with_reducible refine At.dr ?_) | (with_reducible refine At.al ?_ _) | (with_reducible refine At.far ?_ (by omega) _))))
  (refine wpAnyH_take (i := 0) (v := ?_) rfl (by decide +kernel) (by decide +kernel) (by decide +kernel) (fun _ _ _ h => h) (Or.inl ⟨by rfl, ?_⟩) (by assumption) ?_; rotate_left; (focus ((intro w hSw; (try dsimp only at hSw); go_simp); (try (with_reducible rfl)); done)); (try simp only [List.getElem_toArray, List.getElem_cons_zero, List.getElem_cons_succ, Act.put, List.setIfInBounds_toArray, List.set_cons_zero, List.set_cons_succ]))
  (refine wpAnyH_take (i := 1) (v := ?_) rfl (by decide +kernel) (by decide +kernel) (by decide +kernel) (fun _ _ _ h => h) (Or.inl ⟨by rfl, ?_⟩) (by assumption) ?_; rotate_left; (focus ((intro w hSw; (try dsimp only at hSw); go_simp); (try (with_reducible rfl)); done)); (try simp only [List.getElem_toArray, List.getElem_cons_zero, List.getElem_cons_succ, Act.put, List.setIfInBounds_toArray, List.set_cons_zero, List.set_cons_succ]))
  (refine wpAnyH_take (i := 2) (v := ?_) rfl (by decide +kernel) (by decide +kernel) (by decide +kernel) (fun _ _ _ h => h) (Or.inl ⟨by rfl, ?_⟩) (by assumption) ?_; rotate_left; (focus ((intro w hSw; (try dsimp only at hSw); go_simp); (try (with_reducible rfl)); done)); (try simp only [List.getElem_toArray, List.getElem_cons_zero, List.getElem_cons_succ, Act.put, List.setIfInBounds_toArray, List.set_cons_zero, List.set_cons_succ]))
  (refine wpAnyH_take (i := 3) (v := ?_) rfl (by decide +kernel) (by decide +kernel) (by decide +kernel) (fun _ _ _ h => h) (Or.inl ⟨by rfl, ?_⟩) (by assumption) ?_; rotate_left; (focus ((intro w hSw; (try dsimp only at hSw); go_simp); (try (with_reducible rfl)); done)); (try simp only [List.getElem_toArray, List.getElem_cons_zero, List.getElem_cons_succ, Act.put, List.setIfInBounds_toArray, List.set_cons_zero, List.set_cons_succ]))
  (refine wpAnyH_take (i := 4) (v := ?_) rfl (by decide +kernel) (by decide +kernel) (by decide +kernel) (fun _ _ _ h => h) (Or.inl ⟨by rfl, ?_⟩) (by assumption) ?_; rotate_left; (focus ((intro w hSw; (try dsimp only at hSw); go_simp); (try (with_reducible rfl)); done)); (try simp only [List.getElem_toArray, List.getElem_cons_zero, List.getElem_cons_succ, Act.put, List.setIfInBounds_toArray, List.set_cons_zero, List.set_cons_succ]))
  (refine wpAnyH_take (i := 5) (v := ?_) rfl (by decide +kernel) (by decide +kernel) (by decide +kernel) (fun _ _ _ h => h) (Or.inl ⟨by rfl, ?_⟩) (by assumption) ?_; rotate_left; (focus ((intro w hSw; (try dsimp only at hSw); go_simp); (try (with_reducible rfl)); done)); (try simp only [List.getElem_toArray, List.getElem_cons_zero, List.getElem_cons_succ, Act.put, List.setIfInBounds_toArray, List.set_cons_zero, List.set_cons_succ]))
  (refine wpAnyH_take (i := 6) (v := ?_) rfl (by decide +kernel) (by decide +kernel) (by decide +kernel) (fun _ _ _ h => h) (Or.inl ⟨by rfl, ?_⟩) (by assumption) ?_; rotate_left; (focus ((intro w hSw; (try dsimp only at hSw); go_simp); (try (with_reducible rfl)); done)); (try simp only [List.getElem_toArray, List.getElem_cons_zero, List.getElem_cons_succ, Act.put, List.setIfInBounds_toArray, List.set_cons_zero, List.set_cons_succ]))
  (refine wpAnyH_ready (rs := [7]) (by decide +kernel) (by simp) ?_; refine AllReadyH.cons rfl (fun K hK => ?_) AllReadyH.nil; go_simp; (first | (go_at_call 67; (with_reducible refine (CP.out _).mono ?_); rintro e w2 ⟨Bp, ep, rfl, np, hbk⟩; (with_reducible (replace HB := HB.dr.up hbk; replace H0 := H0.dr.up hbk; replace HR := HR.dr.up hbk))) | (go_at_call 31; (with_reducible refine (CC.out _ _ _ HB np).mono ?_); rintro e w3 ⟨rfl, hbk⟩; (with_reducible (replace HB := HB.up hbk; replace H0 := H0.up hbk; replace HR := HR.up hbk))) | fail); (try (go_wp2_with fail)); refine hK.out _ _ ?_ (fun hHeld => ?_); (focus ((try dsimp only); (refine ⟨(?_ : At _ W.heap.size [.bool b, .slice A n c, .int .i64 (s : Int)]).c0, (?_ : At _ W.heap.size [.bool b, .slice A n c, .int .i64 (s : Int)]).c1, (?_ : At _ W.heap.size [.bool b, .slice A n c, .int .i64 (s : Int)]).c2⟩ <;> (repeat (first | with_reducible exact H0 | (with_reducible refine At.dr ?_) | (with_reducible refine At.al ?_ _) | (with_reducible refine At.far ?_ (by omega) _)))))); clear hK K; (try simp only [List.getElem_toArray, List.getElem_cons_zero, List.getElem_cons_succ, Act.put, List.setIfInBounds_toArray, List.set_cons_zero, List.set_cons_succ]))
  (refine wpAnyH_ready (rs := [8]) (by decide +kernel) (by simp) ?_; refine AllReadyH.cons rfl (fun K hK => ?_) AllReadyH.nil; go_simp; (first | (go_at_call 67; (with_reducible refine (CP.out _).mono ?_); rintro e w2 ⟨Bp, ep, rfl, np, hbk⟩; (with_reducible (replace HB := HB.dr.up hbk; replace H0 := H0.dr.up hbk; replace HR := HR.dr.up hbk))) | (go_at_call 31; (with_reducible refine (CC.out _ _ _ HB np).mono ?_); rintro e w3 ⟨rfl, hbk⟩; (with_reducible (replace HB := HB.up hbk; replace H0 := H0.up hbk; replace HR := HR.up hbk))) | fail); (try (go_wp2_with fail)); refine hK.out _ _ ?_ (fun hHeld => ?_); (focus ((try dsimp only); (refine ⟨(?_ : At _ W.heap.size [.bool b, .slice A n c, .int .i64 (s : Int)]).c0, (?_ : At _ W.heap.size [.bool b, .slice A n c, .int .i64 (s : Int)]).c1, (?_ : At _ W.heap.size [.bool b, .slice A n c, .int .i64 (s : Int)]).c2⟩ <;> (repeat (first | with_reducible exact H0 | (with_reducible refine At.dr ?_) | (with_reducible refine At.al ?_ _) | (with_reducible refine At.far ?_ (by omega) _)))))); clear hK K; (try simp only [List.getElem_toArray, List.getElem_cons_zero, List.getElem_cons_succ, Act.put, List.setIfInBounds_toArray, List.set_cons_zero, List.set_cons_succ]))
  (refine wpAnyH_take (i := 9) (v := ?_) rfl (by decide +kernel) (by decide +kernel) (by decide +kernel) (fun _ _ _ h => h) (Or.inl ⟨by rfl, ?_⟩) (by assumption) ?_; rotate_left; (focus ((intro w hSw; (try dsimp only at hSw); go_simp); (try (with_reducible rfl)); done)); (try simp only [List.getElem_toArray, List.getElem_cons_zero, List.getElem_cons_succ, Act.put, List.setIfInBounds_toArray, List.set_cons_zero, List.set_cons_succ]))
  (refine wpAnyH_take (i := 10) (v := ?_) rfl (by decide +kernel) (by decide +kernel) (by decide +kernel) (fun _ _ _ h => h) (Or.inl ⟨by rfl, ?_⟩) (by assumption) ?_; rotate_left; (focus ((intro w hSw; (try dsimp only at hSw); go_simp); (try (with_reducible rfl)); done)); (try simp only [List.getElem_toArray, List.getElem_cons_zero, List.getElem_cons_succ, Act.put, List.setIfInBounds_toArray, List.set_cons_zero, List.set_cons_succ]))
  refine wpAnyH_done (by decide +kernel) ?_ _
  go_wp2_with fail
  obtain ⟨W2, hW2⟩ : ∃ X, X = w3 := ⟨_, rfl⟩
  rw [← hW2] at HB H0 HR ⊢
  clear hW2
  have l2 := H0.lt
  have l3 := HR.lt
  go_cut [5] from 20 to 27 (fun o w' => ∃ p B e, o = .pointer (some ⟨p, 0, none⟩) ∧ W.heap.size + 1 < p ∧ At w' p [.slice B (dl y) e] ∧ Nm w' B (dl y) e y ∧ Bel W2 w')
  case first =>
    have HW := Bel.refl W2
    go_region_held3 (fun w' => w'.cell? ⟨W.heap.size, 0, none⟩ = some (.bool b) ∧ w'.cell? ⟨W.heap.size, 1, none⟩ = some (.slice A n c) ∧ w'.cell? ⟨W.heap.size, 2, none⟩ = some (.int .i64 (s : Int)))
      (refine ⟨(?_ : At _ W.heap.size [.bool b, .slice A n c, .int .i64 (s : Int)]).c0, (?_ : At _ W.heap.size [.bool b, .slice A n c, .int .i64 (s : Int)]).c1, (?_ : At _ W.heap.size [.bool b, .slice A n c, .int .i64 (s : Int)]).c2⟩ <;> (repeat (first | with_reducible exact H0 | (with_reducible refine At.dr ?_) | (with_reducible refine At.al ?_ _) | (with_reducible refine At.far ?_ (by omega) _))))
      (first | (go_at_call 56; (with_reducible refine (CT.out _).mono ?_); rintro e v1 ⟨O1, o1, rfl, no, hbk⟩; (with_reducible (replace HB := HB.dr.up hbk; replace HW := HW.dr.up hbk; replace H0 := H0.dr.up hbk)); have lz0 := H0.lt; (try have lz2 := HP0.lt); (try have lz3 := HP1.lt); (try have lz4 := HQ0.lt); (try have lz5 := HQ1.lt); have zs1 := Below.size HW) | (go_at_call 56; (with_reducible refine (CT.out _).mono ?_); rintro e v1 ⟨O1, o1, rfl, no, hbk⟩; (with_reducible (have HP0 := At.up (at_new0 _ [.slice none 0 0] _).dr hbk; replace HB := (HB.al _).dr.up hbk; replace HW := (HW.al _).dr.up hbk; replace H0 := (H0.al _).dr.up hbk)); have lz0 := H0.lt; (try have lz2 := HP0.lt); (try have lz3 := HP1.lt); (try have lz4 := HQ0.lt); (try have lz5 := HQ1.lt); have zs1 := Below.size HW) | (go_at_call 56; (with_reducible refine (CT.out _).mono ?_); rintro e v1 ⟨O1, o1, rfl, no, hbk⟩; (with_reducible (have HP0 := At.up ((at_new0 _ [.slice none 0 0] _).al _).dr hbk; have HP1 := At.up (at_new1 _ _ [.slice none 0 0] _).dr hbk; replace HB := ((HB.al _).al _).dr.up hbk; replace HW := ((HW.al _).al _).dr.up hbk; replace H0 := ((H0.al _).al _).dr.up hbk)); have lz0 := H0.lt; (try have lz2 := HP0.lt); (try have lz3 := HP1.lt); (try have lz4 := HQ0.lt); (try have lz5 := HQ1.lt); have zs1 := Below.size HW) | (go_at_call 73; (with_reducible refine (CD.out _ _ _ HB no).mono ?_); rintro e v2 ⟨By, ey, Bx, ex, rfl, ny, nx, hbk⟩; (with_reducible (replace HB := HB.up hbk; replace HW := HW.up hbk; replace H0 := H0.up hbk)); (try (with_reducible replace HP0 := HP0.up hbk)); (try (with_reducible replace HP1 := HP1.up hbk)); (try have hp0_0 := HP0.c0); (try have fhp0_0 := HP0.f0); (try have lhp0 := HP0.lt); (try have hp1_0 := HP1.c0); (try have fhp1_0 := HP1.f0); (try have lhp1 := HP1.lt); (try have hq0_0 := HQ0.c0); (try have fhq0_0 := HQ0.f0); (try have lhq0 := HQ0.lt); (try have hq1_0 := HQ1.c0); (try have fhq1_0 := HQ1.f0); (try have lhq1 := HQ1.lt); have lz0 := H0.lt; (try have lz2 := HP0.lt); (try have lz3 := HP1.lt); (try have lz4 := HQ0.lt); (try have lz5 := HQ1.lt); have zs2 := Below.size HW) | (go_at_call 73; (with_reducible refine (CD.out _ _ _ (HB.al _) (no.al _)).mono ?_); rintro e v2 ⟨By, ey, Bx, ex, rfl, ny, nx, hbk⟩; (with_reducible (have HQ0 := At.up (at_new0 _ [.slice none 0 0] _) hbk; replace HB := (HB.al _).up hbk; replace HW := (HW.al _).up hbk; replace H0 := (H0.al _).up hbk)); (try (with_reducible replace HP0 := (HP0.al _).up hbk)); (try (with_reducible replace HP1 := (HP1.al _).up hbk)); (try have hp0_0 := HP0.c0); (try have fhp0_0 := HP0.f0); (try have lhp0 := HP0.lt); (try have hp1_0 := HP1.c0); (try have fhp1_0 := HP1.f0); (try have lhp1 := HP1.lt); (try have hq0_0 := HQ0.c0); (try have fhq0_0 := HQ0.f0); (try have lhq0 := HQ0.lt); (try have hq1_0 := HQ1.c0); (try have fhq1_0 := HQ1.f0); (try have lhq1 := HQ1.lt); have lz0 := H0.lt; (try have lz2 := HP0.lt); (try have lz3 := HP1.lt); (try have lz4 := HQ0.lt); (try have lz5 := HQ1.lt); have zs2 := Below.size HW) | (go_at_call 73; (with_reducible refine (CD.out _ _ _ ((HB.al _).al _) ((no.al _).al _)).mono ?_); rintro e v2 ⟨By, ey, Bx, ex, rfl, ny, nx, hbk⟩; (with_reducible (have HQ0 := At.up ((at_new0 _ [.slice none 0 0] _).al _) hbk; have HQ1 := At.up (at_new1 _ _ [.slice none 0 0] _) hbk; replace HB := ((HB.al _).al _).up hbk; replace HW := ((HW.al _).al _).up hbk; replace H0 := ((H0.al _).al _).up hbk)); (try (with_reducible replace HP0 := ((HP0.al _).al _).up hbk)); (try (with_reducible replace HP1 := ((HP1.al _).al _).up hbk)); (try have hp0_0 := HP0.c0); (try have fhp0_0 := HP0.f0); (try have lhp0 := HP0.lt); (try have hp1_0 := HP1.c0); (try have fhp1_0 := HP1.f0); (try have lhp1 := HP1.lt); (try have hq0_0 := HQ0.c0); (try have fhq0_0 := HQ0.f0); (try have lhq0 := HQ0.lt); (try have hq1_0 := HQ1.c0); (try have fhq1_0 := HQ1.f0); (try have lhq1 := HQ1.lt); have lz0 := H0.lt; (try have lz2 := HP0.lt); (try have lz3 := HP1.lt); (try have lz4 := HQ0.lt); (try have lz5 := HQ1.lt); have zs2 := Below.size HW) | fail)
    all_goals
      go_wp2_with fail
      go_meet
      case rel =>
        refine ⟨_, By, ey, rfl, (by first | omega | (show _ < W2.heap.size; omega) | (show _ < W2.heap.size + 1; omega)), ?_, ?_, ?_⟩ <;> (repeat (first | with_reducible exact ny | with_reducible exact HW | with_reducible exact HP0 | with_reducible exact HP1 | with_reducible exact HQ0 | with_reducible exact HQ1 | with_reducible exact at_new0 _ _ _ | with_reducible exact at_new1 _ _ _ _ | with_reducible exact at_newS _ _ _ _ | (with_reducible refine Bel.dr ?_) | (with_reducible refine Bel.al ?_ _) | (with_reducible refine Bel.put ?_ (by omega) _) | (with_reducible refine Nm.dr ?_) | (with_reducible refine Nm.al ?_ _) | (with_reducible refine Nm.putx ?_ ⟨.slice none 0 0, At.c0 (vs := []) ?_, not_u32⟩ _) | (with_reducible refine At.dr ?_) | (with_reducible refine At.al ?_ _) | (with_reducible refine At.put1 (v := .slice none 0 0) ?_ _) | (with_reducible refine At.far ?_ (by omega) _)))
  case rest =>
    obtain ⟨p, By, ey, rfl, hp, HY, ny, hW⟩ := hcut
    replace HB := HB.up hW.hid
    replace H0 := H0.up hW.hid
    replace HR := HR.up hW.hid
    clear hW l0 l1 l2 l3
    have h0_0 := H0.c0
    have h0_1 := H0.c1
    have h0_2 := H0.c2
    have h0_l := H0.lt
    have hr_0 := HR.c0
    have hr_1 := HR.c1
    have hr_2 := HR.c2
    have hr_l := HR.lt
    have hr_f0 := HR.f0
    have hr_f1 := HR.f1
    have hr_f2 := HR.f2
    have hy_0 := HY.c0
    have hy_l := HY.lt
    go_wp2_with fail
    refine bodyPost_ret (v := .agg #[.bool b, .slice By (dl y) ey, .int .i64 ((s : Int) - 1)]) (by simp [results, Tryz.results30, go_sem, hr_0, hr_1, hr_2]) rfl ?_
    exact ret_d HB (by omega) HR ny
set_option maxHeartbeats 4000000 in
theorem to_lo (hm : 1 ≤ m ∧ m ≤ 7) (h : sc < 0) : Calls Tryz.prog 8 #[.agg #[.bool b, .slice A n c, .slice A' n' c'], .int .i64 sc, .int .i64 m] W (DEr W 1) := by
  have CM : Hid (∀ W', Calls Tryz.prog 11 #[.int .i64 m] W' (RetB W' true)) := fun W' => by
    have h1 := mode_h (W := W') (m := m)
    rwa [decide_eq_true hm] at h1
  have g1 : decide (sc < 0) = true := decide_eq_true (by omega)
  have g1' : (sc < 0) := by omega
  clear hm h
  have HB := Bel.refl W
  go_enter Tryz.func8, Tryz.ntmps8
  go_wp2_with (first | (go_at_call 11; (with_reducible refine (CM.out _).mono ?_); rintro e w1 ⟨rfl, hbk⟩; replace hbk := Bel.hid hbk; (with_reducible (have HR : At w1 (W.heap.size + 1) [.bool false, .slice none 0 0, .int .i64 0] := At.up (at_new1 _ _ _ _) hbk; replace HB := ((HB.al _).al _).up hbk)); have hr_0 := HR.c0; have hr_1 := HR.c1; have hr_2 := HR.c2; have hr_l := HR.lt; have hr_f0 := HR.f0; have hr_f1 := HR.f1; have hr_f2 := HR.f2) | fail)
  refine bodyPost_ret (v := .tuple #[.agg #[.bool false, .slice none 0 0, .int .i64 0], .int .i64 1]) (by simp [results, Tryz.results8, go_sem, hr_0, hr_1, hr_2]) rfl ?_
  exact ⟨rfl, (HB.uput3 (by omega) _ _ _).hid⟩
set_option maxHeartbeats 4000000 in
theorem to_hi (hm : 1 ≤ m ∧ m ≤ 7) (h0 : 0 ≤ sc) (h : 60 < sc) : Calls Tryz.prog 8 #[.agg #[.bool b, .slice A n c, .slice A' n' c'], .int .i64 sc, .int .i64 m] W (DEr W 1) := by
  have CM : Hid (∀ W', Calls Tryz.prog 11 #[.int .i64 m] W' (RetB W' true)) := fun W' => by
    have h1 := mode_h (W := W') (m := m)
    rwa [decide_eq_true hm] at h1
  have g1 : decide (sc < 0) = false := decide_eq_false (by omega)
  have g1' : ¬ (sc < 0) := by omega
  have g2 : decide (60 < sc) = true := decide_eq_true (by omega)
  have g2' : (60 < sc) := by omega
  clear hm h h0
  have HB := Bel.refl W
  go_enter Tryz.func8, Tryz.ntmps8
  go_wp2_with (first | (go_at_call 11; (with_reducible refine (CM.out _).mono ?_); rintro e w1 ⟨rfl, hbk⟩; replace hbk := Bel.hid hbk; (with_reducible (have HR : At w1 (W.heap.size + 1) [.bool false, .slice none 0 0, .int .i64 0] := At.up (at_new1 _ _ _ _) hbk; replace HB := ((HB.al _).al _).up hbk)); have hr_0 := HR.c0; have hr_1 := HR.c1; have hr_2 := HR.c2; have hr_l := HR.lt; have hr_f0 := HR.f0; have hr_f1 := HR.f1; have hr_f2 := HR.f2) | fail)
  refine bodyPost_ret (v := .tuple #[.agg #[.bool false, .slice none 0 0, .int .i64 0], .int .i64 1]) (by simp [results, Tryz.results8, go_sem, hr_0, hr_1, hr_2]) rfl ?_
  exact ⟨rfl, (HB.uput3 (by omega) _ _ _).hid⟩
set_option maxHeartbeats 4000000 in
theorem sig_lo (hm : 1 ≤ m ∧ m ≤ 7) (h : sc < 1) : Calls Tryz.prog 9 #[.agg #[.bool b, .slice A n c, .slice A' n' c'], .int .i64 sc, .int .i64 m] W (DEr W 1) := by
  have CM : Hid (∀ W', Calls Tryz.prog 11 #[.int .i64 m] W' (RetB W' true)) := fun W' => by
    have h1 := mode_h (W := W') (m := m)
    rwa [decide_eq_true hm] at h1
  have g1 : decide (sc < 1) = true := decide_eq_true (by omega)
  have g1' : (sc < 1) := by omega
  clear hm h
  have HB := Bel.refl W
  go_enter Tryz.func9, Tryz.ntmps9
  go_wp2_with (first | (go_at_call 11; (with_reducible refine (CM.out _).mono ?_); rintro e w1 ⟨rfl, hbk⟩; replace hbk := Bel.hid hbk; (with_reducible (have HR : At w1 (W.heap.size + 1) [.bool false, .slice none 0 0, .int .i64 0] := At.up (at_new1 _ _ _ _) hbk; replace HB := ((HB.al _).al _).up hbk)); have hr_0 := HR.c0; have hr_1 := HR.c1; have hr_2 := HR.c2; have hr_l := HR.lt; have hr_f0 := HR.f0; have hr_f1 := HR.f1; have hr_f2 := HR.f2) | fail)
  refine bodyPost_ret (v := .tuple #[.agg #[.bool false, .slice none 0 0, .int .i64 0], .int .i64 1]) (by simp [results, Tryz.results9, go_sem, hr_0, hr_1, hr_2]) rfl ?_
  exact ⟨rfl, (HB.uput3 (by omega) _ _ _).hid⟩
set_option maxHeartbeats 4000000 in
theorem sig_hi (hm : 1 ≤ m ∧ m ≤ 7) (h0 : 1 ≤ sc) (h : 40 < sc) : Calls Tryz.prog 9 #[.agg #[.bool b, .slice A n c, .slice A' n' c'], .int .i64 sc, .int .i64 m] W (DEr W 1) := by
  have CM : Hid (∀ W', Calls Tryz.prog 11 #[.int .i64 m] W' (RetB W' true)) := fun W' => by
    have h1 := mode_h (W := W') (m := m)
    rwa [decide_eq_true hm] at h1
  have g1 : decide (sc < 1) = false := decide_eq_false (by omega)
  have g1' : ¬ (sc < 1) := by omega
  have g2 : decide (40 < sc) = true := decide_eq_true (by omega)
  have g2' : (40 < sc) := by omega
  clear hm h h0
  have HB := Bel.refl W
  go_enter Tryz.func9, Tryz.ntmps9
  go_wp2_with (first | (go_at_call 11; (with_reducible refine (CM.out _).mono ?_); rintro e w1 ⟨rfl, hbk⟩; replace hbk := Bel.hid hbk; (with_reducible (have HR : At w1 (W.heap.size + 1) [.bool false, .slice none 0 0, .int .i64 0] := At.up (at_new1 _ _ _ _) hbk; replace HB := ((HB.al _).al _).up hbk)); have hr_0 := HR.c0; have hr_1 := HR.c1; have hr_2 := HR.c2; have hr_l := HR.lt; have hr_f0 := HR.f0; have hr_f1 := HR.f1; have hr_f2 := HR.f2) | fail)
  refine bodyPost_ret (v := .tuple #[.agg #[.bool false, .slice none 0 0, .int .i64 0], .int .i64 1]) (by simp [results, Tryz.results9, go_sem, hr_0, hr_1, hr_2]) rfl ?_
  exact ⟨rfl, (HB.uput3 (by omega) _ _ _).hid⟩
end
end Go.Proofs.YtmiklffjffdkgaaGreatDoor
end

section
/- Package round: Step of a step that is greater than 0. Conditions: terms of at most 6000 words. -/
open Go.RowKit
set_option maxRecDepth 100000
namespace Go.Proofs.YtmiklffjffdkgaaGreatDoor
section
variable {W : World} {b : Bool} {A A' A2 : Option Addr} {n n' n2 c c' c2 m2 s K : Nat} {m : Int} {r : Rat}
set_option maxHeartbeats 8000000 in
theorem step_h (h : QA W b A n c A' n' c' r K) (hd : DX W false A2 n2 c2 m2 s) (h0 : 0 < m2) (bs : m2 < W32 ^ K) (hm : 1 ≤ m ∧ m ≤ 7) (hK0 : 0 < K) (hK : K ≤ 6000) {t : Int} (ht : rdR m (r * mkRat (10 ^ s : Nat) m2) = t) : Calls Tryz.prog 10 #[.agg #[.bool b, .slice A n c, .slice A' n' c'], .agg #[.bool false, .slice A2 n2 c2, .int .i64 (s : Int)], .int .i64 m] W (ToR W (decide (t < 0)) (t.natAbs * m2) (s : Int)) := by
  obtain ⟨v, hv⟩ : ∃ v : Nat, v = t.natAbs * m2 := ⟨_, rfl⟩
  obtain ⟨st, hst⟩ : ∃ u, u = decide (t < 0) := ⟨_, rfl⟩
  have CM : Hid (∀ W', Calls Tryz.prog 11 #[.int .i64 m] W' (RetB W' true)) := fun W' => by
    have h1 := mode_h (W := W') (m := m)
    rwa [decide_eq_true hm] at h1
  have CG : Hid (∀ W', Bel W W' → Calls Tryz.prog 16 #[.agg #[.bool false, .slice A2 n2 c2, .int .i64 (s : Int)]] W' (RetB W' true)) := fun W' hw => hd.gd W' hw
  have CC : Hid (∀ W', Bel W W' → Calls Tryz.prog 31 #[.agg #[.slice A2 n2 c2], .agg #[.slice none 0 0]] W' (IntPost W' 1)) := fun W' hw => cmp_h (hd.nm.up hw.hid) (nm_nil W' none 0) (cmpI_gt h0)
  have CX : Hid (∀ W', Bel W W' → Calls Tryz.prog 26 #[.agg #[.bool b, .slice A n c, .slice A' n' c'], .agg #[.bool false, .slice A2 n2 c2, .int .i64 (s : Int)], .int .i64 m] W' (DvR W' st v (s : Int))) := fun W' hw => by
    have h1 := multiple_h (b' := false) (h.up hw.hid) (hd.nm.up hw.hid) bs hd.sc hm hK0 hK
    rw [ht, ← hst, ← hv] at h1
    exact h1
  rw [← hst, ← hv]
  clear h hd h0 bs hm hK0 hK ht hv hst
  have HB := Bel.refl W
  go_enter Tryz.func10, Tryz.ntmps10
  go_wp2_with (first | (go_at_call 11; (with_reducible refine (CM.out _).mono ?_); rintro e w1 ⟨rfl, hbk⟩; replace hbk := Bel.hid hbk; (with_reducible (have H0 : At w1 W.heap.size [.bool b, .slice A n c, .slice A' n' c'] := At.up (((at_new0 _ _ _).al _).al _) hbk; have H1 : At w1 (W.heap.size + 1) [.bool false, .slice A2 n2 c2, .int .i64 (s : Int)] := At.up ((at_new1 _ _ _ _).al _) hbk; have HR : At w1 (W.heap.size + 1 + 1) [.bool false, .slice none 0 0, .int .i64 0] := At.up (at_new2 _ _ _ _ _) hbk; replace HB := (((HB.al _).al _).al _).up hbk)); have h0_0 := H0.c0; have h0_1 := H0.c1; have h0_2 := H0.c2; have h0_l := H0.lt; have h1_0 := H1.c0; have h1_1 := H1.c1; have h1_2 := H1.c2; have h1_l := H1.lt) | (go_at_call 16; (with_reducible refine (CG.out _ HB).mono ?_); rintro e w2 ⟨rfl, hbk⟩; replace hbk := Bel.hid hbk; (with_reducible (replace HB := HB.up hbk; replace H0 := H0.up hbk; replace H1 := H1.up hbk; replace HR := HR.up hbk)); clear h0_0 h0_1 h0_2 h0_l h1_0 h1_1 h1_2 h1_l; have h0_0 := H0.c0; have h0_1 := H0.c1; have h0_2 := H0.c2; have h0_l := H0.lt; have h1_0 := H1.c0; have h1_1 := H1.c1; have h1_2 := H1.c2; have h1_l := H1.lt) | (go_at_call 31; (with_reducible refine (CC.out _ HB).mono ?_); rintro e w3 ⟨rfl, hbk⟩; (with_reducible (replace HB := HB.up hbk; replace H0 := H0.up hbk; replace H1 := H1.up hbk; replace HR := HR.up hbk)); clear h0_0 h0_1 h0_2 h0_l h1_0 h1_1 h1_2 h1_l; have h0_0 := H0.c0; have h0_1 := H0.c1; have h0_2 := H0.c2; have h0_l := H0.lt; have h1_0 := H1.c0; have h1_1 := H1.c1; have h1_2 := H1.c2; have h1_l := H1.lt) | (go_at_call 26; (with_reducible refine (CX.out _ HB).mono ?_); rintro e w4 ⟨Bt, et, rfl, nt, hbk⟩; (with_reducible (replace HB := HB.up hbk; replace HR := HR.up hbk)); clear h0_0 h0_1 h0_2 h0_l h1_0 h1_1 h1_2 h1_l; have hr_0 := HR.c0; have hr_1 := HR.c1; have hr_2 := HR.c2; have hr_l := HR.lt; have hr_f0 := HR.f0; have hr_f1 := HR.f1; have hr_f2 := HR.f2) | fail)
  refine bodyPost_ret (v := .tuple #[.agg #[.bool st, .slice Bt (dl v) et, .int .i64 (s : Int)], .int .i64 0]) (by simp [results, Tryz.results10, go_sem, hr_0, hr_1, hr_2]) rfl ?_
  exact ⟨Bt, et, rfl, nt.putd HR _ _ _ _ _, (HB.uput3 (by omega) _ _ _).hid⟩
end
end Go.Proofs.YtmiklffjffdkgaaGreatDoor
end

section
/- Package rat: Pow of a negative power of what is greater than 0. Package round: Sig of nought, Sig too small, Step of nought, Int of no mode. The statements' text. Conditions: see there. -/
open Go.RowKit
set_option maxRecDepth 100000
namespace Go.Proofs.YtmiklffjffdkgaaGreatDoor
theorem wp_named {P : Program} {c : Code} {Q : Exit → Act → World → Prop} {a : Act} {X : World} (h : ∀ W', W' = X → Code.wp P c Q a W') : Code.wp P c Q a X := h X rfl
section
variable {W : World} {b b' sg : Bool} {A A' A2 : Option Addr} {n n' n2 c c' c2 m2 s K q d : Nat} {m z e sc : Int} {r pw : Rat}
set_option maxHeartbeats 8000000 in
theorem qpower_n {k : Nat} {i : Int} (h : Nm W A n c q) (hi : -(k : Int) = i) (h0 : 0 < k) (hk : k ≤ 1000000) (hb : ∀ i, i ≤ k → dl (q ^ i) ≤ 100000) : Calls Tryz.prog 101 #[.agg #[.slice A n c], .int .i64 i] W (NumR W (q ^ k)) := by
  obtain ⟨j, rfl⟩ : ∃ j, k = j + 1 := ⟨k - 1, by omega⟩
  obtain ⟨u, hu⟩ : ∃ u, q ^ j = u := ⟨_, rfl⟩
  obtain ⟨v, hv⟩ : ∃ v, q ^ (j + 1) = v := ⟨_, rfl⟩
  have CP : Hid (∀ W', Bel W W' → Calls Tryz.prog 98 #[.agg #[.slice A n c], .int .i64 (j : Int)] W' (NumR W' u)) := fun W' hw => pow_h (h.up hw.hid) (by omega) (fun i hi => hb i (by omega)) hu
  have CM : Hid (∀ W' B e, Bel W W' → Nm W' B (dl u) e u → Calls Tryz.prog 68 #[.agg #[.slice B (dl u) e], .agg #[.slice A n c]] W' (NumR W' v)) := fun W' B e hw hn => mul_h hn (h.up hw.hid) (by rw [← hu, ← hv, Nat.pow_succ]) (by rw [← hv]; exact hb _ (Nat.le_refl _))
  have g1 : decide (i < 0) = true := decide_eq_true (by omega)
  have g1' : i < 0 := by omega
  have w1 : IntKind.i64.wrap (i + 1) = i + 1 := IntWalk.i64_in _ (by omega)
  have w2 : wrap64 (i + 1) = i + 1 := IntWalk.wrap64_in _ (by omega)
  have w3 : -(i + 1) = (j : Int) := by omega
  have w4 : wrap64 (j : Int) = (j : Int) := IntWalk.wrap64_in _ (by omega)
  have w5 : IntKind.i64.wrap (j : Int) = (j : Int) := IntWalk.i64_in _ (by omega)
  rw [hv]
  clear hu hv h hb hk hi h0
  have HB := Bel.refl W
  go_enter Tryz.func101, Tryz.ntmps101
  go_wp2_with fail
  obtain ⟨W1, hW1⟩ : ∃ X, X = (W.alloc (.cells #[.slice A n c] 24)).alloc (.cells #[.slice none 0 0] 24) := ⟨_, rfl⟩
  rw [← hW1]
  have H0 : At W1 W.heap.size [.slice A n c] := by rw [hW1]; exact (at_new0 _ _ _).al _
  have HR : At W1 (W.heap.size + 1) [.slice none 0 0] := by rw [hW1]; exact at_new1 _ _ _ _
  replace HB : Bel W W1 := by rw [hW1]; exact (HB.al _).al _
  clear hW1
  have l0 := H0.lt
  have l1 := HR.lt
  go_region_held3 (fun w' => w'.cell? ⟨W.heap.size, 0, none⟩ = some (.slice A n c))
    (refine (?_ : At _ W.heap.size [.slice A n c]).c0 <;> (repeat (first | with_reducible exact H0 | (with_reducible refine At.dr ?_) | (with_reducible refine At.al ?_ _) | (with_reducible refine At.far ?_ (by omega) _))))
    (first | (go_at_call 98; (with_reducible refine (CP.out _ HB.dr).mono ?_); rintro e w2 ⟨B2, e2, rfl, n2', hbk⟩; (with_reducible (replace HB := HB.dr.up hbk; replace H0 := H0.dr.up hbk; replace HR := HR.dr.up hbk))) | (go_at_call 68; (with_reducible refine (CM.out _ _ _ HB n2').mono ?_); rintro e w3 ⟨B3, e3, rfl, n3, hbk⟩; (with_reducible (replace HB := HB.up hbk; replace H0 := H0.up hbk; replace HR := HR.up hbk)); have hr_0 := HR.c0; have hr_l := HR.lt; have hr_f0 := HR.f0) | fail)
  go_wp2_with fail
  refine bodyPost_ret (v := .agg #[.slice B3 (dl v) e3]) (by simp [results, Tryz.results101, go_sem, hr_0]) rfl ?_
  exact ret_n HB (by omega) HR now1 n3
set_option maxHeartbeats 16000000 in
theorem rpow_n {k : Nat} {i : Int} (hi : -(k : Int) = i) (hk0 : 0 < k) (h : QA W b A n c A' n' c' r K) (h0 : 0 < r) (hb : Bd r K) (hbi : Bd r⁻¹ K) (hK0 : 0 < K) (hK2 : K ≤ 20000) (hk : K * k ≤ 90000) : Calls Tryz.prog 70 #[.agg #[.bool b, .slice A n c, .slice A' n' c'], .int .i64 i] W (OfYw W false (r⁻¹ ^ k)) := by
  have hn0 : 0 ≤ r.num := Rat.num_nonneg.2 (Rat.le_of_lt h0)
  have hi0 : 0 ≤ r⁻¹.num := by rw [Rat.num_inv]; exact Int.mul_nonneg (Int.sign_nonneg_iff.2 hn0) (by omega)
  obtain ⟨ri, hri⟩ : ∃ x : Rat, r⁻¹ = x := ⟨_, rfl⟩
  rw [hri] at hbi hi0 ⊢
  have hkk : k ≤ 1000000 := by
    have : 1 * k ≤ K * k := Nat.mul_le_mul_right k hK0
    omega
  have CT : Hid (∀ W', Bel W W' → Calls Tryz.prog 69 #[.agg #[.bool b, .slice A n c, .slice A' n' c']] W' (TermsR W' r K)) := fun W' hw => terms_h (h.up hw.hid) hK0
  have CL : Hid (∀ W' s B k e B' k' e' z d, ZA W' s B k e z → Nm W' B' k' e' d → Hid (0 < d ∧ mkRat z d = r ∧ z.natAbs < W32 ^ K ∧ d < W32 ^ K) → Calls Tryz.prog 88 #[.agg #[.bool s, .slice B k e], .agg #[.slice B' k' e']] W' (QRw W' false r)) := fun W' s B k e B' k' e' z d hz hd hp => by
    have h1 := lowest_t hz hd hp.out (by omega) (by omega)
    unfold QR at h1
    rw [decide_eq_false (show ¬ r.num < 0 by omega)] at h1
    exact h1
  have CV : Hid (∀ W' B e B' e', ZA W' false B (dl r.num.natAbs) e r.num → Nm W' B' (dl r.den) e' r.den → Calls Tryz.prog 100 #[.agg #[.bool false, .slice B (dl r.num.natAbs) e, .slice B' (dl r.den) e']] W' (OfYw W' false ri)) := fun W' B e B' e' h1 h2 => by
    have h3 := inv_yes (qa_self h1 h2 hb) hK0 hK2 (fun e0 => by rw [e0] at h0; exact absurd h0 Rat.lt_irrefl)
    unfold OfYes at h3
    rw [hri, decide_eq_false (show ¬ ri.num < 0 by omega)] at h3
    exact h3
  obtain ⟨x, hx⟩ : ∃ x : Nat, x = ri.num.natAbs := ⟨_, rfl⟩
  obtain ⟨y, hy⟩ : ∃ y : Nat, y = ri.den := ⟨_, rfl⟩
  obtain ⟨u, hu⟩ : ∃ u : Nat, x ^ k = u := ⟨_, rfl⟩
  obtain ⟨v, hv⟩ : ∃ v : Nat, y ^ k = v := ⟨_, rfl⟩
  have bx : x < W32 ^ K := by rw [hx]; exact hbi.1
  have by_ : y < W32 ^ K := by rw [hy]; exact hbi.2
  have CX : Hid (∀ W' B n e, Nm W' B n e x → Calls Tryz.prog 101 #[.agg #[.slice B n e], .int .i64 i] W' (NumR W' u)) := fun W' B n e h1 => by rw [← hu]; exact qpower_n h1 hi hk0 hkk (fun i hi => pow_bd bx hk hi)
  have CY : Hid (∀ W' B n e, Nm W' B n e y → Calls Tryz.prog 101 #[.agg #[.slice B n e], .int .i64 i] W' (NumR W' v)) := fun W' B n e h1 => by rw [← hv]; exact qpower_n h1 hi hk0 hkk (fun i hi => pow_bd by_ hk hi)
  have HX : Hid ((ri ^ k).num.natAbs = u ∧ (ri ^ k).den = v ∧ ¬ (ri ^ k).num < 0) := by
    unfold Hid
    rw [Rat.num_pow, Rat.den_pow, Int.natAbs_pow, ← hx, ← hy, hu, hv]
    refine ⟨rfl, rfl, ?_⟩
    have h9 : 0 ≤ ri.num ^ k := Int.pow_nonneg hi0
    omega
  have g1 : decide (i < 0) = true := decide_eq_true (by omega)
  have g1' : i < 0 := by omega
  have HXR := hide hx
  have HYR := hide hy
  clear hri h h0 hb hbi hK0 hK2 hk hn0 hi0 hkk hu hv bx by_ hx hy hi hk0
  have HB := Bel.refl W
  go_enter Tryz.func70, Tryz.ntmps70
  go_wp2_with (first | (go_at_call 69; (with_reducible refine (CT.out _ ((HB.al _).al _)).mono ?_); rintro e w1 ⟨s, B, k1, e1, B', k2, e2, zv, d, rfl, zp, np, hp, hbk⟩; (with_reducible (have HR : At w1 (W.heap.size + 1) [.bool false, .slice none 0 0, .slice none 0 0] := At.up (at_new1 _ _ _ _) hbk; replace HB := ((HB.al _).al _).up hbk))) | (go_at_call 88; (with_reducible refine (CL.out _ _ _ _ _ _ _ _ _ _ zp np hp).mono ?_); rintro e w2 ⟨B0, e0, B1, e1', rfl, z0, n0, hbk⟩; (with_reducible (replace HB := HB.up hbk; replace HR := HR.up hbk)); have hne := HR.lt) | (go_at_call 100; (with_reducible refine (CV.out _ _ _ _ _ (z0.al _) (n0.al _)).mono ?_); rintro e w3 ⟨Bx, ex, By, ey, rfl, zx, ny, hbk⟩; (with_reducible (have H0 : At w3 w2.heap.size [.bool false, .slice B0 (dl r.num.natAbs) e0, .slice B1 (dl r.den) e1'] := At.up (at_new0 _ _ _) hbk; replace HB := (HB.al _).up hbk; replace HR := (HR.al _).up hbk)); have h0_0 := H0.c0; have h0_1 := H0.c1; have h0_2 := H0.c2; have h0_l := H0.lt; have h0_f0 := H0.f0; have h0_f1 := H0.f1; have h0_f2 := H0.f2) | fail)
  have nx := zx.1
  have hrl := HR.lt
  rw [← HXR.out] at nx ⊢
  rw [← HYR.out] at ny ⊢
  refine wp_named ?_
  intro W1 hW1
  have H1 : At W1 w2.heap.size [.bool false, .slice Bx (dl x) ex, .slice By (dl y) ey] := by rw [hW1]; first | exact (H0.put3 _ _ _).al _ | exact (H0.al _).put3 _ _ _
  have HR1 : At W1 (W.heap.size + 1) [.bool false, .slice none 0 0, .slice none 0 0] := by rw [hW1]; first | exact (HR.far3 (by omega) _ _ _).al _ | exact (HR.al _).far3 (by omega) _ _ _
  have HB1 : Bel W W1 := by rw [hW1]; first | exact (HB.uput3 (by omega) _ _ _).al _ | exact (HB.al _).uput3 (by omega) _ _ _
  have nx1 : Nm W1 Bx (dl x) ex x := by rw [hW1]; first | exact (nx.put3 H0 now3).al _ | exact (nx.al _).put3 (H0.al _) now3
  have ny1 : Nm W1 By (dl y) ey y := by rw [hW1]; first | exact (ny.put3 H0 now3).al _ | exact (ny.al _).put3 (H0.al _) now3
  clear hW1 zx zp np hp nx ny HB HR h0_0 h0_1 h0_2 h0_l h0_f0 h0_f1 h0_f2 H0 z0 n0
  rename Bel W W1 => HB
  have HR := HR1
  have H0 := H1
  have nx := nx1
  have ny := ny1
  clear HR1 H1 nx1 ny1
  obtain ⟨pb, hpb⟩ : ∃ p, p = w2.heap.size := ⟨_, rfl⟩
  rw [← hpb] at H0 hne ⊢
  clear hpb hrl
  have l0 := H0.lt
  have l2 := HR.lt
  go_cut [9, 10] from 27 to 35 (fun o o' w => ∃ p q B e B' e', o = .pointer (some ⟨p, 0, none⟩) ∧ o' = .pointer (some ⟨q, 0, none⟩) ∧ W.heap.size + 1 < p ∧ W.heap.size + 1 < q ∧ At w p [.slice B (dl u) e] ∧ At w q [.slice B' (dl v) e'] ∧ Nm w B (dl u) e u ∧ Nm w B' (dl v) e' v ∧ Bel W1 w)
  case first =>
    have HW := Bel.refl W1
    go_region_held3 (fun w' => w'.cell? ⟨pb, 0, none⟩ = some (.bool false) ∧ w'.cell? ⟨pb, 1, none⟩ = some (.slice Bx (dl x) ex) ∧ w'.cell? ⟨pb, 2, none⟩ = some (.slice By (dl y) ey))
      (refine ⟨(?_ : At _ pb [.bool false, .slice Bx (dl x) ex, .slice By (dl y) ey]).c0, (?_ : At _ pb [.bool false, .slice Bx (dl x) ex, .slice By (dl y) ey]).c1, (?_ : At _ pb [.bool false, .slice Bx (dl x) ex, .slice By (dl y) ey]).c2⟩ <;> (repeat (first | with_reducible exact H0 | (with_reducible refine At.dr ?_) | (with_reducible refine At.al ?_ _) | (with_reducible refine At.far ?_ (by omega) _))))
      (first | (go_at_call 101; (with_reducible refine (CX.out _ _ _ _ nx.dr).mono ?_); rintro e w4 ⟨Bu, eu, rfl, nu, hbk⟩; (with_reducible (replace HB := HB.dr.up hbk; replace HW := HW.dr.up hbk; replace H0 := H0.dr.up hbk; replace nx := nx.dr.up hbk; replace ny := ny.dr.up hbk)); have lz0 := H0.lt; (try have lz2 := HP0.lt); (try have lz3 := HP1.lt); have zs1 := Below.size HW) | (go_at_call 101; (with_reducible refine (CX.out _ _ _ _ (nx.al _).dr).mono ?_); rintro e w4 ⟨Bu, eu, rfl, nu, hbk⟩; (with_reducible (have HP0 := At.up (at_new0 _ [.slice none 0 0] _).dr hbk; replace HB := (HB.al _).dr.up hbk; replace HW := (HW.al _).dr.up hbk; replace H0 := (H0.al _).dr.up hbk; replace nx := (nx.al _).dr.up hbk; replace ny := (ny.al _).dr.up hbk)); have lz0 := H0.lt; (try have lz2 := HP0.lt); (try have lz3 := HP1.lt); have zs1 := Below.size HW) | (go_at_call 101; (with_reducible refine (CX.out _ _ _ _ ((nx.al _).al _).dr).mono ?_); rintro e w4 ⟨Bu, eu, rfl, nu, hbk⟩; (with_reducible (have HP0 := At.up ((at_new0 _ [.slice none 0 0] _).al _).dr hbk; have HP1 := At.up (at_new1 _ _ [.slice none 0 0] _).dr hbk; replace HB := ((HB.al _).al _).dr.up hbk; replace HW := ((HW.al _).al _).dr.up hbk; replace H0 := ((H0.al _).al _).dr.up hbk; replace nx := ((nx.al _).al _).dr.up hbk; replace ny := ((ny.al _).al _).dr.up hbk)); have lz0 := H0.lt; (try have lz2 := HP0.lt); (try have lz3 := HP1.lt); have zs1 := Below.size HW) | (go_at_call 101; (with_reducible refine (CY.out _ _ _ _ ny).mono ?_); rintro e w5 ⟨Bv, ev, rfl, nv, hbk⟩; (with_reducible (replace HB := HB.up hbk; replace HW := HW.up hbk; replace H0 := H0.up hbk; replace nu := nu.up hbk)); (try (with_reducible replace HP0 := HP0.up hbk)); (try (with_reducible replace HP1 := HP1.up hbk)); (try have hp0_0 := HP0.c0); (try have fhp0_0 := HP0.f0); (try have lhp0 := HP0.lt); (try have hp1_0 := HP1.c0); (try have fhp1_0 := HP1.f0); (try have lhp1 := HP1.lt); (try have hq0_0 := HQ0.c0); (try have fhq0_0 := HQ0.f0); (try have lhq0 := HQ0.lt); (try have hq1_0 := HQ1.c0); (try have fhq1_0 := HQ1.f0); (try have lhq1 := HQ1.lt); have lz4 := H0.lt; have zs2 := Below.size HW) | (go_at_call 101; (with_reducible refine (CY.out _ _ _ _ (ny.al _)).mono ?_); rintro e w5 ⟨Bv, ev, rfl, nv, hbk⟩; (with_reducible (have HQ0 := At.up (at_new0 _ [.slice none 0 0] _) hbk; replace HB := (HB.al _).up hbk; replace HW := (HW.al _).up hbk; replace H0 := (H0.al _).up hbk; replace nu := (nu.al _).up hbk)); (try (with_reducible replace HP0 := (HP0.al _).up hbk)); (try (with_reducible replace HP1 := (HP1.al _).up hbk)); (try have hp0_0 := HP0.c0); (try have fhp0_0 := HP0.f0); (try have lhp0 := HP0.lt); (try have hp1_0 := HP1.c0); (try have fhp1_0 := HP1.f0); (try have lhp1 := HP1.lt); (try have hq0_0 := HQ0.c0); (try have fhq0_0 := HQ0.f0); (try have lhq0 := HQ0.lt); (try have hq1_0 := HQ1.c0); (try have fhq1_0 := HQ1.f0); (try have lhq1 := HQ1.lt); have lz4 := H0.lt; have zs2 := Below.size HW) | (go_at_call 101; (with_reducible refine (CY.out _ _ _ _ ((ny.al _).al _)).mono ?_); rintro e w5 ⟨Bv, ev, rfl, nv, hbk⟩; (with_reducible (have HQ0 := At.up ((at_new0 _ [.slice none 0 0] _).al _) hbk; have HQ1 := At.up (at_new1 _ _ [.slice none 0 0] _) hbk; replace HB := ((HB.al _).al _).up hbk; replace HW := ((HW.al _).al _).up hbk; replace H0 := ((H0.al _).al _).up hbk; replace nu := ((nu.al _).al _).up hbk)); (try (with_reducible replace HP0 := ((HP0.al _).al _).up hbk)); (try (with_reducible replace HP1 := ((HP1.al _).al _).up hbk)); (try have hp0_0 := HP0.c0); (try have fhp0_0 := HP0.f0); (try have lhp0 := HP0.lt); (try have hp1_0 := HP1.c0); (try have fhp1_0 := HP1.f0); (try have lhp1 := HP1.lt); (try have hq0_0 := HQ0.c0); (try have fhq0_0 := HQ0.f0); (try have lhq0 := HQ0.lt); (try have hq1_0 := HQ1.c0); (try have fhq1_0 := HQ1.f0); (try have lhq1 := HQ1.lt); have lz4 := H0.lt; have zs2 := Below.size HW) | fail)
    all_goals
      go_wp2_with fail
      go_meet
      case rel =>
        refine ⟨_, _, Bu, eu, Bv, ev, rfl, rfl, (by first | omega | (show _ < W1.heap.size; omega) | (show _ < W1.heap.size + 1; omega) | (simp; omega)), (by first | omega | (show _ < W1.heap.size; omega) | (show _ < W1.heap.size + 1; omega) | (simp; omega)), ?_, ?_, ?_, ?_, ?_⟩ <;> (repeat (first | with_reducible exact nu | with_reducible exact nv | with_reducible exact HW | with_reducible exact HP0 | with_reducible exact HP1 | with_reducible exact HQ0 | with_reducible exact HQ1 | with_reducible exact at_new0 _ _ _ | with_reducible exact at_new1 _ _ _ _ | with_reducible exact at_newS _ _ _ _ | (with_reducible refine Bel.dr ?_) | (with_reducible refine Bel.al ?_ _) | (with_reducible refine Bel.put ?_ (by omega) _) | (with_reducible refine Nm.dr ?_) | (with_reducible refine Nm.al ?_ _) | (with_reducible refine Nm.putx ?_ ⟨.slice none 0 0, At.c0 (vs := []) ?_, not_u32⟩ _) | (with_reducible refine At.dr ?_) | (with_reducible refine At.al ?_ _) | (with_reducible refine At.put1 (v := .slice none 0 0) ?_ _) | (with_reducible refine At.far ?_ (by omega) _)))
  case rest =>
    obtain ⟨p, q, Bu, eu, Bv, ev, rfl, rfl, hp, hq, HP, HQ, nu, nv, hW⟩ := hcut
    replace HB := HB.up hW.hid
    replace H0 := H0.up hW.hid
    replace HR := HR.up hW.hid
    clear hW l0 l2 nx ny
    have hx0 := H0.c0
    have hx1 := H0.lt
    have hp_0 := HP.c0
    have hp_l := HP.lt
    have hq_0 := HQ.c0
    have hq_l := HQ.lt
    have hr_0 := HR.c0
    have hr_1 := HR.c1
    have hr_2 := HR.c2
    have hr_l := HR.lt
    have hr_f0 := HR.f0
    have hr_f1 := HR.f1
    have hr_f2 := HR.f2
    go_wp2_with fail
    refine bodyPost_ret (v := .tuple #[.agg #[.bool false, .slice Bu (dl u) eu, .slice Bv (dl v) ev], .bool true]) (by simp [results, Tryz.results70, go_sem, hr_0, hr_1, hr_2]) rfl ?_
    obtain ⟨g1, g2, g3⟩ := HX.out
    refine ⟨Bu, eu, Bv, ev, by rw [g1, g2], ⟨by rw [g1]; exact nu.putq HR _ _ _ _ _ _ _, ?_⟩, by rw [g2]; exact nv.putq HR _ _ _ _ _ _ _, (HB.put3 (by omega) _ _ _).hid⟩
    unfold Hid
    rw [zi_false]
    omega
set_option maxHeartbeats 4000000 in
theorem sig_zero {v : Nat} (hv : v = 0) (hm : 1 ≤ m ∧ m ≤ 7) (hd : 1 ≤ sc ∧ sc ≤ 40) (hS : ∀ W', Bel W W' → Calls Tryz.prog 28 #[.agg #[.bool b, .slice A n c, .slice A' n' c']] W' (IntPost W' 0)) : Calls Tryz.prog 9 #[.agg #[.bool b, .slice A n c, .slice A' n' c'], .int .i64 sc, .int .i64 m] W (ToR W false v (sc - 1)) := by
  have CM : Hid (∀ W', Calls Tryz.prog 11 #[.int .i64 m] W' (RetB W' true)) := fun W' => by
    have h1 := mode_h (W := W') (m := m)
    rwa [decide_eq_true hm] at h1
  have g1 : decide (sc < 1) = false := decide_eq_false (by omega)
  have g1' : ¬ (sc < 1) := by omega
  have g2 : decide (40 < sc) = false := decide_eq_false (by omega)
  have g2' : ¬ (40 < sc) := by omega
  have k1 : IntKind.i64.wrap (sc - 1) = sc - 1 := IntWalk.i64_in _ (by omega)
  have k2 : wrap64 (sc - 1) = sc - 1 := IntWalk.wrap64_in _ (by omega)
  have CS := hide hS
  have hz : dl v = 0 := by rw [hv]; unfold dl; rw [digs_zero]; rfl
  have HZ := hide hz
  have HV := hide hv
  clear hm hd hS hz hv
  have HB := Bel.refl W
  go_enter Tryz.func9, Tryz.ntmps9
  go_wp2_with (first | (go_at_call 11; (with_reducible refine (CM.out _).mono ?_); rintro e w1 ⟨rfl, hbk⟩; replace hbk := Bel.hid hbk; (with_reducible (have H0 : At w1 W.heap.size [.bool b, .slice A n c, .slice A' n' c'] := At.up ((at_new0 _ _ _).al _) hbk; have HR : At w1 (W.heap.size + 1) [.bool false, .slice none 0 0, .int .i64 0] := At.up (at_new1 _ _ _ _) hbk; replace HB := ((HB.al _).al _).up hbk)); have h0_0 := H0.c0; have h0_1 := H0.c1; have h0_2 := H0.c2; have h0_l := H0.lt; have hr_0 := HR.c0; have hr_1 := HR.c1; have hr_2 := HR.c2; have hr_l := HR.lt; have hr_f0 := HR.f0; have hr_f1 := HR.f1; have hr_f2 := HR.f2) | (go_at_call 28; (with_reducible refine (CS.out _ HB).mono ?_); rintro e w2 ⟨rfl, hbk⟩; (with_reducible (replace HB := HB.up hbk; replace H0 := H0.up hbk; replace HR := HR.up hbk)); clear h0_0 h0_1 h0_2 h0_l hr_0 hr_1 hr_2 hr_l hr_f0 hr_f1 hr_f2; have hr_0 := HR.c0; have hr_1 := HR.c1; have hr_2 := HR.c2; have hr_l := HR.lt; have hr_f0 := HR.f0; have hr_f1 := HR.f1; have hr_f2 := HR.f2) | fail)
  refine bodyPost_ret (v := .tuple #[.agg #[.bool false, .slice none 0 0, .int .i64 (sc - 1)], .int .i64 0]) (by simp [results, Tryz.results9, go_sem, hr_0, hr_1, hr_2]) rfl ?_
  exact ⟨none, 0, by rw [HZ.out], by rw [HZ.out, HV.out]; exact nm_nil _ _ _, (HB.uput3 (by omega) _ _ _).hid⟩
set_option maxHeartbeats 4000000 in
theorem sig_size {u : Int} (hm : 1 ≤ m ∧ m ≤ 7) (hd : 1 ≤ sc ∧ sc ≤ 40) (hS : ∀ W', Bel W W' → Calls Tryz.prog 28 #[.agg #[.bool b, .slice A n c, .slice A' n' c']] W' (IntPost W' u)) (hu : u ≠ 0)
    (hE : ∀ W', Bel W W' → Calls Tryz.prog 29 #[.agg #[.bool b, .slice A n c, .slice A' n' c']] W' (IntPost W' e)) (be : -1000000 ≤ e ∧ e ≤ 1000000) (h60 : 60 < sc - 1 - e) : Calls Tryz.prog 9 #[.agg #[.bool b, .slice A n c, .slice A' n' c'], .int .i64 sc, .int .i64 m] W (DEr W 11) := by
  obtain ⟨t, ht⟩ : ∃ t, sc - 1 - e = t := ⟨_, rfl⟩
  have CM : Hid (∀ W', Calls Tryz.prog 11 #[.int .i64 m] W' (RetB W' true)) := fun W' => by
    have h1 := mode_h (W := W') (m := m)
    rwa [decide_eq_true hm] at h1
  have g1 : decide (sc < 1) = false := decide_eq_false (by omega)
  have g1' : ¬ (sc < 1) := by omega
  have g2 : decide (40 < sc) = false := decide_eq_false (by omega)
  have g2' : ¬ (40 < sc) := by omega
  have g3 : (u == 0) = false := by simpa using hu
  have g4 : decide (60 < t) = true := decide_eq_true (by omega)
  have g4' : 60 < t := by omega
  have k1 : IntKind.i64.wrap (sc - 1) = sc - 1 := IntWalk.i64_in _ (by omega)
  have k2 : wrap64 (sc - 1) = sc - 1 := IntWalk.wrap64_in _ (by omega)
  have k3 : IntKind.i64.wrap (sc - 1 - e) = t := by rw [IntWalk.i64_in _ (by omega)]; exact ht
  have k4 : wrap64 (sc - 1 - e) = t := by rw [IntWalk.wrap64_in _ (by omega)]; exact ht
  have CS := hide hS
  have CE := hide hE
  clear hm hd hS hu hE be h60 ht
  have HB := Bel.refl W
  go_enter Tryz.func9, Tryz.ntmps9
  go_wp2_with (first | (go_at_call 11; (with_reducible refine (CM.out _).mono ?_); rintro e w1 ⟨rfl, hbk⟩; replace hbk := Bel.hid hbk; (with_reducible (have H0 : At w1 W.heap.size [.bool b, .slice A n c, .slice A' n' c'] := At.up ((at_new0 _ _ _).al _) hbk; have HR : At w1 (W.heap.size + 1) [.bool false, .slice none 0 0, .int .i64 0] := At.up (at_new1 _ _ _ _) hbk; replace HB := ((HB.al _).al _).up hbk)); have h0_0 := H0.c0; have h0_1 := H0.c1; have h0_2 := H0.c2; have h0_l := H0.lt; have hr_0 := HR.c0; have hr_1 := HR.c1; have hr_2 := HR.c2; have hr_l := HR.lt; have hr_f0 := HR.f0; have hr_f1 := HR.f1; have hr_f2 := HR.f2) | (go_at_call 28; (with_reducible refine (CS.out _ HB).mono ?_); rintro e w2 ⟨rfl, hbk⟩; (with_reducible (replace HB := HB.up hbk; replace H0 := H0.up hbk; replace HR := HR.up hbk)); clear h0_0 h0_1 h0_2 h0_l hr_0 hr_1 hr_2 hr_l hr_f0 hr_f1 hr_f2; have h0_0 := H0.c0; have h0_1 := H0.c1; have h0_2 := H0.c2; have h0_l := H0.lt; have hr_0 := HR.c0; have hr_1 := HR.c1; have hr_2 := HR.c2; have hr_l := HR.lt; have hr_f0 := HR.f0; have hr_f1 := HR.f1; have hr_f2 := HR.f2) | (go_at_call 29; (with_reducible refine (CE.out _ HB).mono ?_); rintro e w3 ⟨rfl, hbk⟩; (with_reducible (replace HB := HB.up hbk; replace H0 := H0.up hbk; replace HR := HR.up hbk)); clear h0_0 h0_1 h0_2 h0_l hr_0 hr_1 hr_2 hr_l hr_f0 hr_f1 hr_f2; have hr_0 := HR.c0; have hr_1 := HR.c1; have hr_2 := HR.c2; have hr_l := HR.lt; have hr_f0 := HR.f0; have hr_f1 := HR.f1; have hr_f2 := HR.f2) | fail)
  refine bodyPost_ret (v := .tuple #[.agg #[.bool false, .slice none 0 0, .int .i64 0], .int .i64 11]) (by simp [results, Tryz.results9, go_sem, hr_0, hr_1, hr_2]) rfl ?_
  exact ⟨rfl, (HB.uput3 (by omega) _ _ _).hid⟩
set_option maxHeartbeats 4000000 in
theorem step_none (hm : 1 ≤ m ∧ m ≤ 7) : Calls Tryz.prog 10 #[.agg #[.bool b, .slice A n c, .slice A' n' c'], .agg #[.bool false, .slice none 0 0, .int .i64 0], .int .i64 m] W (DEr W 1) := by
  have CM : Hid (∀ W', Calls Tryz.prog 11 #[.int .i64 m] W' (RetB W' true)) := fun W' => by
    have h1 := mode_h (W := W') (m := m)
    rwa [decide_eq_true hm] at h1
  have CG : Hid (∀ W', Calls Tryz.prog 16 #[.agg #[.bool false, .slice none 0 0, .int .i64 0]] W' (RetB W' true)) := fun W' => (dx_zero W').gd W' (Bel.refl _)
  have CC : Hid (∀ W', Calls Tryz.prog 31 #[.agg #[.slice none 0 0], .agg #[.slice none 0 0]] W' (IntPost W' 0)) := fun W' => cmp_h (nm_nil W' none 0) (nm_nil W' none 0) (cmpI_eq rfl)
  clear hm
  have HB := Bel.refl W
  go_enter Tryz.func10, Tryz.ntmps10
  go_wp2_with (first | (go_at_call 11; (with_reducible refine (CM.out _).mono ?_); rintro e w1 ⟨rfl, hbk⟩; replace hbk := Bel.hid hbk; (with_reducible (have H1 : At w1 (W.heap.size + 1) [.bool false, .slice none 0 0, .int .i64 0] := At.up ((at_new1 _ _ _ _).al _) hbk; have HR : At w1 (W.heap.size + 1 + 1) [.bool false, .slice none 0 0, .int .i64 0] := At.up (at_new2 _ _ _ _ _) hbk; replace HB := (((HB.al _).al _).al _).up hbk)); have h1_0 := H1.c0; have h1_1 := H1.c1; have h1_2 := H1.c2; have h1_l := H1.lt) | (go_at_call 16; (with_reducible refine (CG.out _).mono ?_); rintro e w2 ⟨rfl, hbk⟩; replace hbk := Bel.hid hbk; (with_reducible (replace HB := HB.up hbk; replace H1 := H1.up hbk; replace HR := HR.up hbk)); clear h1_0 h1_1 h1_2 h1_l; have h1_0 := H1.c0; have h1_1 := H1.c1; have h1_2 := H1.c2; have h1_l := H1.lt) | (go_at_call 31; (with_reducible refine (CC.out _).mono ?_); rintro e w3 ⟨rfl, hbk⟩; (with_reducible (replace HB := HB.up hbk; replace H1 := H1.up hbk; replace HR := HR.up hbk)); clear h1_0 h1_1 h1_2 h1_l; have hr_0 := HR.c0; have hr_1 := HR.c1; have hr_2 := HR.c2; have hr_l := HR.lt; have hr_f0 := HR.f0; have hr_f1 := HR.f1; have hr_f2 := HR.f2) | fail)
  refine bodyPost_ret (v := .tuple #[.agg #[.bool false, .slice none 0 0, .int .i64 0], .int .i64 1]) (by simp [results, Tryz.results10, go_sem, hr_0, hr_1, hr_2]) rfl ?_
  exact ⟨rfl, (HB.uput3 (by omega) _ _ _).hid⟩
set_option maxHeartbeats 4000000 in
theorem int_none : Calls Tryz.prog 7 #[.agg #[.bool b, .slice A n c, .slice A' n' c'], .int .i64 0] W (fun e w' => e = .returned (.tuple #[.agg #[.bool false, .slice none 0 0], .int .i64 1]) ∧ Hid (Below W.heap.size W w')) := by
  have CM : Hid (∀ W', Calls Tryz.prog 11 #[.int .i64 0] W' (RetB W' false)) := fun W' => mode_h (m := 0)
  have HB := Bel.refl W
  go_enter Tryz.func7, Tryz.ntmps7
  go_wp2_with (first | (go_at_call 11; (with_reducible refine (CM.out _).mono ?_); rintro e w1 ⟨rfl, hbk⟩; replace hbk := Bel.hid hbk; (with_reducible (have HR : At w1 (W.heap.size + 1) [.bool false, .slice none 0 0] := At.up (at_new1 _ _ _ _) hbk; replace HB := ((HB.al _).al _).up hbk)); have hr_0 := HR.c0; have hr_1 := HR.c1; have hr_l := HR.lt; have hr_f0 := HR.f0; have hr_f1 := HR.f1) | fail)
  refine bodyPost_ret (v := .tuple #[.agg #[.bool false, .slice none 0 0], .int .i64 1]) (by simp [results, Tryz.results7, go_sem, hr_0, hr_1]) rfl ?_
  exact ⟨rfl, (HB.put2 (by omega) _ _).hid⟩
end
end Go.Proofs.YtmiklffjffdkgaaGreatDoor
end

section
/- RatKnown: what is refused, the document's own whole number as a fraction. Conditions: texts of at most 99999 bytes. -/
open Go.RowKit
set_option maxRecDepth 100000
namespace Go.Proofs.YtmiklffjffdkgaaGreatDoor
def RQk (W : World) (sg : Bool) (z : Int) (d : Nat) (e : Ending) (w' : World) : Prop := ∃ A c A' c', e = .returned (.agg #[.bool sg, .slice A (dq z.natAbs) c, .slice A' (dq d) c']) ∧ Rn w' A c z.natAbs ∧ Rn w' A' c' d ∧ Hid (Below W.heap.size W w')
def RZk3 (W : World) (sg : Bool) (z : Int) (e : Ending) (w' : World) : Prop := ∃ A c, e = .returned (.agg #[.bool sg, .slice A (dq z.natAbs) c]) ∧ Rn w' A c z.natAbs ∧ Hid (Below W.heap.size W w')
theorem Rn.q3 {W : World} {p : Nat} {b0 : Bool} {B0 B1 : Option Addr} {k0 d0 k1 d1 : Nat} {A : Option Addr} {c m : Nat} (h : Rn W A c m) (hp : At W p [.bool b0, .slice B0 k0 d0, .slice B1 k1 d1]) {b : Bool} {B B' : Option Addr} {k d k' d' : Nat} :
    Rn (((W.setCell ⟨p, 0, none⟩ (.bool b)).setCell ⟨p, 1, none⟩ (.slice B k d)).setCell ⟨p, 2, none⟩ (.slice B' k' d')) A c m := h.put3 hp
section
variable {W : World} {b : Bool} {A A' : Option Addr} {n n' c c' : Nat} {K : Nat} {z : Int}
set_option maxHeartbeats 2000000 in
theorem rqint_h {sg : Bool} (h1 : -9223372036854775808 ≤ z) (h2 : z ≤ 9223372036854775807) (hs : sg = decide (z < 0)) : Calls Tryz.prog 22 #[.int .i64 z] W (RQk W sg z 1) := by
  have CI : Hid (∀ W', Calls Tryz.prog 37 #[.int .i64 z] W' (RZk3 W' sg z)) := fun W' => by rw [hs]; exact zint_h h1 h2
  have CS : Hid (∀ W', Calls Tryz.prog 41 #[.int .u64 1] W' (RefPost W' 1)) := fun W' => Small_any (n := 1) (by decide)
  clear h1 h2 hs
  have HB := Bel.refl W
  go_enter Tryz.func22, Tryz.ntmps22
  go_wp2_with (first | (go_at_call 37; (with_reducible refine (CI.out _).mono ?_); rintro e w1 ⟨B, e1, rfl, nz, hbk⟩; have HR := At.up (at_new0 _ _ _) hbk; replace HB := (HB.al _).up hbk) | (go_at_call 41; (with_reducible refine (CS.out _).mono ?_); rintro e w2 ⟨B', e2, rfl, nd, hbk⟩; replace HB := HB.up hbk; replace HR := HR.up hbk; replace nz := nz.up hbk; replace nd := Rn.of nd; have hr_0 := HR.c0; have hr_1 := HR.c1; have hr_2 := HR.c2; have hr_l := HR.lt; have hr_f0 := HR.f0; have hr_f1 := HR.f1; have hr_f2 := HR.f2) | fail)
  refine bodyPost_ret (v := .agg #[.bool sg, .slice B (dq z.natAbs) e1, .slice B' (dq 1) e2]) (by simp [results, Tryz.results22, go_sem, hr_0, hr_1, hr_2]) rfl ?_
  exact ⟨B, e1, B', e2, rfl, nz.q3 HR, nd.q3 HR, below3 HB (Nat.le_refl _) _ _ _⟩
set_option maxHeartbeats 4000000 in
/-- Nought has no power below 0. -/
theorem rpow_0 {i : Int} (hi : i < 0) (h : QA W b A n c A' n' c' 0 K) (hK0 : 0 < K) (hK2 : K ≤ 20000) : Calls Tryz.prog 70 #[.agg #[.bool b, .slice A n c, .slice A' n' c'], .int .i64 i] W (OfNo W) := by
  have CT : Hid (∀ W', Bel W W' → Calls Tryz.prog 69 #[.agg #[.bool b, .slice A n c, .slice A' n' c']] W' (TermsR W' 0 K)) := fun W' hw => terms_h (h.up hw.hid) hK0
  have CL : Hid (∀ W' s B k e B' k' e' z d, ZA W' s B k e z → Nm W' B' k' e' d → Hid (0 < d ∧ mkRat z d = 0 ∧ z.natAbs < W32 ^ K ∧ d < W32 ^ K) → Calls Tryz.prog 88 #[.agg #[.bool s, .slice B k e], .agg #[.slice B' k' e']] W' (QRw W' false 0)) := fun W' s B k e B' k' e' z d hz hd hp => lowest_t hz hd hp.out (by omega) (by omega)
  have CV : Hid (∀ W' B e B' e', ZA W' false B (dl (0 : Rat).num.natAbs) e (0 : Rat).num → Nm W' B' (dl (0 : Rat).den) e' (0 : Rat).den → Calls Tryz.prog 100 #[.agg #[.bool false, .slice B (dl (0 : Rat).num.natAbs) e, .slice B' (dl (0 : Rat).den) e']] W' (OfNo W')) := fun W' B e B' e' h1 h2 => inv_no (K := 1) (qa_of h1 h2 ⟨by decide, by decide⟩) (by decide) rfl
  have g1 : decide (i < 0) = true := decide_eq_true (by omega)
  obtain ⟨r0, hr0⟩ : ∃ x : Rat, (0 : Rat) = x := ⟨_, rfl⟩
  rw [hr0] at CT CL CV
  clear h hr0
  have HB := Bel.refl W
  go_enter Tryz.func70, Tryz.ntmps70
  go_wp2_with (first | (go_at_call 69; (with_reducible refine (CT.out _ ((HB.al _).al _)).mono ?_); rintro e w1 ⟨s, B, k1, e1, B', k2, e2, zv, d, rfl, zp, np, hp, hbk⟩; (with_reducible (have HR : At w1 (W.heap.size + 1) [.bool false, .slice none 0 0, .slice none 0 0] := At.up (at_new1 _ _ _ _) hbk; replace HB := ((HB.al _).al _).up hbk))) | (go_at_call 88; (with_reducible refine (CL.out _ _ _ _ _ _ _ _ _ _ zp np hp).mono ?_); rintro e w2 ⟨B0, e0, B1, e1', rfl, z0, n0, hbk⟩; (with_reducible (replace HB := HB.up hbk; replace HR := HR.up hbk))) | (go_at_call 100; (with_reducible refine (CV.out _ _ _ _ _ (z0.al _) (n0.al _)).mono ?_); rintro e w3 ⟨rfl, hbk⟩; (with_reducible (replace HB := (HB.al _).up hbk; replace HR := (HR.al _).up hbk)); have hr_0 := HR.c0; have hr_1 := HR.c1; have hr_2 := HR.c2; have hr_l := HR.lt; have hr_f0 := HR.f0; have hr_f1 := HR.f1; have hr_f2 := HR.f2) | fail)
  have u0 := fun o => ((HR.put3 (.bool false) (.slice none 0 0) (.slice none 0 0)).al o).c0
  have u1 := fun o => ((HR.put3 (.bool false) (.slice none 0 0) (.slice none 0 0)).al o).c1
  have u2 := fun o => ((HR.put3 (.bool false) (.slice none 0 0) (.slice none 0 0)).al o).c2
  refine bodyPost_ret (v := .tuple #[.agg #[.bool false, .slice none 0 0, .slice none 0 0], .bool false]) (by simp [results, Tryz.results70, go_sem, u0, u1, u2]) rfl ⟨rfl, ?_⟩
  exact (Bel.al (Bel.of (below3 HB (by omega) _ _ _)) _).hid
end
section
variable {W : World} {s t u : ByteArray}
end
end Go.Proofs.YtmiklffjffdkgaaGreatDoor
end

section
/- Statements of rat: own, the document's own fraction of the words that came in. Conditions: what Words gives. -/
open Go.RowKit
set_option maxRecDepth 100000
namespace Go.Proofs.YtmiklffjffdkgaaGreatDoor
section
variable {W : World} {b s : Bool} {A A' : Option Addr} {n n' c c' d m : Nat} {z : Int} {r : Rat}
end
end Go.Proofs.YtmiklffjffdkgaaGreatDoor
end

section
/- The document's own fractions: QInv of a fraction in lowest terms. No conditions. -/
open Go.RowKit
set_option maxRecDepth 100000
namespace Go.Proofs.YtmiklffjffdkgaaGreatDoor
theorem rqinv_c {W : World} {b s : Bool} {A A' : Option Addr} {c c' : Nat} {r : Rat} (h : Rz W b A c r.num) (h' : Rn W A' c' r.den) (h0 : r ≠ 0) (hs : s = decide (r⁻¹.num < 0)) :
    Calls Tryz.prog 48 #[.agg #[.bool b, .slice A (dq r.num.natAbs) c, .slice A' (dq r.den) c']] W (RQm W s r⁻¹.num r⁻¹.den) := by
  have hn : r.num ≠ 0 := fun e => h0 (Rat.num_eq_zero.1 e)
  have e1 : r⁻¹.den = r.num.natAbs := by rw [Rat.den_inv, if_neg hn]
  have e2 : r⁻¹.num = r.num.sign * (r.den : Int) := Rat.num_inv r
  have hd := r.den_pos
  have e3 : r⁻¹.num.natAbs = r.den := by
    rw [e2, Int.natAbs_mul, Int.natAbs_natCast, Int.natAbs_sign, if_neg hn, Nat.one_mul]
  have e4 : decide (r⁻¹.num < 0) = (b && decide (0 < r.den)) := by
    rw [decide_eq_true hd, Bool.and_true, h.2.out, e2]
    refine decide_eq_decide.2 ⟨fun g => ?_, fun g => ?_⟩
    · rcases Int.lt_trichotomy r.num 0 with k | k | k
      · exact k
      · exact absurd k hn
      · rw [Int.sign_eq_one_of_pos k] at g; omega
    · rw [Int.sign_eq_neg_one_of_neg g]; omega
  rw [e1]
  exact rqinv_h h h' (hs.trans e4) e3 hs
end Go.Proofs.YtmiklffjffdkgaaGreatDoor
end

section
/- The document's own fractions: QPow to a power from 0 on. Conditions: terms of few words. -/
open Go.RowKit
set_option maxRecDepth 100000
namespace Go.Proofs.YtmiklffjffdkgaaGreatDoor
theorem bd_rpow {r : Rat} {K : Nat} (h : Bd r K) (i : Nat) : Bd (r ^ i) (K * i + 1) := by
  have go : ∀ x : Nat, x < W32 ^ K → x ^ i < W32 ^ (K * i + 1) := fun x hx => by
    have h1 : x ^ i ≤ (W32 ^ K) ^ i := Nat.pow_le_pow_left (Nat.le_of_lt hx) i
    rw [← Nat.pow_mul] at h1
    have h3 : W32 ^ (K * i) < W32 ^ (K * i + 1) := Nat.pow_lt_pow_right (by decide) (by omega)
    omega
  refine ⟨?_, ?_⟩
  · rw [Rat.num_pow, Int.natAbs_pow]; exact go _ h.1
  · rw [Rat.den_pow]; exact go _ h.2
/-- What a power leaves. -/
def RQt (W : World) (s : Bool) (v : Int) (d : Nat) (e : Ending) (w' : World) : Prop := ∃ A c A' c', e = .returned (.tuple #[.agg #[.bool s, .slice A (dq v.natAbs) c, .slice A' (dq d) c'], .bool true]) ∧ Rz w' s A c v ∧ Rn w' A' c' d ∧ Hid (Below W.heap.size W w')
/-- A box holds a fraction. -/
def BoxQ (w : World) (p : Nat) (s : Bool) (x : Rat) : Prop := ∃ F f G g, At w p [.bool s, .slice F (dq x.num.natAbs) f, .slice G (dq x.den) g] ∧ Rz w s F f x.num ∧ Rn w G g x.den
section
variable {W : World} {b s : Bool} {A A' : Option Addr} {c c' K : Nat} {r : Rat}
set_option maxHeartbeats 8000000 in
theorem rqpow_p {k : Nat} (hb : Bd r K) (hK0 : 0 < K) (hK : K * k + K + 1 ≤ 1000) (h : Rz W b A c r.num) (h' : Rn W A' c' r.den) {q : Rat} (hq : r ^ k = q) (hs : s = decide (q.num < 0)) :
    Calls Tryz.prog 45 #[.agg #[.bool b, .slice A (dq r.num.natAbs) c, .slice A' (dq r.den) c'], .int .i64 (k : Int)] W (RQt W s q.num q.den) := by
  obtain ⟨y0, hy0⟩ : ∃ y, y = r ^ 0 := ⟨_, rfl⟩
  obtain ⟨s0, hs0⟩ : ∃ u, u = decide (y0.num < 0) := ⟨_, rfl⟩
  have CI : Hid (∀ W', Calls Tryz.prog 22 #[.int .i64 1] W' (RQm W' s0 y0.num y0.den)) := fun W' => by
    have h0 : y0 = 1 := by rw [hy0, Rat.pow_zero]
    rw [hs0, h0]
    exact (rqint_h (W := W') (z := 1) (sg := decide ((1 : Rat).num < 0)) (by decide) (by decide) rfl).mono fun _ _ ⟨A, c, A', c', he, n1, n2, hb⟩ => ⟨A, c, A', c', he, ⟨n1, rfl⟩, n2, hb⟩
  have CM : Hid (∀ i, i < k → ∀ W' si F f G g, Rz W' si F f (r ^ i).num → Rn W' G g (r ^ i).den → Rz W' b A c r.num → Rn W' A' c' r.den → Calls Tryz.prog 47 #[.agg #[.bool si, .slice F (dq (r ^ i).num.natAbs) f, .slice G (dq (r ^ i).den) g], .agg #[.bool b, .slice A (dq r.num.natAbs) c, .slice A' (dq r.den) c']] W' (RQm W' (decide ((r ^ (i + 1)).num < 0)) (r ^ (i + 1)).num (r ^ (i + 1)).den)) := fun i hi W' si F f G g g1 g2 g3 g4 => by
    have h1 : K * i ≤ K * k := Nat.mul_le_mul_left K (Nat.le_of_lt hi)
    rw [Rat.pow_succ]
    exact rqmul_c (K := K * k + K + 1) ((bd_rpow hb i).more (by omega)) (hb.more (by omega)) hK g1 g2 g3 g4
  have hk : (k : Int) ≤ 1000 := by
    have : 1 * k ≤ K * k := Nat.mul_le_mul_right k hK0
    omega
  have g1 : decide ((k : Int) < 0) = false := decide_eq_false (by omega)
  have HS := hide hs
  have HY := hide hy0
  have HQ := hide hq
  clear hb hK hs hK0 hy0 hs0 hq
  have HB := Bel.refl W
  go_enter Tryz.func45, Tryz.ntmps45
  go_wp2_with (first | (go_at_call 22; (with_reducible refine (CI.out _).mono ?_); rintro e w1 ⟨F, f, G, g, rfl, m1, m2, hbk⟩; (with_reducible (have HP : At w1 W.heap.size [.bool b, .slice A (dq r.num.natAbs) c, .slice A' (dq r.den) c'] := At.up ((at_new0 _ _ _).al _) hbk; have HR : At w1 (W.heap.size + 1) [.bool false, .slice none 0 0, .slice none 0 0] := At.up (at_new1 _ _ _ _) hbk; replace HB := ((HB.al _).al _).up hbk; replace h := ((h.al _).al _).up hbk; replace h' := ((h'.al _).al _).up hbk))) | fail)
  obtain ⟨W3, hW3⟩ : ∃ X, X = w1.alloc (.cells #[.bool s0, .slice F (dq y0.num.natAbs) f, .slice G (dq y0.den) g] 38) := ⟨_, rfl⟩
  rw [← hW3]
  obtain ⟨p, hp⟩ : ∃ p, p = w1.heap.size := ⟨_, rfl⟩
  rw [← hp]
  have HX3 : BoxQ W3 p s0 (r ^ 0) := by
    rw [← HY.out]
    exact ⟨F, f, G, g, by rw [hW3, hp]; exact at_new0 _ _ _, by rw [hW3]; exact m1.al _, by rw [hW3]; exact m2.al _⟩
  have HB3 : Bel w1 W3 := by rw [hW3]; exact (Bel.refl w1).al _
  have hpl : W.heap.size + 1 < p := by rw [hp]; exact HR.lt
  have hpw : w1.heap.size ≤ p := by omega
  clear hW3 m1 m2 hp
  go_loopw [7] (fun iv wr => ∃ (i : Nat) (si : Bool), i ≤ k ∧ iv = .int .i64 (i : Int) ∧ BoxQ wr p si (r ^ i) ∧ Hid (Bel w1 wr)) (fun iv _ => k - (intOf iv).toNat)
  case atStart => exact ⟨0, s0, Nat.zero_le _, rfl, HX3, HB3⟩
  case round =>
    obtain ⟨i, si, hi, rfl, HXB, HW0⟩ := hrel
    obtain ⟨x, hx⟩ : ∃ x, x = r ^ i := ⟨_, rfl⟩
    obtain ⟨y, hy⟩ : ∃ y, y = r ^ (i + 1) := ⟨_, rfl⟩
    obtain ⟨sy, hsy⟩ : ∃ u, u = decide (y.num < 0) := ⟨_, rfl⟩
    have CMi := CM.out i
    rw [← hx, ← hy, ← hsy] at CMi
    rw [← hx] at HXB
    have HXE := hide hx
    have HYE := hide hy
    clear hx hy hsy
    obtain ⟨F1, f1, G1, g1', HX, n1, n2⟩ := HXB
    have HW : Bel w1 wr := HW0
    have HP1 := At.up HP HW.hid
    have HR1 := At.up HR HW.hid
    have a1 := h.up HW.hid
    have a2 := h'.up HW.hid
    have hp_0 := HP1.c0
    have hp_1 := HP1.c1
    have hp_2 := HP1.c2
    have hp_l := HP1.lt
    have hx_0 := HX.c0
    have hx_1 := HX.c1
    have hx_2 := HX.c2
    have hx_l := HX.lt
    have zs := Below.size HW
    by_cases hlt : i < k
    · have hL1 : (i : Int) < (k : Int) := by omega
      have CMj := CMi hlt
      clear CMi
      go_wp2_with (first | (go_at_call 47; (with_reducible refine (CMj _ _ _ _ _ _ n1 n2 a1 a2).mono ?_); rintro e w2 ⟨F2, f2, G2, g2, rfl, m1, m2, hbk⟩; (with_reducible (replace HX := HX.up hbk; replace HW := HW.up hbk)); clear hx_0 hx_1 hx_2 hx_l; have hx_0 := HX.c0; have hx_1 := HX.c1; have hx_2 := HX.c2; have hx_l := HX.lt; have hx_f0 := HX.f0; have hx_f1 := HX.f1; have hx_f2 := HX.f2) | fail)
      go_roundw
      case rel => exact ⟨i + 1, sy, by omega, by go_num, by rw [← HYE.out]; exact ⟨F2, f2, G2, g2, HX.put3 _ _ _, ⟨m1.1.put3 HX, m1.2⟩, m2.put3 HX⟩, below3 HW (by omega) _ _ _⟩
      case measure => simp [intOf]; omega
    · obtain rfl : i = k := by omega
      have hL1 : ¬ (i : Int) < (i : Int) := by omega
      have hr_0 := HR1.c0
      have hr_1 := HR1.c1
      have hr_2 := HR1.c2
      have hr_l := HR1.lt
      have hr_f0 := HR1.f0
      have hr_f1 := HR1.f1
      have hr_f2 := HR1.f2
      have hxq : x = q := HXE.out.trans HQ.out
      subst hxq
      clear CMi
      go_wp2_with fail
      refine bodyPost_ret (v := .tuple #[.agg #[.bool si, .slice F1 (dq x.num.natAbs) f1, .slice G1 (dq x.den) g1'], .bool true]) (by simp [results, Tryz.results45, go_sem, hr_0, hr_1, hr_2]) rfl ?_
      have hsi : si = s := n1.2.out.trans HS.out.symm
      subst hsi
      exact ⟨F1, f1, G1, g1', rfl, ⟨n1.1.put3 HR1, n1.2⟩, n2.put3 HR1, below3 (HB.up HW.hid) (by omega) _ _ _⟩
end
end Go.Proofs.YtmiklffjffdkgaaGreatDoor
end
