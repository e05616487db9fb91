/- The document's own Sig, over its calls' contracts. No conditions but those. -/
import Derived.Test.YtmiklffjffdkgaaGreatDoorGRwbc29
import Derived.Test.YtmiklffjffdkgaaGreatDoorGRwbc31
import Derived.Test.YtmiklffjffdkgaaGreatDoorGRwbc22
import Derived.Test.YtmiklffjffdkgaaGreatDoorRtd
open Go.RowKit
set_option maxRecDepth 100000
namespace Go.Proofs.YtmiklffjffdkgaaGreatDoor
/-- What Sig leaves: a numeral, or the number of what is wrong. -/
def DSg (W : World) (er : Int) (pb : Bool) (pv ps : Nat) (e : Ending) (w' : World) : Prop := ∃ u A n c, ∃ k : Int, e = .returned (.tuple #[.agg #[.bool u, .slice A n c, .int .i64 k], .int .i64 er]) ∧ KR w' (decide (er = 0)) pb pv ps u A n c k ∧ Hid (Below W.heap.size W w')
/-- A call that returns a text of so many letters. -/
def LenR (W : World) (L : Nat) (e : Ending) (w' : World) : Prop := ∃ t : ByteArray, e = .returned (.string t) ∧ Hid (t.size = L) ∧ Hid (Below W.heap.size W w')
section
variable {W : World} {b : Bool} {A A' : Option Addr} {c c' n d : Nat} {many mode : Int}
theorem rsig_no (hn : ¬ (1 ≤ many ∧ many ≤ 40 ∧ 1 ≤ mode ∧ mode ≤ 7)) {n n' : Nat} : Calls Tryz.prog 15 #[.agg #[.bool b, .slice A n c, .slice A' n' c'], .int .i64 many, .int .i64 mode] W (DSg W 1 false 0 0) := by
  have HB := (Bel.refl W).al (.cells #[.bool b, .slice A n c, .slice A' n' c'] 38 (0, 0))
  have HR := at_new1 W (.cells #[.bool b, .slice A n c, .slice A' n' c'] 38 (0, 0)) [.bool false, .slice none 0 0, .int .i64 0] 50
  replace HB := HB.al (.cells #[.bool false, .slice none 0 0, .int .i64 0] 50 (0, 0))
  have hr_0 := HR.c0; have hr_1 := HR.c1; have hr_2 := HR.c2; have hr_l := HR.lt; have hr_f0 := HR.f0; have hr_f1 := HR.f1; have hr_f2 := HR.f2
  clear HR
  have key : many < 1 ∨ (¬ many < 1 ∧ 40 < many) ∨ (¬ many < 1 ∧ ¬ 40 < many ∧ mode < 1) ∨ (¬ many < 1 ∧ ¬ 40 < many ∧ ¬ mode < 1 ∧ 7 < mode) := by omega
  clear hn
  rcases key with k1 | ⟨k1, k2⟩ | ⟨k1, k2, k3⟩ | ⟨k1, k2, k3, k4⟩
  all_goals
    go_enter Tryz.func15, Tryz.ntmps15
    go_wp2_with fail
    refine bodyPost_ret (v := .tuple #[.agg #[.bool false, .slice none 0 0, .int .i64 0], .int .i64 1]) (by simp [results, Tryz.results15, go_sem, hr_0, hr_1, hr_2]) rfl ?_
    refine ⟨_, _, _, _, _, rfl, (fun h => by simp at h), ?_⟩
    first | exact HB | exact below3 HB (by omega) _ _ _
theorem rsig_zero (hS : ∀ W', Bel W W' → Calls Tryz.prog 44 #[.agg #[.bool b, .slice A (dq n) c, .slice A' (dq d) c']] W' (IntPost W' 0)) (hm : 1 ≤ many ∧ many ≤ 40 ∧ 1 ≤ mode ∧ mode ≤ 7) {q : Nat} (hq : (q : Int) = many - 1) {z : Nat} (hz : z = 0) : Calls Tryz.prog 15 #[.agg #[.bool b, .slice A (dq n) c, .slice A' (dq d) c'], .int .i64 many, .int .i64 mode] W (DSg W 0 false z q) := by
  have CS := hide hS
  obtain ⟨W0, hW0⟩ : ∃ X, X = (W.alloc (.cells #[.bool b, .slice A (dq n) c, .slice A' (dq d) c'] 38)).alloc (.cells #[.bool false, .slice none 0 0, .int .i64 0] 50) := ⟨_, rfl⟩
  have HB : Bel W W0 := by rw [hW0]; exact ((Bel.refl W).al _).al _
  have HA : At W0 W.heap.size [.bool b, .slice A (dq n) c, .slice A' (dq d) c'] := by rw [hW0]; exact (at_new0 _ _ _).al _
  have HR : At W0 (W.heap.size + 1) [.bool false, .slice none 0 0, .int .i64 0] := by rw [hW0]; exact at_new1 _ _ _ _
  have HW0 := hide hW0
  clear hW0 hS
  have d1 : ¬ many < 1 := by omega
  have d2 : ¬ 40 < many := by omega
  have d3 : ¬ mode < 1 := by omega
  have d4 : ¬ 7 < mode := by omega
  have w1 : IntKind.i64.wrap (many - 1) = many - 1 := IntWalk.i64_in _ (by omega)
  clear hm
  have HQ := hide hq
  clear hq
  have ha_0 := HA.c0; have ha_1 := HA.c1; have ha_2 := HA.c2; have ha_l := HA.lt
  go_enter Tryz.func15, Tryz.ntmps15
  go_upto_region 1 with fail
  rw [← HW0.out]
  go_wp2_with (first | (go_at_call 44; (with_reducible refine (CS.out _ HB).mono ?_); rintro e w1 ⟨rfl, hbk⟩; replace HR := HR.up hbk; replace HB := HB.up hbk; have hr_0 := HR.c0; have hr_1 := HR.c1; have hr_2 := HR.c2; have hr_l := HR.lt; have hr_f0 := HR.f0; have hr_f1 := HR.f1; have hr_f2 := HR.f2) | fail)
  refine name_end ?_
  intro W4 hW4
  have HF : At W4 (W.heap.size + 1) [.bool false, .slice none 0 0, .int .i64 (q : Int)] := by rw [hW4, HQ.out]; exact HR.put3 _ _ _
  have BF : Bel W W4 := by rw [hW4]; exact below3 HB (by omega) _ _ _
  clear hW4 hr_0 hr_1 hr_2 hr_l hr_f0 hr_f1 hr_f2
  have hr_0 := HF.c0
  have hr_1 := HF.c1
  have hr_2 := HF.c2
  refine bodyPost_ret (v := .tuple #[.agg #[.bool false, .slice none 0 0, .int .i64 (q : Int)], .int .i64 0]) (by simp [results, Tryz.results15, go_sem, hr_0, hr_1, hr_2]) rfl ?_
  exact ⟨_, _, _, _, _, rfl, fun _ => ⟨rfl, by rw [hz, dq_zero], rfl, by rw [hz]; exact rn_nil _ _ _ _⟩, BF⟩
set_option maxHeartbeats 16000000 in
theorem rsig_size {u lt e0 e i10 s : Int} {L1 L2 n1 : Nat} {p : Rat}
    (CS : Hid (∀ W', Bel W W' → Calls Tryz.prog 44 #[.agg #[.bool b, .slice A (dq n) c, .slice A' (dq d) c']] W' (IntPost W' u)))
    (CZ : Hid (∀ W', Bel W W' → Calls Tryz.prog 24 #[.bool false, .slice A (dq n) c] W' (RZb W' false A (dq n) c n)))
    (CT1 : Hid (∀ W', Bel W W' → Calls Tryz.prog 35 #[.slice A (dq n) c] W' (LenR W' L1)))
    (CT2 : Hid (∀ W', Bel W W' → Calls Tryz.prog 35 #[.slice A' (dq d) c'] W' (LenR W' L2)))
    (CQ : Hid (∀ W', Calls Tryz.prog 22 #[.int .i64 10] W' (RQm W' false i10 n1)))
    (CP : Hid (∀ W' B e B' e', Rz W' false B e i10 → Rn W' B' e' n1 → Calls Tryz.prog 45 #[.agg #[.bool false, .slice B (dq i10.natAbs) e, .slice B' (dq n1) e'], .int .i64 e0] W' (RQt W' false p.num p.den)))
    (CC : Hid (∀ W' B e B' e', Bel W W' → Rz W' false B e p.num → Rn W' B' e' p.den → Calls Tryz.prog 38 #[.agg #[.bool false, .slice A (dq n) c, .slice A' (dq d) c'], .agg #[.bool false, .slice B (dq p.num.natAbs) e, .slice B' (dq p.den) e']] W' (IntPost W' lt)))
    (hm : 1 ≤ many ∧ many ≤ 40 ∧ 1 ≤ mode ∧ mode ≤ 7) (hu : (u == 0) = false) (he0 : (L1 : Int) - (L2 : Int) = e0) (hL : L1 ≤ 100000 ∧ L2 ≤ 100000) (he : (lt < 0 ∧ e = e0 - 1) ∨ (¬ lt < 0 ∧ e = e0)) (hs : many - 1 - e = s) (h6 : 60 < s) : Calls Tryz.prog 15 #[.agg #[.bool b, .slice A (dq n) c, .slice A' (dq d) c'], .int .i64 many, .int .i64 mode] W (DSg W 11 false 0 0) := by
  obtain ⟨W0, hW0⟩ : ∃ X, X = (W.alloc (.cells #[.bool b, .slice A (dq n) c, .slice A' (dq d) c'] 38)).alloc (.cells #[.bool false, .slice none 0 0, .int .i64 0] 50) := ⟨_, rfl⟩
  have HB : Bel W W0 := by rw [hW0]; exact ((Bel.refl W).al _).al _
  have HA : At W0 W.heap.size [.bool b, .slice A (dq n) c, .slice A' (dq d) c'] := by rw [hW0]; exact (at_new0 _ _ _).al _
  have HR : At W0 (W.heap.size + 1) [.bool false, .slice none 0 0, .int .i64 0] := by rw [hW0]; exact at_new1 _ _ _ _
  have HZ : Ez W0 (W.heap.size + 1) := by
    rw [hW0]
    have h9 := ez_newT (W.alloc (.cells #[.bool b, .slice A (dq n) c, .slice A' (dq d) c'] 38)) (.bool false) (.slice none 0 0) (.int .i64 0) 50
    rwa [show (W.alloc (.cells #[.bool b, .slice A (dq n) c, .slice A' (dq d) c'] 38)).heap.size = W.heap.size + 1 by simp] at h9
  have HW0 := hide hW0
  clear hW0
  have d1 : ¬ many < 1 := by omega
  have d2 : ¬ 40 < many := by omega
  have d3 : ¬ mode < 1 := by omega
  have d4 : ¬ 7 < mode := by omega
  have x1 : IntKind.i64.wrap ((L1 : Int) - (L2 : Int)) = e0 := by rw [he0]; exact IntWalk.i64_in _ (by omega)
  have x2 : IntKind.i64.wrap (e0 - 1) = e0 - 1 := IntWalk.i64_in _ (by omega)
  have x3 : IntKind.i64.wrap (many - 1) = many - 1 := IntWalk.i64_in _ (by omega)
  have x4 : IntKind.i64.wrap (many - 1 - e) = s := by rw [hs]; exact IntWalk.i64_in _ (by omega)
  have HE := hide he
  have HSS := hide (show -200100 ≤ s ∧ s ≤ 200100 by omega)
  clear hm he0 hL he hs
  have ha_0 := HA.c0
  have ha_1 := HA.c1
  have ha_2 := HA.c2
  have ha_l := HA.lt
  go_enter Tryz.func15, Tryz.ntmps15
  go_upto_region 1 with fail
  rw [← HW0.out]
  go_upto_region 5 with (first | (go_at_call 44; (with_reducible refine (CS.out _ HB).mono ?_); rintro e w1 ⟨rfl, hbk⟩; (with_reducible (replace HA := HA.up hbk; replace HR := HR.up hbk; replace HZ := HZ.up hbk; replace HB := HB.up hbk)); clear ha_0 ha_1 ha_2 ha_l) | fail)
  clear HW0 d1 d2 d3 d4 CS
  go_cut [8] from 40 to 46 (fun v w' => ∃ pm, v = .pointer (some ⟨pm, 0, none⟩) ∧ At w' pm [.bool false, .slice A (dq n) c, .slice A' (dq d) c'] ∧ Bel w1 w')
  case first =>
    have HW := Bel.refl w1
    have la := HA.lt
    go_region_held3 (fun w' => w'.cell? ⟨W.heap.size, 0, none⟩ = some (.bool b) ∧ w'.cell? ⟨W.heap.size, 1, none⟩ = some (.slice A (dq n) c) ∧ w'.cell? ⟨W.heap.size, 2, none⟩ = some (.slice A' (dq d) c'))
      (refine ⟨(?_ : At _ W.heap.size [.bool b, .slice A (dq n) c, .slice A' (dq d) c']).c0, (?_ : At _ W.heap.size [.bool b, .slice A (dq n) c, .slice A' (dq d) c']).c1, (?_ : At _ W.heap.size [.bool b, .slice A (dq n) c, .slice A' (dq d) c']).c2⟩ <;> (repeat (first | with_reducible exact HA | (with_reducible refine At.dr ?_) | (with_reducible refine At.al ?_ _) | (with_reducible refine At.far ?_ (by omega) _))))
      (first | (go_at_call 24; (with_reducible refine (CZ.out _ HB.dr).mono ?_); rintro e w2 ⟨rfl, nz, hbk⟩; (with_reducible (replace HB := HB.dr.up hbk; replace HW := HW.dr.up hbk; replace HA := HA.dr.up hbk)); (try have hp0_0 := HP0.c0); (try have hp0_1 := HP0.c1); (try have hp0_2 := HP0.c2); (try have fhp0_0 := HP0.f0); (try have fhp0_1 := HP0.f1); (try have fhp0_2 := HP0.f2); (try have lhp0 := HP0.lt); have lz0 := HA.lt; have zs1 := Below.size HW) | (go_at_call 24; (with_reducible refine (CZ.out _ (HB.al _).dr).mono ?_); rintro e w2 ⟨rfl, nz, hbk⟩; (with_reducible (have HP0 := At.up (at_new0 _ [.bool false, .slice none 0 0, .slice none 0 0] _).dr hbk; replace HB := (HB.al _).dr.up hbk; replace HW := (HW.al _).dr.up hbk; replace HA := (HA.al _).dr.up hbk)); (try have hp0_0 := HP0.c0); (try have hp0_1 := HP0.c1); (try have hp0_2 := HP0.c2); (try have fhp0_0 := HP0.f0); (try have fhp0_1 := HP0.f1); (try have fhp0_2 := HP0.f2); (try have lhp0 := HP0.lt); have lz0 := HA.lt; have zs1 := Below.size HW) | fail)
    all_goals
      go_wp2_with fail
      go_meet
      case rel =>
        refine ⟨_, rfl, ?_, ?_⟩ <;> (repeat (first | with_reducible exact HW | with_reducible exact HP0 | with_reducible exact at_new0 _ _ _ | (with_reducible refine Bel.dr ?_) | (with_reducible refine Bel.al ?_ _) | (with_reducible refine Bel.uput3 ?_ (by omega) _ _ _) | (with_reducible refine At.dr ?_) | (with_reducible refine At.al ?_ _) | (with_reducible refine At.uput3 (v0 := .bool false) (v1 := .slice none 0 0) (v2 := .slice none 0 0) ?_ _ _ _)))
  case rest =>
    obtain ⟨pm, rfl, HM, hW⟩ := hcut
    replace HA := HA.up hW.hid
    replace HR := HR.up hW.hid
    replace HZ := HZ.up hW.hid
    replace HB := HB.up hW.hid
    clear hW CZ
    obtain ⟨W1, hW1⟩ : ∃ X, X = wc := ⟨_, rfl⟩
    subst hW1
    go_upto_region 6 with fail
    go_cut [9] from 47 to 56 (fun v w' => v = .int .i64 e0 ∧ Bel W1 w')
    case first =>
      have HW := Bel.refl W1
      replace HB := HB.dr
      replace HW := HW.dr
      replace HA := HA.dr
      refine wp_region_held_drew (S := fun w' => w'.cell? ⟨W.heap.size, 0, none⟩ = some (.bool b) ∧ w'.cell? ⟨W.heap.size, 1, none⟩ = some (.slice A (dq n) c) ∧ w'.cell? ⟨W.heap.size, 2, none⟩ = some (.slice A' (dq d) c')) (by kernel_rfl) ?_ (fun hHeld => ?_)
      · exact ⟨HA.c0, HA.c1, HA.c2⟩
      generalize W1.drew = Wd at *
      (refine wpAnyH_take (i := 0) (v := ?_) rfl (by decide +kernel) (by decide +kernel) (by decide +kernel) (fun _ _ _ h => h) (Or.inl ⟨by rfl, ?_⟩) (by assumption) ?_; rotate_left; (focus ((intro w hSw; (try dsimp only at hSw); go_simp); (try (with_reducible rfl)); done)); (try simp only [List.getElem_toArray, List.getElem_cons_zero, List.getElem_cons_succ, Act.put, List.setIfInBounds_toArray, List.set_cons_zero, List.set_cons_succ]))
      (refine wpAnyH_take (i := 1) (v := ?_) rfl (by decide +kernel) (by decide +kernel) (by decide +kernel) (fun _ _ _ h => h) (Or.inl ⟨by rfl, ?_⟩) (by assumption) ?_; rotate_left; (focus ((intro w hSw; (try dsimp only at hSw); go_simp); (try (with_reducible rfl)); done)); (try simp only [List.getElem_toArray, List.getElem_cons_zero, List.getElem_cons_succ, Act.put, List.setIfInBounds_toArray, List.set_cons_zero, List.set_cons_succ]))
      (refine wpAnyH_take (i := 2) (v := ?_) rfl (by decide +kernel) (by decide +kernel) (by decide +kernel) (fun _ _ _ h => h) (Or.inl ⟨by rfl, ?_⟩) (by assumption) ?_; rotate_left; (focus ((intro w hSw; (try dsimp only at hSw); go_simp); (try (with_reducible rfl)); done)); (try simp only [List.getElem_toArray, List.getElem_cons_zero, List.getElem_cons_succ, Act.put, List.setIfInBounds_toArray, List.set_cons_zero, List.set_cons_succ]))
      (refine wpAnyH_take (i := 5) (v := ?_) rfl (by decide +kernel) (by decide +kernel) (by decide +kernel) (fun _ _ _ h => h) (Or.inl ⟨by rfl, ?_⟩) (by assumption) ?_; rotate_left; (focus ((intro w hSw; (try dsimp only at hSw); go_simp); (try (with_reducible rfl)); done)); (try simp only [List.getElem_toArray, List.getElem_cons_zero, List.getElem_cons_succ, Act.put, List.setIfInBounds_toArray, List.set_cons_zero, List.set_cons_succ]))
      (refine wpAnyH_take (i := 6) (v := ?_) rfl (by decide +kernel) (by decide +kernel) (by decide +kernel) (fun _ _ _ h => h) (Or.inl ⟨by rfl, ?_⟩) (by assumption) ?_; rotate_left; (focus ((intro w hSw; (try dsimp only at hSw); go_simp); (try (with_reducible rfl)); done)); (try simp only [List.getElem_toArray, List.getElem_cons_zero, List.getElem_cons_succ, Act.put, List.setIfInBounds_toArray, List.set_cons_zero, List.set_cons_succ]))
      (refine wpAnyH_ready (rs := [3]) (by decide +kernel) (by simp) ?_; refine AllReadyH.cons rfl (fun K hK => ?_) AllReadyH.nil; go_simp; (go_at_call 35; (with_reducible refine (CT1.out _ HB).mono ?_); rintro e w3 ⟨t1, rfl, ht1, hbk⟩; (with_reducible (replace HB := HB.up hbk; replace HW := HW.up hbk; replace HA := HA.up hbk)); have hl1 := ht1.out); (try (go_wp2_with fail)); refine hK.out _ _ ?_ (fun hHeld => ?_); (focus ((try dsimp only); (with_reducible exact ⟨HA.c0, HA.c1, HA.c2⟩))); clear hK K; (try simp only [List.getElem_toArray, List.getElem_cons_zero, List.getElem_cons_succ, Act.put, List.setIfInBounds_toArray, List.set_cons_zero, List.set_cons_succ]))
      (refine wpAnyH_take (i := 4) (v := ?_) rfl (by decide +kernel) (by decide +kernel) (by decide +kernel) (fun _ _ _ h => h) (Or.inl ⟨by rfl, ?_⟩) (by assumption) ?_; rotate_left; (focus ((intro w hSw; (try dsimp only at hSw); go_simp); (try (with_reducible rfl)); done)); (try simp only [List.getElem_toArray, List.getElem_cons_zero, List.getElem_cons_succ, Act.put, List.setIfInBounds_toArray, List.set_cons_zero, List.set_cons_succ]))
      (refine wpAnyH_ready (rs := [7]) (by decide +kernel) (by simp) ?_; refine AllReadyH.cons rfl (fun K hK => ?_) AllReadyH.nil; go_simp; (go_at_call 35; (with_reducible refine (CT2.out _ HB).mono ?_); rintro e w4 ⟨t2, rfl, ht2, hbk⟩; (with_reducible (replace HB := HB.up hbk; replace HW := HW.up hbk; replace HA := HA.up hbk)); have hl2 := ht2.out); (try (go_wp2_with fail)); refine hK.out _ _ ?_ (fun hHeld => ?_); (focus ((try dsimp only); (with_reducible exact ⟨HA.c0, HA.c1, HA.c2⟩))); clear hK K; (try simp only [List.getElem_toArray, List.getElem_cons_zero, List.getElem_cons_succ, Act.put, List.setIfInBounds_toArray, List.set_cons_zero, List.set_cons_succ]))
      (refine wpAnyH_take (i := 8) (v := ?_) rfl (by decide +kernel) (by decide +kernel) (by decide +kernel) (fun _ _ _ h => h) (Or.inl ⟨by rfl, ?_⟩) (by assumption) ?_; rotate_left; (focus ((intro w hSw; (try dsimp only at hSw); go_simp); (try (with_reducible rfl)); done)); (try simp only [List.getElem_toArray, List.getElem_cons_zero, List.getElem_cons_succ, Act.put, List.setIfInBounds_toArray, List.set_cons_zero, List.set_cons_succ]))
      (refine wpAnyH_take (i := 9) (v := ?_) rfl (by decide +kernel) (by decide +kernel) (by decide +kernel) (fun _ _ _ h => h) (Or.inl ⟨by rfl, ?_⟩) (by assumption) ?_; rotate_left; (focus ((intro w hSw; (try dsimp only at hSw); go_simp); (try (with_reducible rfl)); done)); (try simp only [List.getElem_toArray, List.getElem_cons_zero, List.getElem_cons_succ, Act.put, List.setIfInBounds_toArray, List.set_cons_zero, List.set_cons_succ]))
      (refine wpAnyH_take (i := 10) (v := ?_) rfl (by decide +kernel) (by decide +kernel) (by decide +kernel) (fun _ _ _ h => h) (Or.inl ⟨by rfl, ?_⟩) (by assumption) ?_; rotate_left; (focus ((intro w hSw; (try dsimp only at hSw); go_simp); (try (with_reducible rfl)); done)); (try simp only [List.getElem_toArray, List.getElem_cons_zero, List.getElem_cons_succ, Act.put, List.setIfInBounds_toArray, List.set_cons_zero, List.set_cons_succ]))
      refine wpAnyH_done (by decide +kernel) ?_ _
      go_wp2_with fail
      go_meet
      case rel => exact ⟨rfl, HW⟩
    case rest =>
      obtain ⟨rfl, hW⟩ := hcut
      replace HA := HA.up hW.hid
      replace HR := HR.up hW.hid
      replace HZ := HZ.up hW.hid
      replace HB := HB.up hW.hid
      replace HM := HM.up hW.hid
      clear hW CT1 CT2 x1
      obtain ⟨W2, hW2⟩ : ∃ X, X = wc := ⟨_, rfl⟩
      subst hW2
      go_upto_region 8 with (first | (go_at_call 22; (with_reducible refine (CQ.out _).mono ?_); rintro e w5 ⟨Bi, ei, Bj, ej, rfl, ki, kj, hbk⟩; (with_reducible (replace HA := HA.up hbk; replace HR := HR.up hbk; replace HZ := HZ.up hbk; replace HB := HB.up hbk; replace HM := HM.up hbk))) | (go_at_call 45; (with_reducible refine (CP.out _ _ _ _ _ ki kj).mono ?_); rintro e w6 ⟨Bp, ep, Bq, eq, rfl, kp, kq, hbk⟩; (with_reducible (replace HA := HA.up hbk; replace HR := HR.up hbk; replace HZ := HZ.up hbk; replace HB := HB.up hbk; replace HM := HM.up hbk))) | fail)
      refine wp_named ?_
      intro W3 hW3
      replace HB : Bel W W3 := by rw [hW3]; exact Bel.al HB _
      replace HA : At W3 W.heap.size [.bool b, .slice A (dq n) c, .slice A' (dq d) c'] := by rw [hW3]; exact HA.al _
      replace HR : At W3 (W.heap.size + 1) [.bool false, .slice none 0 0, .int .i64 0] := by rw [hW3]; exact HR.al _
      replace HZ : Ez W3 (W.heap.size + 1) := by rw [hW3]; exact HZ.al _
      replace HM : At W3 pm [.bool false, .slice A (dq n) c, .slice A' (dq d) c'] := by rw [hW3]; exact HM.al _
      replace kp : Rz W3 false Bp ep p.num := by rw [hW3]; exact kp.al _
      replace kq : Rn W3 Bq eq p.den := by rw [hW3]; exact kq.al _
      have HX : At W3 w6.heap.size [.bool false, .slice Bp (dq p.num.natAbs) ep, .slice Bq (dq p.den) eq] := by rw [hW3]; exact at_new0 _ _ _
      obtain ⟨px, hpx⟩ : ∃ q, q = w6.heap.size := ⟨_, rfl⟩
      rw [← hpx] at HX ⊢
      clear hpx hW3 CQ CP
      have hm_0 := HM.c0
      have hm_1 := HM.c1
      have hm_2 := HM.c2
      have hm_l := HM.lt
      have hx_0 := HX.c0
      have hx_1 := HX.c1
      have hx_2 := HX.c2
      have hx_l := HX.lt
      go_upto_if 66 with (first | (go_at_call 38; (with_reducible refine (CC.out _ _ _ _ _ HB kp kq).mono ?_); rintro e w7 ⟨rfl, hbk⟩; (with_reducible (replace HA := HA.up hbk; replace HR := HR.up hbk; replace HZ := HZ.up hbk; replace HB := HB.up hbk)); clear hm_0 hm_1 hm_2 hm_l hx_0 hx_1 hx_2 hx_l) | fail)
      clear CC HM HX kp kq
      go_cut [9] from 67 to 68 (fun v w' => v = .int .i64 e ∧ w' = w7)
      case first =>
        rcases HE.out with ⟨k1, k2⟩ | ⟨k1, k2⟩
        · have k3 : decide (lt < 0) = true := decide_eq_true k1
          go_wp2_with fail
          go_meet
          case rel => exact ⟨by rw [k2], rfl⟩
        · have k3 : decide (lt < 0) = false := decide_eq_false (by omega)
          go_wp2_with fail
          go_meet
          case rel => exact ⟨by rw [k2], rfl⟩
      case rest =>
        obtain ⟨rfl, hW⟩ := hcut
        rw [hW]
        clear hW HE
        go_upto_region 11 with fail
        clear x2 x3 x4
        have k6 : decide (60 < s) = true := decide_eq_true h6
        have hr_0 := HR.c0; have hr_1 := HR.c1; have hr_2 := HR.c2; have hr_l := HR.lt; have hr_f0 := HR.f0; have hr_f1 := HR.f1; have hr_f2 := HR.f2
        go_wp2_with fail
        refine bodyPost_ret (v := .tuple #[.agg #[.bool false, .slice none 0 0, .int .i64 0], .int .i64 11]) (by simp [results, Tryz.results15, go_sem, hr_0, hr_1, hr_2]) rfl ?_
        refine ⟨_, _, _, _, _, rfl, (fun h => by simp at h), ?_⟩
        first | exact HB | exact below3 HB (by omega) _ _ _
set_option maxHeartbeats 16000000 in
theorem rsig_to {u lt e0 e i10 s : Int} {L1 L2 n1 : Nat} {p : Rat}{sg : Bool} {v q L3 : Nat} 
    (CS : Hid (∀ W', Bel W W' → Calls Tryz.prog 44 #[.agg #[.bool b, .slice A (dq n) c, .slice A' (dq d) c']] W' (IntPost W' u)))
    (CZ : Hid (∀ W', Bel W W' → Calls Tryz.prog 24 #[.bool false, .slice A (dq n) c] W' (RZb W' false A (dq n) c n)))
    (CT1 : Hid (∀ W', Bel W W' → Calls Tryz.prog 35 #[.slice A (dq n) c] W' (LenR W' L1)))
    (CT2 : Hid (∀ W', Bel W W' → Calls Tryz.prog 35 #[.slice A' (dq d) c'] W' (LenR W' L2)))
    (CQ : Hid (∀ W', Calls Tryz.prog 22 #[.int .i64 10] W' (RQm W' false i10 n1)))
    (CP : Hid (∀ W' B e B' e', Rz W' false B e i10 → Rn W' B' e' n1 → Calls Tryz.prog 45 #[.agg #[.bool false, .slice B (dq i10.natAbs) e, .slice B' (dq n1) e'], .int .i64 e0] W' (RQt W' false p.num p.den)))
    (CC : Hid (∀ W' B e B' e', Bel W W' → Rz W' false B e p.num → Rn W' B' e' p.den → Calls Tryz.prog 38 #[.agg #[.bool false, .slice A (dq n) c, .slice A' (dq d) c'], .agg #[.bool false, .slice B (dq p.num.natAbs) e, .slice B' (dq p.den) e']] W' (IntPost W' lt)))
    (CTo : Hid (∀ W', Bel W W' → Calls Tryz.prog 14 #[.agg #[.bool b, .slice A (dq n) c, .slice A' (dq d) c'], .int .i64 (q : Int), .int .i64 mode] W' (DTo W' true sg v q)))
    (CT3 : Hid (∀ W' B e, Rn W' B e v → Calls Tryz.prog 35 #[.slice B (dq v) e] W' (LenR W' L3)))
    (hm : 1 ≤ many ∧ many ≤ 40 ∧ 1 ≤ mode ∧ mode ≤ 7) (hu : (u == 0) = false) (he0 : (L1 : Int) - (L2 : Int) = e0) (hL : L1 ≤ 100000 ∧ L2 ≤ 100000) (he : (lt < 0 ∧ e = e0 - 1) ∨ (¬ lt < 0 ∧ e = e0)) (hs : many - 1 - e = s) (hq : s = (q : Int)) (h6 : q ≤ 60) (h3 : ¬ many < (L3 : Int) ∨ (many < (L3 : Int) ∧ q = 0)) : Calls Tryz.prog 15 #[.agg #[.bool b, .slice A (dq n) c, .slice A' (dq d) c'], .int .i64 many, .int .i64 mode] W (DSg W 0 sg v q) := by
  obtain ⟨W0, hW0⟩ : ∃ X, X = (W.alloc (.cells #[.bool b, .slice A (dq n) c, .slice A' (dq d) c'] 38)).alloc (.cells #[.bool false, .slice none 0 0, .int .i64 0] 50) := ⟨_, rfl⟩
  have HB : Bel W W0 := by rw [hW0]; exact ((Bel.refl W).al _).al _
  have HA : At W0 W.heap.size [.bool b, .slice A (dq n) c, .slice A' (dq d) c'] := by rw [hW0]; exact (at_new0 _ _ _).al _
  have HR : At W0 (W.heap.size + 1) [.bool false, .slice none 0 0, .int .i64 0] := by rw [hW0]; exact at_new1 _ _ _ _
  have HZ : Ez W0 (W.heap.size + 1) := by
    rw [hW0]
    have h9 := ez_newT (W.alloc (.cells #[.bool b, .slice A (dq n) c, .slice A' (dq d) c'] 38)) (.bool false) (.slice none 0 0) (.int .i64 0) 50
    rwa [show (W.alloc (.cells #[.bool b, .slice A (dq n) c, .slice A' (dq d) c'] 38)).heap.size = W.heap.size + 1 by simp] at h9
  have HW0 := hide hW0
  clear hW0
  have d1 : ¬ many < 1 := by omega
  have d2 : ¬ 40 < many := by omega
  have d3 : ¬ mode < 1 := by omega
  have d4 : ¬ 7 < mode := by omega
  have x1 : IntKind.i64.wrap ((L1 : Int) - (L2 : Int)) = e0 := by rw [he0]; exact IntWalk.i64_in _ (by omega)
  have x2 : IntKind.i64.wrap (e0 - 1) = e0 - 1 := IntWalk.i64_in _ (by omega)
  have x3 : IntKind.i64.wrap (many - 1) = many - 1 := IntWalk.i64_in _ (by omega)
  have x4 : IntKind.i64.wrap (many - 1 - e) = s := by rw [hs]; exact IntWalk.i64_in _ (by omega)
  have HE := hide he
  have HSS := hide (show -200100 ≤ s ∧ s ≤ 200100 by omega)
  clear hm he0 hL he hs
  have ha_0 := HA.c0
  have ha_1 := HA.c1
  have ha_2 := HA.c2
  have ha_l := HA.lt
  go_enter Tryz.func15, Tryz.ntmps15
  go_upto_region 1 with fail
  rw [← HW0.out]
  go_upto_region 5 with (first | (go_at_call 44; (with_reducible refine (CS.out _ HB).mono ?_); rintro e w1 ⟨rfl, hbk⟩; (with_reducible (replace HA := HA.up hbk; replace HR := HR.up hbk; replace HZ := HZ.up hbk; replace HB := HB.up hbk)); clear ha_0 ha_1 ha_2 ha_l) | fail)
  clear HW0 d1 d2 d3 d4 CS
  go_cut [8] from 40 to 46 (fun v w' => ∃ pm, v = .pointer (some ⟨pm, 0, none⟩) ∧ At w' pm [.bool false, .slice A (dq n) c, .slice A' (dq d) c'] ∧ Bel w1 w')
  case first =>
    have HW := Bel.refl w1
    have la := HA.lt
    go_region_held3 (fun w' => w'.cell? ⟨W.heap.size, 0, none⟩ = some (.bool b) ∧ w'.cell? ⟨W.heap.size, 1, none⟩ = some (.slice A (dq n) c) ∧ w'.cell? ⟨W.heap.size, 2, none⟩ = some (.slice A' (dq d) c'))
      (refine ⟨(?_ : At _ W.heap.size [.bool b, .slice A (dq n) c, .slice A' (dq d) c']).c0, (?_ : At _ W.heap.size [.bool b, .slice A (dq n) c, .slice A' (dq d) c']).c1, (?_ : At _ W.heap.size [.bool b, .slice A (dq n) c, .slice A' (dq d) c']).c2⟩ <;> (repeat (first | with_reducible exact HA | (with_reducible refine At.dr ?_) | (with_reducible refine At.al ?_ _) | (with_reducible refine At.far ?_ (by omega) _))))
      (first | (go_at_call 24; (with_reducible refine (CZ.out _ HB.dr).mono ?_); rintro e w2 ⟨rfl, nz, hbk⟩; (with_reducible (replace HB := HB.dr.up hbk; replace HW := HW.dr.up hbk; replace HA := HA.dr.up hbk)); (try have hp0_0 := HP0.c0); (try have hp0_1 := HP0.c1); (try have hp0_2 := HP0.c2); (try have fhp0_0 := HP0.f0); (try have fhp0_1 := HP0.f1); (try have fhp0_2 := HP0.f2); (try have lhp0 := HP0.lt); have lz0 := HA.lt; have zs1 := Below.size HW) | (go_at_call 24; (with_reducible refine (CZ.out _ (HB.al _).dr).mono ?_); rintro e w2 ⟨rfl, nz, hbk⟩; (with_reducible (have HP0 := At.up (at_new0 _ [.bool false, .slice none 0 0, .slice none 0 0] _).dr hbk; replace HB := (HB.al _).dr.up hbk; replace HW := (HW.al _).dr.up hbk; replace HA := (HA.al _).dr.up hbk)); (try have hp0_0 := HP0.c0); (try have hp0_1 := HP0.c1); (try have hp0_2 := HP0.c2); (try have fhp0_0 := HP0.f0); (try have fhp0_1 := HP0.f1); (try have fhp0_2 := HP0.f2); (try have lhp0 := HP0.lt); have lz0 := HA.lt; have zs1 := Below.size HW) | fail)
    all_goals
      go_wp2_with fail
      go_meet
      case rel =>
        refine ⟨_, rfl, ?_, ?_⟩ <;> (repeat (first | with_reducible exact HW | with_reducible exact HP0 | with_reducible exact at_new0 _ _ _ | (with_reducible refine Bel.dr ?_) | (with_reducible refine Bel.al ?_ _) | (with_reducible refine Bel.uput3 ?_ (by omega) _ _ _) | (with_reducible refine At.dr ?_) | (with_reducible refine At.al ?_ _) | (with_reducible refine At.uput3 (v0 := .bool false) (v1 := .slice none 0 0) (v2 := .slice none 0 0) ?_ _ _ _)))
  case rest =>
    obtain ⟨pm, rfl, HM, hW⟩ := hcut
    replace HA := HA.up hW.hid
    replace HR := HR.up hW.hid
    replace HZ := HZ.up hW.hid
    replace HB := HB.up hW.hid
    clear hW CZ
    obtain ⟨W1, hW1⟩ : ∃ X, X = wc := ⟨_, rfl⟩
    subst hW1
    go_upto_region 6 with fail
    go_cut [9] from 47 to 56 (fun v w' => v = .int .i64 e0 ∧ Bel W1 w')
    case first =>
      have HW := Bel.refl W1
      replace HB := HB.dr
      replace HW := HW.dr
      replace HA := HA.dr
      refine wp_region_held_drew (S := fun w' => w'.cell? ⟨W.heap.size, 0, none⟩ = some (.bool b) ∧ w'.cell? ⟨W.heap.size, 1, none⟩ = some (.slice A (dq n) c) ∧ w'.cell? ⟨W.heap.size, 2, none⟩ = some (.slice A' (dq d) c')) (by kernel_rfl) ?_ (fun hHeld => ?_)
      · exact ⟨HA.c0, HA.c1, HA.c2⟩
      generalize W1.drew = Wd at *
      (refine wpAnyH_take (i := 0) (v := ?_) rfl (by decide +kernel) (by decide +kernel) (by decide +kernel) (fun _ _ _ h => h) (Or.inl ⟨by rfl, ?_⟩) (by assumption) ?_; rotate_left; (focus ((intro w hSw; (try dsimp only at hSw); go_simp); (try (with_reducible rfl)); done)); (try simp only [List.getElem_toArray, List.getElem_cons_zero, List.getElem_cons_succ, Act.put, List.setIfInBounds_toArray, List.set_cons_zero, List.set_cons_succ]))
      (refine wpAnyH_take (i := 1) (v := ?_) rfl (by decide +kernel) (by decide +kernel) (by decide +kernel) (fun _ _ _ h => h) (Or.inl ⟨by rfl, ?_⟩) (by assumption) ?_; rotate_left; (focus ((intro w hSw; (try dsimp only at hSw); go_simp); (try (with_reducible rfl)); done)); (try simp only [List.getElem_toArray, List.getElem_cons_zero, List.getElem_cons_succ, Act.put, List.setIfInBounds_toArray, List.set_cons_zero, List.set_cons_succ]))
      (refine wpAnyH_take (i := 2) (v := ?_) rfl (by decide +kernel) (by decide +kernel) (by decide +kernel) (fun _ _ _ h => h) (Or.inl ⟨by rfl, ?_⟩) (by assumption) ?_; rotate_left; (focus ((intro w hSw; (try dsimp only at hSw); go_simp); (try (with_reducible rfl)); done)); (try simp only [List.getElem_toArray, List.getElem_cons_zero, List.getElem_cons_succ, Act.put, List.setIfInBounds_toArray, List.set_cons_zero, List.set_cons_succ]))
      (refine wpAnyH_take (i := 5) (v := ?_) rfl (by decide +kernel) (by decide +kernel) (by decide +kernel) (fun _ _ _ h => h) (Or.inl ⟨by rfl, ?_⟩) (by assumption) ?_; rotate_left; (focus ((intro w hSw; (try dsimp only at hSw); go_simp); (try (with_reducible rfl)); done)); (try simp only [List.getElem_toArray, List.getElem_cons_zero, List.getElem_cons_succ, Act.put, List.setIfInBounds_toArray, List.set_cons_zero, List.set_cons_succ]))
      (refine wpAnyH_take (i := 6) (v := ?_) rfl (by decide +kernel) (by decide +kernel) (by decide +kernel) (fun _ _ _ h => h) (Or.inl ⟨by rfl, ?_⟩) (by assumption) ?_; rotate_left; (focus ((intro w hSw; (try dsimp only at hSw); go_simp); (try (with_reducible rfl)); done)); (try simp only [List.getElem_toArray, List.getElem_cons_zero, List.getElem_cons_succ, Act.put, List.setIfInBounds_toArray, List.set_cons_zero, List.set_cons_succ]))
      (refine wpAnyH_ready (rs := [3]) (by decide +kernel) (by simp) ?_; refine AllReadyH.cons rfl (fun K hK => ?_) AllReadyH.nil; go_simp; (go_at_call 35; (with_reducible refine (CT1.out _ HB).mono ?_); rintro e w3 ⟨t1, rfl, ht1, hbk⟩; (with_reducible (replace HB := HB.up hbk; replace HW := HW.up hbk; replace HA := HA.up hbk)); have hl1 := ht1.out); (try (go_wp2_with fail)); refine hK.out _ _ ?_ (fun hHeld => ?_); (focus ((try dsimp only); (with_reducible exact ⟨HA.c0, HA.c1, HA.c2⟩))); clear hK K; (try simp only [List.getElem_toArray, List.getElem_cons_zero, List.getElem_cons_succ, Act.put, List.setIfInBounds_toArray, List.set_cons_zero, List.set_cons_succ]))
      (refine wpAnyH_take (i := 4) (v := ?_) rfl (by decide +kernel) (by decide +kernel) (by decide +kernel) (fun _ _ _ h => h) (Or.inl ⟨by rfl, ?_⟩) (by assumption) ?_; rotate_left; (focus ((intro w hSw; (try dsimp only at hSw); go_simp); (try (with_reducible rfl)); done)); (try simp only [List.getElem_toArray, List.getElem_cons_zero, List.getElem_cons_succ, Act.put, List.setIfInBounds_toArray, List.set_cons_zero, List.set_cons_succ]))
      (refine wpAnyH_ready (rs := [7]) (by decide +kernel) (by simp) ?_; refine AllReadyH.cons rfl (fun K hK => ?_) AllReadyH.nil; go_simp; (go_at_call 35; (with_reducible refine (CT2.out _ HB).mono ?_); rintro e w4 ⟨t2, rfl, ht2, hbk⟩; (with_reducible (replace HB := HB.up hbk; replace HW := HW.up hbk; replace HA := HA.up hbk)); have hl2 := ht2.out); (try (go_wp2_with fail)); refine hK.out _ _ ?_ (fun hHeld => ?_); (focus ((try dsimp only); (with_reducible exact ⟨HA.c0, HA.c1, HA.c2⟩))); clear hK K; (try simp only [List.getElem_toArray, List.getElem_cons_zero, List.getElem_cons_succ, Act.put, List.setIfInBounds_toArray, List.set_cons_zero, List.set_cons_succ]))
      (refine wpAnyH_take (i := 8) (v := ?_) rfl (by decide +kernel) (by decide +kernel) (by decide +kernel) (fun _ _ _ h => h) (Or.inl ⟨by rfl, ?_⟩) (by assumption) ?_; rotate_left; (focus ((intro w hSw; (try dsimp only at hSw); go_simp); (try (with_reducible rfl)); done)); (try simp only [List.getElem_toArray, List.getElem_cons_zero, List.getElem_cons_succ, Act.put, List.setIfInBounds_toArray, List.set_cons_zero, List.set_cons_succ]))
      (refine wpAnyH_take (i := 9) (v := ?_) rfl (by decide +kernel) (by decide +kernel) (by decide +kernel) (fun _ _ _ h => h) (Or.inl ⟨by rfl, ?_⟩) (by assumption) ?_; rotate_left; (focus ((intro w hSw; (try dsimp only at hSw); go_simp); (try (with_reducible rfl)); done)); (try simp only [List.getElem_toArray, List.getElem_cons_zero, List.getElem_cons_succ, Act.put, List.setIfInBounds_toArray, List.set_cons_zero, List.set_cons_succ]))
      (refine wpAnyH_take (i := 10) (v := ?_) rfl (by decide +kernel) (by decide +kernel) (by decide +kernel) (fun _ _ _ h => h) (Or.inl ⟨by rfl, ?_⟩) (by assumption) ?_; rotate_left; (focus ((intro w hSw; (try dsimp only at hSw); go_simp); (try (with_reducible rfl)); done)); (try simp only [List.getElem_toArray, List.getElem_cons_zero, List.getElem_cons_succ, Act.put, List.setIfInBounds_toArray, List.set_cons_zero, List.set_cons_succ]))
      refine wpAnyH_done (by decide +kernel) ?_ _
      go_wp2_with fail
      go_meet
      case rel => exact ⟨rfl, HW⟩
    case rest =>
      obtain ⟨rfl, hW⟩ := hcut
      replace HA := HA.up hW.hid
      replace HR := HR.up hW.hid
      replace HZ := HZ.up hW.hid
      replace HB := HB.up hW.hid
      replace HM := HM.up hW.hid
      clear hW CT1 CT2 x1
      obtain ⟨W2, hW2⟩ : ∃ X, X = wc := ⟨_, rfl⟩
      subst hW2
      go_upto_region 8 with (first | (go_at_call 22; (with_reducible refine (CQ.out _).mono ?_); rintro e w5 ⟨Bi, ei, Bj, ej, rfl, ki, kj, hbk⟩; (with_reducible (replace HA := HA.up hbk; replace HR := HR.up hbk; replace HZ := HZ.up hbk; replace HB := HB.up hbk; replace HM := HM.up hbk))) | (go_at_call 45; (with_reducible refine (CP.out _ _ _ _ _ ki kj).mono ?_); rintro e w6 ⟨Bp, ep, Bq, eq, rfl, kp, kq, hbk⟩; (with_reducible (replace HA := HA.up hbk; replace HR := HR.up hbk; replace HZ := HZ.up hbk; replace HB := HB.up hbk; replace HM := HM.up hbk))) | fail)
      refine wp_named ?_
      intro W3 hW3
      replace HB : Bel W W3 := by rw [hW3]; exact Bel.al HB _
      replace HA : At W3 W.heap.size [.bool b, .slice A (dq n) c, .slice A' (dq d) c'] := by rw [hW3]; exact HA.al _
      replace HR : At W3 (W.heap.size + 1) [.bool false, .slice none 0 0, .int .i64 0] := by rw [hW3]; exact HR.al _
      replace HZ : Ez W3 (W.heap.size + 1) := by rw [hW3]; exact HZ.al _
      replace HM : At W3 pm [.bool false, .slice A (dq n) c, .slice A' (dq d) c'] := by rw [hW3]; exact HM.al _
      replace kp : Rz W3 false Bp ep p.num := by rw [hW3]; exact kp.al _
      replace kq : Rn W3 Bq eq p.den := by rw [hW3]; exact kq.al _
      have HX : At W3 w6.heap.size [.bool false, .slice Bp (dq p.num.natAbs) ep, .slice Bq (dq p.den) eq] := by rw [hW3]; exact at_new0 _ _ _
      obtain ⟨px, hpx⟩ : ∃ q, q = w6.heap.size := ⟨_, rfl⟩
      rw [← hpx] at HX ⊢
      clear hpx hW3 CQ CP
      have hm_0 := HM.c0
      have hm_1 := HM.c1
      have hm_2 := HM.c2
      have hm_l := HM.lt
      have hx_0 := HX.c0
      have hx_1 := HX.c1
      have hx_2 := HX.c2
      have hx_l := HX.lt
      go_upto_if 66 with (first | (go_at_call 38; (with_reducible refine (CC.out _ _ _ _ _ HB kp kq).mono ?_); rintro e w7 ⟨rfl, hbk⟩; (with_reducible (replace HA := HA.up hbk; replace HR := HR.up hbk; replace HZ := HZ.up hbk; replace HB := HB.up hbk)); clear hm_0 hm_1 hm_2 hm_l hx_0 hx_1 hx_2 hx_l) | fail)
      clear CC HM HX kp kq
      go_cut [9] from 67 to 68 (fun v w' => v = .int .i64 e ∧ w' = w7)
      case first =>
        rcases HE.out with ⟨k1, k2⟩ | ⟨k1, k2⟩
        · have k3 : decide (lt < 0) = true := decide_eq_true k1
          go_wp2_with fail
          go_meet
          case rel => exact ⟨by rw [k2], rfl⟩
        · have k3 : decide (lt < 0) = false := decide_eq_false (by omega)
          go_wp2_with fail
          go_meet
          case rel => exact ⟨by rw [k2], rfl⟩
      case rest =>
        obtain ⟨rfl, hW⟩ := hcut
        rw [hW]
        clear hW HE
        go_upto_region 11 with fail
        clear x2 x3 x4
        have k6 : ¬ 60 < s := by omega
        have k7 : (0 : Int) ≤ s := by omega
        have ha_0 := HA.c0
        have ha_1 := HA.c1
        have ha_2 := HA.c2
        have ha_l := HA.lt
        go_upto_region 15 with (first | (go_at_call 14; (with_reducible refine (CTo.out _ HB).mono ?_); rintro e w8 ⟨u8, D, n8, cc, k8, rfl, hk, hbk⟩; (with_reducible (replace HA := HA.up hbk; replace HR := HR.up hbk; replace HZ := HZ.up hbk; replace HB := HB.up hbk)); clear ha_0 ha_1 ha_2 ha_l; obtain ⟨e1, e2, e3, rn⟩ := hk rfl; subst u8; subst n8; subst k8; have HRL := hide HR.lt) | fail)
        refine wp_named ?_
        intro W5 hW5
        replace HB : Bel W W5 := by rw [hW5]; exact Bel.al HB _
        replace HR : At W5 (W.heap.size + 1) [.bool false, .slice none 0 0, .int .i64 0] := by rw [hW5]; exact HR.al _
        replace HZ : Ez W5 (W.heap.size + 1) := by rw [hW5]; exact HZ.al _
        replace rn : Rn W5 D cc v := by rw [hW5]; exact rn.al _
        have HX : At W5 w8.heap.size [.bool sg, .slice D (dq v) cc, .int .i64 (q : Int)] := by rw [hW5]; exact at_new0 _ _ _
        have hpr : W.heap.size + 1 < w8.heap.size := by have h9 := HRL.out; omega
        obtain ⟨pd, hpd⟩ : ∃ q, q = w8.heap.size := ⟨_, rfl⟩
        rw [← hpd] at HX hpr ⊢
        clear hpd hW5 CTo
        have hx_0 := HX.c0
        have hx_1 := HX.c1
        have hx_2 := HX.c2
        have hx_l := HX.lt
        rcases h3 with h3 | ⟨h3, h0⟩
        · have k9 : decide (many < (L3 : Int)) = false := decide_eq_false (by omega)
          go_wp2_with (first | (go_at_call 35; (with_reducible refine (CT3.out _ _ _ rn).mono ?_); rintro e w9 ⟨tt, rfl, htt, hbk⟩; (with_reducible (replace HR := HR.up hbk; replace HZ := HZ.up hbk; replace HX := HX.up hbk; replace rn := rn.up hbk; replace HB := HB.up hbk)); clear hx_0 hx_1 hx_2 hx_l; have hl3 := htt.out; have hx_0 := HX.c0; have hx_1 := HX.c1; have hx_2 := HX.c2; have hx_l := HX.lt; have hr_0 := HR.c0; have hr_1 := HR.c1; have hr_2 := HR.c2; have hr_l := HR.lt; have hr_f0 := HR.f0; have hr_f1 := HR.f1; have hr_f2 := HR.f2) | fail)
          refine name_end ?_
          intro W4 hW4
          have HF : At W4 (W.heap.size + 1) [.bool sg, .slice D (dq v) cc, .int .i64 (q : Int)] := by rw [hW4]; first | exact HR.put3 _ _ _ | exact (HR.put3 _ _ _).al _
          have BF : Bel W W4 := by rw [hW4]; exact below3 HB (by omega) _ _ _
          have NF : Rn W4 D cc v := by rw [hW4]; exact rn_dbox rn hr_0 hr_1 hr_2 HZ.2 _ _ _ _ _
          clear hW4 hr_0 hr_1 hr_2 hr_l hr_f0 hr_f1 hr_f2
          have hr_0 := HF.c0
          have hr_1 := HF.c1
          have hr_2 := HF.c2
          refine bodyPost_ret (v := .tuple #[.agg #[.bool sg, .slice D (dq v) cc, .int .i64 (q : Int)], .int .i64 0]) (by simp [results, Tryz.results15, go_sem, hr_0, hr_1, hr_2]) rfl ?_
          exact ⟨_, _, _, _, _, rfl, fun _ => ⟨rfl, rfl, rfl, NF⟩, BF⟩
        · have k9 : decide (many < (L3 : Int)) = true := decide_eq_true h3
          subst h0
          go_wp2_with (first | (go_at_call 35; (with_reducible refine (CT3.out _ _ _ rn).mono ?_); rintro e w9 ⟨tt, rfl, htt, hbk⟩; (with_reducible (replace HR := HR.up hbk; replace HZ := HZ.up hbk; replace HX := HX.up hbk; replace rn := rn.up hbk; replace HB := HB.up hbk)); clear hx_0 hx_1 hx_2 hx_l; have hl3 := htt.out; have hx_0 := HX.c0; have hx_1 := HX.c1; have hx_2 := HX.c2; have hx_l := HX.lt; have hr_0 := HR.c0; have hr_1 := HR.c1; have hr_2 := HR.c2; have hr_l := HR.lt; have hr_f0 := HR.f0; have hr_f1 := HR.f1; have hr_f2 := HR.f2) | fail)
          refine name_end ?_
          intro W4 hW4
          have HF : At W4 (W.heap.size + 1) [.bool sg, .slice D (dq v) cc, .int .i64 0] := by rw [hW4]; first | exact HR.put3 _ _ _ | exact (HR.put3 _ _ _).al _
          have BF : Bel W W4 := by rw [hW4]; exact below3 HB (by omega) _ _ _
          have NF : Rn W4 D cc v := by rw [hW4]; exact rn_dbox rn hr_0 hr_1 hr_2 HZ.2 _ _ _ _ _
          clear hW4 hr_0 hr_1 hr_2 hr_l hr_f0 hr_f1 hr_f2
          have hr_0 := HF.c0
          have hr_1 := HF.c1
          have hr_2 := HF.c2
          refine bodyPost_ret (v := .tuple #[.agg #[.bool sg, .slice D (dq v) cc, .int .i64 0], .int .i64 0]) (by simp [results, Tryz.results15, go_sem, hr_0, hr_1, hr_2]) rfl ?_
          exact ⟨_, _, _, _, _, rfl, fun _ => ⟨rfl, rfl, rfl, NF⟩, BF⟩
set_option maxHeartbeats 16000000 in
theorem rsig_more {u lt e0 e i10 s : Int} {L1 L2 n1 : Nat} {p : Rat}{sg : Bool} {v q j L3 n10 qv rv : Nat} 
    (CS : Hid (∀ W', Bel W W' → Calls Tryz.prog 44 #[.agg #[.bool b, .slice A (dq n) c, .slice A' (dq d) c']] W' (IntPost W' u)))
    (CZ : Hid (∀ W', Bel W W' → Calls Tryz.prog 24 #[.bool false, .slice A (dq n) c] W' (RZb W' false A (dq n) c n)))
    (CT1 : Hid (∀ W', Bel W W' → Calls Tryz.prog 35 #[.slice A (dq n) c] W' (LenR W' L1)))
    (CT2 : Hid (∀ W', Bel W W' → Calls Tryz.prog 35 #[.slice A' (dq d) c'] W' (LenR W' L2)))
    (CQ : Hid (∀ W', Calls Tryz.prog 22 #[.int .i64 10] W' (RQm W' false i10 n1)))
    (CP : Hid (∀ W' B e B' e', Rz W' false B e i10 → Rn W' B' e' n1 → Calls Tryz.prog 45 #[.agg #[.bool false, .slice B (dq i10.natAbs) e, .slice B' (dq n1) e'], .int .i64 e0] W' (RQt W' false p.num p.den)))
    (CC : Hid (∀ W' B e B' e', Bel W W' → Rz W' false B e p.num → Rn W' B' e' p.den → Calls Tryz.prog 38 #[.agg #[.bool false, .slice A (dq n) c, .slice A' (dq d) c'], .agg #[.bool false, .slice B (dq p.num.natAbs) e, .slice B' (dq p.den) e']] W' (IntPost W' lt)))
    (CTo : Hid (∀ W', Bel W W' → Calls Tryz.prog 14 #[.agg #[.bool b, .slice A (dq n) c, .slice A' (dq d) c'], .int .i64 (q : Int), .int .i64 mode] W' (DTo W' true sg v q)))
    (CT3 : Hid (∀ W' B e, Rn W' B e v → Calls Tryz.prog 35 #[.slice B (dq v) e] W' (LenR W' L3)))
    (CSm : Hid (∀ W', Calls Tryz.prog 41 #[.int .u64 10] W' (RefRz W' n10)))
    (CD : Hid (∀ W' B e C f, Rn W' B e v → Rn W' C f n10 → Calls Tryz.prog 42 #[.slice B (dq v) e, .slice C (dq n10) f] W' (RDivF W' qv rv)))
    (hm : 1 ≤ many ∧ many ≤ 40 ∧ 1 ≤ mode ∧ mode ≤ 7) (hu : (u == 0) = false) (he0 : (L1 : Int) - (L2 : Int) = e0) (hL : L1 ≤ 100000 ∧ L2 ≤ 100000) (he : (lt < 0 ∧ e = e0 - 1) ∨ (¬ lt < 0 ∧ e = e0)) (hs : many - 1 - e = s) (hq : s = (q : Int)) (h6 : q ≤ 60) (h3 : many < (L3 : Int)) (h0 : 0 < q) (hj : (q : Int) - 1 = (j : Int)) : Calls Tryz.prog 15 #[.agg #[.bool b, .slice A (dq n) c, .slice A' (dq d) c'], .int .i64 many, .int .i64 mode] W (DSg W 0 sg qv j) := by
  obtain ⟨W0, hW0⟩ : ∃ X, X = (W.alloc (.cells #[.bool b, .slice A (dq n) c, .slice A' (dq d) c'] 38)).alloc (.cells #[.bool false, .slice none 0 0, .int .i64 0] 50) := ⟨_, rfl⟩
  have HB : Bel W W0 := by rw [hW0]; exact ((Bel.refl W).al _).al _
  have HA : At W0 W.heap.size [.bool b, .slice A (dq n) c, .slice A' (dq d) c'] := by rw [hW0]; exact (at_new0 _ _ _).al _
  have HR : At W0 (W.heap.size + 1) [.bool false, .slice none 0 0, .int .i64 0] := by rw [hW0]; exact at_new1 _ _ _ _
  have HZ : Ez W0 (W.heap.size + 1) := by
    rw [hW0]
    have h9 := ez_newT (W.alloc (.cells #[.bool b, .slice A (dq n) c, .slice A' (dq d) c'] 38)) (.bool false) (.slice none 0 0) (.int .i64 0) 50
    rwa [show (W.alloc (.cells #[.bool b, .slice A (dq n) c, .slice A' (dq d) c'] 38)).heap.size = W.heap.size + 1 by simp] at h9
  have HW0 := hide hW0
  clear hW0
  have d1 : ¬ many < 1 := by omega
  have d2 : ¬ 40 < many := by omega
  have d3 : ¬ mode < 1 := by omega
  have d4 : ¬ 7 < mode := by omega
  have x1 : IntKind.i64.wrap ((L1 : Int) - (L2 : Int)) = e0 := by rw [he0]; exact IntWalk.i64_in _ (by omega)
  have x2 : IntKind.i64.wrap (e0 - 1) = e0 - 1 := IntWalk.i64_in _ (by omega)
  have x3 : IntKind.i64.wrap (many - 1) = many - 1 := IntWalk.i64_in _ (by omega)
  have x4 : IntKind.i64.wrap (many - 1 - e) = s := by rw [hs]; exact IntWalk.i64_in _ (by omega)
  have HE := hide he
  have HSS := hide (show -200100 ≤ s ∧ s ≤ 200100 by omega)
  clear hm he0 hL he hs
  have ha_0 := HA.c0
  have ha_1 := HA.c1
  have ha_2 := HA.c2
  have ha_l := HA.lt
  go_enter Tryz.func15, Tryz.ntmps15
  go_upto_region 1 with fail
  rw [← HW0.out]
  go_upto_region 5 with (first | (go_at_call 44; (with_reducible refine (CS.out _ HB).mono ?_); rintro e w1 ⟨rfl, hbk⟩; (with_reducible (replace HA := HA.up hbk; replace HR := HR.up hbk; replace HZ := HZ.up hbk; replace HB := HB.up hbk)); clear ha_0 ha_1 ha_2 ha_l) | fail)
  clear HW0 d1 d2 d3 d4 CS
  go_cut [8] from 40 to 46 (fun v w' => ∃ pm, v = .pointer (some ⟨pm, 0, none⟩) ∧ At w' pm [.bool false, .slice A (dq n) c, .slice A' (dq d) c'] ∧ Bel w1 w')
  case first =>
    have HW := Bel.refl w1
    have la := HA.lt
    go_region_held3 (fun w' => w'.cell? ⟨W.heap.size, 0, none⟩ = some (.bool b) ∧ w'.cell? ⟨W.heap.size, 1, none⟩ = some (.slice A (dq n) c) ∧ w'.cell? ⟨W.heap.size, 2, none⟩ = some (.slice A' (dq d) c'))
      (refine ⟨(?_ : At _ W.heap.size [.bool b, .slice A (dq n) c, .slice A' (dq d) c']).c0, (?_ : At _ W.heap.size [.bool b, .slice A (dq n) c, .slice A' (dq d) c']).c1, (?_ : At _ W.heap.size [.bool b, .slice A (dq n) c, .slice A' (dq d) c']).c2⟩ <;> (repeat (first | with_reducible exact HA | (with_reducible refine At.dr ?_) | (with_reducible refine At.al ?_ _) | (with_reducible refine At.far ?_ (by omega) _))))
      (first | (go_at_call 24; (with_reducible refine (CZ.out _ HB.dr).mono ?_); rintro e w2 ⟨rfl, nz, hbk⟩; (with_reducible (replace HB := HB.dr.up hbk; replace HW := HW.dr.up hbk; replace HA := HA.dr.up hbk)); (try have hp0_0 := HP0.c0); (try have hp0_1 := HP0.c1); (try have hp0_2 := HP0.c2); (try have fhp0_0 := HP0.f0); (try have fhp0_1 := HP0.f1); (try have fhp0_2 := HP0.f2); (try have lhp0 := HP0.lt); have lz0 := HA.lt; have zs1 := Below.size HW) | (go_at_call 24; (with_reducible refine (CZ.out _ (HB.al _).dr).mono ?_); rintro e w2 ⟨rfl, nz, hbk⟩; (with_reducible (have HP0 := At.up (at_new0 _ [.bool false, .slice none 0 0, .slice none 0 0] _).dr hbk; replace HB := (HB.al _).dr.up hbk; replace HW := (HW.al _).dr.up hbk; replace HA := (HA.al _).dr.up hbk)); (try have hp0_0 := HP0.c0); (try have hp0_1 := HP0.c1); (try have hp0_2 := HP0.c2); (try have fhp0_0 := HP0.f0); (try have fhp0_1 := HP0.f1); (try have fhp0_2 := HP0.f2); (try have lhp0 := HP0.lt); have lz0 := HA.lt; have zs1 := Below.size HW) | fail)
    all_goals
      go_wp2_with fail
      go_meet
      case rel =>
        refine ⟨_, rfl, ?_, ?_⟩ <;> (repeat (first | with_reducible exact HW | with_reducible exact HP0 | with_reducible exact at_new0 _ _ _ | (with_reducible refine Bel.dr ?_) | (with_reducible refine Bel.al ?_ _) | (with_reducible refine Bel.uput3 ?_ (by omega) _ _ _) | (with_reducible refine At.dr ?_) | (with_reducible refine At.al ?_ _) | (with_reducible refine At.uput3 (v0 := .bool false) (v1 := .slice none 0 0) (v2 := .slice none 0 0) ?_ _ _ _)))
  case rest =>
    obtain ⟨pm, rfl, HM, hW⟩ := hcut
    replace HA := HA.up hW.hid
    replace HR := HR.up hW.hid
    replace HZ := HZ.up hW.hid
    replace HB := HB.up hW.hid
    clear hW CZ
    obtain ⟨W1, hW1⟩ : ∃ X, X = wc := ⟨_, rfl⟩
    subst hW1
    go_upto_region 6 with fail
    go_cut [9] from 47 to 56 (fun v w' => v = .int .i64 e0 ∧ Bel W1 w')
    case first =>
      have HW := Bel.refl W1
      replace HB := HB.dr
      replace HW := HW.dr
      replace HA := HA.dr
      refine wp_region_held_drew (S := fun w' => w'.cell? ⟨W.heap.size, 0, none⟩ = some (.bool b) ∧ w'.cell? ⟨W.heap.size, 1, none⟩ = some (.slice A (dq n) c) ∧ w'.cell? ⟨W.heap.size, 2, none⟩ = some (.slice A' (dq d) c')) (by kernel_rfl) ?_ (fun hHeld => ?_)
      · exact ⟨HA.c0, HA.c1, HA.c2⟩
      generalize W1.drew = Wd at *
      (refine wpAnyH_take (i := 0) (v := ?_) rfl (by decide +kernel) (by decide +kernel) (by decide +kernel) (fun _ _ _ h => h) (Or.inl ⟨by rfl, ?_⟩) (by assumption) ?_; rotate_left; (focus ((intro w hSw; (try dsimp only at hSw); go_simp); (try (with_reducible rfl)); done)); (try simp only [List.getElem_toArray, List.getElem_cons_zero, List.getElem_cons_succ, Act.put, List.setIfInBounds_toArray, List.set_cons_zero, List.set_cons_succ]))
      (refine wpAnyH_take (i := 1) (v := ?_) rfl (by decide +kernel) (by decide +kernel) (by decide +kernel) (fun _ _ _ h => h) (Or.inl ⟨by rfl, ?_⟩) (by assumption) ?_; rotate_left; (focus ((intro w hSw; (try dsimp only at hSw); go_simp); (try (with_reducible rfl)); done)); (try simp only [List.getElem_toArray, List.getElem_cons_zero, List.getElem_cons_succ, Act.put, List.setIfInBounds_toArray, List.set_cons_zero, List.set_cons_succ]))
      (refine wpAnyH_take (i := 2) (v := ?_) rfl (by decide +kernel) (by decide +kernel) (by decide +kernel) (fun _ _ _ h => h) (Or.inl ⟨by rfl, ?_⟩) (by assumption) ?_; rotate_left; (focus ((intro w hSw; (try dsimp only at hSw); go_simp); (try (with_reducible rfl)); done)); (try simp only [List.getElem_toArray, List.getElem_cons_zero, List.getElem_cons_succ, Act.put, List.setIfInBounds_toArray, List.set_cons_zero, List.set_cons_succ]))
      (refine wpAnyH_take (i := 5) (v := ?_) rfl (by decide +kernel) (by decide +kernel) (by decide +kernel) (fun _ _ _ h => h) (Or.inl ⟨by rfl, ?_⟩) (by assumption) ?_; rotate_left; (focus ((intro w hSw; (try dsimp only at hSw); go_simp); (try (with_reducible rfl)); done)); (try simp only [List.getElem_toArray, List.getElem_cons_zero, List.getElem_cons_succ, Act.put, List.setIfInBounds_toArray, List.set_cons_zero, List.set_cons_succ]))
      (refine wpAnyH_take (i := 6) (v := ?_) rfl (by decide +kernel) (by decide +kernel) (by decide +kernel) (fun _ _ _ h => h) (Or.inl ⟨by rfl, ?_⟩) (by assumption) ?_; rotate_left; (focus ((intro w hSw; (try dsimp only at hSw); go_simp); (try (with_reducible rfl)); done)); (try simp only [List.getElem_toArray, List.getElem_cons_zero, List.getElem_cons_succ, Act.put, List.setIfInBounds_toArray, List.set_cons_zero, List.set_cons_succ]))
      (refine wpAnyH_ready (rs := [3]) (by decide +kernel) (by simp) ?_; refine AllReadyH.cons rfl (fun K hK => ?_) AllReadyH.nil; go_simp; (go_at_call 35; (with_reducible refine (CT1.out _ HB).mono ?_); rintro e w3 ⟨t1, rfl, ht1, hbk⟩; (with_reducible (replace HB := HB.up hbk; replace HW := HW.up hbk; replace HA := HA.up hbk)); have hl1 := ht1.out); (try (go_wp2_with fail)); refine hK.out _ _ ?_ (fun hHeld => ?_); (focus ((try dsimp only); (with_reducible exact ⟨HA.c0, HA.c1, HA.c2⟩))); clear hK K; (try simp only [List.getElem_toArray, List.getElem_cons_zero, List.getElem_cons_succ, Act.put, List.setIfInBounds_toArray, List.set_cons_zero, List.set_cons_succ]))
      (refine wpAnyH_take (i := 4) (v := ?_) rfl (by decide +kernel) (by decide +kernel) (by decide +kernel) (fun _ _ _ h => h) (Or.inl ⟨by rfl, ?_⟩) (by assumption) ?_; rotate_left; (focus ((intro w hSw; (try dsimp only at hSw); go_simp); (try (with_reducible rfl)); done)); (try simp only [List.getElem_toArray, List.getElem_cons_zero, List.getElem_cons_succ, Act.put, List.setIfInBounds_toArray, List.set_cons_zero, List.set_cons_succ]))
      (refine wpAnyH_ready (rs := [7]) (by decide +kernel) (by simp) ?_; refine AllReadyH.cons rfl (fun K hK => ?_) AllReadyH.nil; go_simp; (go_at_call 35; (with_reducible refine (CT2.out _ HB).mono ?_); rintro e w4 ⟨t2, rfl, ht2, hbk⟩; (with_reducible (replace HB := HB.up hbk; replace HW := HW.up hbk; replace HA := HA.up hbk)); have hl2 := ht2.out); (try (go_wp2_with fail)); refine hK.out _ _ ?_ (fun hHeld => ?_); (focus ((try dsimp only); (with_reducible exact ⟨HA.c0, HA.c1, HA.c2⟩))); clear hK K; (try simp only [List.getElem_toArray, List.getElem_cons_zero, List.getElem_cons_succ, Act.put, List.setIfInBounds_toArray, List.set_cons_zero, List.set_cons_succ]))
      (refine wpAnyH_take (i := 8) (v := ?_) rfl (by decide +kernel) (by decide +kernel) (by decide +kernel) (fun _ _ _ h => h) (Or.inl ⟨by rfl, ?_⟩) (by assumption) ?_; rotate_left; (focus ((intro w hSw; (try dsimp only at hSw); go_simp); (try (with_reducible rfl)); done)); (try simp only [List.getElem_toArray, List.getElem_cons_zero, List.getElem_cons_succ, Act.put, List.setIfInBounds_toArray, List.set_cons_zero, List.set_cons_succ]))
      (refine wpAnyH_take (i := 9) (v := ?_) rfl (by decide +kernel) (by decide +kernel) (by decide +kernel) (fun _ _ _ h => h) (Or.inl ⟨by rfl, ?_⟩) (by assumption) ?_; rotate_left; (focus ((intro w hSw; (try dsimp only at hSw); go_simp); (try (with_reducible rfl)); done)); (try simp only [List.getElem_toArray, List.getElem_cons_zero, List.getElem_cons_succ, Act.put, List.setIfInBounds_toArray, List.set_cons_zero, List.set_cons_succ]))
      (refine wpAnyH_take (i := 10) (v := ?_) rfl (by decide +kernel) (by decide +kernel) (by decide +kernel) (fun _ _ _ h => h) (Or.inl ⟨by rfl, ?_⟩) (by assumption) ?_; rotate_left; (focus ((intro w hSw; (try dsimp only at hSw); go_simp); (try (with_reducible rfl)); done)); (try simp only [List.getElem_toArray, List.getElem_cons_zero, List.getElem_cons_succ, Act.put, List.setIfInBounds_toArray, List.set_cons_zero, List.set_cons_succ]))
      refine wpAnyH_done (by decide +kernel) ?_ _
      go_wp2_with fail
      go_meet
      case rel => exact ⟨rfl, HW⟩
    case rest =>
      obtain ⟨rfl, hW⟩ := hcut
      replace HA := HA.up hW.hid
      replace HR := HR.up hW.hid
      replace HZ := HZ.up hW.hid
      replace HB := HB.up hW.hid
      replace HM := HM.up hW.hid
      clear hW CT1 CT2 x1
      obtain ⟨W2, hW2⟩ : ∃ X, X = wc := ⟨_, rfl⟩
      subst hW2
      go_upto_region 8 with (first | (go_at_call 22; (with_reducible refine (CQ.out _).mono ?_); rintro e w5 ⟨Bi, ei, Bj, ej, rfl, ki, kj, hbk⟩; (with_reducible (replace HA := HA.up hbk; replace HR := HR.up hbk; replace HZ := HZ.up hbk; replace HB := HB.up hbk; replace HM := HM.up hbk))) | (go_at_call 45; (with_reducible refine (CP.out _ _ _ _ _ ki kj).mono ?_); rintro e w6 ⟨Bp, ep, Bq, eq, rfl, kp, kq, hbk⟩; (with_reducible (replace HA := HA.up hbk; replace HR := HR.up hbk; replace HZ := HZ.up hbk; replace HB := HB.up hbk; replace HM := HM.up hbk))) | fail)
      refine wp_named ?_
      intro W3 hW3
      replace HB : Bel W W3 := by rw [hW3]; exact Bel.al HB _
      replace HA : At W3 W.heap.size [.bool b, .slice A (dq n) c, .slice A' (dq d) c'] := by rw [hW3]; exact HA.al _
      replace HR : At W3 (W.heap.size + 1) [.bool false, .slice none 0 0, .int .i64 0] := by rw [hW3]; exact HR.al _
      replace HZ : Ez W3 (W.heap.size + 1) := by rw [hW3]; exact HZ.al _
      replace HM : At W3 pm [.bool false, .slice A (dq n) c, .slice A' (dq d) c'] := by rw [hW3]; exact HM.al _
      replace kp : Rz W3 false Bp ep p.num := by rw [hW3]; exact kp.al _
      replace kq : Rn W3 Bq eq p.den := by rw [hW3]; exact kq.al _
      have HX : At W3 w6.heap.size [.bool false, .slice Bp (dq p.num.natAbs) ep, .slice Bq (dq p.den) eq] := by rw [hW3]; exact at_new0 _ _ _
      obtain ⟨px, hpx⟩ : ∃ q, q = w6.heap.size := ⟨_, rfl⟩
      rw [← hpx] at HX ⊢
      clear hpx hW3 CQ CP
      have hm_0 := HM.c0
      have hm_1 := HM.c1
      have hm_2 := HM.c2
      have hm_l := HM.lt
      have hx_0 := HX.c0
      have hx_1 := HX.c1
      have hx_2 := HX.c2
      have hx_l := HX.lt
      go_upto_if 66 with (first | (go_at_call 38; (with_reducible refine (CC.out _ _ _ _ _ HB kp kq).mono ?_); rintro e w7 ⟨rfl, hbk⟩; (with_reducible (replace HA := HA.up hbk; replace HR := HR.up hbk; replace HZ := HZ.up hbk; replace HB := HB.up hbk)); clear hm_0 hm_1 hm_2 hm_l hx_0 hx_1 hx_2 hx_l) | fail)
      clear CC HM HX kp kq
      go_cut [9] from 67 to 68 (fun v w' => v = .int .i64 e ∧ w' = w7)
      case first =>
        rcases HE.out with ⟨k1, k2⟩ | ⟨k1, k2⟩
        · have k3 : decide (lt < 0) = true := decide_eq_true k1
          go_wp2_with fail
          go_meet
          case rel => exact ⟨by rw [k2], rfl⟩
        · have k3 : decide (lt < 0) = false := decide_eq_false (by omega)
          go_wp2_with fail
          go_meet
          case rel => exact ⟨by rw [k2], rfl⟩
      case rest =>
        obtain ⟨rfl, hW⟩ := hcut
        rw [hW]
        clear hW HE
        go_upto_region 11 with fail
        clear x2 x3 x4
        have k6 : ¬ 60 < s := by omega
        have k7 : (0 : Int) ≤ s := by omega
        have ha_0 := HA.c0
        have ha_1 := HA.c1
        have ha_2 := HA.c2
        have ha_l := HA.lt
        go_upto_region 15 with (first | (go_at_call 14; (with_reducible refine (CTo.out _ HB).mono ?_); rintro e w8 ⟨u8, D, n8, cc, k8, rfl, hk, hbk⟩; (with_reducible (replace HA := HA.up hbk; replace HR := HR.up hbk; replace HZ := HZ.up hbk; replace HB := HB.up hbk)); clear ha_0 ha_1 ha_2 ha_l; obtain ⟨e1, e2, e3, rn⟩ := hk rfl; subst u8; subst n8; subst k8; have HRL := hide HR.lt) | fail)
        refine wp_named ?_
        intro W5 hW5
        replace HB : Bel W W5 := by rw [hW5]; exact Bel.al HB _
        replace HR : At W5 (W.heap.size + 1) [.bool false, .slice none 0 0, .int .i64 0] := by rw [hW5]; exact HR.al _
        replace HZ : Ez W5 (W.heap.size + 1) := by rw [hW5]; exact HZ.al _
        replace rn : Rn W5 D cc v := by rw [hW5]; exact rn.al _
        have HX : At W5 w8.heap.size [.bool sg, .slice D (dq v) cc, .int .i64 (q : Int)] := by rw [hW5]; exact at_new0 _ _ _
        have hpr : W.heap.size + 1 < w8.heap.size := by have h9 := HRL.out; omega
        obtain ⟨pd, hpd⟩ : ∃ q, q = w8.heap.size := ⟨_, rfl⟩
        rw [← hpd] at HX hpr ⊢
        clear hpd hW5 CTo
        have hx_0 := HX.c0
        have hx_1 := HX.c1
        have hx_2 := HX.c2
        have hx_l := HX.lt
        have k9 : decide (many < (L3 : Int)) = true := decide_eq_true h3
        have xq : IntKind.i64.wrap ((q : Int) - 1) = (j : Int) := by rw [hj]; exact IntWalk.i64_in _ (by omega)
        go_upto_region 16 with (first | (go_at_call 35; (with_reducible refine (CT3.out _ _ _ rn).mono ?_); rintro e w9 ⟨tt, rfl, htt, hbk⟩; (with_reducible (replace HR := HR.up hbk; replace HZ := HZ.up hbk; replace HX := HX.up hbk; replace rn := rn.up hbk; replace HB := HB.up hbk)); clear hx_0 hx_1 hx_2 hx_l; have hl3 := htt.out; have hx_2 := HX.c2; have hx_l := HX.lt) | fail)
        clear hx_2 hx_l k6 k7
        replace HR := HR.dr
        replace HZ := HZ.dr
        replace HX := HX.dr
        replace rn := rn.dr
        replace HB := HB.dr
        refine wp_region_held_drew (S := fun w' => w'.cell? ⟨pd, 0, none⟩ = some (.bool sg) ∧ w'.cell? ⟨pd, 1, none⟩ = some (.slice D (dq v) cc) ∧ w'.cell? ⟨pd, 2, none⟩ = some (.int .i64 (q : Int))) (by kernel_rfl) ?_ (fun hHeld => ?_)
        · exact ⟨HX.c0, HX.c1, HX.c2⟩
        generalize w9.drew = Wd9 at *
        (refine wpAnyH_take (i := 0) (v := ?_) rfl (by decide +kernel) (by decide +kernel) (by decide +kernel) (fun _ _ _ h => h) (Or.inl ⟨by rfl, ?_⟩) (by assumption) ?_; rotate_left; (focus ((intro w hSw; (try dsimp only at hSw); go_simp); (try (with_reducible rfl)); done)); (try simp only [List.getElem_toArray, List.getElem_cons_zero, List.getElem_cons_succ, Act.put, List.setIfInBounds_toArray, List.set_cons_zero, List.set_cons_succ]))
        (refine wpAnyH_take (i := 1) (v := ?_) rfl (by decide +kernel) (by decide +kernel) (by decide +kernel) (fun _ _ _ h => h) (Or.inl ⟨by rfl, ?_⟩) (by assumption) ?_; rotate_left; (focus ((intro w hSw; (try dsimp only at hSw); go_simp); (try (with_reducible rfl)); done)); (try simp only [List.getElem_toArray, List.getElem_cons_zero, List.getElem_cons_succ, Act.put, List.setIfInBounds_toArray, List.set_cons_zero, List.set_cons_succ]))
        (refine wpAnyH_ready (rs := [2]) (by decide +kernel) (by simp) ?_; refine AllReadyH.cons rfl (fun K hK => ?_) AllReadyH.nil; go_simp; (go_at_call 41; (with_reducible refine (CSm.out _).mono ?_); rintro e z1 ⟨Bm, em, rfl, rm, hbk⟩; (with_reducible (replace HR := HR.up hbk; replace HZ := HZ.up hbk; replace HX := HX.up hbk; replace rn := rn.up hbk; replace HB := HB.up hbk))); (try (go_wp2_with fail)); refine hK.out _ _ ?_ (fun hHeld => ?_); (focus ((try dsimp only); (with_reducible exact ⟨HX.c0, HX.c1, HX.c2⟩))); clear hK K; (try simp only [List.getElem_toArray, List.getElem_cons_zero, List.getElem_cons_succ, Act.put, List.setIfInBounds_toArray, List.set_cons_zero, List.set_cons_succ]))
        (refine wpAnyH_ready (rs := [3]) (by decide +kernel) (by simp) ?_; refine AllReadyH.cons rfl (fun K hK => ?_) AllReadyH.nil; go_simp; (go_at_call 42; (with_reducible refine (CD.out _ _ _ _ _ rn rm).mono ?_); rintro e z2 ⟨J, jj, J', jj', rfl, hJ, rq, rr, hbk⟩; have hpJ := HX.lt; (with_reducible (replace HR := HR.up hbk; replace HZ := HZ.up hbk; replace HX := HX.up hbk; replace HB := HB.up hbk)); have hr_0 := HR.c0; have hr_1 := HR.c1; have hr_2 := HR.c2; have hr_l := HR.lt; have hr_f0 := HR.f0; have hr_f1 := HR.f1; have hr_f2 := HR.f2; have hx_0 := HX.c0; have hx_1 := HX.c1; have hx_2 := HX.c2; have hx_l := HX.lt; have hx_f0 := HX.f0; have hx_f1 := HX.f1; have hx_f2 := HX.f2); (try (go_wp2_with fail)); refine hK.out _ _ ?_ (fun hHeld => ?_); (focus ((try dsimp only); (with_reducible exact ⟨HX.c0, HX.c1, HX.c2⟩))); clear hK K; (try simp only [List.getElem_toArray, List.getElem_cons_zero, List.getElem_cons_succ, Act.put, List.setIfInBounds_toArray, List.set_cons_zero, List.set_cons_succ]))
        (refine wpAnyH_take (i := 4) (v := ?_) rfl (by decide +kernel) (by decide +kernel) (by decide +kernel) (fun _ _ _ h => h) (Or.inl ⟨by rfl, ?_⟩) (by assumption) ?_; rotate_left; (focus ((intro w hSw; (try dsimp only at hSw); go_simp); (try (with_reducible rfl)); done)); (try simp only [List.getElem_toArray, List.getElem_cons_zero, List.getElem_cons_succ, Act.put, List.setIfInBounds_toArray, List.set_cons_zero, List.set_cons_succ]))
        (refine wpAnyH_take (i := 5) (v := ?_) rfl (by decide +kernel) (by decide +kernel) (by decide +kernel) (fun _ _ _ h => h) (Or.inl ⟨by rfl, ?_⟩) (by assumption) ?_; rotate_left; (focus ((intro w hSw; (try dsimp only at hSw); go_simp); (try (with_reducible rfl)); done)); (try simp only [List.getElem_toArray, List.getElem_cons_zero, List.getElem_cons_succ, Act.put, List.setIfInBounds_toArray, List.set_cons_zero, List.set_cons_succ]))
        (refine wpAnyH_take (i := 6) (v := ?_) rfl (by decide +kernel) (by decide +kernel) (by decide +kernel) (fun _ _ _ h => h) (Or.inl ⟨by rfl, ?_⟩) (by assumption) ?_; rotate_left; (focus ((intro w hSw; (try dsimp only at hSw); go_simp); (try (with_reducible rfl)); done)); (try simp only [List.getElem_toArray, List.getElem_cons_zero, List.getElem_cons_succ, Act.put, List.setIfInBounds_toArray, List.set_cons_zero, List.set_cons_succ]))
        (refine wpAnyH_take (i := 7) (v := ?_) rfl (by decide +kernel) (by decide +kernel) (by decide +kernel) (fun _ _ _ h => h) (Or.inl ⟨by rfl, ?_⟩) (by assumption) ?_; rotate_left; (focus ((intro w hSw; (try dsimp only at hSw); go_simp); (try (with_reducible rfl)); done)); (try simp only [List.getElem_toArray, List.getElem_cons_zero, List.getElem_cons_succ, Act.put, List.setIfInBounds_toArray, List.set_cons_zero, List.set_cons_succ]))
        (refine wpAnyH_take (i := 8) (v := ?_) rfl (by decide +kernel) (by decide +kernel) (by decide +kernel) (fun _ _ _ h => h) (Or.inl ⟨by rfl, ?_⟩) (by assumption) ?_; rotate_left; (focus ((intro w hSw; (try dsimp only at hSw); go_simp); (try (with_reducible rfl)); done)); (try simp only [List.getElem_toArray, List.getElem_cons_zero, List.getElem_cons_succ, Act.put, List.setIfInBounds_toArray, List.set_cons_zero, List.set_cons_succ]))
        refine wpAnyH_done (by decide +kernel) ?_ _
        clear CSm CD CT3
        go_wp2_with fail
        refine name_end ?_
        intro W4 hW4
        have HR2 := (((HR.far (q := pd) (i := 0) (by omega) (.bool sg)).far (q := pd) (i := 1) (by omega) (.slice J (dq qv) jj)).far (q := pd) (i := 2) (by omega) (.int .i64 (j : Int)))
        have HZ2 := HZ.far3 (q := pd) (by omega) (.bool sg) (.slice J (dq qv) jj) (.int .i64 (j : Int))
        have RN2 := Rn.set3 (g := pd) (show Rn z2 J jj qv from rq) (fun _ ad e => by have h9 := hJ ad e; omega) (.bool sg) (.slice J (dq qv) jj) (.int .i64 (j : Int))
        have BF2 := below3 HB (p := pd) (by omega) (.bool sg) (.slice J (dq qv) jj) (.int .i64 (j : Int))
        have HF : At W4 (W.heap.size + 1) [.bool sg, .slice J (dq qv) jj, .int .i64 (j : Int)] := by rw [hW4]; exact HR2.put3 _ _ _
        have NF : Rn W4 J jj qv := by rw [hW4]; exact rn_dbox RN2 HR2.c0 HR2.c1 HR2.c2 HZ2.2 _ _ _ _ _
        have BF : Bel W W4 := by rw [hW4]; exact below3 BF2 (by omega) _ _ _
        clear hW4 hr_0 hr_1 hr_2 hr_l hr_f0 hr_f1 hr_f2
        have hr_0 := HF.c0
        have hr_1 := HF.c1
        have hr_2 := HF.c2
        refine bodyPost_ret (v := .tuple #[.agg #[.bool sg, .slice J (dq qv) jj, .int .i64 (j : Int)], .int .i64 0]) (by simp [results, Tryz.results15, go_sem, hr_0, hr_1, hr_2]) rfl ?_
        exact ⟨_, _, _, _, _, rfl, fun _ => ⟨rfl, rfl, rfl, NF⟩, BF⟩
set_option maxHeartbeats 16000000 in
theorem rsig_big {u lt e0 e i10 s : Int} {L1 L2 n1 : Nat} {p : Rat}{sg sx : Bool} {v tk nb k : Nat} {t i2 : Int} {x : Rat} 
    (CS : Hid (∀ W', Bel W W' → Calls Tryz.prog 44 #[.agg #[.bool b, .slice A (dq n) c, .slice A' (dq d) c']] W' (IntPost W' u)))
    (CZ : Hid (∀ W', Bel W W' → Calls Tryz.prog 24 #[.bool false, .slice A (dq n) c] W' (RZb W' false A (dq n) c n)))
    (CT1 : Hid (∀ W', Bel W W' → Calls Tryz.prog 35 #[.slice A (dq n) c] W' (LenR W' L1)))
    (CT2 : Hid (∀ W', Bel W W' → Calls Tryz.prog 35 #[.slice A' (dq d) c'] W' (LenR W' L2)))
    (CQ : Hid (∀ W', Calls Tryz.prog 22 #[.int .i64 10] W' (RQm W' false i10 n1)))
    (CP : Hid (∀ W' B e B' e', Rz W' false B e i10 → Rn W' B' e' n1 → Calls Tryz.prog 45 #[.agg #[.bool false, .slice B (dq i10.natAbs) e, .slice B' (dq n1) e'], .int .i64 e0] W' (RQt W' false p.num p.den)))
    (CC : Hid (∀ W' B e B' e', Bel W W' → Rz W' false B e p.num → Rn W' B' e' p.den → Calls Tryz.prog 38 #[.agg #[.bool false, .slice A (dq n) c, .slice A' (dq d) c'], .agg #[.bool false, .slice B (dq p.num.natAbs) e, .slice B' (dq p.den) e']] W' (IntPost W' lt)))
    (CTn : Hid (∀ W', Calls Tryz.prog 46 #[.int .i64 (k : Int)] W' (RefRz W' tk)))
    (CS1 : Hid (∀ W', Calls Tryz.prog 41 #[.int .u64 1] W' (RefRz W' nb)))
    (CV : Hid (∀ W' B e C f, Rn W' B e tk → Rn W' C f nb → Calls Tryz.prog 48 #[.agg #[.bool false, .slice B (dq tk) e, .slice C (dq nb) f]] W' (RQm W' false i2 tk)))
    (CM : Hid (∀ W' B e C f, Bel W W' → Rz W' false B e i2 → Rn W' C f tk → Calls Tryz.prog 47 #[.agg #[.bool b, .slice A (dq n) c, .slice A' (dq d) c'], .agg #[.bool false, .slice B (dq i2.natAbs) e, .slice C (dq tk) f]] W' (RQm W' sx x.num x.den)))
    (CI : Hid (∀ W' B e C f, Rz W' sx B e x.num → Rn W' C f x.den → Calls Tryz.prog 13 #[.agg #[.bool sx, .slice B (dq x.num.natAbs) e, .slice C (dq x.den) f], .int .i64 mode] W' (RZv W' sg t)))
    (CMu : Hid (∀ W' B e C f, Rz W' sg B e t → Rn W' C f tk → Calls Tryz.prog 49 #[.slice B (dq t.natAbs) e, .slice C (dq tk) f] W' (RefRz W' v)))
    (hm : 1 ≤ many ∧ many ≤ 40 ∧ 1 ≤ mode ∧ mode ≤ 7) (hu : (u == 0) = false) (he0 : (L1 : Int) - (L2 : Int) = e0) (hL : L1 ≤ 100000 ∧ L2 ≤ 100000) (he : (lt < 0 ∧ e = e0 - 1) ∨ (¬ lt < 0 ∧ e = e0)) (hs : many - 1 - e = s) (hk : -s = (k : Int)) (hk0 : s < 0) : Calls Tryz.prog 15 #[.agg #[.bool b, .slice A (dq n) c, .slice A' (dq d) c'], .int .i64 many, .int .i64 mode] W (DSg W 0 sg v 0) := by
  obtain ⟨W0, hW0⟩ : ∃ X, X = (W.alloc (.cells #[.bool b, .slice A (dq n) c, .slice A' (dq d) c'] 38)).alloc (.cells #[.bool false, .slice none 0 0, .int .i64 0] 50) := ⟨_, rfl⟩
  have HB : Bel W W0 := by rw [hW0]; exact ((Bel.refl W).al _).al _
  have HA : At W0 W.heap.size [.bool b, .slice A (dq n) c, .slice A' (dq d) c'] := by rw [hW0]; exact (at_new0 _ _ _).al _
  have HR : At W0 (W.heap.size + 1) [.bool false, .slice none 0 0, .int .i64 0] := by rw [hW0]; exact at_new1 _ _ _ _
  have HZ : Ez W0 (W.heap.size + 1) := by
    rw [hW0]
    have h9 := ez_newT (W.alloc (.cells #[.bool b, .slice A (dq n) c, .slice A' (dq d) c'] 38)) (.bool false) (.slice none 0 0) (.int .i64 0) 50
    rwa [show (W.alloc (.cells #[.bool b, .slice A (dq n) c, .slice A' (dq d) c'] 38)).heap.size = W.heap.size + 1 by simp] at h9
  have HW0 := hide hW0
  clear hW0
  have d1 : ¬ many < 1 := by omega
  have d2 : ¬ 40 < many := by omega
  have d3 : ¬ mode < 1 := by omega
  have d4 : ¬ 7 < mode := by omega
  have x1 : IntKind.i64.wrap ((L1 : Int) - (L2 : Int)) = e0 := by rw [he0]; exact IntWalk.i64_in _ (by omega)
  have x2 : IntKind.i64.wrap (e0 - 1) = e0 - 1 := IntWalk.i64_in _ (by omega)
  have x3 : IntKind.i64.wrap (many - 1) = many - 1 := IntWalk.i64_in _ (by omega)
  have x4 : IntKind.i64.wrap (many - 1 - e) = s := by rw [hs]; exact IntWalk.i64_in _ (by omega)
  have HE := hide he
  have HSS := hide (show -200100 ≤ s ∧ s ≤ 200100 by omega)
  clear hm he0 hL he hs
  have ha_0 := HA.c0
  have ha_1 := HA.c1
  have ha_2 := HA.c2
  have ha_l := HA.lt
  go_enter Tryz.func15, Tryz.ntmps15
  go_upto_region 1 with fail
  rw [← HW0.out]
  go_upto_region 5 with (first | (go_at_call 44; (with_reducible refine (CS.out _ HB).mono ?_); rintro e w1 ⟨rfl, hbk⟩; (with_reducible (replace HA := HA.up hbk; replace HR := HR.up hbk; replace HZ := HZ.up hbk; replace HB := HB.up hbk)); clear ha_0 ha_1 ha_2 ha_l) | fail)
  clear HW0 d1 d2 d3 d4 CS
  go_cut [8] from 40 to 46 (fun v w' => ∃ pm, v = .pointer (some ⟨pm, 0, none⟩) ∧ At w' pm [.bool false, .slice A (dq n) c, .slice A' (dq d) c'] ∧ Bel w1 w')
  case first =>
    have HW := Bel.refl w1
    have la := HA.lt
    go_region_held3 (fun w' => w'.cell? ⟨W.heap.size, 0, none⟩ = some (.bool b) ∧ w'.cell? ⟨W.heap.size, 1, none⟩ = some (.slice A (dq n) c) ∧ w'.cell? ⟨W.heap.size, 2, none⟩ = some (.slice A' (dq d) c'))
      (refine ⟨(?_ : At _ W.heap.size [.bool b, .slice A (dq n) c, .slice A' (dq d) c']).c0, (?_ : At _ W.heap.size [.bool b, .slice A (dq n) c, .slice A' (dq d) c']).c1, (?_ : At _ W.heap.size [.bool b, .slice A (dq n) c, .slice A' (dq d) c']).c2⟩ <;> (repeat (first | with_reducible exact HA | (with_reducible refine At.dr ?_) | (with_reducible refine At.al ?_ _) | (with_reducible refine At.far ?_ (by omega) _))))
      (first | (go_at_call 24; (with_reducible refine (CZ.out _ HB.dr).mono ?_); rintro e w2 ⟨rfl, nz, hbk⟩; (with_reducible (replace HB := HB.dr.up hbk; replace HW := HW.dr.up hbk; replace HA := HA.dr.up hbk)); (try have hp0_0 := HP0.c0); (try have hp0_1 := HP0.c1); (try have hp0_2 := HP0.c2); (try have fhp0_0 := HP0.f0); (try have fhp0_1 := HP0.f1); (try have fhp0_2 := HP0.f2); (try have lhp0 := HP0.lt); have lz0 := HA.lt; have zs1 := Below.size HW) | (go_at_call 24; (with_reducible refine (CZ.out _ (HB.al _).dr).mono ?_); rintro e w2 ⟨rfl, nz, hbk⟩; (with_reducible (have HP0 := At.up (at_new0 _ [.bool false, .slice none 0 0, .slice none 0 0] _).dr hbk; replace HB := (HB.al _).dr.up hbk; replace HW := (HW.al _).dr.up hbk; replace HA := (HA.al _).dr.up hbk)); (try have hp0_0 := HP0.c0); (try have hp0_1 := HP0.c1); (try have hp0_2 := HP0.c2); (try have fhp0_0 := HP0.f0); (try have fhp0_1 := HP0.f1); (try have fhp0_2 := HP0.f2); (try have lhp0 := HP0.lt); have lz0 := HA.lt; have zs1 := Below.size HW) | fail)
    all_goals
      go_wp2_with fail
      go_meet
      case rel =>
        refine ⟨_, rfl, ?_, ?_⟩ <;> (repeat (first | with_reducible exact HW | with_reducible exact HP0 | with_reducible exact at_new0 _ _ _ | (with_reducible refine Bel.dr ?_) | (with_reducible refine Bel.al ?_ _) | (with_reducible refine Bel.uput3 ?_ (by omega) _ _ _) | (with_reducible refine At.dr ?_) | (with_reducible refine At.al ?_ _) | (with_reducible refine At.uput3 (v0 := .bool false) (v1 := .slice none 0 0) (v2 := .slice none 0 0) ?_ _ _ _)))
  case rest =>
    obtain ⟨pm, rfl, HM, hW⟩ := hcut
    replace HA := HA.up hW.hid
    replace HR := HR.up hW.hid
    replace HZ := HZ.up hW.hid
    replace HB := HB.up hW.hid
    clear hW CZ
    obtain ⟨W1, hW1⟩ : ∃ X, X = wc := ⟨_, rfl⟩
    subst hW1
    go_upto_region 6 with fail
    go_cut [9] from 47 to 56 (fun v w' => v = .int .i64 e0 ∧ Bel W1 w')
    case first =>
      have HW := Bel.refl W1
      replace HB := HB.dr
      replace HW := HW.dr
      replace HA := HA.dr
      refine wp_region_held_drew (S := fun w' => w'.cell? ⟨W.heap.size, 0, none⟩ = some (.bool b) ∧ w'.cell? ⟨W.heap.size, 1, none⟩ = some (.slice A (dq n) c) ∧ w'.cell? ⟨W.heap.size, 2, none⟩ = some (.slice A' (dq d) c')) (by kernel_rfl) ?_ (fun hHeld => ?_)
      · exact ⟨HA.c0, HA.c1, HA.c2⟩
      generalize W1.drew = Wd at *
      (refine wpAnyH_take (i := 0) (v := ?_) rfl (by decide +kernel) (by decide +kernel) (by decide +kernel) (fun _ _ _ h => h) (Or.inl ⟨by rfl, ?_⟩) (by assumption) ?_; rotate_left; (focus ((intro w hSw; (try dsimp only at hSw); go_simp); (try (with_reducible rfl)); done)); (try simp only [List.getElem_toArray, List.getElem_cons_zero, List.getElem_cons_succ, Act.put, List.setIfInBounds_toArray, List.set_cons_zero, List.set_cons_succ]))
      (refine wpAnyH_take (i := 1) (v := ?_) rfl (by decide +kernel) (by decide +kernel) (by decide +kernel) (fun _ _ _ h => h) (Or.inl ⟨by rfl, ?_⟩) (by assumption) ?_; rotate_left; (focus ((intro w hSw; (try dsimp only at hSw); go_simp); (try (with_reducible rfl)); done)); (try simp only [List.getElem_toArray, List.getElem_cons_zero, List.getElem_cons_succ, Act.put, List.setIfInBounds_toArray, List.set_cons_zero, List.set_cons_succ]))
      (refine wpAnyH_take (i := 2) (v := ?_) rfl (by decide +kernel) (by decide +kernel) (by decide +kernel) (fun _ _ _ h => h) (Or.inl ⟨by rfl, ?_⟩) (by assumption) ?_; rotate_left; (focus ((intro w hSw; (try dsimp only at hSw); go_simp); (try (with_reducible rfl)); done)); (try simp only [List.getElem_toArray, List.getElem_cons_zero, List.getElem_cons_succ, Act.put, List.setIfInBounds_toArray, List.set_cons_zero, List.set_cons_succ]))
      (refine wpAnyH_take (i := 5) (v := ?_) rfl (by decide +kernel) (by decide +kernel) (by decide +kernel) (fun _ _ _ h => h) (Or.inl ⟨by rfl, ?_⟩) (by assumption) ?_; rotate_left; (focus ((intro w hSw; (try dsimp only at hSw); go_simp); (try (with_reducible rfl)); done)); (try simp only [List.getElem_toArray, List.getElem_cons_zero, List.getElem_cons_succ, Act.put, List.setIfInBounds_toArray, List.set_cons_zero, List.set_cons_succ]))
      (refine wpAnyH_take (i := 6) (v := ?_) rfl (by decide +kernel) (by decide +kernel) (by decide +kernel) (fun _ _ _ h => h) (Or.inl ⟨by rfl, ?_⟩) (by assumption) ?_; rotate_left; (focus ((intro w hSw; (try dsimp only at hSw); go_simp); (try (with_reducible rfl)); done)); (try simp only [List.getElem_toArray, List.getElem_cons_zero, List.getElem_cons_succ, Act.put, List.setIfInBounds_toArray, List.set_cons_zero, List.set_cons_succ]))
      (refine wpAnyH_ready (rs := [3]) (by decide +kernel) (by simp) ?_; refine AllReadyH.cons rfl (fun K hK => ?_) AllReadyH.nil; go_simp; (go_at_call 35; (with_reducible refine (CT1.out _ HB).mono ?_); rintro e w3 ⟨t1, rfl, ht1, hbk⟩; (with_reducible (replace HB := HB.up hbk; replace HW := HW.up hbk; replace HA := HA.up hbk)); have hl1 := ht1.out); (try (go_wp2_with fail)); refine hK.out _ _ ?_ (fun hHeld => ?_); (focus ((try dsimp only); (with_reducible exact ⟨HA.c0, HA.c1, HA.c2⟩))); clear hK K; (try simp only [List.getElem_toArray, List.getElem_cons_zero, List.getElem_cons_succ, Act.put, List.setIfInBounds_toArray, List.set_cons_zero, List.set_cons_succ]))
      (refine wpAnyH_take (i := 4) (v := ?_) rfl (by decide +kernel) (by decide +kernel) (by decide +kernel) (fun _ _ _ h => h) (Or.inl ⟨by rfl, ?_⟩) (by assumption) ?_; rotate_left; (focus ((intro w hSw; (try dsimp only at hSw); go_simp); (try (with_reducible rfl)); done)); (try simp only [List.getElem_toArray, List.getElem_cons_zero, List.getElem_cons_succ, Act.put, List.setIfInBounds_toArray, List.set_cons_zero, List.set_cons_succ]))
      (refine wpAnyH_ready (rs := [7]) (by decide +kernel) (by simp) ?_; refine AllReadyH.cons rfl (fun K hK => ?_) AllReadyH.nil; go_simp; (go_at_call 35; (with_reducible refine (CT2.out _ HB).mono ?_); rintro e w4 ⟨t2, rfl, ht2, hbk⟩; (with_reducible (replace HB := HB.up hbk; replace HW := HW.up hbk; replace HA := HA.up hbk)); have hl2 := ht2.out); (try (go_wp2_with fail)); refine hK.out _ _ ?_ (fun hHeld => ?_); (focus ((try dsimp only); (with_reducible exact ⟨HA.c0, HA.c1, HA.c2⟩))); clear hK K; (try simp only [List.getElem_toArray, List.getElem_cons_zero, List.getElem_cons_succ, Act.put, List.setIfInBounds_toArray, List.set_cons_zero, List.set_cons_succ]))
      (refine wpAnyH_take (i := 8) (v := ?_) rfl (by decide +kernel) (by decide +kernel) (by decide +kernel) (fun _ _ _ h => h) (Or.inl ⟨by rfl, ?_⟩) (by assumption) ?_; rotate_left; (focus ((intro w hSw; (try dsimp only at hSw); go_simp); (try (with_reducible rfl)); done)); (try simp only [List.getElem_toArray, List.getElem_cons_zero, List.getElem_cons_succ, Act.put, List.setIfInBounds_toArray, List.set_cons_zero, List.set_cons_succ]))
      (refine wpAnyH_take (i := 9) (v := ?_) rfl (by decide +kernel) (by decide +kernel) (by decide +kernel) (fun _ _ _ h => h) (Or.inl ⟨by rfl, ?_⟩) (by assumption) ?_; rotate_left; (focus ((intro w hSw; (try dsimp only at hSw); go_simp); (try (with_reducible rfl)); done)); (try simp only [List.getElem_toArray, List.getElem_cons_zero, List.getElem_cons_succ, Act.put, List.setIfInBounds_toArray, List.set_cons_zero, List.set_cons_succ]))
      (refine wpAnyH_take (i := 10) (v := ?_) rfl (by decide +kernel) (by decide +kernel) (by decide +kernel) (fun _ _ _ h => h) (Or.inl ⟨by rfl, ?_⟩) (by assumption) ?_; rotate_left; (focus ((intro w hSw; (try dsimp only at hSw); go_simp); (try (with_reducible rfl)); done)); (try simp only [List.getElem_toArray, List.getElem_cons_zero, List.getElem_cons_succ, Act.put, List.setIfInBounds_toArray, List.set_cons_zero, List.set_cons_succ]))
      refine wpAnyH_done (by decide +kernel) ?_ _
      go_wp2_with fail
      go_meet
      case rel => exact ⟨rfl, HW⟩
    case rest =>
      obtain ⟨rfl, hW⟩ := hcut
      replace HA := HA.up hW.hid
      replace HR := HR.up hW.hid
      replace HZ := HZ.up hW.hid
      replace HB := HB.up hW.hid
      replace HM := HM.up hW.hid
      clear hW CT1 CT2 x1
      obtain ⟨W2, hW2⟩ : ∃ X, X = wc := ⟨_, rfl⟩
      subst hW2
      go_upto_region 8 with (first | (go_at_call 22; (with_reducible refine (CQ.out _).mono ?_); rintro e w5 ⟨Bi, ei, Bj, ej, rfl, ki, kj, hbk⟩; (with_reducible (replace HA := HA.up hbk; replace HR := HR.up hbk; replace HZ := HZ.up hbk; replace HB := HB.up hbk; replace HM := HM.up hbk))) | (go_at_call 45; (with_reducible refine (CP.out _ _ _ _ _ ki kj).mono ?_); rintro e w6 ⟨Bp, ep, Bq, eq, rfl, kp, kq, hbk⟩; (with_reducible (replace HA := HA.up hbk; replace HR := HR.up hbk; replace HZ := HZ.up hbk; replace HB := HB.up hbk; replace HM := HM.up hbk))) | fail)
      refine wp_named ?_
      intro W3 hW3
      replace HB : Bel W W3 := by rw [hW3]; exact Bel.al HB _
      replace HA : At W3 W.heap.size [.bool b, .slice A (dq n) c, .slice A' (dq d) c'] := by rw [hW3]; exact HA.al _
      replace HR : At W3 (W.heap.size + 1) [.bool false, .slice none 0 0, .int .i64 0] := by rw [hW3]; exact HR.al _
      replace HZ : Ez W3 (W.heap.size + 1) := by rw [hW3]; exact HZ.al _
      replace HM : At W3 pm [.bool false, .slice A (dq n) c, .slice A' (dq d) c'] := by rw [hW3]; exact HM.al _
      replace kp : Rz W3 false Bp ep p.num := by rw [hW3]; exact kp.al _
      replace kq : Rn W3 Bq eq p.den := by rw [hW3]; exact kq.al _
      have HX : At W3 w6.heap.size [.bool false, .slice Bp (dq p.num.natAbs) ep, .slice Bq (dq p.den) eq] := by rw [hW3]; exact at_new0 _ _ _
      obtain ⟨px, hpx⟩ : ∃ q, q = w6.heap.size := ⟨_, rfl⟩
      rw [← hpx] at HX ⊢
      clear hpx hW3 CQ CP
      have hm_0 := HM.c0
      have hm_1 := HM.c1
      have hm_2 := HM.c2
      have hm_l := HM.lt
      have hx_0 := HX.c0
      have hx_1 := HX.c1
      have hx_2 := HX.c2
      have hx_l := HX.lt
      go_upto_if 66 with (first | (go_at_call 38; (with_reducible refine (CC.out _ _ _ _ _ HB kp kq).mono ?_); rintro e w7 ⟨rfl, hbk⟩; (with_reducible (replace HA := HA.up hbk; replace HR := HR.up hbk; replace HZ := HZ.up hbk; replace HB := HB.up hbk)); clear hm_0 hm_1 hm_2 hm_l hx_0 hx_1 hx_2 hx_l) | fail)
      clear CC HM HX kp kq
      go_cut [9] from 67 to 68 (fun v w' => v = .int .i64 e ∧ w' = w7)
      case first =>
        rcases HE.out with ⟨k1, k2⟩ | ⟨k1, k2⟩
        · have k3 : decide (lt < 0) = true := decide_eq_true k1
          go_wp2_with fail
          go_meet
          case rel => exact ⟨by rw [k2], rfl⟩
        · have k3 : decide (lt < 0) = false := decide_eq_false (by omega)
          go_wp2_with fail
          go_meet
          case rel => exact ⟨by rw [k2], rfl⟩
      case rest =>
        obtain ⟨rfl, hW⟩ := hcut
        rw [hW]
        clear hW HE
        go_upto_region 11 with fail
        clear x2 x3 x4
        have k6 : ¬ 60 < s := by omega
        have k7 : ¬ (0 : Int) ≤ s := by omega
        have k8 : decide ((0 : Int) ≤ s) = false := decide_eq_false k7
        have k9 : IntKind.i64.wrap (-s) = (k : Int) := by rw [hk]; exact IntWalk.i64_in _ (by have := HSS.out; omega)
        have k10 : wrap64 (-s) = (k : Int) := by rw [hk]; exact IntWalk.wrap64_in _ (by have := HSS.out; omega)
        have k11 : IntKind.i64.wrap (k : Int) = (k : Int) := IntWalk.i64_in _ (by have := HSS.out; omega)
        have k12 : wrap64 (k : Int) = (k : Int) := IntWalk.wrap64_in _ (by have := HSS.out; omega)
        go_upto_region 20 with (first | (go_at_call 46; (with_reducible refine (CTn.out _).mono ?_); rintro e z1 ⟨Bt, et, rfl, rt, hbk⟩; (with_reducible (replace HA := HA.up hbk; replace HR := HR.up hbk; replace HZ := HZ.up hbk; replace HB := HB.up hbk))) | (go_at_call 41; (with_reducible refine (CS1.out _).mono ?_); rintro e z2 ⟨Bn, en, rfl, rb, hbk⟩; (with_reducible (replace HA := HA.up hbk; replace HR := HR.up hbk; replace HZ := HZ.up hbk; replace HB := HB.up hbk; replace rt := rt.up hbk))) | fail)
        refine wp_named ?_
        intro W5 hW5
        replace HB : Bel W W5 := by rw [hW5]; exact Bel.al HB _
        replace HA : At W5 W.heap.size [.bool b, .slice A (dq n) c, .slice A' (dq d) c'] := by rw [hW5]; exact HA.al _
        replace HR : At W5 (W.heap.size + 1) [.bool false, .slice none 0 0, .int .i64 0] := by rw [hW5]; exact HR.al _
        replace HZ : Ez W5 (W.heap.size + 1) := by rw [hW5]; exact HZ.al _
        replace rt : Rn W5 Bt et tk := by rw [hW5]; exact rt.al _
        replace rb : Rn W5 Bn en nb := by rw [hW5]; exact rb.al _
        have HU : At W5 z2.heap.size [.bool false, .slice Bt (dq tk) et, .slice Bn (dq nb) en] := by rw [hW5]; exact at_new0 _ _ _
        obtain ⟨pu, hpu⟩ : ∃ q, q = z2.heap.size := ⟨_, rfl⟩
        rw [← hpu] at HU ⊢
        clear hpu hW5
        go_cut [18] from 117 to 122 (fun w w' => ∃ pn G g, w = .pointer (some ⟨pn, 0, none⟩) ∧ W5.heap.size ≤ pn ∧ At w' pn [.bool sg, .slice G (dq t.natAbs) g] ∧ Rz w' sg G g t ∧ Bel W5 w')
        case first =>
          have HW := Bel.refl W5
          have la := HA.lt
          have lu := HU.lt
          go_region_held3 (fun w' => w'.cell? ⟨W.heap.size, 0, none⟩ = some (.bool b) ∧ w'.cell? ⟨W.heap.size, 1, none⟩ = some (.slice A (dq n) c) ∧ w'.cell? ⟨W.heap.size, 2, none⟩ = some (.slice A' (dq d) c') ∧ w'.cell? ⟨pu, 0, none⟩ = some (.bool false) ∧ w'.cell? ⟨pu, 1, none⟩ = some (.slice Bt (dq tk) et) ∧ w'.cell? ⟨pu, 2, none⟩ = some (.slice Bn (dq nb) en))
            (refine ⟨(?_ : At _ W.heap.size [.bool b, .slice A (dq n) c, .slice A' (dq d) c']).c0, (?_ : At _ W.heap.size [.bool b, .slice A (dq n) c, .slice A' (dq d) c']).c1, (?_ : At _ W.heap.size [.bool b, .slice A (dq n) c, .slice A' (dq d) c']).c2, (?_ : At _ pu [.bool false, .slice Bt (dq tk) et, .slice Bn (dq nb) en]).c0, (?_ : At _ pu [.bool false, .slice Bt (dq tk) et, .slice Bn (dq nb) en]).c1, (?_ : At _ pu [.bool false, .slice Bt (dq tk) et, .slice Bn (dq nb) en]).c2⟩ <;> (repeat (first | with_reducible exact HA | with_reducible exact HU | (with_reducible refine At.dr ?_) | (with_reducible refine At.al ?_ _) | (with_reducible refine At.far ?_ (by omega) _))))
            (first | (go_at_call 48; (with_reducible refine (CV.out _ _ _ _ _ rt.dr rb.dr).mono ?_); rintro e y1 ⟨B3, i3, B4, i4, rfl, q3, q4, hbk⟩; (with_reducible (replace HB := HB.dr.up hbk; replace HW := HW.dr.up hbk; replace HA := HA.dr.up hbk; replace HU := HU.dr.up hbk)); have lz0 := HA.lt; have lz1 := HU.lt; have zs1 := Below.size HW) | (go_at_call 48; (with_reducible refine (CV.out _ _ _ _ _ (rt.al _).dr (rb.al _).dr).mono ?_); rintro e y1 ⟨B3, i3, B4, i4, rfl, q3, q4, hbk⟩; (with_reducible (have HP0 := At.up (at_new0 _ [.bool false, .slice none 0 0] _).dr hbk; replace HB := (HB.al _).dr.up hbk; replace HW := (HW.al _).dr.up hbk; replace HA := (HA.al _).dr.up hbk; replace HU := (HU.al _).dr.up hbk)); have lz0 := HA.lt; have lz1 := HU.lt; have zs1 := Below.size HW) | (go_at_call 47; (with_reducible refine (CM.out _ _ _ _ _ HB q3 q4).mono ?_); rintro e y2 ⟨B5, i5, B6, i6, rfl, q5, q6, hbk⟩; (with_reducible (replace HB := HB.up hbk; replace HW := HW.up hbk; replace HA := HA.up hbk; replace HU := HU.up hbk)); (try (with_reducible replace HP0 := HP0.up hbk)); have lz0 := HA.lt; have lz1 := HU.lt; have zs1 := Below.size HW) | (go_at_call 47; (with_reducible refine (CM.out _ _ _ _ _ (HB.al _) (q3.al _) (q4.al _)).mono ?_); rintro e y2 ⟨B5, i5, B6, i6, rfl, q5, q6, hbk⟩; (with_reducible (have HQ0 := At.up (at_new0 _ [.bool false, .slice none 0 0] _) hbk; replace HB := (HB.al _).up hbk; replace HW := (HW.al _).up hbk; replace HA := (HA.al _).up hbk; replace HU := (HU.al _).up hbk)); (try (with_reducible replace HP0 := (HP0.al _).up hbk)); have lz0 := HA.lt; have lz1 := HU.lt; have zs1 := Below.size HW) | (go_at_call 13; (with_reducible refine (CI.out _ _ _ _ _ q5 q6).mono ?_); rintro e y3 ⟨G, g, rfl, kz, hbk⟩; (with_reducible (replace HB := HB.up hbk; replace HW := HW.up hbk; replace HA := HA.up hbk; replace HU := HU.up hbk)); (try (with_reducible replace HP0 := HP0.up hbk)); (try (with_reducible replace HQ0 := HQ0.up hbk)); (try have hp0_0 := HP0.c0); (try have hp0_1 := HP0.c1); (try have hq0_0 := HQ0.c0); (try have hq0_1 := HQ0.c1); (try have hn0_0 := HN0.c0); (try have hn0_1 := HN0.c1); (try have fhp0_0 := HP0.f0); (try have fhp0_1 := HP0.f1); (try have fhq0_0 := HQ0.f0); (try have fhq0_1 := HQ0.f1); (try have fhn0_0 := HN0.f0); (try have fhn0_1 := HN0.f1); (try have lhp0 := HP0.lt); (try have lhq0 := HQ0.lt); (try have lhn0 := HN0.lt); have lz0 := HA.lt; have lz1 := HU.lt; have zs1 := Below.size HW) | (go_at_call 13; (with_reducible refine (CI.out _ _ _ _ _ (q5.al _) (q6.al _)).mono ?_); rintro e y3 ⟨G, g, rfl, kz, hbk⟩; (with_reducible (have HN0 := At.up (at_new0 _ [.bool false, .slice none 0 0] _) hbk; replace HB := (HB.al _).up hbk; replace HW := (HW.al _).up hbk; replace HA := (HA.al _).up hbk; replace HU := (HU.al _).up hbk)); (try (with_reducible replace HP0 := (HP0.al _).up hbk)); (try (with_reducible replace HQ0 := (HQ0.al _).up hbk)); (try have hp0_0 := HP0.c0); (try have hp0_1 := HP0.c1); (try have hq0_0 := HQ0.c0); (try have hq0_1 := HQ0.c1); (try have hn0_0 := HN0.c0); (try have hn0_1 := HN0.c1); (try have fhp0_0 := HP0.f0); (try have fhp0_1 := HP0.f1); (try have fhq0_0 := HQ0.f0); (try have fhq0_1 := HQ0.f1); (try have fhn0_0 := HN0.f0); (try have fhn0_1 := HN0.f1); (try have lhp0 := HP0.lt); (try have lhq0 := HQ0.lt); (try have lhn0 := HN0.lt); have lz0 := HA.lt; have lz1 := HU.lt; have zs1 := Below.size HW) | fail)
          all_goals
            go_wp2_with fail
            go_meet
            case rel =>
              refine ⟨_, G, g, rfl, by first | omega | exact Nat.le_refl _, ?_, ?_, ?_⟩ <;> (repeat (first | with_reducible exact kz | with_reducible exact HW | with_reducible exact HP0 | with_reducible exact HQ0 | with_reducible exact HN0 | with_reducible exact at_new0 _ _ _ | with_reducible exact at_newZ _ _ _ _ _ | (with_reducible refine Bel.dr ?_) | (with_reducible refine Bel.al ?_ _) | (with_reducible refine Bel.put2 ?_ (by omega) _ _) | (with_reducible refine Rz.dr ?_) | (with_reducible refine Rz.al ?_ _) | (with_reducible refine Rz.put2 ?_ ?_ _ _ _ _) | (with_reducible refine At.dr ?_) | (with_reducible refine At.al ?_ _) | (with_reducible refine At.put2 (v0 := .bool false) (v1 := .slice none 0 0) ?_ _ _)))
        case rest =>
          obtain ⟨pn, G, g, rfl, hpn, HN, kz, hW⟩ := hcut
          have lr := HR.lt
          replace HB := HB.up hW.hid
          replace HR := HR.up hW.hid
          replace HZ := HZ.up hW.hid
          clear hW HA HU rt rb CV CM CI CS1
          obtain ⟨W6, hW6⟩ : ∃ X, X = wc := ⟨_, rfl⟩
          subst hW6
          go_upto_region 21 with fail
          replace HB := HB.dr
          replace HR := HR.dr
          replace HZ := HZ.dr
          replace HN := HN.dr
          replace kz := kz.dr
          refine wp_region_held_drew (S := fun w' => w'.cell? ⟨pn, 0, none⟩ = some (.bool sg) ∧ w'.cell? ⟨pn, 1, none⟩ = some (.slice G (dq t.natAbs) g)) (by kernel_rfl) ?_ (fun hHeld => ?_)
          · exact ⟨HN.c0, HN.c1⟩
          generalize W6.drew = Wd6 at *
          (refine wpAnyH_take (i := 0) (v := ?_) rfl (by decide +kernel) (by decide +kernel) (by decide +kernel) (fun _ _ _ h => h) (Or.inl ⟨by rfl, ?_⟩) (by assumption) ?_; rotate_left; (focus ((intro w hSw; (try dsimp only at hSw); go_simp); (try (with_reducible rfl)); done)); (try simp only [List.getElem_toArray, List.getElem_cons_zero, List.getElem_cons_succ, Act.put, List.setIfInBounds_toArray, List.set_cons_zero, List.set_cons_succ]))
          (refine wpAnyH_take (i := 1) (v := ?_) rfl (by decide +kernel) (by decide +kernel) (by decide +kernel) (fun _ _ _ h => h) (Or.inl ⟨by rfl, ?_⟩) (by assumption) ?_; rotate_left; (focus ((intro w hSw; (try dsimp only at hSw); go_simp); (try (with_reducible rfl)); done)); (try simp only [List.getElem_toArray, List.getElem_cons_zero, List.getElem_cons_succ, Act.put, List.setIfInBounds_toArray, List.set_cons_zero, List.set_cons_succ]))
          (refine wpAnyH_take (i := 2) (v := ?_) rfl (by decide +kernel) (by decide +kernel) (by decide +kernel) (fun _ _ _ h => h) (Or.inl ⟨by rfl, ?_⟩) (by assumption) ?_; rotate_left; (focus ((intro w hSw; (try dsimp only at hSw); go_simp); (try (with_reducible rfl)); done)); (try simp only [List.getElem_toArray, List.getElem_cons_zero, List.getElem_cons_succ, Act.put, List.setIfInBounds_toArray, List.set_cons_zero, List.set_cons_succ]))
          (refine wpAnyH_take (i := 3) (v := ?_) rfl (by decide +kernel) (by decide +kernel) (by decide +kernel) (fun _ _ _ h => h) (Or.inl ⟨by rfl, ?_⟩) (by assumption) ?_; rotate_left; (focus ((intro w hSw; (try dsimp only at hSw); go_simp); (try (with_reducible rfl)); done)); (try simp only [List.getElem_toArray, List.getElem_cons_zero, List.getElem_cons_succ, Act.put, List.setIfInBounds_toArray, List.set_cons_zero, List.set_cons_succ]))
          (refine wpAnyH_take (i := 4) (v := ?_) rfl (by decide +kernel) (by decide +kernel) (by decide +kernel) (fun _ _ _ h => h) (Or.inl ⟨by rfl, ?_⟩) (by assumption) ?_; rotate_left; (focus ((intro w hSw; (try dsimp only at hSw); go_simp); (try (with_reducible rfl)); done)); (try simp only [List.getElem_toArray, List.getElem_cons_zero, List.getElem_cons_succ, Act.put, List.setIfInBounds_toArray, List.set_cons_zero, List.set_cons_succ]))
          (refine wpAnyH_take (i := 5) (v := ?_) rfl (by decide +kernel) (by decide +kernel) (by decide +kernel) (fun _ _ _ h => h) (Or.inl ⟨by rfl, ?_⟩) (by assumption) ?_; rotate_left; (focus ((intro w hSw; (try dsimp only at hSw); go_simp); (try (with_reducible rfl)); done)); (try simp only [List.getElem_toArray, List.getElem_cons_zero, List.getElem_cons_succ, Act.put, List.setIfInBounds_toArray, List.set_cons_zero, List.set_cons_succ]))
          (refine wpAnyH_ready (rs := [6]) (by decide +kernel) (by simp) ?_; refine AllReadyH.cons rfl (fun K hK => ?_) AllReadyH.nil; go_simp; (go_at_call 46; (with_reducible refine (CTn.out _).mono ?_); rintro e x1 ⟨Bw, ew, rfl, rw', hbk⟩; (with_reducible (replace HB := HB.up hbk; replace HR := HR.up hbk; replace HZ := HZ.up hbk; replace HN := HN.up hbk; replace kz := kz.up hbk))); (try (go_wp2_with fail)); refine hK.out _ _ ?_ (fun hHeld => ?_); (focus ((try dsimp only); (first | (with_reducible exact ⟨HN.c0, HN.c1⟩) | exact ⟨(((HN.far (by omega) _).far (by omega) _).far (by omega) _).c0, (((HN.far (by omega) _).far (by omega) _).far (by omega) _).c1⟩))); clear hK K; (try simp only [List.getElem_toArray, List.getElem_cons_zero, List.getElem_cons_succ, Act.put, List.setIfInBounds_toArray, List.set_cons_zero, List.set_cons_succ]))
          (refine wpAnyH_ready (rs := [7]) (by decide +kernel) (by simp) ?_; refine AllReadyH.cons rfl (fun K hK => ?_) AllReadyH.nil; go_simp; (go_at_call 49; (with_reducible refine (CMu.out _ _ _ _ _ kz rw').mono ?_); rintro e x2' ⟨J, j, rfl, rn, hbk⟩; (with_reducible (replace HB := HB.up hbk; replace HR := HR.up hbk; replace HZ := HZ.up hbk; replace HN := HN.up hbk; replace kz := kz.up hbk)); have hr_0 := HR.c0; have hr_1 := HR.c1; have hr_2 := HR.c2; have hr_l := HR.lt; have hr_f0 := HR.f0; have hr_f1 := HR.f1; have hr_f2 := HR.f2); (try (go_wp2_with fail)); refine hK.out _ _ ?_ (fun hHeld => ?_); (focus ((try dsimp only); (first | (with_reducible exact ⟨HN.c0, HN.c1⟩) | exact ⟨(((HN.far (by omega) _).far (by omega) _).far (by omega) _).c0, (((HN.far (by omega) _).far (by omega) _).far (by omega) _).c1⟩))); clear hK K; (try simp only [List.getElem_toArray, List.getElem_cons_zero, List.getElem_cons_succ, Act.put, List.setIfInBounds_toArray, List.set_cons_zero, List.set_cons_succ]))
          (refine wpAnyH_take (i := 8) (v := ?_) rfl (by decide +kernel) (by decide +kernel) (by decide +kernel) (fun _ _ _ h => h) (Or.inl ⟨by rfl, ?_⟩) (by assumption) ?_; rotate_left; (focus ((intro w hSw; (try dsimp only at hSw); go_simp); (try (with_reducible rfl)); done)); (try simp only [List.getElem_toArray, List.getElem_cons_zero, List.getElem_cons_succ, Act.put, List.setIfInBounds_toArray, List.set_cons_zero, List.set_cons_succ]))
          (refine wpAnyH_ready (rs := [9]) (by decide +kernel) (by simp) ?_; refine AllReadyH.cons rfl (fun K hK => ?_) AllReadyH.nil; go_simp; refine hK.out _ _ ?_ (fun hHeld => ?_); (focus ((try dsimp only); (first | (with_reducible exact ⟨HN.c0, HN.c1⟩) | exact ⟨(((HN.far (by omega) _).far (by omega) _).far (by omega) _).c0, (((HN.far (by omega) _).far (by omega) _).far (by omega) _).c1⟩))); clear hK K; (try simp only [List.getElem_toArray, List.getElem_cons_zero, List.getElem_cons_succ, Act.put, List.setIfInBounds_toArray, List.set_cons_zero, List.set_cons_succ]))
          (refine wpAnyH_take (i := 10) (v := ?_) rfl (by decide +kernel) (by decide +kernel) (by decide +kernel) (fun _ _ _ h => h) (Or.inl ⟨by rfl, ?_⟩) (by assumption) ?_; rotate_left; (focus ((intro w hSw; (try dsimp only at hSw); go_simp); (try (with_reducible rfl)); done)); (try simp only [List.getElem_toArray, List.getElem_cons_zero, List.getElem_cons_succ, Act.put, List.setIfInBounds_toArray, List.set_cons_zero, List.set_cons_succ]))
          refine wpAnyH_done (by decide +kernel) ?_ _
          go_wp2_with fail
          refine name_end ?_
          intro W4 hW4
          have HF : At W4 (W.heap.size + 1) [.bool sg, .slice J (dq v) j, .int .i64 0] := by rw [hW4]; first | exact HR.put3 _ _ _ | exact (HR.put3 _ _ _).al _
          have BF : Bel W W4 := by rw [hW4]; exact below3 HB (by omega) _ _ _
          have NF : Rn W4 J j v := by rw [hW4]; exact rn_dbox rn hr_0 hr_1 hr_2 HZ.2 _ _ _ _ _
          clear hW4 hr_0 hr_1 hr_2 hr_l hr_f0 hr_f1 hr_f2
          have hr_0 := HF.c0
          have hr_1 := HF.c1
          have hr_2 := HF.c2
          refine bodyPost_ret (v := .tuple #[.agg #[.bool sg, .slice J (dq v) j, .int .i64 0], .int .i64 0]) (by simp [results, Tryz.results15, go_sem, hr_0, hr_1, hr_2]) rfl ?_
          exact ⟨_, _, _, _, _, rfl, fun _ => ⟨rfl, rfl, rfl, NF⟩, BF⟩
end
end Go.Proofs.YtmiklffjffdkgaaGreatDoor
