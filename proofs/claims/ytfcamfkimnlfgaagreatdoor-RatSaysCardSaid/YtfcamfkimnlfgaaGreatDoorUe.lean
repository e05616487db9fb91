/- Package round: exponent, limit of a numeral without digits behind the point, Sig (its calls' contracts given). Conditions: terms of at most 6000 words. -/
import Derived.Test.YtfcamfkimnlfgaaGreatDoorGRsmc32
import Derived.Test.YtfcamfkimnlfgaaGreatDoorGRsmc16
open Go.RowKit
set_option maxRecDepth 100000
namespace Go.Proofs.YtfcamfkimnlfgaaGreatDoor
section
variable {W : World} {b b' sg : Bool} {A A' A2 : Option Addr} {n n' n2 c c' c2 m2 s K q d : Nat} {m z e sc : Int} {r pw : Rat}
theorem strlen {t : ByteArray} {l : List UInt8} {L : Nat} (h : t.data.toList = l) (hl : l.length = L) : t.size = L := by
  rw [← hl, ← h, Array.length_toList]; rfl
set_option maxHeartbeats 8000000 in
theorem expo_h {L1 L2 : Nat} {tn : Rat} (htn : tn = ((10 : Int) : Rat)) (hz : ZA W b A n c z) (hd : Nm W A' n' c' d) (hd0 : 0 < d) (l1 : (decL z.natAbs).length = L1) (l2 : (decL d).length = L2) (he : (L1 : Int) - (L2 : Int) = e) (b1 : L1 ≤ 100000) (b2 : L2 ≤ 100000)
    (hp : ∀ W' B f B' f', ZA W' false B (dl tn.num.natAbs) f tn.num → Nm W' B' (dl tn.den) f' tn.den → Calls Tryz.prog 12 #[.agg #[.bool false, .slice B (dl tn.num.natAbs) f, .slice B' (dl tn.den) f'], .int .i64 e] W' (OfYw W' false pw))
    (bz : z.natAbs < W32 ^ K) (bd : d < W32 ^ K) (bp : Bd pw K) (hK : 0 < K) (hK2 : K ≤ 20000) :
    Calls Tryz.prog 123 #[.agg #[.bool b, .slice A n c, .slice A' n' c']] W (IntPost W (if cmpR (mkRat (z.natAbs : Int) d) pw < 0 then e - 1 else e)) := by
  obtain ⟨u, hu⟩ : ∃ u, cmpR (mkRat (z.natAbs : Int) d) pw = u := ⟨_, rfl⟩
  have CT : Hid (∀ W', Bel W W' → Calls Tryz.prog 103 #[.agg #[.slice A n c]] W' (TxR W' (decL z.natAbs))) := fun W' hw => text_h (hz.up hw.hid).1
  have CT2 : Hid (∀ W', Bel W W' → Calls Tryz.prog 103 #[.agg #[.slice A' n' c']] W' (TxR W' (decL d))) := fun W' hw => text_h (hd.up hw.hid)
  have CI : Hid (∀ W', Calls Tryz.prog 159 #[.int .i64 10] W' (QRw W' false tn)) := fun W' => by
    have h1 := int_h (W := W') (k := 10) (by decide) (by decide)
    rw [← htn] at h1
    unfold QR at h1
    rw [show decide (tn.num < 0) = false by rw [htn]; decide] at h1
    exact h1
  have CP := hide hp
  have CC : Hid (∀ W' B f B' f', Bel W W' → ZA W' false B (dl pw.num.natAbs) f pw.num → Nm W' B' (dl pw.den) f' pw.den → Calls Tryz.prog 20 #[.agg #[.bool false, .slice A n c, .slice A' n' c'], .agg #[.bool false, .slice B (dl pw.num.natAbs) f, .slice B' (dl pw.den) f']] W' (IntPost W' u)) := fun W' B f B' f' hw h1 h2 => by
    rw [← hu]
    exact rcmp_h ⟨zi false z.natAbs, d, za_of (b := false) (hz.up hw.hid).1, hd.up hw.hid, rfl, by rw [zi_abs]; exact bz, bd⟩ ⟨pw.num, pw.den, h1, h2, Rat.mkRat_self pw, bp⟩ hK hK2
  have hw : IntKind.i64.wrap ((L1 : Int) - (L2 : Int)) = e := by rw [IntWalk.i64_in _ (by omega)]; exact he
  have hw2 : wrap64 ((L1 : Int) - (L2 : Int)) = e := by rw [IntWalk.wrap64_in _ (by omega)]; exact he
  have hw3 : IntKind.i64.wrap (e - 1) = e - 1 := IntWalk.i64_in _ (by omega)
  have hw4 : wrap64 (e - 1) = e - 1 := IntWalk.wrap64_in _ (by omega)
  have HL1 := hide l1
  have HL2 := hide l2
  rw [hu]
  clear hz hd hd0 l1 l2 he b1 b2 hp bz bd bp hK hK2 htn hu
  have HB := Bel.refl W
  obtain ⟨res, hres⟩ : ∃ x, x = (if u < 0 then e - 1 else e) := ⟨_, rfl⟩
  rw [← hres]
  have HRS := hide hres
  clear hres
  by_cases hneg : u < 0
  all_goals
    have HRS2 := HRS.out
    simp only [hneg, if_true, if_false, ↓reduceIte] at HRS2
    replace HRS2 := hide HRS2
    clear HRS
    first
      | (have hd1 : decide (u < 0) = true := decide_eq_true hneg)
      | (have hd1 : decide (u < 0) = false := decide_eq_false hneg)
    go_enter Tryz.func123, Tryz.ntmps123
    go_wp2_with fail
    obtain ⟨W1, hW1⟩ : ∃ X, X = W.alloc (.cells #[.bool b, .slice A n c, .slice A' n' c'] 28) := ⟨_, rfl⟩
    rw [← hW1]
    have H0 : At W1 W.heap.size [.bool b, .slice A n c, .slice A' n' c'] := by rw [hW1]; exact at_new0 _ _ _
    replace HB : Bel W W1 := by rw [hW1]; exact HB.al _
    clear hW1
    have l0 := H0.lt
    go_region_held3 (fun w' => w'.cell? ⟨W.heap.size, 0, none⟩ = some (.bool b) ∧ w'.cell? ⟨W.heap.size, 1, none⟩ = some (.slice A n c) ∧ w'.cell? ⟨W.heap.size, 2, none⟩ = some (.slice A' n' c'))
      (refine ⟨(?_ : At _ W.heap.size [.bool b, .slice A n c, .slice A' n' c']).c0, (?_ : At _ W.heap.size [.bool b, .slice A n c, .slice A' n' c']).c1, (?_ : At _ W.heap.size [.bool b, .slice A n c, .slice A' n' c']).c2⟩ <;> (repeat (first | with_reducible exact H0 | (with_reducible refine At.dr ?_) | (with_reducible refine At.al ?_ _) | (with_reducible refine At.far ?_ (by omega) _))))
      (first | (go_at_call 103; (with_reducible refine (CT.out _ HB.dr).mono ?_); rintro e w1 ⟨t1, rfl, ht1, hbk⟩; (with_reducible (replace HB := HB.dr.up hbk; replace H0 := H0.dr.up hbk)); have hs1 := strlen ht1.out HL1.out; have hs1' : (t1.size : Int) = (L1 : Int) := (by omega)) | (go_at_call 103; (with_reducible refine (CT2.out _ HB).mono ?_); rintro e w2 ⟨t2, rfl, ht2, hbk⟩; (with_reducible (replace HB := HB.up hbk; replace H0 := H0.up hbk)); have h0_0 := H0.c0; have h0_1 := H0.c1; have h0_2 := H0.c2; have h0_l := H0.lt; have hs2 := strlen ht2.out HL2.out; have hs2' : (t2.size : Int) = (L2 : Int) := (by omega)) | fail)
    go_wp2_with (first | (go_at_call 159; (with_reducible refine (CI.out _).mono ?_); rintro e w3 ⟨B3, f3, B4, f4, rfl, z3, n3, hbk⟩; (with_reducible (replace HB := HB.up hbk; replace H0 := H0.up hbk)); clear h0_0 h0_1 h0_2 h0_l; have h0_0 := H0.c0; have h0_1 := H0.c1; have h0_2 := H0.c2; have h0_l := H0.lt) | (go_at_call 12; (with_reducible refine (CP.out _ _ _ _ _ z3 n3).mono ?_); rintro e w4 ⟨B5, f5, B6, f6, rfl, z5, n5, hbk⟩; (with_reducible (replace HB := HB.up hbk; replace H0 := H0.up hbk)); clear h0_0 h0_1 h0_2 h0_l; have h0_0 := H0.c0; have h0_1 := H0.c1; have h0_2 := H0.c2; have h0_l := H0.lt) | (go_at_call 20; (with_reducible refine (CC.out _ _ _ _ _ (HB.al _) (z5.al _) (n5.al _)).mono ?_); rintro e w5 ⟨rfl, hbk⟩; (with_reducible (replace HB := (HB.al _).up hbk; replace H0 := (H0.al _).up hbk)); clear h0_0 h0_1 h0_2 h0_l) | fail)
    go_ret
    exact ⟨by rw [HRS2.out]; rfl, HB⟩
set_option maxHeartbeats 8000000 in
theorem limit_0 {dg : Int} (h : Nm W A n c q) : Calls Tryz.prog 124 #[.agg #[.bool b, .slice A n c, .int .i64 0], .int .i64 dg] W (fun e w' => e = .returned (.agg #[.bool b, .slice A n c, .int .i64 0]) ∧ Nm w' A n c q ∧ Hid (Below W.heap.size W w')) := by
  have HB := Bel.refl W
  go_enter Tryz.func124, Tryz.ntmps124
  go_wp2_with fail
  obtain ⟨W1, hW1⟩ : ∃ X, X = (W.alloc (.cells #[.bool b, .slice A n c, .int .i64 0] 63)).alloc (.cells #[.bool false, .slice none 0 0, .int .i64 0] 63) := ⟨_, rfl⟩
  rw [← hW1]
  have H0 : At W1 W.heap.size [.bool b, .slice A n c, .int .i64 0] := by rw [hW1]; exact (at_new0 _ _ _).al _
  have HR : At W1 (W.heap.size + 1) [.bool false, .slice none 0 0, .int .i64 0] := by rw [hW1]; exact at_new1 _ _ _ _
  replace HB : Bel W W1 := by rw [hW1]; exact (HB.al _).al _
  replace h : Nm W1 A n c q := by rw [hW1]; exact (h.al _).al _
  clear hW1
  have l0 := H0.lt
  have l1 := HR.lt
  refine wp_region_held_drew (S := fun w' => w'.cell? ⟨W.heap.size, 0, none⟩ = some (.bool b) ∧ w'.cell? ⟨W.heap.size, 1, none⟩ = some (.slice A n c) ∧ w'.cell? ⟨W.heap.size, 2, none⟩ = some (.int .i64 0)) (by kernel_rfl) ?_ (fun hHeld => ?_)
  · (refine ⟨(?_ : At _ W.heap.size [.bool b, .slice A n c, .int .i64 0]).c0, (?_ : At _ W.heap.size [.bool b, .slice A n c, .int .i64 0]).c1, (?_ : At _ W.heap.size [.bool b, .slice A n c, .int .i64 0]).c2⟩ <;> (repeat (first | with_reducible exact H0 | (with_reducible refine At.dr ?_) | (with_reducible refine At.al ?_ _) | (with_reducible refine At.far ?_ (by omega) _))))
  (refine wpAnyH_take (i := 0) (v := ?_) rfl (by decide +kernel) (by decide +kernel) (by decide +kernel) (fun _ _ _ h => h) (Or.inl ⟨by rfl, ?_⟩) (by assumption) ?_; rotate_left; (focus ((intro w hSw; (try dsimp only at hSw); go_simp); (try (with_reducible rfl)); done)); (try simp only [List.getElem_toArray, List.getElem_cons_zero, List.getElem_cons_succ, Act.put, List.setIfInBounds_toArray, List.set_cons_zero, List.set_cons_succ]))
  (refine wpAnyH_take (i := 1) (v := ?_) rfl (by decide +kernel) (by decide +kernel) (by decide +kernel) (fun _ _ _ h => h) (Or.inl ⟨by rfl, ?_⟩) (by assumption) ?_; rotate_left; (focus ((intro w hSw; (try dsimp only at hSw); go_simp); (try (with_reducible rfl)); done)); (try simp only [List.getElem_toArray, List.getElem_cons_zero, List.getElem_cons_succ, Act.put, List.setIfInBounds_toArray, List.set_cons_zero, List.set_cons_succ]))
  (refine wpAnyH_take (i := 2) (v := ?_) rfl (by decide +kernel) (by decide +kernel) (by decide +kernel) (fun _ _ _ h => h) (Or.inl ⟨by rfl, ?_⟩) (by assumption) ?_; rotate_left; (focus ((intro w hSw; (try dsimp only at hSw); go_simp); (try (with_reducible rfl)); done)); (try simp only [List.getElem_toArray, List.getElem_cons_zero, List.getElem_cons_succ, Act.put, List.setIfInBounds_toArray, List.set_cons_zero, List.set_cons_succ]))
  (refine wpAnyH_take (i := 3) (v := ?_) rfl (by decide +kernel) (by decide +kernel) (by decide +kernel) (fun _ _ _ h => h) (Or.inl ⟨by rfl, ?_⟩) (by assumption) ?_; rotate_left; (focus ((intro w hSw; (try dsimp only at hSw); go_simp); (try (with_reducible rfl)); done)); (try simp only [List.getElem_toArray, List.getElem_cons_zero, List.getElem_cons_succ, Act.put, List.setIfInBounds_toArray, List.set_cons_zero, List.set_cons_succ]))
  (refine wpAnyH_take (i := 4) (v := undef) rfl (by decide +kernel) (by decide +kernel) (by decide +kernel) (fun _ _ _ h => h) (Or.inr ⟨by rfl, rfl⟩) (by assumption) ?_; (try simp only [List.getElem_toArray, List.getElem_cons_zero, List.getElem_cons_succ, Act.put, List.setIfInBounds_toArray, List.set_cons_zero, List.set_cons_succ]))
  (refine wpAnyH_take (i := 5) (v := undef) rfl (by decide +kernel) (by decide +kernel) (by decide +kernel) (fun _ _ _ h => h) (Or.inr ⟨by rfl, rfl⟩) (by assumption) ?_; (try simp only [List.getElem_toArray, List.getElem_cons_zero, List.getElem_cons_succ, Act.put, List.setIfInBounds_toArray, List.set_cons_zero, List.set_cons_succ]))
  (refine wpAnyH_take (i := 6) (v := undef) rfl (by decide +kernel) (by decide +kernel) (by decide +kernel) (fun _ _ _ h => h) (Or.inr ⟨by rfl, rfl⟩) (by assumption) ?_; (try simp only [List.getElem_toArray, List.getElem_cons_zero, List.getElem_cons_succ, Act.put, List.setIfInBounds_toArray, List.set_cons_zero, List.set_cons_succ]))
  (refine wpAnyH_take (i := 7) (v := undef) rfl (by decide +kernel) (by decide +kernel) (by decide +kernel) (fun _ _ _ h => h) (Or.inr ⟨by rfl, rfl⟩) (by assumption) ?_; (try simp only [List.getElem_toArray, List.getElem_cons_zero, List.getElem_cons_succ, Act.put, List.setIfInBounds_toArray, List.set_cons_zero, List.set_cons_succ]))
  (refine wpAnyH_take (i := 8) (v := undef) rfl (by decide +kernel) (by decide +kernel) (by decide +kernel) (fun _ _ _ h => h) (Or.inr ⟨by rfl, rfl⟩) (by assumption) ?_; (try simp only [List.getElem_toArray, List.getElem_cons_zero, List.getElem_cons_succ, Act.put, List.setIfInBounds_toArray, List.set_cons_zero, List.set_cons_succ]))
  (refine wpAnyH_take (i := 9) (v := undef) rfl (by decide +kernel) (by decide +kernel) (by decide +kernel) (fun _ _ _ h => h) (Or.inr ⟨by rfl, rfl⟩) (by assumption) ?_; (try simp only [List.getElem_toArray, List.getElem_cons_zero, List.getElem_cons_succ, Act.put, List.setIfInBounds_toArray, List.set_cons_zero, List.set_cons_succ]))
  (refine wpAnyH_take (i := 10) (v := ?_) rfl (by decide +kernel) (by decide +kernel) (by decide +kernel) (fun _ _ _ h => h) (Or.inl ⟨by rfl, ?_⟩) (by assumption) ?_; rotate_left; (focus ((intro w hSw; (try dsimp only at hSw); go_simp); (try (with_reducible rfl)); done)); (try simp only [List.getElem_toArray, List.getElem_cons_zero, List.getElem_cons_succ, Act.put, List.setIfInBounds_toArray, List.set_cons_zero, List.set_cons_succ]))
  refine wpAnyH_done (by decide +kernel) ?_ _
  obtain ⟨W2, hW2⟩ : ∃ X, X = W1.drew := ⟨_, rfl⟩
  rw [← hW2]
  replace HB : Bel W W2 := by rw [hW2]; exact HB.dr
  replace HR : At W2 (W.heap.size + 1) [.bool false, .slice none 0 0, .int .i64 0] := by rw [hW2]; exact HR.dr
  replace H0 : At W2 W.heap.size [.bool b, .slice A n c, .int .i64 0] := by rw [hW2]; exact H0.dr
  replace h : Nm W2 A n c q := by rw [hW2]; exact h.dr
  clear hW2
  have h0_0 := H0.c0
  have h0_1 := H0.c1
  have h0_2 := H0.c2
  have hr_0 := HR.c0
  have hr_1 := HR.c1
  have hr_2 := HR.c2
  have hr_f0 := HR.f0
  have hr_f1 := HR.f1
  have hr_f2 := HR.f2
  go_wp2_with fail
  refine bodyPost_ret (v := .agg #[.bool b, .slice A n c, .int .i64 0]) (by simp [results, Tryz.results124, go_sem, hr_0, hr_1, hr_2]) rfl ?_
  exact ⟨rfl, h.putd HR _ _ _ _ _, (HB.uput3 (by omega) _ _ _).hid⟩
set_option maxHeartbeats 8000000 in
theorem sig_walk {dg u us us' : Int} {um v v' : Nat} (hm : 1 ≤ m ∧ m ≤ 7) (hdg : 1 ≤ dg ∧ dg ≤ 40) (hS : ∀ W', Bel W W' → Calls Tryz.prog 19 #[.agg #[.bool b, .slice A n c, .slice A' n' c']] W' (IntPost W' u)) (hu : u ≠ 0)
    (hE : ∀ W', Bel W W' → Calls Tryz.prog 123 #[.agg #[.bool b, .slice A n c, .slice A' n' c']] W' (IntPost W' e)) (be : -1000000 ≤ e ∧ e ≤ 1000000) (hsc : dg - 1 - e = sc) (h60 : sc ≤ 60)
    (hU : ∀ W', Calls Tryz.prog 122 #[.int .i64 sc] W' (DvR W' false um us))
    (hM : ∀ W' B f, Bel W W' → Nm W' B (dl um) f um → Calls Tryz.prog 121 #[.agg #[.bool b, .slice A n c, .slice A' n' c'], .agg #[.bool false, .slice B (dl um) f, .int .i64 us], .int .i64 m] W' (DvR W' sg v us))
    (hL : ∀ W' B f, Nm W' B (dl v) f v → Calls Tryz.prog 124 #[.agg #[.bool sg, .slice B (dl v) f, .int .i64 us], .int .i64 dg] W' (DvR W' sg v' us')) :
    Calls Tryz.prog 59 #[.agg #[.bool b, .slice A n c, .slice A' n' c'], .int .i64 dg, .int .i64 m] W (ToR W sg v' us') := by
  have CM : Hid (∀ W', Calls Tryz.prog 61 #[.int .i64 m] W' (RetB W' true)) := fun W' => by
    have h1 := mode_h (W := W') (m := m)
    rwa [decide_eq_true hm] at h1
  have CS := hide hS
  have CE := hide hE
  have CU := hide hU
  have CX := hide hM
  have CL := hide hL
  have g1 : decide (dg < 1) = false := decide_eq_false (by omega)
  have g2 : decide (40 < dg) = false := decide_eq_false (by omega)
  have g3 : (u == 0) = false := by simpa using hu
  have g4 : decide (60 < sc) = false := decide_eq_false (by omega)
  have g1' : ¬ dg < 1 := by omega
  have g2' : ¬ 40 < dg := by omega
  have g4' : ¬ 60 < sc := by omega
  have k1 : IntKind.i64.wrap (dg - 1) = dg - 1 := IntWalk.i64_in _ (by omega)
  have k2 : wrap64 (dg - 1) = dg - 1 := IntWalk.wrap64_in _ (by omega)
  have k3 : IntKind.i64.wrap (dg - 1 - e) = sc := by rw [IntWalk.i64_in _ (by omega)]; exact hsc
  have k4 : wrap64 (dg - 1 - e) = sc := by rw [IntWalk.wrap64_in _ (by omega)]; exact hsc
  clear hm hdg hS hu hE be hsc h60 hU hM hL
  have HB := Bel.refl W
  go_enter Tryz.func59, Tryz.ntmps59
  go_wp2_with (first | (go_at_call 61; (with_reducible refine (CM.out _).mono ?_); rintro e w1 ⟨rfl, hbk⟩; replace hbk := Bel.hid hbk; (with_reducible (have H0 : At w1 W.heap.size [.bool b, .slice A n c, .slice A' n' c'] := At.up ((at_new0 _ _ _).al _) hbk; have HR : At w1 (W.heap.size + 1) [.bool false, .slice none 0 0, .int .i64 0] := At.up (at_new1 _ _ _ _) hbk; replace HB := ((HB.al _).al _).up hbk)); have h0_0 := H0.c0; have h0_1 := H0.c1; have h0_2 := H0.c2; have h0_l := H0.lt) | (go_at_call 19; (with_reducible refine (CS.out _ HB).mono ?_); rintro e w2 ⟨rfl, hbk⟩; (with_reducible (replace HB := HB.up hbk; replace H0 := H0.up hbk; replace HR := HR.up hbk)); clear h0_0 h0_1 h0_2 h0_l; have h0_0 := H0.c0; have h0_1 := H0.c1; have h0_2 := H0.c2; have h0_l := H0.lt) | (go_at_call 123; (with_reducible refine (CE.out _ HB).mono ?_); rintro e w3 ⟨rfl, hbk⟩; (with_reducible (replace HB := HB.up hbk; replace H0 := H0.up hbk; replace HR := HR.up hbk)); clear h0_0 h0_1 h0_2 h0_l) | fail)
  have lz0 := H0.lt
  have lz1 := HR.lt
  go_region_held3 (fun w' => w'.cell? ⟨W.heap.size, 0, none⟩ = some (.bool b) ∧ w'.cell? ⟨W.heap.size, 1, none⟩ = some (.slice A n c) ∧ w'.cell? ⟨W.heap.size, 2, none⟩ = some (.slice A' n' c'))
    (refine ⟨(?_ : At _ W.heap.size [.bool b, .slice A n c, .slice A' n' c']).c0, (?_ : At _ W.heap.size [.bool b, .slice A n c, .slice A' n' c']).c1, (?_ : At _ W.heap.size [.bool b, .slice A n c, .slice A' n' c']).c2⟩ <;> (repeat (first | with_reducible exact H0 | (with_reducible refine At.dr ?_) | (with_reducible refine At.al ?_ _) | (with_reducible refine At.far ?_ (by omega) _))))
    (first | (go_at_call 122; (with_reducible refine (CU.out _).mono ?_); rintro e w4 ⟨Bo, eo, rfl, no, hbk⟩; (with_reducible (replace HB := HB.dr.up hbk; replace H0 := H0.dr.up hbk; replace HR := HR.dr.up hbk))) | (go_at_call 121; (with_reducible refine (CX.out _ _ _ HB no).mono ?_); rintro e w5 ⟨Bt, et, rfl, nt, hbk⟩; (with_reducible (replace HB := HB.up hbk; replace H0 := H0.up hbk; replace HR := HR.up hbk))) | (go_at_call 124; (with_reducible refine (CL.out _ _ _ nt).mono ?_); rintro e w6 ⟨Bv, ev, rfl, nv, hbk⟩; (with_reducible (replace HB := HB.up hbk; replace H0 := H0.up hbk; replace HR := HR.up hbk)); have hr_0 := HR.c0; have hr_1 := HR.c1; have hr_2 := HR.c2; have hr_l := HR.lt; have hr_f0 := HR.f0; have hr_f1 := HR.f1; have hr_f2 := HR.f2) | fail)
  go_wp2_with fail
  refine bodyPost_ret (v := .tuple #[.agg #[.bool sg, .slice Bv (dl v') ev, .int .i64 us'], .int .i64 0]) (by simp [results, Tryz.results59, go_sem, hr_0, hr_1, hr_2]) rfl ?_
  exact ⟨Bv, ev, rfl, nv.putd HR _ _ _ _ _, (HB.uput3 (by omega) _ _ _).hid⟩
end
end Go.Proofs.YtfcamfkimnlfgaaGreatDoor
