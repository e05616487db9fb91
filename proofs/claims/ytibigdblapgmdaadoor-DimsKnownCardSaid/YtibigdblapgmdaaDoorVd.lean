/- Package dims: Times, Neg, Same, Base. No conditions. -/
import Derived.Test.YtibigdblapgmdaaDoorVc
import Derived.Test.YtibigdblapgmdaaDoorVf
open Go.RowKit
set_option maxRecDepth 100000
namespace Go.Proofs.YtibigdblapgmdaaDoor
theorem vset_at' {W : World} {p k : Nat} {s a : V8} {x : Int} (h : At W p (V8.mix s a k).c) (hk : k < 8) (hx : x = s.at_ k) : At (W.setCell ⟨p, k, none⟩ (.int .i64 x)) p (V8.mix s a (k + 1)).c := by
  have h1 := h.put (i := k) hk (.int .i64 x)
  rw [hx] at h1 ⊢
  rw [V8.c_l, ← List.map_set, V8.mix_set hk] at h1
  exact h1
theorem vmul_in {x c : Int} (hx : -100 ≤ x ∧ x ≤ 100) (hc : -100 ≤ c ∧ c ≤ 100) : -9223372036854775808 ≤ x * c ∧ x * c ≤ 9223372036854775807 := by
  have h1 : x.natAbs ≤ 100 := by omega
  have h2 : c.natAbs ≤ 100 := by omega
  have h3 : x.natAbs * c.natAbs ≤ 100 * 100 := Nat.mul_le_mul h1 h2
  rw [← Int.natAbs_mul] at h3
  omega
theorem times_no1 {a : V8} {k : Int} (h : a.ok = false) (w : World) : Calls Tryd.prog 10 #[a.v, .int .i64 k] w (RetVV w V8.z false) := by
  have C1 := vhide (isValid_h h)
  clear h
  go_enter Tryd.func10, Tryd.ntmps10
  go_wp2_with (first | (go_at_call 22; (with_reducible refine (C1.out _).mono ?_); rintro e w1 ⟨rfl, hb⟩; have HB : Bel w w1 := ((((Bel.refl w).al _).al _)).up hb; have HA := At.up (((at_new0 w a.c _).al _)) hb; have HP := At.up (at_new1 w _ V8.z.c _) hb; replace HB := vhide HB; clear hb; obtain ⟨a0, a1, a2, a3, a4, a5, a6, a7⟩ := HA.v8; obtain ⟨af0, af1, af2, af3, af4, af5, af6, af7⟩ := HA.f8; obtain ⟨p0, p1, p2, p3, p4, p5, p6, p7⟩ := HP.v8; obtain ⟨pf0, pf1, pf2, pf3, pf4, pf5, pf6, pf7⟩ := HP.f8) | fail)
  refine vname_end ?_
  intro W4 hW4
  have HF : At W4 (w.heap.size + 1) V8.z.c := by rw [hW4]; exact HP.put8
  have BF : Bel w W4 := by rw [hW4]; exact Bel.put8 HB (by omega)
  clear hW4
  obtain ⟨r0, r1, r2, r3, r4, r5, r6, r7⟩ := HF.v8
  refine bodyPost_ret (v := .tuple #[V8.z.v, .bool false]) (by simp [results, Tryd.results10, go_sem, r0, r1, r2, r3, r4, r5, r6, r7]) rfl ⟨rfl, BF⟩
theorem times_no2 {a : V8} {k : Int} {y : Bool} (h1 : a.ok = true) (h2 : fitB k = false) (h3 : decide (a = V8.z) = y) (w : World) : Calls Tryd.prog 10 #[a.v, .int .i64 k] w (RetVV w V8.z y) := by
  have C1 := vhide (isValid_h h1)
  have C2 := vhide (fits_h h2)
  have hq := veq_v a V8.z
  rw [h3] at hq
  clear h1 h2 h3
  go_enter Tryd.func10, Tryd.ntmps10
  go_wp2_with (first | (go_at_call 22; (with_reducible refine (C1.out _).mono ?_); rintro e w1 ⟨rfl, hb⟩; have HB : Bel w w1 := ((((Bel.refl w).al _).al _)).up hb; have HA := At.up (((at_new0 w a.c _).al _)) hb; have HP := At.up (at_new1 w _ V8.z.c _) hb; replace HB := vhide HB; clear hb; obtain ⟨a0, a1, a2, a3, a4, a5, a6, a7⟩ := HA.v8; obtain ⟨af0, af1, af2, af3, af4, af5, af6, af7⟩ := HA.f8; obtain ⟨p0, p1, p2, p3, p4, p5, p6, p7⟩ := HP.v8; obtain ⟨pf0, pf1, pf2, pf3, pf4, pf5, pf6, pf7⟩ := HP.f8) | (go_at_call 24; (with_reducible refine (C2.out _).mono ?_); rintro e w2 ⟨rfl, rfl⟩) | fail)
  go_region
  go_wp2
  refine vname_end ?_
  intro W4 hW4
  have HF : At W4 (w.heap.size + 1) V8.z.c := by rw [hW4]; exact by first | exact HP.put8.dr | exact (HP.dr).put8
  have BF : Bel w W4 := by rw [hW4]; exact by first | exact (Bel.put8 HB (by omega)).dr | exact Bel.put8 (Bel.dr HB) (by omega)
  clear hW4
  obtain ⟨r0, r1, r2, r3, r4, r5, r6, r7⟩ := HF.v8
  refine bodyPost_ret (v := .tuple #[V8.z.v, .bool y]) (by simp [results, Tryd.results10, go_sem, r0, r1, r2, r3, r4, r5, r6, r7]) rfl ⟨rfl, BF⟩
set_option maxHeartbeats 2000000 in
theorem times_yes {a r : V8} {c : Int} {y : Bool} (h1 : a.ok = true) (h2 : fitB c = true) (hc : ∀ V, Calls Tryd.prog 23 #[(a.mul c).v] V (RetVV V r y)) (w : World) : Calls Tryd.prog 10 #[a.v, .int .i64 c] w (RetVV w r y) := by
  have C1 := vhide (isValid_h h1)
  have C2 := vhide (fits_h h2)
  have C3 := vhide hc
  have K1 := vhide (V8.ok_iff.1 h1)
  have K2 := fitB_iff.1 h2
  clear h1 h2 hc
  go_enter Tryd.func10, Tryd.ntmps10
  go_wp2_with (first | (go_at_call 22; (with_reducible refine (C1.out _).mono ?_); rintro e w1 ⟨rfl, hb⟩; have HB : Bel w w1 := ((((Bel.refl w).al _).al _)).up hb; have HA := At.up (((at_new0 w a.c _).al _)) hb; have HP := At.up (at_new1 w _ V8.z.c _) hb; replace HB := vhide HB; clear hb; obtain ⟨a0, a1, a2, a3, a4, a5, a6, a7⟩ := HA.v8; obtain ⟨af0, af1, af2, af3, af4, af5, af6, af7⟩ := HA.f8; obtain ⟨p0, p1, p2, p3, p4, p5, p6, p7⟩ := HP.v8; obtain ⟨pf0, pf1, pf2, pf3, pf4, pf5, pf6, pf7⟩ := HP.f8) | (go_at_call 24; (with_reducible refine (C2.out _).mono ?_); rintro e w2 ⟨rfl, rfl⟩) | fail)
  go_loopw [18] (fun iv wr => ∃ k : Nat, k ≤ 8 ∧ iv = .int .i64 (k : Int) ∧ Hid (At wr w.heap.size (V8.mix (a.mul c) a k).c) ∧ Hid (At wr (w.heap.size + 1) V8.z.c) ∧ Hid (Below w.heap.size w wr)) (fun iv _ => 8 - (intOf iv).toNat)
  case atStart => exact ⟨0, by omega, rfl, by rw [V8.mix_zero]; exact HA, HP, HB⟩
  case round =>
    obtain ⟨k, hk, rfl, GA, GP, GB⟩ := hrel
    clear HA HP HB a0 a1 a2 a3 a4 a5 a6 a7 af0 af1 af2 af3 af4 af5 af6 af7 p0 p1 p2 p3 p4 p5 p6 p7 pf0 pf1 pf2 pf3 pf4 pf5 pf6 pf7
    by_cases hlt : k < 8
    · have e1 := V8.mix_at (a := a.mul c) (b := a) (k := k) hlt
      rw [if_neg (by omega)] at e1
      obtain ⟨x, hx⟩ : ∃ x, x = a.at_ k := ⟨_, rfl⟩
      have g1 := (GA.out).ci (i := k) (v := .int .i64 x) (by rw [V8.c_l, List.getElem?_map, V8.l_get hlt, e1, hx]; rfl)
      have f1 := (GA.out).fi (i := k) (v := .int .i64 x) (by rw [V8.c_l, List.getElem?_map, V8.l_get hlt, e1, hx]; rfl)
      have b1 := K1.out k hlt
      rw [← hx] at b1
      have w1' : IntKind.i64.wrap (x * c) = x * c := IntWalk.i64_in _ (vmul_in b1 K2)
      have HX := vhide hx
      clear e1 hx
      go_wp2
      go_roundw
      case rel => exact ⟨k + 1, by omega, by go_num, vset_at' GA.out hlt (by rw [HX.out, V8.at_mul hlt]), GP.out.far (by omega) _, (GB.out).setCell (by simp) _⟩
      case measure => simp [intOf]; omega
    · obtain rfl : k = 8 := by omega
      rw [V8.mix_all] at GA
      have HA := GA.out
      have HP := GP.out
      have HB := GB
      clear GA GP GB
      obtain ⟨a0, a1, a2, a3, a4, a5, a6, a7⟩ := HA.v8
      go_wp2_with (first | (go_at_call 23; (with_reducible refine (C3.out _).mono ?_); rintro e w3 ⟨rfl, hb⟩; clear a0 a1 a2 a3 a4 a5 a6 a7; replace HB := (Bel.up HB hb).hid; replace HP := HP.up hb; clear hb; obtain ⟨p0, p1, p2, p3, p4, p5, p6, p7⟩ := HP.v8; obtain ⟨pf0, pf1, pf2, pf3, pf4, pf5, pf6, pf7⟩ := HP.f8) | fail)
      refine vname_end ?_
      intro W4 hW4
      have HF : At W4 (w.heap.size + 1) r.c := by rw [hW4]; exact HP.put8
      have BF : Bel w W4 := by rw [hW4]; exact Bel.put8 HB (by omega)
      clear hW4
      obtain ⟨r0, r1, r2, r3, r4, r5, r6, r7⟩ := HF.v8
      refine bodyPost_ret (v := .tuple #[r.v, .bool y]) (by simp [results, Tryd.results10, go_sem, r0, r1, r2, r3, r4, r5, r6, r7]) rfl ⟨rfl, BF⟩
theorem times_h (a : V8) (k : Int) (w : World) : Calls Tryd.prog 10 #[a.v, .int .i64 k] w (RetVV w (V8.mulR a k) (V8.mulB a k)) := by
  unfold V8.mulR V8.mulB
  cases h1 : a.ok with
  | false => exact times_no1 h1 w
  | true =>
    cases h2 : fitB k with
    | false =>
      have h := times_no2 h1 h2 (y := decide (a = V8.z)) rfl w
      simpa using h
    | true =>
      cases h3 : (a.mul k).ok with
      | false =>
        have h := times_yes h1 h2 (ifValid_no h3) w
        simpa using h
      | true =>
        have h := times_yes h1 h2 (ifValid_yes h3) w
        simpa using h
theorem add_h (a b : V8) (w : World) : Calls Tryd.prog 9 #[a.v, b.v] w (RetVV w (V8.addR a b) (V8.addB a b)) := by
  unfold V8.addR V8.addB
  cases h1 : a.ok with
  | false => exact add_no1 h1 w
  | true =>
    cases h2 : b.ok with
    | false => exact add_no2 h1 h2 w
    | true =>
      cases h3 : (a.add b).ok with
      | false =>
        have h := add_yes h1 h2 (ifValid_no h3) w
        simpa using h
      | true =>
        have h := add_yes h1 h2 (ifValid_yes h3) w
        simpa using h
theorem neg_h (a : V8) (w : World) : Calls Tryd.prog 16 #[a.v] w (RetV1 w (V8.neg a)) := by
  have C1 := vhide (times_h a (-1))
  obtain ⟨r, hr⟩ : ∃ r, r = V8.mulR a (-1) := ⟨_, rfl⟩
  obtain ⟨y, hy⟩ : ∃ y, y = V8.mulB a (-1) := ⟨_, rfl⟩
  rw [← hr, ← hy] at C1
  show Calls _ _ _ _ (RetV1 w (V8.mulR a (-1)))
  rw [← hr]
  clear hr hy
  go_enter Tryd.func16, Tryd.ntmps16
  go_wp2_with (first | (go_at_call 10; (with_reducible refine (C1.out _).mono ?_); rintro e w1 ⟨rfl, hb⟩; have HB : Bel w w1 := ((((Bel.refl w).al _).al _)).up hb; have HP := At.up (at_new1 w _ V8.z.c _) hb; have hz : w.heap.size + 1 < w1.heap.size := HP.lt; replace HB := vhide HB; clear hb; obtain ⟨p0, p1, p2, p3, p4, p5, p6, p7⟩ := HP.v8; obtain ⟨pf0, pf1, pf2, pf3, pf4, pf5, pf6, pf7⟩ := HP.f8) | fail)
  refine vname_end ?_
  intro W4 hW4
  have HF : At W4 (w.heap.size + 1) r.c := by rw [hW4]; exact HP.put8.al _
  have BF : Bel w W4 := by rw [hW4]; exact (Bel.put8 HB (by omega)).al _
  clear hW4
  obtain ⟨r0, r1, r2, r3, r4, r5, r6, r7⟩ := HF.v8
  refine bodyPost_ret (v := r.v) (by simp [results, Tryd.results16, go_sem, r0, r1, r2, r3, r4, r5, r6, r7]) rfl ⟨rfl, BF⟩
theorem same_h (a b : V8) (w : World) : Calls Tryd.prog 18 #[a.v, b.v] w (RetV w (decide (a = b))) := by
  have hq := veq_v a b
  obtain ⟨y, hy⟩ : ∃ y, y = decide (a = b) := ⟨_, rfl⟩
  rw [← hy] at hq ⊢
  clear hy
  go_enter Tryd.func18, Tryd.ntmps18
  go_wp2
  go_ret
  exact ⟨rfl, (((Bel.refl w).al _).al _)⟩
theorem base_m (w : World) : Calls Tryd.prog 8 #[.int .i64 (-1)] w (RetVV w V8.z false) := by
  go_enter Tryd.func8, Tryd.ntmps8
  go_wp2
  refine vname_end ?_
  intro W4 hW4
  have HF : At W4 w.heap.size V8.z.c := by rw [hW4]; exact (at_new0 w V8.z.c _).al _
  have BF : Bel w W4 := by rw [hW4]; exact (((Bel.refl w).al _).al _)
  clear hW4
  obtain ⟨r0, r1, r2, r3, r4, r5, r6, r7⟩ := HF.v8
  refine bodyPost_ret (v := .tuple #[V8.z.v, .bool false]) (by simp [results, Tryd.results8, go_sem, r0, r1, r2, r3, r4, r5, r6, r7]) rfl ⟨rfl, BF⟩
theorem base_8 (w : World) : Calls Tryd.prog 8 #[.int .i64 8] w (RetVV w V8.z false) := by
  go_enter Tryd.func8, Tryd.ntmps8
  go_wp2
  refine vname_end ?_
  intro W4 hW4
  have HF : At W4 w.heap.size V8.z.c := by rw [hW4]; exact (at_new0 w V8.z.c _).al _
  have BF : Bel w W4 := by rw [hW4]; exact (((Bel.refl w).al _).al _)
  clear hW4
  obtain ⟨r0, r1, r2, r3, r4, r5, r6, r7⟩ := HF.v8
  refine bodyPost_ret (v := .tuple #[V8.z.v, .bool false]) (by simp [results, Tryd.results8, go_sem, r0, r1, r2, r3, r4, r5, r6, r7]) rfl ⟨rfl, BF⟩
abbrev V8.one : V8 := ⟨0, 1, 0, 0, 0, 0, 0, 0⟩
theorem base_1 (w : World) : Calls Tryd.prog 8 #[.int .i64 1] w (RetVV w V8.one true) := by
  go_enter Tryd.func8, Tryd.ntmps8
  go_wp2
  refine vname_end ?_
  intro W4 hW4
  have HF : At W4 w.heap.size V8.one.c := by rw [hW4]; exact (at_new0 w V8.one.c _).al _
  have BF : Bel w W4 := by rw [hW4]; exact (((Bel.refl w).al _).al _)
  clear hW4
  obtain ⟨r0, r1, r2, r3, r4, r5, r6, r7⟩ := HF.v8
  refine bodyPost_ret (v := .tuple #[V8.one.v, .bool true]) (by simp [results, Tryd.results8, go_sem, r0, r1, r2, r3, r4, r5, r6, r7]) rfl ⟨rfl, BF⟩
end Go.Proofs.YtibigdblapgmdaaDoor
