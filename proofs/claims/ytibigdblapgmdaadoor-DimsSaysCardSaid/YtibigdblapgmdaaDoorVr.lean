/- The document's own vectors: GoodV, AddV, TimesV, NegV. No conditions. -/
import Derived.Test.YtibigdblapgmdaaDoorVd
import Derived.Test.YtibigdblapgmdaaDoorVf
import Derived.Deep.RegionWith
import Derived.RegionTactic
open Go.RowKit
set_option maxRecDepth 100000
namespace Go.Proofs.YtibigdblapgmdaaDoor
theorem rgood_h {a : V8} {b : Bool} (h : a.ok = b) (w : World) : Calls Tryd.prog 28 #[a.v] w (RetV w b) := by
  have HH := vhide h
  clear h
  go_enter Tryd.func28, Tryd.ntmps28
  go_wp2
  obtain ⟨W1, hW1⟩ : ∃ X, X = w.alloc (.cells a.c.toArray 40) := ⟨_, rfl⟩
  rw [← hW1]
  have HB : Hid (Below w.heap.size w W1) := by rw [hW1]; exact (Below.refl _ _).alloc (Nat.le_refl _) _
  have HA : At W1 w.heap.size a.c := by rw [hW1]; exact at_new0 w a.c _
  clear hW1
  go_loop [3] (fun iv => ∃ k : Nat, k ≤ 8 ∧ iv = .int .i64 (k : Int) ∧ Hid (a.okTo k = true)) (fun iv => 8 - (intOf iv).toNat)
  case atStart => exact ⟨0, by omega, rfl, a.okTo_zero⟩
  case round =>
    obtain ⟨k, hk, rfl, HK⟩ := hrel
    by_cases hlt : k < 8
    · have HS := vhide (a.okTo_succ k)
      obtain ⟨x, hx⟩ : ∃ x, x = a.at_ k := ⟨_, rfl⟩
      have g1 := HA.ci (i := k) (v := .int .i64 x) (by rw [V8.c_l, List.getElem?_map, V8.l_get hlt, hx]; rfl)
      have HX := vhide hx
      have hl := HA.lt
      clear hx
      by_cases h1 : x < -100
      · have HN : Hid (a.ok = false) := V8.ok_of_bad hlt (by rw [← HX.out]; exact fitB_not.2 (.inl h1))
        go_wp2
        obtain rfl : b = false := HH.out.symm.trans HN.out
        go_ret
        exact ⟨rfl, HB⟩
      · by_cases h2 : 100 < x
        · have HN : Hid (a.ok = false) := V8.ok_of_bad hlt (by rw [← HX.out]; exact fitB_not.2 (.inr h2))
          go_wp2
          obtain rfl : b = false := HH.out.symm.trans HN.out
          go_ret
          exact ⟨rfl, HB⟩
        · have HK2 : Hid (a.okTo (k + 1) = true) := by
            have h5 := HS.out
            rw [HK.out, ← HX.out, fitB_iff.2 ⟨by omega, by omega⟩] at h5
            exact h5
          go_wp2
          go_round
          case rel => exact ⟨k + 1, by omega, by go_num, HK2⟩
          case measure => simp [intOf]; omega
    · obtain rfl : k = 8 := by omega
      go_wp2
      obtain rfl : b = true := HH.out.symm.trans HK.out
      go_ret
      exact ⟨rfl, HB⟩
theorem radd_no1 {a b : V8} (h : a.ok = false) (w : World) : Calls Tryd.prog 19 #[a.v, b.v] w (RetVV w V8.z false) := by
  have C1 := vhide (rgood_h h)
  clear h
  go_enter Tryd.func19, Tryd.ntmps19
  go_wp2_with (first | (go_at_call 28; (with_reducible refine (C1.out _).mono ?_); rintro e w1 ⟨rfl, hb⟩; have HB : Bel w w1 := (((((Bel.refl w).al _).al _).al _).al _).up hb; have HA := At.up ((((at_new0 w a.c _).al _).al _).al _) hb; have HC := At.up (((at_new1 w _ b.c _).al _).al _) hb; have HP := At.up ((at_new2 w _ _ V8.z.c _).al _) hb; have HR := At.up (at_new3 w _ _ _ V8.z.c _) hb; replace HB := vhide HB; clear hb; obtain ⟨a0, a1, a2, a3, a4, a5, a6, a7⟩ := HA.v8; obtain ⟨b0, b1, b2, b3, b4, b5, b6, b7⟩ := HC.v8; obtain ⟨p0, p1, p2, p3, p4, p5, p6, p7⟩ := HP.v8; obtain ⟨pf0, pf1, pf2, pf3, pf4, pf5, pf6, pf7⟩ := HP.f8; obtain ⟨r0, r1, r2, r3, r4, r5, r6, r7⟩ := HR.v8; obtain ⟨rf0, rf1, rf2, rf3, rf4, rf5, rf6, rf7⟩ := HR.f8; have lP := HP.lt; have lR := HR.lt) | fail)
  refine vname_end ?_
  intro W4 hW4
  have HF : At W4 (w.heap.size + 1 + 1) V8.z.c := by rw [hW4]; exact HP.put8
  have BF : Bel w W4 := by rw [hW4]; exact Bel.put8 HB (by omega)
  clear hW4
  obtain ⟨s0, s1, s2, s3, s4, s5, s6, s7⟩ := HF.v8
  refine bodyPost_ret (v := .tuple #[V8.z.v, .bool false]) (by simp [results, Tryd.results19, go_sem, s0, s1, s2, s3, s4, s5, s6, s7]) rfl ⟨rfl, BF⟩
theorem radd_no2 {a b : V8} (h1 : a.ok = true) (h2 : b.ok = false) (w : World) : Calls Tryd.prog 19 #[a.v, b.v] w (RetVV w V8.z false) := by
  have C1 := vhide (rgood_h h1)
  have C2 := vhide (rgood_h h2)
  clear h1 h2
  go_enter Tryd.func19, Tryd.ntmps19
  go_wp2_with (first | (go_at_call 28; (with_reducible refine (C1.out _).mono ?_); rintro e w1 ⟨rfl, hb⟩; have HB : Bel w w1 := (((((Bel.refl w).al _).al _).al _).al _).up hb; have HA := At.up ((((at_new0 w a.c _).al _).al _).al _) hb; have HC := At.up (((at_new1 w _ b.c _).al _).al _) hb; have HP := At.up ((at_new2 w _ _ V8.z.c _).al _) hb; have HR := At.up (at_new3 w _ _ _ V8.z.c _) hb; replace HB := vhide HB; clear hb; obtain ⟨a0, a1, a2, a3, a4, a5, a6, a7⟩ := HA.v8; obtain ⟨b0, b1, b2, b3, b4, b5, b6, b7⟩ := HC.v8; obtain ⟨p0, p1, p2, p3, p4, p5, p6, p7⟩ := HP.v8; obtain ⟨pf0, pf1, pf2, pf3, pf4, pf5, pf6, pf7⟩ := HP.f8; obtain ⟨r0, r1, r2, r3, r4, r5, r6, r7⟩ := HR.v8; obtain ⟨rf0, rf1, rf2, rf3, rf4, rf5, rf6, rf7⟩ := HR.f8; have lP := HP.lt; have lR := HR.lt) | (go_at_call 28; (with_reducible refine (C2.out _).mono ?_); rintro e w2 ⟨rfl, hb⟩; clear a0 a1 a2 a3 a4 a5 a6 a7 b0 b1 b2 b3 b4 b5 b6 b7 p0 p1 p2 p3 p4 p5 p6 p7 pf0 pf1 pf2 pf3 pf4 pf5 pf6 pf7 r0 r1 r2 r3 r4 r5 r6 r7 rf0 rf1 rf2 rf3 rf4 rf5 rf6 rf7 lP lR; replace HA := HA.up hb; replace HC := HC.up hb; replace HP := HP.up hb; replace HR := HR.up hb; replace HB := (Bel.up HB hb).hid; clear hb; obtain ⟨a0, a1, a2, a3, a4, a5, a6, a7⟩ := HA.v8; obtain ⟨b0, b1, b2, b3, b4, b5, b6, b7⟩ := HC.v8; obtain ⟨p0, p1, p2, p3, p4, p5, p6, p7⟩ := HP.v8; obtain ⟨pf0, pf1, pf2, pf3, pf4, pf5, pf6, pf7⟩ := HP.f8; obtain ⟨r0, r1, r2, r3, r4, r5, r6, r7⟩ := HR.v8; obtain ⟨rf0, rf1, rf2, rf3, rf4, rf5, rf6, rf7⟩ := HR.f8; have lP := HP.lt; have lR := HR.lt) | fail)
  refine vname_end ?_
  intro W4 hW4
  have HF : At W4 (w.heap.size + 1 + 1) V8.z.c := by rw [hW4]; exact HP.put8
  have BF : Bel w W4 := by rw [hW4]; exact Bel.put8 HB (by omega)
  clear hW4
  obtain ⟨s0, s1, s2, s3, s4, s5, s6, s7⟩ := HF.v8
  refine bodyPost_ret (v := .tuple #[V8.z.v, .bool false]) (by simp [results, Tryd.results19, go_sem, s0, s1, s2, s3, s4, s5, s6, s7]) rfl ⟨rfl, BF⟩
set_option maxHeartbeats 2000000 in
theorem radd_yes {a b : V8} (h1 : a.ok = true) (h2 : b.ok = true) (h3 : (a.add b).ok = true) (w : World) : Calls Tryd.prog 19 #[a.v, b.v] w (RetVV w (a.add b) true) := by
  have C1 := vhide (rgood_h h1)
  have C2 := vhide (rgood_h h2)
  have C3 := vhide (rgood_h h3)
  have K1 := vhide (V8.ok_iff.1 h1)
  have K2 := vhide (V8.ok_iff.1 h2)
  obtain ⟨S, hS⟩ : ∃ S, S = a.add b := ⟨_, rfl⟩
  rw [← hS] at C3
  have KS : Hid (∀ k, k < 8 → S.at_ k = a.at_ k + b.at_ k) := fun k hk => by rw [hS, V8.at_add hk]
  rw [← hS]
  clear h1 h2 h3 hS
  go_enter Tryd.func19, Tryd.ntmps19
  go_wp2_with (first | (go_at_call 28; (with_reducible refine (C1.out _).mono ?_); rintro e w1 ⟨rfl, hb⟩; have HB : Bel w w1 := (((((Bel.refl w).al _).al _).al _).al _).up hb; have HA := At.up ((((at_new0 w a.c _).al _).al _).al _) hb; have HC := At.up (((at_new1 w _ b.c _).al _).al _) hb; have HP := At.up ((at_new2 w _ _ V8.z.c _).al _) hb; have HR := At.up (at_new3 w _ _ _ V8.z.c _) hb; replace HB := vhide HB; clear hb; obtain ⟨a0, a1, a2, a3, a4, a5, a6, a7⟩ := HA.v8; obtain ⟨b0, b1, b2, b3, b4, b5, b6, b7⟩ := HC.v8; obtain ⟨p0, p1, p2, p3, p4, p5, p6, p7⟩ := HP.v8; obtain ⟨pf0, pf1, pf2, pf3, pf4, pf5, pf6, pf7⟩ := HP.f8; obtain ⟨r0, r1, r2, r3, r4, r5, r6, r7⟩ := HR.v8; obtain ⟨rf0, rf1, rf2, rf3, rf4, rf5, rf6, rf7⟩ := HR.f8; have lP := HP.lt; have lR := HR.lt) | (go_at_call 28; (with_reducible refine (C2.out _).mono ?_); rintro e w2 ⟨rfl, hb⟩; clear a0 a1 a2 a3 a4 a5 a6 a7 b0 b1 b2 b3 b4 b5 b6 b7 p0 p1 p2 p3 p4 p5 p6 p7 pf0 pf1 pf2 pf3 pf4 pf5 pf6 pf7 r0 r1 r2 r3 r4 r5 r6 r7 rf0 rf1 rf2 rf3 rf4 rf5 rf6 rf7 lP lR; replace HA := HA.up hb; replace HC := HC.up hb; replace HP := HP.up hb; replace HR := HR.up hb; replace HB := (Bel.up HB hb).hid; clear hb; obtain ⟨a0, a1, a2, a3, a4, a5, a6, a7⟩ := HA.v8; obtain ⟨b0, b1, b2, b3, b4, b5, b6, b7⟩ := HC.v8; obtain ⟨p0, p1, p2, p3, p4, p5, p6, p7⟩ := HP.v8; obtain ⟨pf0, pf1, pf2, pf3, pf4, pf5, pf6, pf7⟩ := HP.f8; obtain ⟨r0, r1, r2, r3, r4, r5, r6, r7⟩ := HR.v8; obtain ⟨rf0, rf1, rf2, rf3, rf4, rf5, rf6, rf7⟩ := HR.f8; have lP := HP.lt; have lR := HR.lt) | fail)
  go_loopw [7] (fun iv wr => ∃ k : Nat, k ≤ 8 ∧ iv = .int .i64 (k : Int) ∧ Hid (At wr w.heap.size a.c) ∧ Hid (At wr (w.heap.size + 1) b.c) ∧ Hid (At wr (w.heap.size + 1 + 1) V8.z.c) ∧ Hid (At wr (w.heap.size + 1 + 1 + 1) (V8.mix S V8.z k).c) ∧ Hid (Below w.heap.size w wr)) (fun iv _ => 8 - (intOf iv).toNat)
  case atStart => exact ⟨0, by omega, rfl, HA, HC, HP, by rw [V8.mix_zero]; exact HR, HB⟩
  case round =>
    obtain ⟨k, hk, rfl, GA, GC, GP, GR, GB⟩ := hrel
    clear HA HC HP HR HB
    clear a0 a1 a2 a3 a4 a5 a6 a7 b0 b1 b2 b3 b4 b5 b6 b7 p0 p1 p2 p3 p4 p5 p6 p7 pf0 pf1 pf2 pf3 pf4 pf5 pf6 pf7 r0 r1 r2 r3 r4 r5 r6 r7 rf0 rf1 rf2 rf3 rf4 rf5 rf6 rf7 lP lR
    by_cases hlt : k < 8
    · obtain ⟨x, hx⟩ : ∃ x, x = a.at_ k := ⟨_, rfl⟩
      obtain ⟨y', hy⟩ : ∃ y, y = b.at_ k := ⟨_, rfl⟩
      have g1 := (GA.out).ci (i := k) (v := .int .i64 x) (by rw [V8.c_l, List.getElem?_map, V8.l_get hlt, hx]; rfl)
      have g2 := (GC.out).ci (i := k) (v := .int .i64 y') (by rw [V8.c_l, List.getElem?_map, V8.l_get hlt, hy]; rfl)
      obtain ⟨z', hz⟩ : ∃ z, z = (V8.mix S V8.z k).at_ k := ⟨_, rfl⟩
      have g3 := (GR.out).ci (i := k) (v := .int .i64 z') (by rw [V8.c_l, List.getElem?_map, V8.l_get hlt, hz]; rfl)
      have f3 := (GR.out).fi (i := k) (v := .int .i64 z') (by rw [V8.c_l, List.getElem?_map, V8.l_get hlt, hz]; rfl)
      have l3 := (GR.out).lt
      have b1 := K1.out k hlt
      have b2 := K2.out k hlt
      rw [← hx] at b1
      rw [← hy] at b2
      have w1' : IntKind.i64.wrap (x + y') = x + y' := IntWalk.i64_in _ (by omega)
      have HX := vhide hx
      have HY := vhide hy
      clear hx hy hz
      go_wp2_with fail
      go_region
      go_wp2
      go_roundw
      case rel => exact ⟨k + 1, by omega, by go_num, (GA.out.far (by omega) _).dr, (GC.out.far (by omega) _).dr, (GP.out.far (by omega) _).dr, vset_at GR.out hlt (by rw [HX.out, HY.out, KS.out k hlt]), ((GB.out).setCell (by show w.heap.size ≤ w.heap.size + 1 + 1 + 1; omega) _).drew⟩
      case measure => simp [intOf]; omega
    · obtain rfl : k = 8 := by omega
      rw [V8.mix_all] at GR
      have HP := GP.out
      have HR := GR.out
      have HB := GB
      clear GA GC GP GR GB
      obtain ⟨p0, p1, p2, p3, p4, p5, p6, p7⟩ := HP.v8; obtain ⟨pf0, pf1, pf2, pf3, pf4, pf5, pf6, pf7⟩ := HP.f8; obtain ⟨r0, r1, r2, r3, r4, r5, r6, r7⟩ := HR.v8; have lP := HP.lt; have lR := HR.lt
      go_wp2_with (first | (go_at_call 28; (with_reducible refine (C3.out _).mono ?_); rintro e w3 ⟨rfl, hb⟩; clear p0 p1 p2 p3 p4 p5 p6 p7 pf0 pf1 pf2 pf3 pf4 pf5 pf6 pf7 r0 r1 r2 r3 r4 r5 r6 r7 lP lR; replace HP := HP.up hb; replace HR := HR.up hb; replace HB := (Bel.up HB hb).hid; clear hb; obtain ⟨p0, p1, p2, p3, p4, p5, p6, p7⟩ := HP.v8; obtain ⟨pf0, pf1, pf2, pf3, pf4, pf5, pf6, pf7⟩ := HP.f8; obtain ⟨r0, r1, r2, r3, r4, r5, r6, r7⟩ := HR.v8; have lP := HP.lt; have lR := HR.lt) | fail)
      refine vname_end ?_
      intro W4 hW4
      have HF : At W4 (w.heap.size + 1 + 1) S.c := by rw [hW4]; exact HP.put8
      have BF : Bel w W4 := by rw [hW4]; exact Bel.put8 HB (by omega)
      clear hW4
      obtain ⟨s0, s1, s2, s3, s4, s5, s6, s7⟩ := HF.v8
      refine bodyPost_ret (v := .tuple #[S.v, .bool true]) (by simp [results, Tryd.results19, go_sem, s0, s1, s2, s3, s4, s5, s6, s7]) rfl ⟨rfl, BF⟩
set_option maxHeartbeats 2000000 in
theorem radd_no3 {a b : V8} (h1 : a.ok = true) (h2 : b.ok = true) (h3 : (a.add b).ok = false) (w : World) : Calls Tryd.prog 19 #[a.v, b.v] w (RetVV w V8.z false) := by
  have C1 := vhide (rgood_h h1)
  have C2 := vhide (rgood_h h2)
  have C3 := vhide (rgood_h h3)
  have K1 := vhide (V8.ok_iff.1 h1)
  have K2 := vhide (V8.ok_iff.1 h2)
  obtain ⟨S, hS⟩ : ∃ S, S = a.add b := ⟨_, rfl⟩
  rw [← hS] at C3
  have KS : Hid (∀ k, k < 8 → S.at_ k = a.at_ k + b.at_ k) := fun k hk => by rw [hS, V8.at_add hk]
  clear h1 h2 h3 hS
  go_enter Tryd.func19, Tryd.ntmps19
  go_wp2_with (first | (go_at_call 28; (with_reducible refine (C1.out _).mono ?_); rintro e w1 ⟨rfl, hb⟩; have HB : Bel w w1 := (((((Bel.refl w).al _).al _).al _).al _).up hb; have HA := At.up ((((at_new0 w a.c _).al _).al _).al _) hb; have HC := At.up (((at_new1 w _ b.c _).al _).al _) hb; have HP := At.up ((at_new2 w _ _ V8.z.c _).al _) hb; have HR := At.up (at_new3 w _ _ _ V8.z.c _) hb; replace HB := vhide HB; clear hb; obtain ⟨a0, a1, a2, a3, a4, a5, a6, a7⟩ := HA.v8; obtain ⟨b0, b1, b2, b3, b4, b5, b6, b7⟩ := HC.v8; obtain ⟨p0, p1, p2, p3, p4, p5, p6, p7⟩ := HP.v8; obtain ⟨pf0, pf1, pf2, pf3, pf4, pf5, pf6, pf7⟩ := HP.f8; obtain ⟨r0, r1, r2, r3, r4, r5, r6, r7⟩ := HR.v8; obtain ⟨rf0, rf1, rf2, rf3, rf4, rf5, rf6, rf7⟩ := HR.f8; have lP := HP.lt; have lR := HR.lt) | (go_at_call 28; (with_reducible refine (C2.out _).mono ?_); rintro e w2 ⟨rfl, hb⟩; clear a0 a1 a2 a3 a4 a5 a6 a7 b0 b1 b2 b3 b4 b5 b6 b7 p0 p1 p2 p3 p4 p5 p6 p7 pf0 pf1 pf2 pf3 pf4 pf5 pf6 pf7 r0 r1 r2 r3 r4 r5 r6 r7 rf0 rf1 rf2 rf3 rf4 rf5 rf6 rf7 lP lR; replace HA := HA.up hb; replace HC := HC.up hb; replace HP := HP.up hb; replace HR := HR.up hb; replace HB := (Bel.up HB hb).hid; clear hb; obtain ⟨a0, a1, a2, a3, a4, a5, a6, a7⟩ := HA.v8; obtain ⟨b0, b1, b2, b3, b4, b5, b6, b7⟩ := HC.v8; obtain ⟨p0, p1, p2, p3, p4, p5, p6, p7⟩ := HP.v8; obtain ⟨pf0, pf1, pf2, pf3, pf4, pf5, pf6, pf7⟩ := HP.f8; obtain ⟨r0, r1, r2, r3, r4, r5, r6, r7⟩ := HR.v8; obtain ⟨rf0, rf1, rf2, rf3, rf4, rf5, rf6, rf7⟩ := HR.f8; have lP := HP.lt; have lR := HR.lt) | fail)
  go_loopw [7] (fun iv wr => ∃ k : Nat, k ≤ 8 ∧ iv = .int .i64 (k : Int) ∧ Hid (At wr w.heap.size a.c) ∧ Hid (At wr (w.heap.size + 1) b.c) ∧ Hid (At wr (w.heap.size + 1 + 1) V8.z.c) ∧ Hid (At wr (w.heap.size + 1 + 1 + 1) (V8.mix S V8.z k).c) ∧ Hid (Below w.heap.size w wr)) (fun iv _ => 8 - (intOf iv).toNat)
  case atStart => exact ⟨0, by omega, rfl, HA, HC, HP, by rw [V8.mix_zero]; exact HR, HB⟩
  case round =>
    obtain ⟨k, hk, rfl, GA, GC, GP, GR, GB⟩ := hrel
    clear HA HC HP HR HB
    clear a0 a1 a2 a3 a4 a5 a6 a7 b0 b1 b2 b3 b4 b5 b6 b7 p0 p1 p2 p3 p4 p5 p6 p7 pf0 pf1 pf2 pf3 pf4 pf5 pf6 pf7 r0 r1 r2 r3 r4 r5 r6 r7 rf0 rf1 rf2 rf3 rf4 rf5 rf6 rf7 lP lR
    by_cases hlt : k < 8
    · obtain ⟨x, hx⟩ : ∃ x, x = a.at_ k := ⟨_, rfl⟩
      obtain ⟨y', hy⟩ : ∃ y, y = b.at_ k := ⟨_, rfl⟩
      have g1 := (GA.out).ci (i := k) (v := .int .i64 x) (by rw [V8.c_l, List.getElem?_map, V8.l_get hlt, hx]; rfl)
      have g2 := (GC.out).ci (i := k) (v := .int .i64 y') (by rw [V8.c_l, List.getElem?_map, V8.l_get hlt, hy]; rfl)
      obtain ⟨z', hz⟩ : ∃ z, z = (V8.mix S V8.z k).at_ k := ⟨_, rfl⟩
      have g3 := (GR.out).ci (i := k) (v := .int .i64 z') (by rw [V8.c_l, List.getElem?_map, V8.l_get hlt, hz]; rfl)
      have f3 := (GR.out).fi (i := k) (v := .int .i64 z') (by rw [V8.c_l, List.getElem?_map, V8.l_get hlt, hz]; rfl)
      have l3 := (GR.out).lt
      have b1 := K1.out k hlt
      have b2 := K2.out k hlt
      rw [← hx] at b1
      rw [← hy] at b2
      have w1' : IntKind.i64.wrap (x + y') = x + y' := IntWalk.i64_in _ (by omega)
      have HX := vhide hx
      have HY := vhide hy
      clear hx hy hz
      go_wp2_with fail
      go_region
      go_wp2
      go_roundw
      case rel => exact ⟨k + 1, by omega, by go_num, (GA.out.far (by omega) _).dr, (GC.out.far (by omega) _).dr, (GP.out.far (by omega) _).dr, vset_at GR.out hlt (by rw [HX.out, HY.out, KS.out k hlt]), ((GB.out).setCell (by show w.heap.size ≤ w.heap.size + 1 + 1 + 1; omega) _).drew⟩
      case measure => simp [intOf]; omega
    · obtain rfl : k = 8 := by omega
      rw [V8.mix_all] at GR
      have HP := GP.out
      have HR := GR.out
      have HB := GB
      clear GA GC GP GR GB
      obtain ⟨p0, p1, p2, p3, p4, p5, p6, p7⟩ := HP.v8; obtain ⟨pf0, pf1, pf2, pf3, pf4, pf5, pf6, pf7⟩ := HP.f8; obtain ⟨r0, r1, r2, r3, r4, r5, r6, r7⟩ := HR.v8; have lP := HP.lt; have lR := HR.lt
      go_wp2_with (first | (go_at_call 28; (with_reducible refine (C3.out _).mono ?_); rintro e w3 ⟨rfl, hb⟩; clear p0 p1 p2 p3 p4 p5 p6 p7 pf0 pf1 pf2 pf3 pf4 pf5 pf6 pf7 r0 r1 r2 r3 r4 r5 r6 r7 lP lR; replace HP := HP.up hb; replace HR := HR.up hb; replace HB := (Bel.up HB hb).hid; clear hb; obtain ⟨p0, p1, p2, p3, p4, p5, p6, p7⟩ := HP.v8; obtain ⟨pf0, pf1, pf2, pf3, pf4, pf5, pf6, pf7⟩ := HP.f8; obtain ⟨r0, r1, r2, r3, r4, r5, r6, r7⟩ := HR.v8; have lP := HP.lt; have lR := HR.lt) | fail)
      refine vname_end ?_
      intro W4 hW4
      have HF : At W4 (w.heap.size + 1 + 1) V8.z.c := by rw [hW4]; exact HP.put8
      have BF : Bel w W4 := by rw [hW4]; exact Bel.put8 HB (by omega)
      clear hW4
      obtain ⟨s0, s1, s2, s3, s4, s5, s6, s7⟩ := HF.v8
      refine bodyPost_ret (v := .tuple #[V8.z.v, .bool false]) (by simp [results, Tryd.results19, go_sem, s0, s1, s2, s3, s4, s5, s6, s7]) rfl ⟨rfl, BF⟩
theorem radd_h (a b : V8) (w : World) : Calls Tryd.prog 19 #[a.v, b.v] w (RetVV w (V8.addR a b) (V8.addB a b)) := by
  unfold V8.addR V8.addB
  cases h1 : a.ok with
  | false => exact radd_no1 h1 w
  | true =>
    cases h2 : b.ok with
    | false => exact radd_no2 h1 h2 w
    | true =>
      cases h3 : (a.add b).ok with
      | false =>
        have h := radd_no3 h1 h2 h3 w
        simpa using h
      | true =>
        have h := radd_yes h1 h2 h3 w
        simpa using h
theorem rtimes_no1 {a : V8} {c : Int} (h : a.ok = false) (w : World) : Calls Tryd.prog 20 #[a.v, .int .i64 c] w (RetVV w V8.z false) := by
  have C1 := vhide (rgood_h h)
  clear h
  go_enter Tryd.func20, Tryd.ntmps20
  go_wp2_with (first | (go_at_call 28; (with_reducible refine (C1.out _).mono ?_); rintro e w1 ⟨rfl, hb⟩; have HB : Bel w w1 := ((((Bel.refl w).al _).al _).al _).up hb; have HA := At.up (((at_new0 w a.c _).al _).al _) hb; have HP := At.up ((at_new1 w _ V8.z.c _).al _) hb; have HR := At.up (at_new2 w _ _ V8.z.c _) hb; replace HB := vhide HB; clear hb; obtain ⟨a0, a1, a2, a3, a4, a5, a6, a7⟩ := HA.v8; obtain ⟨p0, p1, p2, p3, p4, p5, p6, p7⟩ := HP.v8; obtain ⟨pf0, pf1, pf2, pf3, pf4, pf5, pf6, pf7⟩ := HP.f8; obtain ⟨r0, r1, r2, r3, r4, r5, r6, r7⟩ := HR.v8; obtain ⟨rf0, rf1, rf2, rf3, rf4, rf5, rf6, rf7⟩ := HR.f8; have lA := HA.lt; have lP := HP.lt; have lR := HR.lt) | fail)
  refine vname_end ?_
  intro W4 hW4
  have HF : At W4 (w.heap.size + 1) V8.z.c := by rw [hW4]; exact HP.put8
  have BF : Bel w W4 := by rw [hW4]; exact Bel.put8 HB (by omega)
  clear hW4
  obtain ⟨s0, s1, s2, s3, s4, s5, s6, s7⟩ := HF.v8
  refine bodyPost_ret (v := .tuple #[V8.z.v, .bool false]) (by simp [results, Tryd.results20, go_sem, s0, s1, s2, s3, s4, s5, s6, s7]) rfl ⟨rfl, BF⟩
theorem mix_skip {S b : V8} {k : Nat} (h : S.at_ k = b.at_ k) : V8.mix S b (k + 1) = V8.mix S b k := by
  refine V8.ext_at fun j hj => ?_
  rw [V8.mix_at hj, V8.mix_at hj]
  by_cases e : j = k
  · subst e; rw [if_pos (by omega), if_neg (by omega), h]
  · by_cases e2 : j < k
    · rw [if_pos (by omega), if_pos e2]
    · rw [if_neg (by omega), if_neg e2]
set_option maxHeartbeats 2000000 in
theorem rtimes_yes {a : V8} {c : Int} (h1 : a.ok = true) (h2 : fitB c = true) (h3 : (a.mul c).ok = true) (w : World) : Calls Tryd.prog 20 #[a.v, .int .i64 c] w (RetVV w (a.mul c) true) := by
  have C1 := vhide (rgood_h h1)
  have C3 := vhide (rgood_h h3)
  have K1 := vhide (V8.ok_iff.1 h1)
  have K2 := fitB_iff.1 h2
  obtain ⟨S, hS⟩ : ∃ S, S = a.mul c := ⟨_, rfl⟩
  rw [← hS] at C3
  have KS : Hid (∀ k, k < 8 → S.at_ k = a.at_ k * c) := fun k hk => by rw [hS, V8.at_mul hk]
  have hc1 : ¬ 100 < c := by omega
  have hc2 : ¬ c < -100 := by omega
  rw [← hS]
  clear h1 h2 h3 hS
  go_enter Tryd.func20, Tryd.ntmps20
  go_wp2_with (first | (go_at_call 28; (with_reducible refine (C1.out _).mono ?_); rintro e w1 ⟨rfl, hb⟩; have HB : Bel w w1 := ((((Bel.refl w).al _).al _).al _).up hb; have HA := At.up (((at_new0 w a.c _).al _).al _) hb; have HP := At.up ((at_new1 w _ V8.z.c _).al _) hb; have HR := At.up (at_new2 w _ _ V8.z.c _) hb; replace HB := vhide HB; clear hb; obtain ⟨a0, a1, a2, a3, a4, a5, a6, a7⟩ := HA.v8; obtain ⟨p0, p1, p2, p3, p4, p5, p6, p7⟩ := HP.v8; obtain ⟨pf0, pf1, pf2, pf3, pf4, pf5, pf6, pf7⟩ := HP.f8; obtain ⟨r0, r1, r2, r3, r4, r5, r6, r7⟩ := HR.v8; obtain ⟨rf0, rf1, rf2, rf3, rf4, rf5, rf6, rf7⟩ := HR.f8; have lA := HA.lt; have lP := HP.lt; have lR := HR.lt) | fail)
  go_loopw [7] (fun iv wr => ∃ k : Nat, k ≤ 8 ∧ iv = .int .i64 (k : Int) ∧ Hid (At wr w.heap.size a.c) ∧ Hid (At wr (w.heap.size + 1) V8.z.c) ∧ Hid (At wr (w.heap.size + 1 + 1) (V8.mix S V8.z k).c) ∧ Hid (Below w.heap.size w wr)) (fun iv _ => 8 - (intOf iv).toNat)
  case atStart => exact ⟨0, by omega, rfl, HA, HP, by rw [V8.mix_zero]; exact HR, HB⟩
  case round =>
    obtain ⟨k, hk, rfl, GA, GP, GR, GB⟩ := hrel
    clear HA HP HR HB
    clear a0 a1 a2 a3 a4 a5 a6 a7 p0 p1 p2 p3 p4 p5 p6 p7 pf0 pf1 pf2 pf3 pf4 pf5 pf6 pf7 r0 r1 r2 r3 r4 r5 r6 r7 rf0 rf1 rf2 rf3 rf4 rf5 rf6 rf7 lA lP lR
    by_cases hlt : k < 8
    · obtain ⟨x, hx⟩ : ∃ x, x = a.at_ k := ⟨_, rfl⟩
      have g1 := (GA.out).ci (i := k) (v := .int .i64 x) (by rw [V8.c_l, List.getElem?_map, V8.l_get hlt, hx]; rfl)
      obtain ⟨z', hz⟩ : ∃ z, z = (V8.mix S V8.z k).at_ k := ⟨_, rfl⟩
      have g3 := (GR.out).ci (i := k) (v := .int .i64 z') (by rw [V8.c_l, List.getElem?_map, V8.l_get hlt, hz]; rfl)
      have f3 := (GR.out).fi (i := k) (v := .int .i64 z') (by rw [V8.c_l, List.getElem?_map, V8.l_get hlt, hz]; rfl)
      have l3 := (GR.out).lt
      have l1 := (GA.out).lt
      have b1 := K1.out k hlt
      rw [← hx] at b1
      have w1' : IntKind.i64.wrap (x * c) = x * c := IntWalk.i64_in _ (vmul_in b1 K2)
      have HX := vhide hx
      clear hx hz
      by_cases h0 : x = 0
      · have HSK : Hid (S.at_ k = V8.z.at_ k) := vhide (by rw [KS.out k hlt, V8.at_z hlt, ← HX.out, h0, Int.zero_mul])
        have d0 : (x != 0) = false := by rw [h0]; rfl
        clear w1' h0
        go_wp2
        go_roundw
        case rel => exact ⟨k + 1, by omega, by go_num, GA, GP, by rw [mix_skip HSK.out]; exact GR, GB⟩
        case measure => simp [intOf]; omega
      · have d0 : (x != 0) = true := bne_iff_ne.2 h0
        go_wp2
        go_roundw
        case rel => exact ⟨k + 1, by omega, by go_num, (GA.out.far (by omega) _), (GP.out.far (by omega) _), vset_at' GR.out hlt (by rw [HX.out, KS.out k hlt]), (GB.out).setCell (by show w.heap.size ≤ w.heap.size + 1 + 1; omega) _⟩
        case measure => simp [intOf]; omega
    · obtain rfl : k = 8 := by omega
      rw [V8.mix_all] at GR
      have HP := GP.out
      have HR := GR.out
      have HB := GB
      clear GA GP GR GB
      obtain ⟨p0, p1, p2, p3, p4, p5, p6, p7⟩ := HP.v8; obtain ⟨pf0, pf1, pf2, pf3, pf4, pf5, pf6, pf7⟩ := HP.f8; obtain ⟨r0, r1, r2, r3, r4, r5, r6, r7⟩ := HR.v8; have lP := HP.lt; have lR := HR.lt
      go_wp2_with (first | (go_at_call 28; (with_reducible refine (C3.out _).mono ?_); rintro e w3 ⟨rfl, hb⟩; clear p0 p1 p2 p3 p4 p5 p6 p7 pf0 pf1 pf2 pf3 pf4 pf5 pf6 pf7 r0 r1 r2 r3 r4 r5 r6 r7 lP lR; replace HP := HP.up hb; replace HR := HR.up hb; replace HB := (Bel.up HB hb).hid; clear hb; obtain ⟨p0, p1, p2, p3, p4, p5, p6, p7⟩ := HP.v8; obtain ⟨pf0, pf1, pf2, pf3, pf4, pf5, pf6, pf7⟩ := HP.f8; obtain ⟨r0, r1, r2, r3, r4, r5, r6, r7⟩ := HR.v8; have lP := HP.lt; have lR := HR.lt) | fail)
      refine vname_end ?_
      intro W4 hW4
      have HF : At W4 (w.heap.size + 1) S.c := by rw [hW4]; exact HP.put8
      have BF : Bel w W4 := by rw [hW4]; exact Bel.put8 HB (by omega)
      clear hW4
      obtain ⟨s0, s1, s2, s3, s4, s5, s6, s7⟩ := HF.v8
      refine bodyPost_ret (v := .tuple #[S.v, .bool true]) (by simp [results, Tryd.results20, go_sem, s0, s1, s2, s3, s4, s5, s6, s7]) rfl ⟨rfl, BF⟩
set_option maxHeartbeats 2000000 in
theorem rtimes_no3 {a : V8} {c : Int} (h1 : a.ok = true) (h2 : fitB c = true) (h3 : (a.mul c).ok = false) (w : World) : Calls Tryd.prog 20 #[a.v, .int .i64 c] w (RetVV w V8.z false) := by
  have C1 := vhide (rgood_h h1)
  have C3 := vhide (rgood_h h3)
  have K1 := vhide (V8.ok_iff.1 h1)
  have K2 := fitB_iff.1 h2
  obtain ⟨S, hS⟩ : ∃ S, S = a.mul c := ⟨_, rfl⟩
  rw [← hS] at C3
  have KS : Hid (∀ k, k < 8 → S.at_ k = a.at_ k * c) := fun k hk => by rw [hS, V8.at_mul hk]
  have hc1 : ¬ 100 < c := by omega
  have hc2 : ¬ c < -100 := by omega
  clear h1 h2 h3 hS
  go_enter Tryd.func20, Tryd.ntmps20
  go_wp2_with (first | (go_at_call 28; (with_reducible refine (C1.out _).mono ?_); rintro e w1 ⟨rfl, hb⟩; have HB : Bel w w1 := ((((Bel.refl w).al _).al _).al _).up hb; have HA := At.up (((at_new0 w a.c _).al _).al _) hb; have HP := At.up ((at_new1 w _ V8.z.c _).al _) hb; have HR := At.up (at_new2 w _ _ V8.z.c _) hb; replace HB := vhide HB; clear hb; obtain ⟨a0, a1, a2, a3, a4, a5, a6, a7⟩ := HA.v8; obtain ⟨p0, p1, p2, p3, p4, p5, p6, p7⟩ := HP.v8; obtain ⟨pf0, pf1, pf2, pf3, pf4, pf5, pf6, pf7⟩ := HP.f8; obtain ⟨r0, r1, r2, r3, r4, r5, r6, r7⟩ := HR.v8; obtain ⟨rf0, rf1, rf2, rf3, rf4, rf5, rf6, rf7⟩ := HR.f8; have lA := HA.lt; have lP := HP.lt; have lR := HR.lt) | fail)
  go_loopw [7] (fun iv wr => ∃ k : Nat, k ≤ 8 ∧ iv = .int .i64 (k : Int) ∧ Hid (At wr w.heap.size a.c) ∧ Hid (At wr (w.heap.size + 1) V8.z.c) ∧ Hid (At wr (w.heap.size + 1 + 1) (V8.mix S V8.z k).c) ∧ Hid (Below w.heap.size w wr)) (fun iv _ => 8 - (intOf iv).toNat)
  case atStart => exact ⟨0, by omega, rfl, HA, HP, by rw [V8.mix_zero]; exact HR, HB⟩
  case round =>
    obtain ⟨k, hk, rfl, GA, GP, GR, GB⟩ := hrel
    clear HA HP HR HB
    clear a0 a1 a2 a3 a4 a5 a6 a7 p0 p1 p2 p3 p4 p5 p6 p7 pf0 pf1 pf2 pf3 pf4 pf5 pf6 pf7 r0 r1 r2 r3 r4 r5 r6 r7 rf0 rf1 rf2 rf3 rf4 rf5 rf6 rf7 lA lP lR
    by_cases hlt : k < 8
    · obtain ⟨x, hx⟩ : ∃ x, x = a.at_ k := ⟨_, rfl⟩
      have g1 := (GA.out).ci (i := k) (v := .int .i64 x) (by rw [V8.c_l, List.getElem?_map, V8.l_get hlt, hx]; rfl)
      obtain ⟨z', hz⟩ : ∃ z, z = (V8.mix S V8.z k).at_ k := ⟨_, rfl⟩
      have g3 := (GR.out).ci (i := k) (v := .int .i64 z') (by rw [V8.c_l, List.getElem?_map, V8.l_get hlt, hz]; rfl)
      have f3 := (GR.out).fi (i := k) (v := .int .i64 z') (by rw [V8.c_l, List.getElem?_map, V8.l_get hlt, hz]; rfl)
      have l3 := (GR.out).lt
      have l1 := (GA.out).lt
      have b1 := K1.out k hlt
      rw [← hx] at b1
      have w1' : IntKind.i64.wrap (x * c) = x * c := IntWalk.i64_in _ (vmul_in b1 K2)
      have HX := vhide hx
      clear hx hz
      by_cases h0 : x = 0
      · have HSK : Hid (S.at_ k = V8.z.at_ k) := vhide (by rw [KS.out k hlt, V8.at_z hlt, ← HX.out, h0, Int.zero_mul])
        have d0 : (x != 0) = false := by rw [h0]; rfl
        clear w1' h0
        go_wp2
        go_roundw
        case rel => exact ⟨k + 1, by omega, by go_num, GA, GP, by rw [mix_skip HSK.out]; exact GR, GB⟩
        case measure => simp [intOf]; omega
      · have d0 : (x != 0) = true := bne_iff_ne.2 h0
        go_wp2
        go_roundw
        case rel => exact ⟨k + 1, by omega, by go_num, (GA.out.far (by omega) _), (GP.out.far (by omega) _), vset_at' GR.out hlt (by rw [HX.out, KS.out k hlt]), (GB.out).setCell (by show w.heap.size ≤ w.heap.size + 1 + 1; omega) _⟩
        case measure => simp [intOf]; omega
    · obtain rfl : k = 8 := by omega
      rw [V8.mix_all] at GR
      have HP := GP.out
      have HR := GR.out
      have HB := GB
      clear GA GP GR GB
      obtain ⟨p0, p1, p2, p3, p4, p5, p6, p7⟩ := HP.v8; obtain ⟨pf0, pf1, pf2, pf3, pf4, pf5, pf6, pf7⟩ := HP.f8; obtain ⟨r0, r1, r2, r3, r4, r5, r6, r7⟩ := HR.v8; have lP := HP.lt; have lR := HR.lt
      go_wp2_with (first | (go_at_call 28; (with_reducible refine (C3.out _).mono ?_); rintro e w3 ⟨rfl, hb⟩; clear p0 p1 p2 p3 p4 p5 p6 p7 pf0 pf1 pf2 pf3 pf4 pf5 pf6 pf7 r0 r1 r2 r3 r4 r5 r6 r7 lP lR; replace HP := HP.up hb; replace HR := HR.up hb; replace HB := (Bel.up HB hb).hid; clear hb; obtain ⟨p0, p1, p2, p3, p4, p5, p6, p7⟩ := HP.v8; obtain ⟨pf0, pf1, pf2, pf3, pf4, pf5, pf6, pf7⟩ := HP.f8; obtain ⟨r0, r1, r2, r3, r4, r5, r6, r7⟩ := HR.v8; have lP := HP.lt; have lR := HR.lt) | fail)
      refine vname_end ?_
      intro W4 hW4
      have HF : At W4 (w.heap.size + 1) V8.z.c := by rw [hW4]; exact HP.put8
      have BF : Bel w W4 := by rw [hW4]; exact Bel.put8 HB (by omega)
      clear hW4
      obtain ⟨s0, s1, s2, s3, s4, s5, s6, s7⟩ := HF.v8
      refine bodyPost_ret (v := .tuple #[V8.z.v, .bool false]) (by simp [results, Tryd.results20, go_sem, s0, s1, s2, s3, s4, s5, s6, s7]) rfl ⟨rfl, BF⟩
set_option maxHeartbeats 2000000 in
theorem rtimes_hi {a : V8} {c : Int} {y : Bool} (h1 : a.ok = true) (h2 : 100 < c) (hy : decide (a = V8.z) = y) (w : World) : Calls Tryd.prog 20 #[a.v, .int .i64 c] w (RetVV w V8.z y) := by
  have C1 := vhide (rgood_h h1)
  have C3 := vhide (rgood_h V8.ok_z)
  have hc1 : 100 < c := h2
  have HY := vhide hy
  clear h1 hy
  go_enter Tryd.func20, Tryd.ntmps20
  go_wp2_with (first | (go_at_call 28; (with_reducible refine (C1.out _).mono ?_); rintro e w1 ⟨rfl, hb⟩; have HB : Bel w w1 := ((((Bel.refl w).al _).al _).al _).up hb; have HA := At.up (((at_new0 w a.c _).al _).al _) hb; have HP := At.up ((at_new1 w _ V8.z.c _).al _) hb; have HR := At.up (at_new2 w _ _ V8.z.c _) hb; replace HB := vhide HB; clear hb; obtain ⟨a0, a1, a2, a3, a4, a5, a6, a7⟩ := HA.v8; obtain ⟨p0, p1, p2, p3, p4, p5, p6, p7⟩ := HP.v8; obtain ⟨pf0, pf1, pf2, pf3, pf4, pf5, pf6, pf7⟩ := HP.f8; obtain ⟨r0, r1, r2, r3, r4, r5, r6, r7⟩ := HR.v8; obtain ⟨rf0, rf1, rf2, rf3, rf4, rf5, rf6, rf7⟩ := HR.f8; have lA := HA.lt; have lP := HP.lt; have lR := HR.lt) | fail)
  go_loopw [7] (fun iv wr => ∃ k : Nat, k ≤ 8 ∧ iv = .int .i64 (k : Int) ∧ Hid (At wr w.heap.size a.c) ∧ Hid (At wr (w.heap.size + 1) V8.z.c) ∧ Hid (At wr (w.heap.size + 1 + 1) (V8.z).c) ∧ Hid (Below w.heap.size w wr) ∧ Hid (∀ j, j < k → a.at_ j = 0)) (fun iv _ => 8 - (intOf iv).toNat)
  case atStart => exact ⟨0, by omega, rfl, HA, HP, HR, HB, fun j hj => absurd hj (by omega)⟩
  case round =>
    obtain ⟨k, hk, rfl, GA, GP, GR, GB, GZ⟩ := hrel
    clear HA HP HR HB
    clear a0 a1 a2 a3 a4 a5 a6 a7 p0 p1 p2 p3 p4 p5 p6 p7 pf0 pf1 pf2 pf3 pf4 pf5 pf6 pf7 r0 r1 r2 r3 r4 r5 r6 r7 rf0 rf1 rf2 rf3 rf4 rf5 rf6 rf7 lA lP lR
    by_cases hlt : k < 8
    · obtain ⟨x, hx⟩ : ∃ x, x = a.at_ k := ⟨_, rfl⟩
      have g1 := (GA.out).ci (i := k) (v := .int .i64 x) (by rw [V8.c_l, List.getElem?_map, V8.l_get hlt, hx]; rfl)
      have l1 := (GA.out).lt
      have HX := vhide hx
      clear hx
      by_cases h0 : x = 0
      · have d0 : (x != 0) = false := by rw [h0]; rfl
        have GZ2 : Hid (∀ j, j < k + 1 → a.at_ j = 0) := fun j hj => by
          rcases Nat.lt_or_ge j k with h5 | h5
          · exact GZ.out j h5
          · obtain rfl : j = k := by omega
            rw [← HX.out]; exact h0
        clear h0
        go_wp2
        go_roundw
        case rel => exact ⟨k + 1, by omega, by go_num, GA, GP, GR, GB, GZ2⟩
        case measure => simp [intOf]; omega
      · have d0 : (x != 0) = true := bne_iff_ne.2 h0
        obtain rfl : y = false := by
          rw [← HY.out]
          exact decide_eq_false fun e => h0 (by rw [HX.out, e, V8.at_z hlt])
        have HP := GP.out
        have HB := GB
        obtain ⟨p0, p1, p2, p3, p4, p5, p6, p7⟩ := HP.v8; obtain ⟨pf0, pf1, pf2, pf3, pf4, pf5, pf6, pf7⟩ := HP.f8; have lP := HP.lt
        go_wp2
        refine vname_end ?_
        intro W4 hW4
        have HF : At W4 (w.heap.size + 1) V8.z.c := by rw [hW4]; exact HP.put8
        have BF : Bel w W4 := by rw [hW4]; exact Bel.put8 HB (by omega)
        clear hW4
        obtain ⟨s0, s1, s2, s3, s4, s5, s6, s7⟩ := HF.v8
        refine bodyPost_ret (v := .tuple #[V8.z.v, .bool false]) (by simp [results, Tryd.results20, go_sem, s0, s1, s2, s3, s4, s5, s6, s7]) rfl ⟨rfl, BF⟩
    · obtain rfl : k = 8 := by omega
      obtain rfl : y = true := by
        rw [← HY.out]
        exact decide_eq_true (V8.ext_at fun j hj => by rw [GZ.out j hj, V8.at_z hj])
      have HP := GP.out
      have HR := GR.out
      have HB := GB
      clear GA GP GR GB
      obtain ⟨p0, p1, p2, p3, p4, p5, p6, p7⟩ := HP.v8; obtain ⟨pf0, pf1, pf2, pf3, pf4, pf5, pf6, pf7⟩ := HP.f8; obtain ⟨r0, r1, r2, r3, r4, r5, r6, r7⟩ := HR.v8; have lP := HP.lt; have lR := HR.lt
      go_wp2_with (first | (go_at_call 28; (with_reducible refine (C3.out _).mono ?_); rintro e w3 ⟨rfl, hb⟩; clear p0 p1 p2 p3 p4 p5 p6 p7 pf0 pf1 pf2 pf3 pf4 pf5 pf6 pf7 r0 r1 r2 r3 r4 r5 r6 r7 lP lR; replace HP := HP.up hb; replace HR := HR.up hb; replace HB := (Bel.up HB hb).hid; clear hb; obtain ⟨p0, p1, p2, p3, p4, p5, p6, p7⟩ := HP.v8; obtain ⟨pf0, pf1, pf2, pf3, pf4, pf5, pf6, pf7⟩ := HP.f8; obtain ⟨r0, r1, r2, r3, r4, r5, r6, r7⟩ := HR.v8; have lP := HP.lt; have lR := HR.lt) | fail)
      refine vname_end ?_
      intro W4 hW4
      have HF : At W4 (w.heap.size + 1) V8.z.c := by rw [hW4]; exact HP.put8
      have BF : Bel w W4 := by rw [hW4]; exact Bel.put8 HB (by omega)
      clear hW4
      obtain ⟨s0, s1, s2, s3, s4, s5, s6, s7⟩ := HF.v8
      refine bodyPost_ret (v := .tuple #[V8.z.v, .bool true]) (by simp [results, Tryd.results20, go_sem, s0, s1, s2, s3, s4, s5, s6, s7]) rfl ⟨rfl, BF⟩
set_option maxHeartbeats 2000000 in
theorem rtimes_lo {a : V8} {c : Int} {y : Bool} (h1 : a.ok = true) (h2 : c < -100) (hy : decide (a = V8.z) = y) (w : World) : Calls Tryd.prog 20 #[a.v, .int .i64 c] w (RetVV w V8.z y) := by
  have C1 := vhide (rgood_h h1)
  have C3 := vhide (rgood_h V8.ok_z)
  have hc1 : ¬ 100 < c := by omega
  have hc2 : c < -100 := h2
  have HY := vhide hy
  clear h1 hy
  go_enter Tryd.func20, Tryd.ntmps20
  go_wp2_with (first | (go_at_call 28; (with_reducible refine (C1.out _).mono ?_); rintro e w1 ⟨rfl, hb⟩; have HB : Bel w w1 := ((((Bel.refl w).al _).al _).al _).up hb; have HA := At.up (((at_new0 w a.c _).al _).al _) hb; have HP := At.up ((at_new1 w _ V8.z.c _).al _) hb; have HR := At.up (at_new2 w _ _ V8.z.c _) hb; replace HB := vhide HB; clear hb; obtain ⟨a0, a1, a2, a3, a4, a5, a6, a7⟩ := HA.v8; obtain ⟨p0, p1, p2, p3, p4, p5, p6, p7⟩ := HP.v8; obtain ⟨pf0, pf1, pf2, pf3, pf4, pf5, pf6, pf7⟩ := HP.f8; obtain ⟨r0, r1, r2, r3, r4, r5, r6, r7⟩ := HR.v8; obtain ⟨rf0, rf1, rf2, rf3, rf4, rf5, rf6, rf7⟩ := HR.f8; have lA := HA.lt; have lP := HP.lt; have lR := HR.lt) | fail)
  go_loopw [7] (fun iv wr => ∃ k : Nat, k ≤ 8 ∧ iv = .int .i64 (k : Int) ∧ Hid (At wr w.heap.size a.c) ∧ Hid (At wr (w.heap.size + 1) V8.z.c) ∧ Hid (At wr (w.heap.size + 1 + 1) (V8.z).c) ∧ Hid (Below w.heap.size w wr) ∧ Hid (∀ j, j < k → a.at_ j = 0)) (fun iv _ => 8 - (intOf iv).toNat)
  case atStart => exact ⟨0, by omega, rfl, HA, HP, HR, HB, fun j hj => absurd hj (by omega)⟩
  case round =>
    obtain ⟨k, hk, rfl, GA, GP, GR, GB, GZ⟩ := hrel
    clear HA HP HR HB
    clear a0 a1 a2 a3 a4 a5 a6 a7 p0 p1 p2 p3 p4 p5 p6 p7 pf0 pf1 pf2 pf3 pf4 pf5 pf6 pf7 r0 r1 r2 r3 r4 r5 r6 r7 rf0 rf1 rf2 rf3 rf4 rf5 rf6 rf7 lA lP lR
    by_cases hlt : k < 8
    · obtain ⟨x, hx⟩ : ∃ x, x = a.at_ k := ⟨_, rfl⟩
      have g1 := (GA.out).ci (i := k) (v := .int .i64 x) (by rw [V8.c_l, List.getElem?_map, V8.l_get hlt, hx]; rfl)
      have l1 := (GA.out).lt
      have HX := vhide hx
      clear hx
      by_cases h0 : x = 0
      · have d0 : (x != 0) = false := by rw [h0]; rfl
        have GZ2 : Hid (∀ j, j < k + 1 → a.at_ j = 0) := fun j hj => by
          rcases Nat.lt_or_ge j k with h5 | h5
          · exact GZ.out j h5
          · obtain rfl : j = k := by omega
            rw [← HX.out]; exact h0
        clear h0
        go_wp2
        go_roundw
        case rel => exact ⟨k + 1, by omega, by go_num, GA, GP, GR, GB, GZ2⟩
        case measure => simp [intOf]; omega
      · have d0 : (x != 0) = true := bne_iff_ne.2 h0
        obtain rfl : y = false := by
          rw [← HY.out]
          exact decide_eq_false fun e => h0 (by rw [HX.out, e, V8.at_z hlt])
        have HP := GP.out
        have HB := GB
        obtain ⟨p0, p1, p2, p3, p4, p5, p6, p7⟩ := HP.v8; obtain ⟨pf0, pf1, pf2, pf3, pf4, pf5, pf6, pf7⟩ := HP.f8; have lP := HP.lt
        go_wp2
        refine vname_end ?_
        intro W4 hW4
        have HF : At W4 (w.heap.size + 1) V8.z.c := by rw [hW4]; exact HP.put8
        have BF : Bel w W4 := by rw [hW4]; exact Bel.put8 HB (by omega)
        clear hW4
        obtain ⟨s0, s1, s2, s3, s4, s5, s6, s7⟩ := HF.v8
        refine bodyPost_ret (v := .tuple #[V8.z.v, .bool false]) (by simp [results, Tryd.results20, go_sem, s0, s1, s2, s3, s4, s5, s6, s7]) rfl ⟨rfl, BF⟩
    · obtain rfl : k = 8 := by omega
      obtain rfl : y = true := by
        rw [← HY.out]
        exact decide_eq_true (V8.ext_at fun j hj => by rw [GZ.out j hj, V8.at_z hj])
      have HP := GP.out
      have HR := GR.out
      have HB := GB
      clear GA GP GR GB
      obtain ⟨p0, p1, p2, p3, p4, p5, p6, p7⟩ := HP.v8; obtain ⟨pf0, pf1, pf2, pf3, pf4, pf5, pf6, pf7⟩ := HP.f8; obtain ⟨r0, r1, r2, r3, r4, r5, r6, r7⟩ := HR.v8; have lP := HP.lt; have lR := HR.lt
      go_wp2_with (first | (go_at_call 28; (with_reducible refine (C3.out _).mono ?_); rintro e w3 ⟨rfl, hb⟩; clear p0 p1 p2 p3 p4 p5 p6 p7 pf0 pf1 pf2 pf3 pf4 pf5 pf6 pf7 r0 r1 r2 r3 r4 r5 r6 r7 lP lR; replace HP := HP.up hb; replace HR := HR.up hb; replace HB := (Bel.up HB hb).hid; clear hb; obtain ⟨p0, p1, p2, p3, p4, p5, p6, p7⟩ := HP.v8; obtain ⟨pf0, pf1, pf2, pf3, pf4, pf5, pf6, pf7⟩ := HP.f8; obtain ⟨r0, r1, r2, r3, r4, r5, r6, r7⟩ := HR.v8; have lP := HP.lt; have lR := HR.lt) | fail)
      refine vname_end ?_
      intro W4 hW4
      have HF : At W4 (w.heap.size + 1) V8.z.c := by rw [hW4]; exact HP.put8
      have BF : Bel w W4 := by rw [hW4]; exact Bel.put8 HB (by omega)
      clear hW4
      obtain ⟨s0, s1, s2, s3, s4, s5, s6, s7⟩ := HF.v8
      refine bodyPost_ret (v := .tuple #[V8.z.v, .bool true]) (by simp [results, Tryd.results20, go_sem, s0, s1, s2, s3, s4, s5, s6, s7]) rfl ⟨rfl, BF⟩
theorem rtimes_h (a : V8) (k : Int) (w : World) : Calls Tryd.prog 20 #[a.v, .int .i64 k] w (RetVV w (V8.mulR a k) (V8.mulB a k)) := by
  unfold V8.mulR V8.mulB
  cases h1 : a.ok with
  | false => exact rtimes_no1 h1 w
  | true =>
    cases h2 : fitB k with
    | false =>
      rcases fitB_not.1 h2 with h3 | h3
      · have h := rtimes_lo h1 h3 (y := decide (a = V8.z)) rfl w
        simpa using h
      · have h := rtimes_hi h1 h3 (y := decide (a = V8.z)) rfl w
        simpa using h
    | true =>
      cases h3 : (a.mul k).ok with
      | false =>
        have h := rtimes_no3 h1 h2 h3 w
        simpa using h
      | true =>
        have h := rtimes_yes h1 h2 h3 w
        simpa using h
theorem rneg_h (a : V8) (w : World) : Calls Tryd.prog 21 #[a.v] w (RetV1 w (V8.neg a)) := by
  have C1 := vhide (rtimes_h a (-1))
  obtain ⟨r, hr⟩ : ∃ r, r = V8.mulR a (-1) := ⟨_, rfl⟩
  obtain ⟨y, hy⟩ : ∃ y, y = V8.mulB a (-1) := ⟨_, rfl⟩
  rw [← hr, ← hy] at C1
  show Calls _ _ _ _ (RetV1 w (V8.mulR a (-1)))
  rw [← hr]
  clear hr hy
  go_enter Tryd.func21, Tryd.ntmps21
  go_wp2_with (first | (go_at_call 20; (with_reducible refine (C1.out _).mono ?_); rintro e w1 ⟨rfl, hb⟩; have HB : Bel w w1 := ((((Bel.refl w).al _).al _)).up hb; have HP := At.up (at_new1 w _ V8.z.c _) hb; have hz : w.heap.size + 1 < w1.heap.size := HP.lt; replace HB := vhide HB; clear hb; obtain ⟨p0, p1, p2, p3, p4, p5, p6, p7⟩ := HP.v8; obtain ⟨pf0, pf1, pf2, pf3, pf4, pf5, pf6, pf7⟩ := HP.f8) | fail)
  refine vname_end ?_
  intro W4 hW4
  have HF : At W4 (w.heap.size + 1) r.c := by rw [hW4]; exact HP.put8.al _
  have BF : Bel w W4 := by rw [hW4]; exact (Bel.put8 HB (by omega)).al _
  clear hW4
  obtain ⟨r0, r1, r2, r3, r4, r5, r6, r7⟩ := HF.v8
  refine bodyPost_ret (v := r.v) (by simp [results, Tryd.results21, go_sem, r0, r1, r2, r3, r4, r5, r6, r7]) rfl ⟨rfl, BF⟩
end Go.Proofs.YtibigdblapgmdaaDoor
