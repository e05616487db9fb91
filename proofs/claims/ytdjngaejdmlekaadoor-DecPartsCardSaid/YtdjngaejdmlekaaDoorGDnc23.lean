/- Several texts in one, each with its own sentence and conditions. -/
import Derived.Test.YtdjngaejdmlekaaDoorGDnc22
import Derived.Test.YtdjngaejdmlekaaDoorGDnc8
import Derived.Maps.AppendAt
section
/- Package dec: Short. Conditions: numbers of at most 99999 words. -/
open Go.RowKit
set_option maxRecDepth 100000
namespace Go.Proofs.YtdjngaejdmlekaaDoor
/-- What Short returns: the number n, j digits behind the point. -/
def ShR (W : World) (b : Bool) (v j : Nat) (e : Ending) (w' : World) : Prop := ∃ A c, e = .returned (.agg #[.bool b, .slice A (dl v) c, .int .i64 (j : Int)]) ∧ Nm w' A (dl v) c v ∧ Hid (Below W.heap.size W w')
theorem At.dput3 {W : World} {p : Nat} {v0 v1 v2 : Value} (h : At W p [v0, v1, v2]) (x y z : Value) : At (((W.setCell ⟨p, 0, none⟩ x).setCell ⟨p, 1, none⟩ y).setCell ⟨p, 2, none⟩ z) p [x, y, z] := h.put3 x y z
theorem Nm.puts {W : World} {p : Nat} {A : Option Addr} {n c m : Nat} (h : Nm W A n c m) (hp : At W p [.bool false, .slice none 0 0, .int .i64 0]) (b : Bool) (B : Option Addr) (k d : Nat) (s : Int) :
    Nm (((W.setCell ⟨p, 0, none⟩ (.bool b)).setCell ⟨p, 1, none⟩ (.slice B k d)).setCell ⟨p, 2, none⟩ (.int .i64 s)) A n c m := h.putD hp nowD
theorem Bel.sput3 {w W : World} (h : Bel w W) {p : Nat} (hp : w.heap.size ≤ p) (x y z : Value) : Bel w (((W.setCell ⟨p, 0, none⟩ x).setCell ⟨p, 1, none⟩ y).setCell ⟨p, 2, none⟩ z) := below3 h hp x y z
section
variable {W : World} {b b0 : Bool} {A A0 : Option Addr} {n c m s n0 c0 : Nat} {s0 : Int}
set_option maxHeartbeats 4000000 in
theorem short_h (h : DY W (.agg #[.bool b0, .slice A0 n0 c0, .int .i64 s0]) b A n c m s) (hd : dl m ≤ 99999) : Calls Tryd.prog 63 #[.agg #[.bool b0, .slice A0 n0 c0, .int .i64 s0]] W (ShR W b (m / 10 ^ (s - shortS m s)) (shortS m s)) := by
  obtain ⟨j, hj⟩ : ∃ j, j = shortS m s := ⟨_, rfl⟩
  obtain ⟨k, hk⟩ : ∃ k, k = s - j := ⟨_, rfl⟩
  obtain ⟨p, hp⟩ : ∃ p, p = 10 ^ k := ⟨_, rfl⟩
  obtain ⟨q, hq⟩ : ∃ q, q = m / p := ⟨_, rfl⟩
  obtain ⟨r, hr⟩ : ∃ r, r = m % p := ⟨_, rfl⟩
  have hjs : j ≤ s := by rw [hj]; exact short_le m s
  have hs6 : s ≤ 60 := h.1.sc
  have CC : Hid (∀ W', Bel W W' → Calls Tryd.prog 98 #[.agg #[.bool b0, .slice A0 n0 c0, .int .i64 s0]] W' (CnR W' b A n c s)) := h.2
  have CQ : Hid (∀ W', Bel W W' → Calls Tryd.prog 62 #[.agg #[.bool b, .slice A n c, .int .i64 (s : Int)]] W' (TxR W' (partL m s))) := fun W' hb => part_h ((h.1.bel hb).y) hd
  have CT : Hid (∀ W' (t : ByteArray), Hid (t.data.toList = partL m s) → Calls Tryd.prog 99 #[.string t, .string ⟨#[48]⟩] W' (StripPost t.data.toList W')) := fun W' t ht => TrimRight_any t W' (by rw [size_list, ht.out, (part_facts m s).2.1]; omega)
  have CP : Hid (∀ W', Calls Tryd.prog 97 #[.int .i64 (k : Int)] W' (NumR W' p)) := fun W' => by rw [hp]; exact power_h (by omega)
  have CD : Hid (∀ W' B e, Bel W W' → Nm W' B (dl p) e p → Calls Tryd.prog 14 #[.agg #[.slice A n c], .agg #[.slice B (dl p) e]] W' (DivV W' q r)) := fun W' B e hb hn => div_v (h.1.nm.up hb) hn (by rw [hp]; exact Nat.pow_pos (by decide)) hd hq.symm hr.symm
  have HJ : Hid (∀ t t2 : ByteArray, t.data.toList = partL m s → t2.data.toList = strip t.data.toList → t2.size = j ∧ IntKind.i64.wrap ((s : Int) - (t2.size : Int)) = (k : Int)) := fun t t2 h1 h2 => by
    have e : t2.size = j := by rw [size_list, h2, h1, hj]; rfl
    exact ⟨e, by rw [IntWalk.i64_in _ (by omega)]; omega⟩
  rw [show m / 10 ^ (s - shortS m s) = q by rw [hq, hp, hk, hj], ← hj]
  clear h hd hp hq hr hj hk hjs hs6
  have HB := Bel.refl W
  go_enter Tryd.func63, Tryd.ntmps63
  go_wp2_with (first | (go_at_call 98; (with_reducible refine (CC.out _ ((HB.al _).al _)).mono ?_); rintro e w1 ⟨rfl, hbk⟩; have HA := At.up ((at_new0 _ _ _).al _) hbk; have HR := At.up (at_new1 _ _ _ _) hbk; replace HB := ((HB.al _).al _).up hbk; have ha_0 := HA.c0; have ha_1 := HA.c1; have ha_2 := HA.c2; have ha_l := HA.lt; have ha_f0 := HA.f0; have ha_f1 := HA.f1; have ha_f2 := HA.f2) | (go_at_call 62; (with_reducible refine (CQ.out _ (below3 HB (Nat.le_refl _) _ _ _)).mono ?_); rintro e w2 ⟨t, rfl, ht, hbk⟩; replace HR : At w2 (W.heap.size + 1) [.bool false, .slice none 0 0, .int .i64 0] := At.up (HR.far3 (show W.heap.size ≠ _ by omega) _ _ _) hbk; replace HA : At w2 W.heap.size [.bool b, .slice A n c, .int .i64 (s : Int)] := At.up (HA.put3 _ _ _) hbk; replace HB := Bel.up (below3 HB (Nat.le_refl _) _ _ _) hbk; clear ha_0 ha_1 ha_2 ha_l ha_f0 ha_f1 ha_f2) | (go_at_call 99; (with_reducible refine (CT.out _ _ ht).mono ?_); rintro e w3 ⟨t2, rfl, ht2, rfl⟩; have hw := (HJ.out t t2 ht.out ht2.out).2; have lb0 := HA.lt; have lb1 := HR.lt) | fail)
  go_region_held3 (fun w' => w'.cell? ⟨W.heap.size, 0, none⟩ = some (.bool b) ∧ w'.cell? ⟨W.heap.size, 1, none⟩ = some (.slice A n c) ∧ w'.cell? ⟨W.heap.size, 2, none⟩ = some (.int .i64 (s : Int)))
    (refine ⟨(?_ : At _ W.heap.size [.bool b, .slice A n c, .int .i64 (s : Int)]).c0, (?_ : At _ W.heap.size [.bool b, .slice A n c, .int .i64 (s : Int)]).c1, (?_ : At _ W.heap.size [.bool b, .slice A n c, .int .i64 (s : Int)]).c2⟩ <;> (repeat (first | with_reducible exact HA | (with_reducible refine At.dr ?_) | (with_reducible refine At.al ?_ _) | (with_reducible refine At.far ?_ (by omega) _))))
    (first | (go_at_call 97; (with_reducible refine (CP.out _).mono ?_); rintro e w4 ⟨Bp, ep, rfl, np, hbk⟩; (with_reducible (replace HB := HB.dr.up hbk; replace HA := HA.dr.up hbk; replace HR := HR.dr.up hbk)); have lz := HR.lt; have lz0 := HA.lt; (try have lz2 := HP0.lt); (try have lz3 := HP1.lt)) | (go_at_call 97; (with_reducible refine (CP.out _).mono ?_); rintro e w4 ⟨Bp, ep, rfl, np, hbk⟩; (with_reducible (have HP0 := At.up (at_new0 _ [.slice none 0 0] _).dr hbk; replace HB := (HB.al _).dr.up hbk; replace HA := (HA.al _).dr.up hbk; replace HR := (HR.al _).dr.up hbk)); have lz := HR.lt; have lz0 := HA.lt; (try have lz2 := HP0.lt); (try have lz3 := HP1.lt)) | (go_at_call 97; (with_reducible refine (CP.out _).mono ?_); rintro e w4 ⟨Bp, ep, rfl, np, hbk⟩; (with_reducible (have HP0 := At.up ((at_new0 _ [.slice none 0 0] _).al _).dr hbk; have HP1 := At.up (at_new1 _ _ [.slice none 0 0] _).dr hbk; replace HB := ((HB.al _).al _).dr.up hbk; replace HA := ((HA.al _).al _).dr.up hbk; replace HR := ((HR.al _).al _).dr.up hbk)); have lz := HR.lt; have lz0 := HA.lt; (try have lz2 := HP0.lt); (try have lz3 := HP1.lt)) | (go_at_call 14; (with_reducible refine (CD.out _ _ _ HB np).mono ?_); rintro e w5 ⟨Aq, cq, Ar, cr, rfl, nq, nr, hbk⟩; (with_reducible (replace HB := HB.up hbk; replace HA := HA.up hbk; replace HR := HR.up hbk)); (try (with_reducible replace HP0 := HP0.up hbk)); (try (with_reducible replace HP1 := HP1.up hbk)); (try have p0 := HP0.c0); (try have p1 := HP1.c0); (try have q0 := HQ0.c0); (try have q1 := HQ1.c0); (try have fp0 := HP0.f0); (try have fp1 := HP1.f0); (try have fq0 := HQ0.f0); (try have fq1 := HQ1.f0); (try have lp0 := HP0.lt); (try have lp1 := HP1.lt); (try have lq0 := HQ0.lt); (try have lq1 := HQ1.lt); (try have ha_0 := HA.c0); (try have ha_l := HA.lt); (try have hr_0 := HR.c0); (try have hr_1 := HR.c1); (try have hr_2 := HR.c2); (try have hr_l := HR.lt); (try have hr_f0 := HR.f0); (try have hr_f1 := HR.f1); (try have hr_f2 := HR.f2); have lz1 := HA.lt) | (go_at_call 14; (with_reducible refine (CD.out _ _ _ (HB.al _) (np.al _)).mono ?_); rintro e w5 ⟨Aq, cq, Ar, cr, rfl, nq, nr, hbk⟩; (with_reducible (have HQ0 := At.up (at_new0 _ [.slice none 0 0] _) hbk; replace HB := (HB.al _).up hbk; replace HA := (HA.al _).up hbk; replace HR := (HR.al _).up hbk)); (try (with_reducible replace HP0 := (HP0.al _).up hbk)); (try (with_reducible replace HP1 := (HP1.al _).up hbk)); (try have p0 := HP0.c0); (try have p1 := HP1.c0); (try have q0 := HQ0.c0); (try have q1 := HQ1.c0); (try have fp0 := HP0.f0); (try have fp1 := HP1.f0); (try have fq0 := HQ0.f0); (try have fq1 := HQ1.f0); (try have lp0 := HP0.lt); (try have lp1 := HP1.lt); (try have lq0 := HQ0.lt); (try have lq1 := HQ1.lt); (try have ha_0 := HA.c0); (try have ha_l := HA.lt); (try have hr_0 := HR.c0); (try have hr_1 := HR.c1); (try have hr_2 := HR.c2); (try have hr_l := HR.lt); (try have hr_f0 := HR.f0); (try have hr_f1 := HR.f1); (try have hr_f2 := HR.f2); have lz1 := HA.lt) | (go_at_call 14; (with_reducible refine (CD.out _ _ _ ((HB.al _).al _) ((np.al _).al _)).mono ?_); rintro e w5 ⟨Aq, cq, Ar, cr, rfl, nq, nr, hbk⟩; (with_reducible (have HQ0 := At.up ((at_new0 _ [.slice none 0 0] _).al _) hbk; have HQ1 := At.up (at_new1 _ _ [.slice none 0 0] _) hbk; replace HB := ((HB.al _).al _).up hbk; replace HA := ((HA.al _).al _).up hbk; replace HR := ((HR.al _).al _).up hbk)); (try (with_reducible replace HP0 := ((HP0.al _).al _).up hbk)); (try (with_reducible replace HP1 := ((HP1.al _).al _).up hbk)); (try have p0 := HP0.c0); (try have p1 := HP1.c0); (try have q0 := HQ0.c0); (try have q1 := HQ1.c0); (try have fp0 := HP0.f0); (try have fp1 := HP1.f0); (try have fq0 := HQ0.f0); (try have fq1 := HQ1.f0); (try have lp0 := HP0.lt); (try have lp1 := HP1.lt); (try have lq0 := HQ0.lt); (try have lq1 := HQ1.lt); (try have ha_0 := HA.c0); (try have ha_l := HA.lt); (try have hr_0 := HR.c0); (try have hr_1 := HR.c1); (try have hr_2 := HR.c2); (try have hr_l := HR.lt); (try have hr_f0 := HR.f0); (try have hr_f1 := HR.f1); (try have hr_f2 := HR.f2); have lz1 := HA.lt) | fail)
  all_goals go_wp2_with fail
  all_goals
    refine name_end ?_
    intro W4 hW4
    have HF : At W4 (W.heap.size + 1) [.bool b, .slice Aq (dl q) cq, .int .i64 (t2.size : Int)] := by rw [hW4]; (repeat (first | with_reducible exact HR | (with_reducible refine At.dr ?_) | (with_reducible refine At.dput3 (v0 := .bool false) (v1 := .slice none 0 0) (v2 := .int .i64 0) ?_ _ _ _) | (with_reducible refine At.al ?_ _) | (with_reducible refine At.far3 ?_ (by omega) _ _ _) | (with_reducible refine At.far ?_ (by omega) _)))
    have NF : Nm W4 Aq (dl q) cq q := by rw [hW4]; (repeat (first | with_reducible exact nq | (with_reducible refine Nm.dr ?_) | (with_reducible refine Nm.al ?_ _) | (with_reducible refine Nm.puts ?_ ?_ _ _ _ _ _) | (with_reducible refine Nm.putx ?_ ⟨.slice none 0 0, At.c0 (vs := []) ?_, not_u32⟩ _) | with_reducible exact HR | with_reducible exact HP0 | with_reducible exact HP1 | with_reducible exact HQ0 | with_reducible exact HQ1 | (with_reducible refine At.dr ?_) | (with_reducible refine At.dput3 (v0 := .bool false) (v1 := .slice none 0 0) (v2 := .int .i64 0) ?_ _ _ _) | (with_reducible refine At.al ?_ _) | (with_reducible refine At.far3 ?_ (by omega) _ _ _) | (with_reducible refine At.far ?_ (by omega) _)))
    have BF : Bel W W4 := by rw [hW4]; (repeat (first | with_reducible exact HB | (with_reducible refine Bel.dr ?_) | (with_reducible refine Bel.al ?_ _) | (with_reducible refine Bel.sput3 ?_ (by omega) _ _ _) | (with_reducible refine Bel.put ?_ (by omega) _)))
    clear hW4
    refine bodyPost_ret (v := .agg #[.bool b, .slice Aq (dl q) cq, .int .i64 (t2.size : Int)]) (by simp [results, Tryd.results63, go_sem, HF.c0, HF.c1, HF.c2]) rfl ?_
    exact ⟨Aq, cq, by rw [(HJ.out t t2 ht.out ht2.out).1], NF, BF⟩
end
end Go.Proofs.YtdjngaejdmlekaaDoor
end

section
/- The document's own numbers: Sub. Conditions: at most 100000 fours of digits; a is at least b. -/
open Go.RowKit
set_option maxRecDepth 100000
namespace Go.Proofs.YtdjngaejdmlekaaDoor
theorem rsub_end {V m n k cr : Nat} (h : V + n = m + D4 ^ k * cr) (hV : V < D4 ^ k) (hnm : n ≤ m) (hc : cr ≤ 1) : V = m - n := by
  rcases Nat.eq_zero_or_pos cr with h0 | h0
  · rw [h0, Nat.mul_zero] at h; omega
  · obtain rfl : cr = 1 := by omega
    rw [Nat.mul_one] at h; omega
set_option maxHeartbeats 2000000 in
theorem rSub_any {A A' : Option Addr} {m n c c' : Nat} {w : World} (h : RN w w.heap.size A c m) (h' : RN w w.heap.size A' c' n) (hl : dq m ≤ 100000) (hnm : n ≤ m) :
    Calls Tryd.prog 26 #[.slice A (dq m) c, .slice A' (dq n) c'] w (RefPost w (m - n)) := by
  have HX := hide h
  have HY := hide h'
  have HNM := hide hnm
  have HLN : Hid (dq n ≤ dq m) := digs_len_mono (by decide) hnm
  obtain ⟨i0, hi0, hz0, hz1, hz2⟩ := info_parts Tryd.infoInt
  have I0 := hide hi0
  have Z0 := hide hz0
  have Z1 := hide hz1
  have Z2 := hide hz2
  clear hi0 hz0 hz1 hz2 h h' hnm
  go_enter Tryd.func26, Tryd.ntmps26
  go_wp2
  go_loopw [5, 6, 7] (fun dv cv iv wr => ∃ (i cr : Nat) (dd : List Nat), i ≤ dq m ∧ cr ≤ 1 ∧ cv = .int .i64 (cr : Int) ∧ iv = .int .i64 (i : Int) ∧ Hid (dd.length = i) ∧ Hid (Good4 dd) ∧
      Hid (val D4 dd + val D4 ((digs D4 n).take i) = val D4 ((digs D4 m).take i) + D4 ^ i * cr) ∧ Hid (wr.ownsRow w.heap.size 3 1 dv dd.length (dd.map I64)) ∧ Hid (Below w.heap.size w wr))
    (fun _ _ iv _ => dq m - (intOf iv).toNat)
  case atStart => exact ⟨0, 0, [], Nat.zero_le _, by omega, rfl, rfl, rfl, by intro x hx; simp at hx, by simp [Hid, val], World.ownsRow_nil _ _ _ _, Below.refl _ _⟩
  case round =>
    obtain ⟨i, cr, dd, hi, hcr, rfl, rfl, hdl, hdg, hval, hown, hbel⟩ := hrel
    by_cases hlt : i < dq m
    · obtain ⟨x, hx⟩ : ∃ x, x = (digs D4 m)[i]?.getD 0 := ⟨_, rfl⟩
      obtain ⟨y, hy⟩ : ∃ y, y = (digs D4 n)[i]?.getD 0 := ⟨_, rfl⟩
      have hx9 : x ≤ 9999 := by rw [hx]; exact getD_lt (good4_digs m) i
      have hy9 : y ≤ 9999 := by rw [hy]; exact getD_lt (good4_digs n) i
      have CX := hide (at_any (i := i) (c := c) (show dq m = (digs D4 m).length from rfl) (HX.out.below hbel.out).2)
      have CY := hide (at_any (i := i) (c := c') (show dq n = (digs D4 n).length from rfl) (HY.out.below hbel.out).2)
      have RX := hide (val_take_getD D4 (digs D4 m) i)
      have RY := hide (val_take_getD D4 (digs D4 n) i)
      rw [← hx] at CX RX
      rw [← hy] at CY RY
      have hdl2 : dd.length ≤ 300000 := by rw [hdl.out]; omega
      have H63 : Hid (dd.length + 1 ≤ maxLen) := by simp only [maxLen, Hid]; omega
      have HB : Hid (∀ u : Value, w.heap.size ≤ (wr.alloc (.cells #[u] 3)).heap.size) := fun u => by have := hbel.out.size; simp; omega
      have FIN : Hid (∀ (d cr' : Nat) (v2 : Value) (w3 : World), d + (cr + y) = x + D4 * cr' → d ≤ 9999 → w3.ownsRow w.heap.size 3 1 v2 (dd.length + 1) (dd.map I64 ++ [.int .i64 (d : Int)]) → Below w.heap.size w w3 →
          ∃ de : List Nat, Hid (de.length = i + 1) ∧ Hid (Good4 de) ∧ Hid (val D4 de + val D4 ((digs D4 n).take (i + 1)) = val D4 ((digs D4 m).take (i + 1)) + D4 ^ (i + 1) * cr') ∧ Hid (w3.ownsRow w.heap.size 3 1 v2 de.length (de.map I64)) ∧ Hid (Below w.heap.size w w3)) := by
        intro d cr' v2 w3 hd hd9 ho hb
        refine ⟨dd ++ [d], by unfold Hid; rw [List.length_append, hdl.out]; rfl, ?_, ?_, ?_, hb⟩
        · intro z hz
          rcases List.mem_append.1 hz with hz | hz
          · exact hdg.out z hz
          · simp at hz; subst hz; rw [D4_eq]; omega
        · unfold Hid
          rw [val_snoc, hdl.out, Nat.pow_succ, RX.out, RY.out]
          exact sub_math hval.out rfl hd
        · unfold Hid
          rw [List.length_append, List.map_append]
          exact ho
      clear hx hy
      by_cases hneg : x < y + cr
      · obtain ⟨d, hd⟩ : ∃ d, d + (y + cr) = x + 10000 := ⟨x + 10000 - (y + cr), by omega⟩
        have e1 : (x : Int) - (y : Int) - (cr : Int) + 10000 = (d : Int) := by omega
        have hneg2 : (x : Int) - (y : Int) - (cr : Int) < 0 := by omega
        have hneg3 : (x : Int) - (y : Int) < (cr : Int) := by omega
        have HD : Hid (d + (cr + y) = x + D4 * 1 ∧ d ≤ 9999) := by unfold Hid; rw [D4_eq]; omega
        clear hd
        go_wp2_with (first | (go_at_call 82; first | ((with_reducible refine CX.out.mono ?_); rintro e w' ⟨rfl, rfl⟩) | ((with_reducible refine CY.out.mono ?_); rintro e w' ⟨rfl, rfl⟩)) | (at_builtin; go_must (refine wpList_append_own _ rfl (.tmp 28) (.tmp 30) 39 rfl w.heap.size 3 i0 (.int .i64 0) 1 8 Tryd.underlying39 I0.out Z0.out Z1.out Z2.out rfl (by decide) _ _ _ rfl (hown.out.alloc _) ⟨wr.heap.size, 0, none⟩ 1 1 [.int .i64 (d : Int)] rfl rfl (cell_one_new _ _ _) (by intro u hu; simp at hu; subst hu; rfl) H63.out (by omega) (HB.out _) ?_; intro v2 w3 hown' hgrow hnil)))
        go_roundw
        case rel =>
          obtain ⟨de, g1, g2, g3, g4, g5⟩ := FIN.out d 1 v2 w3 HD.out.1 HD.out.2 hown' (app_below hown.out hbel.out (Nat.le_refl _) hgrow)
          exact ⟨i + 1, 1, de, by omega, by omega, rfl, by go_num, g1, g2, g3, g4, g5⟩
        case measure => simp [intOf]; omega
      · obtain ⟨d, hd⟩ : ∃ d, d + (y + cr) = x := ⟨x - (y + cr), by omega⟩
        have e1 : (x : Int) - (y : Int) - (cr : Int) = (d : Int) := by omega
        have HD : Hid (d + (cr + y) = x + D4 * 0 ∧ d ≤ 9999) := by unfold Hid; rw [D4_eq]; omega
        have hd0 : ¬ (d : Int) < 0 := by omega
        clear hd
        go_wp2_with (first | (go_at_call 82; first | ((with_reducible refine CX.out.mono ?_); rintro e w' ⟨rfl, rfl⟩) | ((with_reducible refine CY.out.mono ?_); rintro e w' ⟨rfl, rfl⟩)) | (at_builtin; go_must (refine wpList_append_own _ rfl (.tmp 28) (.tmp 30) 39 rfl w.heap.size 3 i0 (.int .i64 0) 1 8 Tryd.underlying39 I0.out Z0.out Z1.out Z2.out rfl (by decide) _ _ _ rfl (hown.out.alloc _) ⟨wr.heap.size, 0, none⟩ 1 1 [.int .i64 (d : Int)] rfl rfl (cell_one_new _ _ _) (by intro u hu; simp at hu; subst hu; rfl) H63.out (by omega) (HB.out _) ?_; intro v2 w3 hown' hgrow hnil)))
        go_roundw
        case rel =>
          obtain ⟨de, g1, g2, g3, g4, g5⟩ := FIN.out d 0 v2 w3 HD.out.1 HD.out.2 hown' (app_below hown.out hbel.out (Nat.le_refl _) hgrow)
          exact ⟨i + 1, 0, de, by omega, by omega, rfl, by go_num, g1, g2, g3, g4, g5⟩
        case measure => simp [intOf]; omega
    · obtain rfl : i = dq m := by omega
      have HV : Hid (val D4 dd = m - n) := by
        have h1 := hval.out
        rw [List.take_of_length_le (show (digs D4 m).length ≤ dq m from Nat.le_refl _), List.take_of_length_le (show (digs D4 n).length ≤ dq m from HLN.out), val_digs4, val_digs4] at h1
        have h2 := val_lt dd hdg.out
        rw [hdl.out] at h2
        exact rsub_end h1 h2 HNM.out hcr
      obtain ⟨A2, c2, he, hc, hr⟩ := row_rd hown.out
      cases he
      have HR := hide hr
      have hdl2 : dd.length ≤ 300000 := by rw [hdl.out]; omega
      go_wp2_with (first | (go_at_call 83; go_must (refine (rtrim_post rfl HV.out HR.out hdg.out (by omega) hc).mono ?_); rintro e w2 ⟨rfl, rfl⟩))
      go_ret
      exact ⟨A2, c2, rfl, rn_of rfl HV.out HR.out hdg.out hc, hbel⟩
end Go.Proofs.YtdjngaejdmlekaaDoor
end

section
/- Words for the document's own division: the reckoning, and append of any slice that reads as a list. No conditions. -/
open Go.RowKit
set_option maxRecDepth 100000
namespace Go.Proofs.YtdjngaejdmlekaaDoor
section
variable {P : Program} {w : World}
/-- Of a nil slice append adds nothing. -/
theorem app_nil (base : Nat) (t ty e : TypeId) (i : TypeInfo) (size : Nat) (ht : P.underlying t = some (.slice e)) (hi : P.info? e = some i)
    (v : Value) (n : Nat) (xs : List Value) (hown : w.ownsRow base e size v n xs) (c : Nat) : (Builtin.append_ #[t, t] ty #[v, .slice none 0 c]).run P w = .ok v w := by
  rcases hown.2 with ⟨rfl, rfl⟩ | ⟨g, cap, cur, rfl, _, _, hnc, _⟩
  · simp [Builtin.append_, run_underlying ht, sizeOf, typeInfo, hi, Builtin.lenOf, Builtin.firstCells]
  · simp [Builtin.append_, run_underlying ht, sizeOf, typeInfo, hi, Builtin.lenOf, Builtin.firstCells, hnc, storeCells]
theorem app_run {f : Nat → Value} (hf : ∀ x, (f x).oneCell' = true) (base : Nat) (t ty e : TypeId) (i : TypeInfo) (z : Value) (bytes : Nat) (ht : P.underlying t = some (.slice e)) (hi : P.info? e = some i) (hz : i.zero = some z)
    (hsize : i.size = 1) (hby : i.bytes = bytes) (hzs : z.cells.size = 1) {v : Value} {n : Nat} {xs : List Value} (hown : w.ownsRow base e 1 v n xs)
    {B : Nat} {A : Option Addr} {m c : Nat} {ws : List Nat} (hm : m = ws.length) (hr : Rd f w B A ws) (h63 : n + m ≤ maxLen) (hbytes : (n + m) * bytes ≤ 140737488355328) (hbase : base ≤ w.heap.size) :
    ∃ v' w', (Builtin.append_ #[t, t] ty #[v, .slice A m c]).run P w = .ok v' w' ∧ w'.ownsRow base e 1 v' (n + m) (xs ++ ws.map f) ∧ w.grownBy w' v.ownBlock ∧ (v'.ownBlock = v.ownBlock ∨ v'.ownBlock = some w.heap.size) := by
  subst hm
  by_cases h0 : ws = []
  · subst h0
    cases A with
    | none => exact ⟨v, w, app_nil base t ty e i 1 ht hi v n xs hown c, by simpa using hown, World.grownBy.refl w _, .inl rfl⟩
    | some ad =>
      obtain ⟨v', w', h1, h2, h3, _, h5⟩ := run_append_own_at (P := P) w base t ty e i z 1 bytes ht hi hz hsize hby hzs (by decide) v n xs hown ad 0 c [] (by simp) (by simp) (by simp) h63 hbytes hbase
      exact ⟨v', w', h1, by simpa using h2, h3, h5⟩
  · obtain ⟨ad, rfl, _, hc⟩ := hr (List.length_pos_iff.2 h0)
    obtain ⟨v', w', h1, h2, h3, _, h5⟩ := run_append_own_at (P := P) w base t ty e i z 1 bytes ht hi hz hsize hby hzs (by decide) v n xs hown ad ws.length c (ws.map f) (by simp) (fun j u hu => by
      rw [List.getElem?_map] at hu
      cases hj : ws[j]? with
      | none => rw [hj] at hu; cases hu
      | some x => rw [hj] at hu; injection hu with hu; rw [← hu]; exact hc j x hj) (by intro u hu; obtain ⟨x, _, rfl⟩ := List.mem_map.1 hu; exact hf x) h63 hbytes hbase
    exact ⟨v', w', h1, h2, h3, h5⟩
theorem wpList_app {f : Nat → Value} (hf : ∀ x, (f x).oneCell' = true) {ops : Array Oper} {rest : List Oper} {o : Oper} {a : Act} {Q : Exit → Act → World → Prop} (hgd : o.guard = none) (s x : Operand) (t : TypeId)
    (ho : o.op = .call { callee := .builtin .append, args := #[s, x], argTypes := #[t, t] }) (base : Nat) (e : TypeId) (i : TypeInfo) (z : Value) (bytes : Nat) (ht : P.underlying t = some (.slice e)) (hi : P.info? e = some i) (hz : i.zero = some z)
    (hsize : i.size = 1) (hby : i.bytes = bytes) (hzs : z.cells.size = 1) {v : Value} {n : Nat} {xs : List Value} (hs : a.eval s = v) (hown : w.ownsRow base e 1 v n xs)
    {B : Nat} {A : Option Addr} {m c : Nat} {ws : List Nat} (hx : a.eval x = .slice A m c) (hm : m = ws.length) (hr : Rd f w B A ws) (h63 : n + m ≤ maxLen) (hbytes : (n + m) * bytes ≤ 140737488355328) (hbase : base ≤ w.heap.size)
    (h : ∀ v' w', w'.ownsRow base e 1 v' (n + m) (xs ++ ws.map f) → w.grownBy w' v.ownBlock → (v'.ownBlock = v.ownBlock ∨ v'.ownBlock = some w.heap.size) → wpList P ops Q rest (a.put o.dst v') w') : wpList P ops Q (o :: rest) a w := by
  refine wpList_plain hgd fun K hK => ?_
  obtain ⟨v', w', h1, h2, h3, h4⟩ := app_run (P := P) hf base t o.type e i z bytes ht hi hz hsize hby hzs hown hm hr h63 hbytes hbase
  unfold Oper.wp execOp
  simp only [ho, resolve, invoke, builtin, Sem.run_bind, Sem.run_pure, Result.andThen_ok, List.map_toArray, List.map_cons, List.map_nil, hs, hx]
  rw [h1]
  exact hK _ _ (h v' w' h2 h3 h4)
end
/-- One digit of the quotient. -/
theorem rdiv_digit {n r x : Nat} (hr : r < n) (hx : x ≤ 9999) : (x + D4 * r) / n ≤ 9999 ∧ (x + D4 * r) - n * ((x + D4 * r) / n) < n ∧ n * ((x + D4 * r) / n) ≤ x + D4 * r := by
  have h0 : 0 < n := by omega
  have h1 : (x + D4 * r) / n < 10000 := by
    rw [Nat.div_lt_iff_lt_mul h0]
    have : D4 * (r + 1) ≤ 10000 * n := Nat.mul_le_mul (by decide) hr
    rw [Nat.mul_add, D4_eq] at this
    rw [D4_eq]; omega
  have h2 := Nat.div_add_mod (x + D4 * r) n
  have h3 := Nat.mod_lt (x + D4 * r) h0
  omega
theorem rdiv_step {n H r x M t r' : Nat} (hM : M = n * H + r) (ht : n * t + r' = x + D4 * r) : x + D4 * M = n * (t + D4 * H) + r' := by
  have e1 : n * (t + D4 * H) = n * t + D4 * (n * H) := by rw [Nat.mul_add, Nat.mul_left_comm]
  rw [hM, e1, Nat.mul_add]; omega
theorem rdiv_end {m n Q r : Nat} (hM : m = n * Q + r) (hr : r < n) : m / n = Q ∧ m % n = r := by
  exact (Nat.div_mod_unique (a := m) (b := n) (by omega)).2 ⟨by rw [hM, Nat.add_comm], hr⟩
theorem zeros_set {hi : List Nat} {i v : Nat} : (List.replicate (i + 1) 0 ++ hi).set i v = List.replicate i 0 ++ (v :: hi) := by
  rw [List.replicate_succ']
  rw [List.append_assoc, List.set_append_right _ _ (by simp)]
  simp
theorem val_drop_lt {m top : Nat} (h : top ≤ dq m) : val D4 ((digs D4 m).drop top) < D4 ^ (dq m - top) := by
  have := val_lt ((digs D4 m).drop top) (fun x hx => good4_digs m x (List.mem_of_mem_drop hx))
  rwa [List.length_drop] at this
/-- The bisection's step. -/
theorem bis_le {n s t : Nat} (h0 : 0 < n) : n * s ≤ t ↔ s ≤ t / n := by rw [Nat.mul_comm]; exact (Nat.le_div_iff_mul_le h0).symm
end Go.Proofs.YtdjngaejdmlekaaDoor
end
