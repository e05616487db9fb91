/- Several texts in one, each with its own sentence and conditions. -/
import Derived.Test.YteieelgdiccppaaDoorGUwc25
import Derived.Deep.RegionHeld3
import Derived.Test.YteieelgdiccppaaDoorDc
import Derived.Test.YteieelgdiccppaaDoorGUwc22
import Derived.Lib.Bytealg
import Derived.Lib.IndexLaws
section
/- Package dec: Part. Conditions: numbers of at most 99999 words. -/
open Go.RowKit
set_option maxRecDepth 100000
namespace Go.Proofs.YteieelgdiccppaaDoor
section
variable {W : World} {b b0 : Bool} {A A0 : Option Addr} {n c m s n0 c0 : Nat} {s0 : Int}
set_option maxHeartbeats 4000000 in
theorem part_h (h : DY W (.agg #[.bool b0, .slice A0 n0 c0, .int .i64 s0]) b A n c m s) (hd : dl m ≤ 99999) : Calls Tryd.prog 53 #[.agg #[.bool b0, .slice A0 n0 c0, .int .i64 s0]] W (TxR W (partL m s)) := by
  obtain ⟨p, hp⟩ : ∃ p, p = 10 ^ s := ⟨_, rfl⟩
  obtain ⟨q, hq⟩ : ∃ q, q = m / p := ⟨_, rfl⟩
  obtain ⟨r, hr⟩ : ∃ r, r = m % p := ⟨_, rfl⟩
  obtain ⟨x, hx⟩ : ∃ x, x = p + r := ⟨_, rfl⟩
  obtain ⟨hl1, hl2, hl3, hl4⟩ := part_facts m s
  have p0 : 0 < p := by rw [hp]; exact Nat.pow_pos (by decide)
  have hxd : dl x ≤ 100000 := by
    have h1 : x < 10 ^ (s + 1) := by rw [Nat.pow_succ, ← hp]; have := Nat.mod_lt m p0; omega
    have h2 : s ≤ 60 := h.1.sc
    exact Nat.le_trans (dl_le (k := 61) (Nat.lt_trans h1 (Nat.lt_of_le_of_lt (Nat.pow_le_pow_right (by decide) (show s + 1 ≤ 61 by omega)) (Nat.pow_lt_pow_left (by decide) (by decide))))) (by decide)
  have CC : Hid (∀ W', Bel W W' → Calls Tryd.prog 103 #[.agg #[.bool b0, .slice A0 n0 c0, .int .i64 s0]] W' (CnR W' b A n c s)) := h.2
  have CP : Hid (∀ W', Calls Tryd.prog 102 #[.int .i64 (s : Int)] W' (NumR W' p)) := fun W' => by rw [hp]; exact power_h h.1.sc
  have CD : Hid (∀ W' B e, Bel W W' → Nm W' B (dl p) e p → Calls Tryd.prog 15 #[.agg #[.slice A n c], .agg #[.slice B (dl p) e]] W' (DivV W' q r)) := fun W' B e hb hn => div_v (h.1.nm.up hb) hn p0 hd hq.symm hr.symm
  have CA : Hid (∀ W' B e B' e', Nm W' B (dl p) e p → Nm W' B' (dl r) e' r → Calls Tryd.prog 89 #[.agg #[.slice B (dl p) e], .agg #[.slice B' (dl r) e']] W' (NumR W' x)) := fun W' B e B' e' h1 h2 => add_h h1 h2 hx.symm hxd
  have HL : Hid (decL x = 49 :: partL m s ∧ (partL m s).length = s) := ⟨by rw [hx, hr, hp]; exact hl1, hl2⟩
  have CT : Hid (∀ W' B e, Nm W' B (dl x) e x → Calls Tryd.prog 17 #[.agg #[.slice B (dl x) e]] W' (TxR W' (decL x))) := fun W' B e h1 => text_h h1
  clear h hd hp hq hr hx hl1 hl2 hl3 hl4 p0 hxd
  have HB := Bel.refl W
  go_enter Tryd.func53, Tryd.ntmps53
  go_wp2_with (first | (go_at_call 103; (with_reducible refine (CC.out _ (HB.al _)).mono ?_); rintro e w1 ⟨rfl, hbk⟩; have HA := At.up (at_new0 _ _ _) hbk; replace HB := (HB.al _).up hbk; have ha_0 := HA.c0; have ha_1 := HA.c1; have ha_2 := HA.c2; have ha_l := HA.lt; have ha_f0 := HA.f0; have ha_f1 := HA.f1; have ha_f2 := HA.f2) | (go_at_call 102; (with_reducible refine (CP.out _).mono ?_); rintro e w2 ⟨Bp, ep, rfl, np, hbk⟩; replace HA : At w2 W.heap.size [.bool b, .slice A n c, .int .i64 (s : Int)] := At.up (HA.put3 _ _ _) hbk; replace HB := Bel.up (below3 HB (Nat.le_refl _) _ _ _) hbk; clear ha_0 ha_1 ha_2 ha_l ha_f0 ha_f1 ha_f2; have ha_0 := HA.c0; have ha_1 := HA.c1; have ha_2 := HA.c2; have ha_l := HA.lt) | (go_at_call 15; (with_reducible refine (CD.out _ _ _ (HB.al _) (np.al _)).mono ?_); rintro e w3 ⟨Aq, cq, Ar, cr, rfl, nq, nr, hbk⟩; have HO := At.up (at_new0 _ _ _) hbk; replace HB := (HB.al _).up hbk; replace HA := (HA.al _).up hbk; replace np := (np.al _).up hbk; clear ha_0 ha_1 ha_2 ha_l; have ho_0 := HO.c0; have ho_l := HO.lt) | (go_at_call 89; (with_reducible refine (CA.out _ _ _ _ _ ((np.al _).al _) ((nr.al _).al _)).mono ?_); rintro e w4 ⟨Ax, cx, rfl, nx, hbk⟩; replace HB := ((HB.al _).al _).up hbk; clear ho_0 ho_l) | (go_at_call 17; (with_reducible refine (CT.out _ _ _ nx).mono ?_); rintro e w5 ⟨t, rfl, ht, hbk⟩; replace HB := HB.up hbk; have hts : 1 ≤ t.size := (by rw [size_list, ht.out, HL.out.1]; simp)) | fail)
  go_ret
  refine ⟨_, rfl, ?_, HB⟩
  unfold Hid
  rw [extract_list, List.take_of_length_le (show t.data.toList.length ≤ t.size from Nat.le_refl _), ht.out, HL.out.1]
  rfl
end
end Go.Proofs.YteieelgdiccppaaDoor
end

section
/- Package dec: Text. Conditions: numbers of at most 99999 words. -/
open Go.RowKit
set_option maxRecDepth 100000
namespace Go.Proofs.YteieelgdiccppaaDoor
/-- A numeral's text. -/
def decD (b : Bool) (m s : Nat) : List UInt8 := (if b then [45] else []) ++ (decL (m / 10 ^ s) ++ (if s = 0 then [] else 46 :: partL m s))
section
variable {W : World} {b b0 : Bool} {A A0 : Option Addr} {n c m s n0 c0 : Nat} {s0 : Int}
set_option maxHeartbeats 4000000 in
theorem dtext_pz (h : DY W (.agg #[.bool b0, .slice A0 n0 c0, .int .i64 s0]) b A n c m s) (hd : dl m ≤ 99999) (hb : b = false) (h0 : s = 0) : Calls Tryd.prog 51 #[.agg #[.bool b0, .slice A0 n0 c0, .int .i64 s0]] W (TxR W (decD b m s)) := by
  subst hb
  obtain ⟨q, hq⟩ : ∃ q, q = m / 10 ^ s := ⟨_, rfl⟩
  have CC : Hid (∀ W', Bel W W' → Calls Tryd.prog 103 #[.agg #[.bool b0, .slice A0 n0 c0, .int .i64 s0]] W' (CnR W' false A n c s)) := h.2
  have CW : Hid (∀ W', Bel W W' → Calls Tryd.prog 99 #[.agg #[.bool false, .slice A n c, .int .i64 (s : Int)]] W' (NumR W' q)) := fun W' hb => by rw [hq]; exact whole_h ((h.1.bel hb).y) hd
  have CQ : Hid (∀ W', Bel W W' → Calls Tryd.prog 53 #[.agg #[.bool false, .slice A n c, .int .i64 (s : Int)]] W' (TxR W' (partL m s))) := fun W' hb => part_h ((h.1.bel hb).y) hd
  have CT : Hid (∀ W' B e, Nm W' B (dl q) e q → Calls Tryd.prog 17 #[.agg #[.slice B (dl q) e]] W' (TxR W' (decL q))) := fun W' B e h1 => text_h h1
  have HL : Hid ((partL m s).length ≤ 60) := by unfold Hid; rw [(part_facts m s).2.1]; exact h.1.sc
  have HQ := hide hq
  have HS := hide h0
  have hs : ((s : Int) == 0) = true := by simp [h0]
  clear h hd hq h0
  have HB := Bel.refl W
  go_enter Tryd.func51, Tryd.ntmps51
  go_wp2_with (first | (go_at_call 103; (with_reducible refine (CC.out _ (HB.al _)).mono ?_); rintro e w1 ⟨rfl, hbk⟩; have HA := At.up (at_new0 _ _ _) hbk; replace HB := (HB.al _).up hbk; have ha_0 := HA.c0; have ha_1 := HA.c1; have ha_2 := HA.c2; have ha_l := HA.lt; have ha_f0 := HA.f0; have ha_f1 := HA.f1; have ha_f2 := HA.f2) | (go_at_call 99; (with_reducible refine (CW.out _ (below3 HB (Nat.le_refl _) _ _ _)).mono ?_); rintro e w2 ⟨Bq, eq, rfl, nq, hbk⟩; replace HA : At w2 W.heap.size [.bool false, .slice A n c, .int .i64 (s : Int)] := At.up (HA.put3 _ _ _) hbk; replace HB := Bel.up (below3 HB (Nat.le_refl _) _ _ _) hbk; clear ha_0 ha_1 ha_2 ha_l ha_f0 ha_f1 ha_f2) | (go_at_call 17; (with_reducible refine (CT.out _ _ _ nq).mono ?_); rintro e w3 ⟨t, rfl, ht, hbk⟩; replace HB := HB.up hbk; replace HA := HA.up hbk; have ha_0 := HA.c0; have ha_1 := HA.c1; have ha_2 := HA.c2; have ha_l := HA.lt; have hts : t.size ≤ 1000001 := (by rw [size_list, ht.out]; exact decL_len nq)) | fail)
  all_goals first
    | (exfalso; omega)
    | (go_ret
       refine ⟨_, rfl, ?_, HB⟩
       unfold Hid decD
       rw [if_pos HS.out, ← HQ.out, ← ht.out]
       simp)
set_option maxHeartbeats 4000000 in
theorem dtext_pp (h : DY W (.agg #[.bool b0, .slice A0 n0 c0, .int .i64 s0]) b A n c m s) (hd : dl m ≤ 99999) (hb : b = false) (h0 : s ≠ 0) : Calls Tryd.prog 51 #[.agg #[.bool b0, .slice A0 n0 c0, .int .i64 s0]] W (TxR W (decD b m s)) := by
  subst hb
  obtain ⟨q, hq⟩ : ∃ q, q = m / 10 ^ s := ⟨_, rfl⟩
  have CC : Hid (∀ W', Bel W W' → Calls Tryd.prog 103 #[.agg #[.bool b0, .slice A0 n0 c0, .int .i64 s0]] W' (CnR W' false A n c s)) := h.2
  have CW : Hid (∀ W', Bel W W' → Calls Tryd.prog 99 #[.agg #[.bool false, .slice A n c, .int .i64 (s : Int)]] W' (NumR W' q)) := fun W' hb => by rw [hq]; exact whole_h ((h.1.bel hb).y) hd
  have CQ : Hid (∀ W', Bel W W' → Calls Tryd.prog 53 #[.agg #[.bool false, .slice A n c, .int .i64 (s : Int)]] W' (TxR W' (partL m s))) := fun W' hb => part_h ((h.1.bel hb).y) hd
  have CT : Hid (∀ W' B e, Nm W' B (dl q) e q → Calls Tryd.prog 17 #[.agg #[.slice B (dl q) e]] W' (TxR W' (decL q))) := fun W' B e h1 => text_h h1
  have HL : Hid ((partL m s).length ≤ 60) := by unfold Hid; rw [(part_facts m s).2.1]; exact h.1.sc
  have HQ := hide hq
  have HS := hide h0
  have hs : ((s : Int) == 0) = false := by simpa using h0
  clear h hd hq h0
  have HB := Bel.refl W
  go_enter Tryd.func51, Tryd.ntmps51
  go_wp2_with (first | (go_at_call 103; (with_reducible refine (CC.out _ (HB.al _)).mono ?_); rintro e w1 ⟨rfl, hbk⟩; have HA := At.up (at_new0 _ _ _) hbk; replace HB := (HB.al _).up hbk; have ha_0 := HA.c0; have ha_1 := HA.c1; have ha_2 := HA.c2; have ha_l := HA.lt; have ha_f0 := HA.f0; have ha_f1 := HA.f1; have ha_f2 := HA.f2) | (go_at_call 99; (with_reducible refine (CW.out _ (below3 HB (Nat.le_refl _) _ _ _)).mono ?_); rintro e w2 ⟨Bq, eq, rfl, nq, hbk⟩; replace HA : At w2 W.heap.size [.bool false, .slice A n c, .int .i64 (s : Int)] := At.up (HA.put3 _ _ _) hbk; replace HB := Bel.up (below3 HB (Nat.le_refl _) _ _ _) hbk; clear ha_0 ha_1 ha_2 ha_l ha_f0 ha_f1 ha_f2) | (go_at_call 17; (with_reducible refine (CT.out _ _ _ nq).mono ?_); rintro e w3 ⟨t, rfl, ht, hbk⟩; replace HB := HB.up hbk; replace HA := HA.up hbk; have ha_0 := HA.c0; have ha_1 := HA.c1; have ha_2 := HA.c2; have ha_l := HA.lt; have hts : t.size ≤ 1000001 := (by rw [size_list, ht.out]; exact decL_len nq)) | (go_at_call 53; (with_reducible refine (CQ.out _ HB).mono ?_); rintro e w4 ⟨u, rfl, hu, hbk⟩; replace HB := HB.up hbk; clear ha_0 ha_1 ha_2 ha_l; have hus : u.size ≤ 60 := (by rw [size_list, hu.out]; exact HL.out)) | fail)
  all_goals first
    | (exfalso; omega)
    | (go_ret
       refine ⟨_, rfl, ?_, HB⟩
       unfold Hid decD
       rw [if_neg HS.out, ← HQ.out, ← ht.out, ← hu.out]
       simp)
set_option maxHeartbeats 4000000 in
theorem dtext_nz (h : DY W (.agg #[.bool b0, .slice A0 n0 c0, .int .i64 s0]) b A n c m s) (hd : dl m ≤ 99999) (hb : b = true) (h0 : s = 0) : Calls Tryd.prog 51 #[.agg #[.bool b0, .slice A0 n0 c0, .int .i64 s0]] W (TxR W (decD b m s)) := by
  subst hb
  obtain ⟨q, hq⟩ : ∃ q, q = m / 10 ^ s := ⟨_, rfl⟩
  have CC : Hid (∀ W', Bel W W' → Calls Tryd.prog 103 #[.agg #[.bool b0, .slice A0 n0 c0, .int .i64 s0]] W' (CnR W' true A n c s)) := h.2
  have CW : Hid (∀ W', Bel W W' → Calls Tryd.prog 99 #[.agg #[.bool true, .slice A n c, .int .i64 (s : Int)]] W' (NumR W' q)) := fun W' hb => by rw [hq]; exact whole_h ((h.1.bel hb).y) hd
  have CQ : Hid (∀ W', Bel W W' → Calls Tryd.prog 53 #[.agg #[.bool true, .slice A n c, .int .i64 (s : Int)]] W' (TxR W' (partL m s))) := fun W' hb => part_h ((h.1.bel hb).y) hd
  have CT : Hid (∀ W' B e, Nm W' B (dl q) e q → Calls Tryd.prog 17 #[.agg #[.slice B (dl q) e]] W' (TxR W' (decL q))) := fun W' B e h1 => text_h h1
  have HL : Hid ((partL m s).length ≤ 60) := by unfold Hid; rw [(part_facts m s).2.1]; exact h.1.sc
  have HQ := hide hq
  have HS := hide h0
  have hs : ((s : Int) == 0) = true := by simp [h0]
  clear h hd hq h0
  have HB := Bel.refl W
  go_enter Tryd.func51, Tryd.ntmps51
  go_wp2_with (first | (go_at_call 103; (with_reducible refine (CC.out _ (HB.al _)).mono ?_); rintro e w1 ⟨rfl, hbk⟩; have HA := At.up (at_new0 _ _ _) hbk; replace HB := (HB.al _).up hbk; have ha_0 := HA.c0; have ha_1 := HA.c1; have ha_2 := HA.c2; have ha_l := HA.lt; have ha_f0 := HA.f0; have ha_f1 := HA.f1; have ha_f2 := HA.f2) | (go_at_call 99; (with_reducible refine (CW.out _ (below3 HB (Nat.le_refl _) _ _ _)).mono ?_); rintro e w2 ⟨Bq, eq, rfl, nq, hbk⟩; replace HA : At w2 W.heap.size [.bool true, .slice A n c, .int .i64 (s : Int)] := At.up (HA.put3 _ _ _) hbk; replace HB := Bel.up (below3 HB (Nat.le_refl _) _ _ _) hbk; clear ha_0 ha_1 ha_2 ha_l ha_f0 ha_f1 ha_f2) | (go_at_call 17; (with_reducible refine (CT.out _ _ _ nq).mono ?_); rintro e w3 ⟨t, rfl, ht, hbk⟩; replace HB := HB.up hbk; replace HA := HA.up hbk; have ha_0 := HA.c0; have ha_1 := HA.c1; have ha_2 := HA.c2; have ha_l := HA.lt; have hts : t.size ≤ 1000001 := (by rw [size_list, ht.out]; exact decL_len nq)) | fail)
  all_goals first
    | (exfalso; omega)
    | (go_ret
       refine ⟨_, rfl, ?_, HB⟩
       unfold Hid decD
       rw [if_pos HS.out, ← HQ.out, ← ht.out]
       simp)
set_option maxHeartbeats 4000000 in
theorem dtext_np (h : DY W (.agg #[.bool b0, .slice A0 n0 c0, .int .i64 s0]) b A n c m s) (hd : dl m ≤ 99999) (hb : b = true) (h0 : s ≠ 0) : Calls Tryd.prog 51 #[.agg #[.bool b0, .slice A0 n0 c0, .int .i64 s0]] W (TxR W (decD b m s)) := by
  subst hb
  obtain ⟨q, hq⟩ : ∃ q, q = m / 10 ^ s := ⟨_, rfl⟩
  have CC : Hid (∀ W', Bel W W' → Calls Tryd.prog 103 #[.agg #[.bool b0, .slice A0 n0 c0, .int .i64 s0]] W' (CnR W' true A n c s)) := h.2
  have CW : Hid (∀ W', Bel W W' → Calls Tryd.prog 99 #[.agg #[.bool true, .slice A n c, .int .i64 (s : Int)]] W' (NumR W' q)) := fun W' hb => by rw [hq]; exact whole_h ((h.1.bel hb).y) hd
  have CQ : Hid (∀ W', Bel W W' → Calls Tryd.prog 53 #[.agg #[.bool true, .slice A n c, .int .i64 (s : Int)]] W' (TxR W' (partL m s))) := fun W' hb => part_h ((h.1.bel hb).y) hd
  have CT : Hid (∀ W' B e, Nm W' B (dl q) e q → Calls Tryd.prog 17 #[.agg #[.slice B (dl q) e]] W' (TxR W' (decL q))) := fun W' B e h1 => text_h h1
  have HL : Hid ((partL m s).length ≤ 60) := by unfold Hid; rw [(part_facts m s).2.1]; exact h.1.sc
  have HQ := hide hq
  have HS := hide h0
  have hs : ((s : Int) == 0) = false := by simpa using h0
  clear h hd hq h0
  have HB := Bel.refl W
  go_enter Tryd.func51, Tryd.ntmps51
  go_wp2_with (first | (go_at_call 103; (with_reducible refine (CC.out _ (HB.al _)).mono ?_); rintro e w1 ⟨rfl, hbk⟩; have HA := At.up (at_new0 _ _ _) hbk; replace HB := (HB.al _).up hbk; have ha_0 := HA.c0; have ha_1 := HA.c1; have ha_2 := HA.c2; have ha_l := HA.lt; have ha_f0 := HA.f0; have ha_f1 := HA.f1; have ha_f2 := HA.f2) | (go_at_call 99; (with_reducible refine (CW.out _ (below3 HB (Nat.le_refl _) _ _ _)).mono ?_); rintro e w2 ⟨Bq, eq, rfl, nq, hbk⟩; replace HA : At w2 W.heap.size [.bool true, .slice A n c, .int .i64 (s : Int)] := At.up (HA.put3 _ _ _) hbk; replace HB := Bel.up (below3 HB (Nat.le_refl _) _ _ _) hbk; clear ha_0 ha_1 ha_2 ha_l ha_f0 ha_f1 ha_f2) | (go_at_call 17; (with_reducible refine (CT.out _ _ _ nq).mono ?_); rintro e w3 ⟨t, rfl, ht, hbk⟩; replace HB := HB.up hbk; replace HA := HA.up hbk; have ha_0 := HA.c0; have ha_1 := HA.c1; have ha_2 := HA.c2; have ha_l := HA.lt; have hts : t.size ≤ 1000001 := (by rw [size_list, ht.out]; exact decL_len nq)) | (go_at_call 53; (with_reducible refine (CQ.out _ HB).mono ?_); rintro e w4 ⟨u, rfl, hu, hbk⟩; replace HB := HB.up hbk; clear ha_0 ha_1 ha_2 ha_l; have hus : u.size ≤ 60 := (by rw [size_list, hu.out]; exact HL.out)) | fail)
  all_goals first
    | (exfalso; omega)
    | (go_ret
       refine ⟨_, rfl, ?_, HB⟩
       unfold Hid decD
       rw [if_neg HS.out, ← HQ.out, ← ht.out, ← hu.out]
       simp)
theorem dtext_h (h : DY W (.agg #[.bool b0, .slice A0 n0 c0, .int .i64 s0]) b A n c m s) (hd : dl m ≤ 99999) : Calls Tryd.prog 51 #[.agg #[.bool b0, .slice A0 n0 c0, .int .i64 s0]] W (TxR W (decD b m s)) := by
  by_cases h0 : s = 0
  · cases b
    · exact dtext_pz h hd rfl h0
    · exact dtext_nz h hd rfl h0
  · cases b
    · exact dtext_pp h hd rfl h0
    · exact dtext_np h hd rfl h0
end
end Go.Proofs.YteieelgdiccppaaDoor
end

section
/- strings.Cut at a point. Conditions: a string of at most 100000 bytes. -/
open Go.RowKit
set_option maxRecDepth 100000
namespace Go.Proofs.YteieelgdiccppaaDoor
theorem ixdot_any (s : ByteArray) (w : World) : Calls Tryd.prog 154 #[.string s, .int .u8 46] w fun e w' => e = .returned (.int .i64 (Lib.indexByte s.data.toList 46)) ∧ w = w' := by
  go_enter Tryd.func154, Tryd.ntmps154
  go_wp2_with fail
  rw [run_callFunc_extern Tryd.func162 (by kernel_rfl) (by kernel_rfl) (by kernel_rfl) (e := Extern.BytealgIndexByte.indexByte) (by kernel_rfl), Lib.run_indexByteString]
  simp only [Result.andThen]
  rw [Oper.upon_value]
  go_wp2
  go_ret
  exact ⟨rfl, rfl⟩
theorem indexd_any (s : ByteArray) (w : World) {v : Int} (hv : Lib.indexByte s.data.toList 46 = v) : Calls Tryd.prog 149 #[.string s, .string ⟨#[46]⟩] w fun e w' => e = .returned (.int .i64 v) ∧ w = w' := by
  subst hv
  have CI := hide (fun W => ixdot_any s W)
  cases hb : ([46] == s.toList)
  · go_enter Tryd.func149, Tryd.ntmps149
    go_wp2_with (first | (go_at_call 154; (refine (CI.out _).mono ?_); rintro e w1 ⟨rfl, rfl⟩) | fail)
    go_ret
    exact ⟨rfl, rfl⟩
  · have HV : Hid (Lib.indexByte s.data.toList 46 = 0) := by
      have h1 : [46] = s.toList := beq_iff_eq.1 hb
      unfold Hid
      rw [← toList_data, ← h1]; rfl
    go_enter Tryd.func149, Tryd.ntmps149
    go_wp2_with (first | (go_at_call 154; (refine (CI.out _).mono ?_); rintro e w1 ⟨rfl, rfl⟩) | fail)
    go_ret
    exact ⟨by rw [HV.out]; rfl, rfl⟩
/-- What Cut leaves: what is ahead of the first point and behind it. -/
def DotR (w : World) (s : ByteArray) (e : Ending) (w' : World) : Prop :=
  ∃ (t u : ByteArray) (b : Bool), e = .returned (.tuple #[.string t, .string u, .bool b]) ∧ Hid ((b = true → s.data.toList = t.data.toList ++ 46 :: u.data.toList) ∧ (b = false → t = s ∧ u = ⟨#[]⟩) ∧ ¬ (46 : UInt8) ∈ t.data.toList) ∧ Hid (Below w.heap.size w w')
theorem cutld_any (s : ByteArray) (w : World) (hs : s.size ≤ 100000) : Calls Tryd.prog 133 #[.string s, .string ⟨#[46]⟩] w (DotR w s) := by
  obtain ⟨v, hv⟩ : ∃ v, Lib.indexByte s.data.toList 46 = v := ⟨_, rfl⟩
  have CI := hide (fun W => indexd_any s W hv)
  have hge := Lib.indexByte_ge s.data.toList 46
  rw [hv] at hge
  by_cases hm : v = -1
  · subst hm
    have HN := hide (Lib.indexByte_none hv)
    clear hv hge
    go_enter Tryd.func133, Tryd.ntmps133
    go_wp2_with (first | (go_at_call 149; (with_reducible refine (CI.out _).mono ?_); rintro e w1 ⟨rfl, rfl⟩) | fail)
    refine bodyPost_ret (v := .tuple #[.string s, .string ⟨#[]⟩, .bool false]) (by simp [results, Tryd.results133, go_sem]) rfl ?_
    refine ⟨s, _, false, rfl, ⟨(fun h => by cases h), (fun _ => ⟨rfl, rfl⟩), fun h => ?_⟩, Below.refl _ _⟩
    obtain ⟨k, hk⟩ := List.mem_iff_getElem?.1 h
    exact HN.out k hk
  · obtain ⟨i, rfl⟩ : ∃ i : Nat, v = (i : Int) := ⟨v.toNat, by omega⟩
    obtain ⟨h1, h2⟩ := Lib.indexByte_some hv
    have hi : i < s.data.toList.length := by
      rcases Nat.lt_or_ge i s.data.toList.length with h | h
      · exact h
      · rw [List.getElem?_eq_none h] at h1; cases h1
    have hsz := size_list s
    have H1 := hide h1
    have H2 := hide h2
    have hi2 : i < s.size := by omega
    have hi3 : i + 1 ≤ s.size := by omega
    have q0 : (0 : Int) ≤ (i : Int) := by omega
    have q1 : (i : Int) ≤ (s.size : Int) := by omega
    have q2 : (0 : Int) ≤ (i : Int) + 1 := by omega
    have q3 : (i : Int) + 1 ≤ (s.size : Int) := by omega
    have HE : Hid (IntKind.i64.wrap ((i : Int) + 1) = (i : Int) + 1) := IntWalk.i64_in _ (by omega)
    have HT : Hid (((i : Int) + 1).toNat = i + 1) := by unfold Hid; omega
    have HSZ := hide hsz
    clear hv hge hm h1 h2 hi hsz
    go_enter Tryd.func133, Tryd.ntmps133
    go_wp2_with (first | (go_at_call 149; (with_reducible refine (CI.out _).mono ?_); rintro e w1 ⟨rfl, rfl⟩) | fail)
    have e1 := HE.out
    have e2 := HT.out
    go_quiet (fail)
    clear e1 e2
    go_wp2
    refine bodyPost_ret (v := .tuple #[.string (s.extract 0 i), .string (s.extract (i + 1) s.size), .bool true]) (by simp [results, Tryd.results133, go_sem]) rfl ?_
    refine ⟨_, _, true, rfl, ⟨fun _ => ?_, (fun h => by cases h), fun h => ?_⟩, below_drewN (Below.refl _ _) _⟩
    · have h1 := H1.out
      have hl : i < s.data.toList.length := by rw [← HSZ.out]; exact hi2
      rw [List.getElem?_eq_getElem hl] at h1
      injection h1 with h1
      rw [extract_list, extract_list, List.drop_zero, List.take_of_length_le (Nat.le_of_eq HSZ.out.symm), ← h1, ← List.drop_eq_getElem_cons hl, List.take_append_drop]
    · rw [extract_list, List.drop_zero] at h
      obtain ⟨k, hk⟩ := List.mem_iff_getElem?.1 h
      rw [List.getElem?_take] at hk
      split at hk
      · exact H2.out k (by assumption) hk
      · cases hk
theorem dot_any (s : ByteArray) (w : World) (hs : s.size ≤ 100000) : Calls Tryd.prog 100 #[.string s, .string ⟨#[46]⟩] w (DotR w s) := by
  have CH := hide (fun W => cutld_any s W hs)
  go_enter Tryd.func100, Tryd.ntmps100
  go_wp2_with (first | (go_at_call 133; (with_reducible refine (CH.out _).mono ?_); rintro e w1 ⟨t, u, b, rfl, ht, hbk⟩) | fail)
  exact bodyPost_ret (v := .tuple #[.string t, .string u, .bool b]) (by simp [results, Tryd.results100, go_sem]) rfl ⟨t, u, b, rfl, ht, hbk⟩
end Go.Proofs.YteieelgdiccppaaDoor
end
