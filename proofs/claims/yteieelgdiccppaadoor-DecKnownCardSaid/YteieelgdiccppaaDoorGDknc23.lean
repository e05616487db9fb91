/- Several texts in one, each with its own sentence and conditions. -/
import Derived.Test.YteieelgdiccppaaDoorGDknc20
import Derived.Deep.RegionHeld3
import Derived.Test.YteieelgdiccppaaDoorDc
import Derived.Test.YteieelgdiccppaaDoorGDknc17
import Derived.Test.YteieelgdiccppaaDoorDp
section
/- Package dec: Part. Conditions: numbers of at most 99999 words. -/
open Go.RowKit
set_option maxRecDepth 100000
namespace Go.Proofs.YteieelgdiccppaaDoor
section
variable {W : World} {b b0 : Bool} {A A0 : Option Addr} {n c m s n0 c0 : Nat} {s0 : Int}
set_option maxHeartbeats 4000000 in
theorem part_h (h : DY W (.agg #[.bool b0, .slice A0 n0 c0, .int .i64 s0]) b A n c m s) (hd : dl m ≤ 99999) : Calls Tryd.prog 53 #[.agg #[.bool b0, .slice A0 n0 c0, .int .i64 s0]] W (TxR W (partL m s)) := by
  obtain ⟨p, hp⟩ : ∃ p, p = 10 ^ s := ⟨_, rfl⟩
  obtain ⟨q, hq⟩ : ∃ q, q = m / p := ⟨_, rfl⟩
  obtain ⟨r, hr⟩ : ∃ r, r = m % p := ⟨_, rfl⟩
  obtain ⟨x, hx⟩ : ∃ x, x = p + r := ⟨_, rfl⟩
  obtain ⟨hl1, hl2, hl3, hl4⟩ := part_facts m s
  have p0 : 0 < p := by rw [hp]; exact Nat.pow_pos (by decide)
  have hxd : dl x ≤ 100000 := by
    have h1 : x < 10 ^ (s + 1) := by rw [Nat.pow_succ, ← hp]; have := Nat.mod_lt m p0; omega
    have h2 : s ≤ 60 := h.1.sc
    exact Nat.le_trans (dl_le (k := 61) (Nat.lt_trans h1 (Nat.lt_of_le_of_lt (Nat.pow_le_pow_right (by decide) (show s + 1 ≤ 61 by omega)) (Nat.pow_lt_pow_left (by decide) (by decide))))) (by decide)
  have CC : Hid (∀ W', Bel W W' → Calls Tryd.prog 103 #[.agg #[.bool b0, .slice A0 n0 c0, .int .i64 s0]] W' (CnR W' b A n c s)) := h.2
  have CP : Hid (∀ W', Calls Tryd.prog 102 #[.int .i64 (s : Int)] W' (NumR W' p)) := fun W' => by rw [hp]; exact power_h h.1.sc
  have CD : Hid (∀ W' B e, Bel W W' → Nm W' B (dl p) e p → Calls Tryd.prog 15 #[.agg #[.slice A n c], .agg #[.slice B (dl p) e]] W' (DivV W' q r)) := fun W' B e hb hn => div_v (h.1.nm.up hb) hn p0 hd hq.symm hr.symm
  have CA : Hid (∀ W' B e B' e', Nm W' B (dl p) e p → Nm W' B' (dl r) e' r → Calls Tryd.prog 89 #[.agg #[.slice B (dl p) e], .agg #[.slice B' (dl r) e']] W' (NumR W' x)) := fun W' B e B' e' h1 h2 => add_h h1 h2 hx.symm hxd
  have HL : Hid (decL x = 49 :: partL m s ∧ (partL m s).length = s) := ⟨by rw [hx, hr, hp]; exact hl1, hl2⟩
  have CT : Hid (∀ W' B e, Nm W' B (dl x) e x → Calls Tryd.prog 17 #[.agg #[.slice B (dl x) e]] W' (TxR W' (decL x))) := fun W' B e h1 => text_h h1
  clear h hd hp hq hr hx hl1 hl2 hl3 hl4 p0 hxd
  have HB := Bel.refl W
  go_enter Tryd.func53, Tryd.ntmps53
  go_wp2_with (first | (go_at_call 103; (with_reducible refine (CC.out _ (HB.al _)).mono ?_); rintro e w1 ⟨rfl, hbk⟩; have HA := At.up (at_new0 _ _ _) hbk; replace HB := (HB.al _).up hbk; have ha_0 := HA.c0; have ha_1 := HA.c1; have ha_2 := HA.c2; have ha_l := HA.lt; have ha_f0 := HA.f0; have ha_f1 := HA.f1; have ha_f2 := HA.f2) | (go_at_call 102; (with_reducible refine (CP.out _).mono ?_); rintro e w2 ⟨Bp, ep, rfl, np, hbk⟩; replace HA : At w2 W.heap.size [.bool b, .slice A n c, .int .i64 (s : Int)] := At.up (HA.put3 _ _ _) hbk; replace HB := Bel.up (below3 HB (Nat.le_refl _) _ _ _) hbk; clear ha_0 ha_1 ha_2 ha_l ha_f0 ha_f1 ha_f2; have ha_0 := HA.c0; have ha_1 := HA.c1; have ha_2 := HA.c2; have ha_l := HA.lt) | (go_at_call 15; (with_reducible refine (CD.out _ _ _ (HB.al _) (np.al _)).mono ?_); rintro e w3 ⟨Aq, cq, Ar, cr, rfl, nq, nr, hbk⟩; have HO := At.up (at_new0 _ _ _) hbk; replace HB := (HB.al _).up hbk; replace HA := (HA.al _).up hbk; replace np := (np.al _).up hbk; clear ha_0 ha_1 ha_2 ha_l; have ho_0 := HO.c0; have ho_l := HO.lt) | (go_at_call 89; (with_reducible refine (CA.out _ _ _ _ _ ((np.al _).al _) ((nr.al _).al _)).mono ?_); rintro e w4 ⟨Ax, cx, rfl, nx, hbk⟩; replace HB := ((HB.al _).al _).up hbk; clear ho_0 ho_l) | (go_at_call 17; (with_reducible refine (CT.out _ _ _ nx).mono ?_); rintro e w5 ⟨t, rfl, ht, hbk⟩; replace HB := HB.up hbk; have hts : 1 ≤ t.size := (by rw [size_list, ht.out, HL.out.1]; simp)) | fail)
  go_ret
  refine ⟨_, rfl, ?_, HB⟩
  unfold Hid
  rw [extract_list, List.take_of_length_le (show t.data.toList.length ≤ t.size from Nat.le_refl _), ht.out, HL.out.1]
  rfl
end
end Go.Proofs.YteieelgdiccppaaDoor
end

section
/- Package dec: Text. Conditions: numbers of at most 99999 words. -/
open Go.RowKit
set_option maxRecDepth 100000
namespace Go.Proofs.YteieelgdiccppaaDoor
/-- A numeral's text. -/
def decD (b : Bool) (m s : Nat) : List UInt8 := (if b then [45] else []) ++ (decL (m / 10 ^ s) ++ (if s = 0 then [] else 46 :: partL m s))
section
variable {W : World} {b b0 : Bool} {A A0 : Option Addr} {n c m s n0 c0 : Nat} {s0 : Int}
set_option maxHeartbeats 4000000 in
theorem dtext_pz (h : DY W (.agg #[.bool b0, .slice A0 n0 c0, .int .i64 s0]) b A n c m s) (hd : dl m ≤ 99999) (hb : b = false) (h0 : s = 0) : Calls Tryd.prog 51 #[.agg #[.bool b0, .slice A0 n0 c0, .int .i64 s0]] W (TxR W (decD b m s)) := by
  subst hb
  obtain ⟨q, hq⟩ : ∃ q, q = m / 10 ^ s := ⟨_, rfl⟩
  have CC : Hid (∀ W', Bel W W' → Calls Tryd.prog 103 #[.agg #[.bool b0, .slice A0 n0 c0, .int .i64 s0]] W' (CnR W' false A n c s)) := h.2
  have CW : Hid (∀ W', Bel W W' → Calls Tryd.prog 99 #[.agg #[.bool false, .slice A n c, .int .i64 (s : Int)]] W' (NumR W' q)) := fun W' hb => by rw [hq]; exact whole_h ((h.1.bel hb).y) hd
  have CQ : Hid (∀ W', Bel W W' → Calls Tryd.prog 53 #[.agg #[.bool false, .slice A n c, .int .i64 (s : Int)]] W' (TxR W' (partL m s))) := fun W' hb => part_h ((h.1.bel hb).y) hd
  have CT : Hid (∀ W' B e, Nm W' B (dl q) e q → Calls Tryd.prog 17 #[.agg #[.slice B (dl q) e]] W' (TxR W' (decL q))) := fun W' B e h1 => text_h h1
  have HL : Hid ((partL m s).length ≤ 60) := by unfold Hid; rw [(part_facts m s).2.1]; exact h.1.sc
  have HQ := hide hq
  have HS := hide h0
  have hs : ((s : Int) == 0) = true := by simp [h0]
  clear h hd hq h0
  have HB := Bel.refl W
  go_enter Tryd.func51, Tryd.ntmps51
  go_wp2_with (first | (go_at_call 103; (with_reducible refine (CC.out _ (HB.al _)).mono ?_); rintro e w1 ⟨rfl, hbk⟩; have HA := At.up (at_new0 _ _ _) hbk; replace HB := (HB.al _).up hbk; have ha_0 := HA.c0; have ha_1 := HA.c1; have ha_2 := HA.c2; have ha_l := HA.lt; have ha_f0 := HA.f0; have ha_f1 := HA.f1; have ha_f2 := HA.f2) | (go_at_call 99; (with_reducible refine (CW.out _ (below3 HB (Nat.le_refl _) _ _ _)).mono ?_); rintro e w2 ⟨Bq, eq, rfl, nq, hbk⟩; replace HA : At w2 W.heap.size [.bool false, .slice A n c, .int .i64 (s : Int)] := At.up (HA.put3 _ _ _) hbk; replace HB := Bel.up (below3 HB (Nat.le_refl _) _ _ _) hbk; clear ha_0 ha_1 ha_2 ha_l ha_f0 ha_f1 ha_f2) | (go_at_call 17; (with_reducible refine (CT.out _ _ _ nq).mono ?_); rintro e w3 ⟨t, rfl, ht, hbk⟩; replace HB := HB.up hbk; replace HA := HA.up hbk; have ha_0 := HA.c0; have ha_1 := HA.c1; have ha_2 := HA.c2; have ha_l := HA.lt; have hts : t.size ≤ 1000001 := (by rw [size_list, ht.out]; exact decL_len nq)) | fail)
  all_goals first
    | (exfalso; omega)
    | (go_ret
       refine ⟨_, rfl, ?_, HB⟩
       unfold Hid decD
       rw [if_pos HS.out, ← HQ.out, ← ht.out]
       simp)
set_option maxHeartbeats 4000000 in
theorem dtext_pp (h : DY W (.agg #[.bool b0, .slice A0 n0 c0, .int .i64 s0]) b A n c m s) (hd : dl m ≤ 99999) (hb : b = false) (h0 : s ≠ 0) : Calls Tryd.prog 51 #[.agg #[.bool b0, .slice A0 n0 c0, .int .i64 s0]] W (TxR W (decD b m s)) := by
  subst hb
  obtain ⟨q, hq⟩ : ∃ q, q = m / 10 ^ s := ⟨_, rfl⟩
  have CC : Hid (∀ W', Bel W W' → Calls Tryd.prog 103 #[.agg #[.bool b0, .slice A0 n0 c0, .int .i64 s0]] W' (CnR W' false A n c s)) := h.2
  have CW : Hid (∀ W', Bel W W' → Calls Tryd.prog 99 #[.agg #[.bool false, .slice A n c, .int .i64 (s : Int)]] W' (NumR W' q)) := fun W' hb => by rw [hq]; exact whole_h ((h.1.bel hb).y) hd
  have CQ : Hid (∀ W', Bel W W' → Calls Tryd.prog 53 #[.agg #[.bool false, .slice A n c, .int .i64 (s : Int)]] W' (TxR W' (partL m s))) := fun W' hb => part_h ((h.1.bel hb).y) hd
  have CT : Hid (∀ W' B e, Nm W' B (dl q) e q → Calls Tryd.prog 17 #[.agg #[.slice B (dl q) e]] W' (TxR W' (decL q))) := fun W' B e h1 => text_h h1
  have HL : Hid ((partL m s).length ≤ 60) := by unfold Hid; rw [(part_facts m s).2.1]; exact h.1.sc
  have HQ := hide hq
  have HS := hide h0
  have hs : ((s : Int) == 0) = false := by simpa using h0
  clear h hd hq h0
  have HB := Bel.refl W
  go_enter Tryd.func51, Tryd.ntmps51
  go_wp2_with (first | (go_at_call 103; (with_reducible refine (CC.out _ (HB.al _)).mono ?_); rintro e w1 ⟨rfl, hbk⟩; have HA := At.up (at_new0 _ _ _) hbk; replace HB := (HB.al _).up hbk; have ha_0 := HA.c0; have ha_1 := HA.c1; have ha_2 := HA.c2; have ha_l := HA.lt; have ha_f0 := HA.f0; have ha_f1 := HA.f1; have ha_f2 := HA.f2) | (go_at_call 99; (with_reducible refine (CW.out _ (below3 HB (Nat.le_refl _) _ _ _)).mono ?_); rintro e w2 ⟨Bq, eq, rfl, nq, hbk⟩; replace HA : At w2 W.heap.size [.bool false, .slice A n c, .int .i64 (s : Int)] := At.up (HA.put3 _ _ _) hbk; replace HB := Bel.up (below3 HB (Nat.le_refl _) _ _ _) hbk; clear ha_0 ha_1 ha_2 ha_l ha_f0 ha_f1 ha_f2) | (go_at_call 17; (with_reducible refine (CT.out _ _ _ nq).mono ?_); rintro e w3 ⟨t, rfl, ht, hbk⟩; replace HB := HB.up hbk; replace HA := HA.up hbk; have ha_0 := HA.c0; have ha_1 := HA.c1; have ha_2 := HA.c2; have ha_l := HA.lt; have hts : t.size ≤ 1000001 := (by rw [size_list, ht.out]; exact decL_len nq)) | (go_at_call 53; (with_reducible refine (CQ.out _ HB).mono ?_); rintro e w4 ⟨u, rfl, hu, hbk⟩; replace HB := HB.up hbk; clear ha_0 ha_1 ha_2 ha_l; have hus : u.size ≤ 60 := (by rw [size_list, hu.out]; exact HL.out)) | fail)
  all_goals first
    | (exfalso; omega)
    | (go_ret
       refine ⟨_, rfl, ?_, HB⟩
       unfold Hid decD
       rw [if_neg HS.out, ← HQ.out, ← ht.out, ← hu.out]
       simp)
set_option maxHeartbeats 4000000 in
theorem dtext_nz (h : DY W (.agg #[.bool b0, .slice A0 n0 c0, .int .i64 s0]) b A n c m s) (hd : dl m ≤ 99999) (hb : b = true) (h0 : s = 0) : Calls Tryd.prog 51 #[.agg #[.bool b0, .slice A0 n0 c0, .int .i64 s0]] W (TxR W (decD b m s)) := by
  subst hb
  obtain ⟨q, hq⟩ : ∃ q, q = m / 10 ^ s := ⟨_, rfl⟩
  have CC : Hid (∀ W', Bel W W' → Calls Tryd.prog 103 #[.agg #[.bool b0, .slice A0 n0 c0, .int .i64 s0]] W' (CnR W' true A n c s)) := h.2
  have CW : Hid (∀ W', Bel W W' → Calls Tryd.prog 99 #[.agg #[.bool true, .slice A n c, .int .i64 (s : Int)]] W' (NumR W' q)) := fun W' hb => by rw [hq]; exact whole_h ((h.1.bel hb).y) hd
  have CQ : Hid (∀ W', Bel W W' → Calls Tryd.prog 53 #[.agg #[.bool true, .slice A n c, .int .i64 (s : Int)]] W' (TxR W' (partL m s))) := fun W' hb => part_h ((h.1.bel hb).y) hd
  have CT : Hid (∀ W' B e, Nm W' B (dl q) e q → Calls Tryd.prog 17 #[.agg #[.slice B (dl q) e]] W' (TxR W' (decL q))) := fun W' B e h1 => text_h h1
  have HL : Hid ((partL m s).length ≤ 60) := by unfold Hid; rw [(part_facts m s).2.1]; exact h.1.sc
  have HQ := hide hq
  have HS := hide h0
  have hs : ((s : Int) == 0) = true := by simp [h0]
  clear h hd hq h0
  have HB := Bel.refl W
  go_enter Tryd.func51, Tryd.ntmps51
  go_wp2_with (first | (go_at_call 103; (with_reducible refine (CC.out _ (HB.al _)).mono ?_); rintro e w1 ⟨rfl, hbk⟩; have HA := At.up (at_new0 _ _ _) hbk; replace HB := (HB.al _).up hbk; have ha_0 := HA.c0; have ha_1 := HA.c1; have ha_2 := HA.c2; have ha_l := HA.lt; have ha_f0 := HA.f0; have ha_f1 := HA.f1; have ha_f2 := HA.f2) | (go_at_call 99; (with_reducible refine (CW.out _ (below3 HB (Nat.le_refl _) _ _ _)).mono ?_); rintro e w2 ⟨Bq, eq, rfl, nq, hbk⟩; replace HA : At w2 W.heap.size [.bool true, .slice A n c, .int .i64 (s : Int)] := At.up (HA.put3 _ _ _) hbk; replace HB := Bel.up (below3 HB (Nat.le_refl _) _ _ _) hbk; clear ha_0 ha_1 ha_2 ha_l ha_f0 ha_f1 ha_f2) | (go_at_call 17; (with_reducible refine (CT.out _ _ _ nq).mono ?_); rintro e w3 ⟨t, rfl, ht, hbk⟩; replace HB := HB.up hbk; replace HA := HA.up hbk; have ha_0 := HA.c0; have ha_1 := HA.c1; have ha_2 := HA.c2; have ha_l := HA.lt; have hts : t.size ≤ 1000001 := (by rw [size_list, ht.out]; exact decL_len nq)) | fail)
  all_goals first
    | (exfalso; omega)
    | (go_ret
       refine ⟨_, rfl, ?_, HB⟩
       unfold Hid decD
       rw [if_pos HS.out, ← HQ.out, ← ht.out]
       simp)
set_option maxHeartbeats 4000000 in
theorem dtext_np (h : DY W (.agg #[.bool b0, .slice A0 n0 c0, .int .i64 s0]) b A n c m s) (hd : dl m ≤ 99999) (hb : b = true) (h0 : s ≠ 0) : Calls Tryd.prog 51 #[.agg #[.bool b0, .slice A0 n0 c0, .int .i64 s0]] W (TxR W (decD b m s)) := by
  subst hb
  obtain ⟨q, hq⟩ : ∃ q, q = m / 10 ^ s := ⟨_, rfl⟩
  have CC : Hid (∀ W', Bel W W' → Calls Tryd.prog 103 #[.agg #[.bool b0, .slice A0 n0 c0, .int .i64 s0]] W' (CnR W' true A n c s)) := h.2
  have CW : Hid (∀ W', Bel W W' → Calls Tryd.prog 99 #[.agg #[.bool true, .slice A n c, .int .i64 (s : Int)]] W' (NumR W' q)) := fun W' hb => by rw [hq]; exact whole_h ((h.1.bel hb).y) hd
  have CQ : Hid (∀ W', Bel W W' → Calls Tryd.prog 53 #[.agg #[.bool true, .slice A n c, .int .i64 (s : Int)]] W' (TxR W' (partL m s))) := fun W' hb => part_h ((h.1.bel hb).y) hd
  have CT : Hid (∀ W' B e, Nm W' B (dl q) e q → Calls Tryd.prog 17 #[.agg #[.slice B (dl q) e]] W' (TxR W' (decL q))) := fun W' B e h1 => text_h h1
  have HL : Hid ((partL m s).length ≤ 60) := by unfold Hid; rw [(part_facts m s).2.1]; exact h.1.sc
  have HQ := hide hq
  have HS := hide h0
  have hs : ((s : Int) == 0) = false := by simpa using h0
  clear h hd hq h0
  have HB := Bel.refl W
  go_enter Tryd.func51, Tryd.ntmps51
  go_wp2_with (first | (go_at_call 103; (with_reducible refine (CC.out _ (HB.al _)).mono ?_); rintro e w1 ⟨rfl, hbk⟩; have HA := At.up (at_new0 _ _ _) hbk; replace HB := (HB.al _).up hbk; have ha_0 := HA.c0; have ha_1 := HA.c1; have ha_2 := HA.c2; have ha_l := HA.lt; have ha_f0 := HA.f0; have ha_f1 := HA.f1; have ha_f2 := HA.f2) | (go_at_call 99; (with_reducible refine (CW.out _ (below3 HB (Nat.le_refl _) _ _ _)).mono ?_); rintro e w2 ⟨Bq, eq, rfl, nq, hbk⟩; replace HA : At w2 W.heap.size [.bool true, .slice A n c, .int .i64 (s : Int)] := At.up (HA.put3 _ _ _) hbk; replace HB := Bel.up (below3 HB (Nat.le_refl _) _ _ _) hbk; clear ha_0 ha_1 ha_2 ha_l ha_f0 ha_f1 ha_f2) | (go_at_call 17; (with_reducible refine (CT.out _ _ _ nq).mono ?_); rintro e w3 ⟨t, rfl, ht, hbk⟩; replace HB := HB.up hbk; replace HA := HA.up hbk; have ha_0 := HA.c0; have ha_1 := HA.c1; have ha_2 := HA.c2; have ha_l := HA.lt; have hts : t.size ≤ 1000001 := (by rw [size_list, ht.out]; exact decL_len nq)) | (go_at_call 53; (with_reducible refine (CQ.out _ HB).mono ?_); rintro e w4 ⟨u, rfl, hu, hbk⟩; replace HB := HB.up hbk; clear ha_0 ha_1 ha_2 ha_l; have hus : u.size ≤ 60 := (by rw [size_list, hu.out]; exact HL.out)) | fail)
  all_goals first
    | (exfalso; omega)
    | (go_ret
       refine ⟨_, rfl, ?_, HB⟩
       unfold Hid decD
       rw [if_neg HS.out, ← HQ.out, ← ht.out, ← hu.out]
       simp)
theorem dtext_h (h : DY W (.agg #[.bool b0, .slice A0 n0 c0, .int .i64 s0]) b A n c m s) (hd : dl m ≤ 99999) : Calls Tryd.prog 51 #[.agg #[.bool b0, .slice A0 n0 c0, .int .i64 s0]] W (TxR W (decD b m s)) := by
  by_cases h0 : s = 0
  · cases b
    · exact dtext_pz h hd rfl h0
    · exact dtext_nz h hd rfl h0
  · cases b
    · exact dtext_pp h hd rfl h0
    · exact dtext_np h hd rfl h0
end
end Go.Proofs.YteieelgdiccppaaDoor
end

section
/- An integer's text is read as it. Conditions: a text of less than 99990 bytes. -/
open Go.RowKit
set_option maxRecDepth 100000
namespace Go.Proofs.YteieelgdiccppaaDoor
theorem head_dec (m : Nat) : (decL m).head? ≠ some 45 := by
  intro h
  have h1 := (numL_decL m).2
  unfold digB at h1
  rw [Bool.and_eq_true] at h1
  cases hl : decL m with
  | nil => rw [hl] at h; cases h
  | cons x xs =>
    rw [hl] at h h1
    injection h with h
    subst h
    have := h1.2
    rw [List.all_cons, Bool.and_eq_true] at this
    exact absurd this.1 (by decide)
theorem zparse_back {t : ByteArray} {z : Int} (W : World) (ht : t.data.toList = decZ z) (hl : (decL z.natAbs).length ≤ 99990) : Calls Tryd.prog 26 #[.string t] W (ZPR W z) := by
  have h1 := numL_decL z.natAbs
  by_cases hn : z < 0
  · have e : t.data.toList = (if true then [45] else []) ++ decL z.natAbs := by rw [ht]; unfold decZ; rw [if_pos hn]; rfl
    exact zparse_h (by rw [size_list, e]; simp; omega) e (by intro h; cases h) h1.2 (by rw [h1.1, zi_true]; omega)
  · have e : t.data.toList = (if false then [45] else []) ++ decL z.natAbs := by rw [ht]; unfold decZ; rw [if_neg hn]; rfl
    exact zparse_h (by rw [size_list, e]; simp; omega) e (fun _ => head_dec _) h1.2 (by rw [h1.1, zi_false]; omega)
end Go.Proofs.YteieelgdiccppaaDoor
end

section
/- Package dec: texts that are read: any; a numeral's own. No conditions. -/
open Go.RowKit
set_option maxRecDepth 100000
namespace Go.Proofs.YteieelgdiccppaaDoor
theorem dot_of (k : List UInt8) : ∃ t u pt, Dot k t u pt := by
  induction k with
  | nil => exact ⟨[], [], false, ⟨(fun h => by cases h), (fun _ => ⟨rfl, rfl⟩), by simp⟩⟩
  | cons x xs ih =>
    by_cases hx : x = 46
    · exact ⟨[], xs, true, ⟨(fun _ => by rw [hx]; rfl), (fun h => by cases h), by simp⟩⟩
    · obtain ⟨t, u, pt, h1, h2, h3⟩ := ih
      refine ⟨x :: t, u, pt, ⟨fun h => by rw [h1 h]; rfl, fun h => ⟨by rw [← (h2 h).1], (h2 h).2⟩, ?_⟩⟩
      intro h
      rcases List.mem_cons.1 h with h | h
      · exact hx h.symm
      · exact h3 h
theorem form_of (l : List UInt8) : ∃ b t u pt, Form l b t u pt := by
  by_cases h : l.head? = some 45
  · obtain ⟨k, hk⟩ : ∃ k, l = 45 :: k := by
      cases l with
      | nil => cases h
      | cons x xs => injection h with h; exact ⟨xs, by rw [h]⟩
    obtain ⟨t, u, pt, hd⟩ := dot_of k
    exact ⟨true, t, u, pt, ⟨k, hk, (fun h => by cases h), hd⟩⟩
  · obtain ⟨t, u, pt, hd⟩ := dot_of l
    exact ⟨false, t, u, pt, ⟨l, rfl, fun _ => h, hd⟩⟩
section
variable {W : World} {s : ByteArray} {b pt : Bool} {t u : List UInt8} {v : Nat}
theorem dparse_ok (h : Form s.data.toList b t u pt) (hs : s.size ≤ 256) (ht : t ≠ []) (hu2 : pt = true → u ≠ []) (hu : u.length ≤ 60) (hd : digB (t ++ u) = true) (hv : numL (t ++ u) = v) : Calls Tryd.prog 49 #[.string s] W (DPR W (b && decide (v ≠ 0)) v u.length) := by
  cases pt
  · cases b
    · exact dparse_np h hs rfl rfl ht hu hd hv
    · by_cases h0 : v = 0
      · rw [decide_eq_false (by simpa using h0)]; exact dparse_nmz h hs rfl rfl ht hu hd hv h0
      · rw [decide_eq_true h0]; exact dparse_nmo h hs rfl rfl ht hu hd hv h0
  · cases b
    · exact dparse_yp h hs rfl rfl ht (hu2 rfl) hu hd hv
    · by_cases h0 : v = 0
      · rw [decide_eq_false (by simpa using h0)]; exact dparse_ymz h hs rfl rfl ht (hu2 rfl) hu hd hv h0
      · rw [decide_eq_true h0]; exact dparse_ymo h hs rfl rfl ht (hu2 rfl) hu hd hv h0
theorem dparse_bad (h : Form s.data.toList b t u pt) (hs : s.size ≤ 256) (hn : ¬ (t ≠ [] ∧ (pt = true → u ≠ []) ∧ u.length ≤ 60 ∧ digB (t ++ u) = true)) : Calls Tryd.prog 49 #[.string s] W (DPE W 2) := by
  by_cases ht : t = []
  · exact dparse_f1 h hs ht
  · cases pt
    · by_cases hu : u.length ≤ 60
      · exact dparse_f4a h hs ht rfl hu (fun hd => hn ⟨ht, (fun h => by cases h), hu, hd⟩)
      · exact dparse_f3a h hs ht rfl (by omega)
    · by_cases hu2 : u = []
      · exact dparse_f2 h hs ht rfl hu2
      · by_cases hu : u.length ≤ 60
        · exact dparse_f4b h hs ht rfl hu2 hu (fun hd => hn ⟨ht, (fun _ => hu2), hu, hd⟩)
        · exact dparse_f3b h hs ht rfl (by omega)
/-- What a text is read as: nothing, or a numeral. -/
theorem dparse_any (s : ByteArray) (hs : s.size ≤ 256) : (∀ W, Calls Tryd.prog 49 #[.string s] W (DPE W 2)) ∨ ∃ nb v sc, (nb = true → 0 < v) ∧ sc ≤ 60 ∧ dl v ≤ 256 ∧ ∀ W, Calls Tryd.prog 49 #[.string s] W (DPR W nb v sc) := by
  obtain ⟨b, t, u, pt, h⟩ := form_of s.data.toList
  by_cases hn : t ≠ [] ∧ (pt = true → u ≠ []) ∧ u.length ≤ 60 ∧ digB (t ++ u) = true
  · refine Or.inr ⟨_, _, _, ?_, hn.2.2.1, ?_, fun W => dparse_ok h hs hn.1 hn.2.1 hn.2.2.1 hn.2.2.2 rfl⟩
    · intro hb
      rw [Bool.and_eq_true] at hb
      have := of_decide_eq_true hb.2
      omega
    · have h1 := hn.2.2.2
      unfold digB at h1
      rw [Bool.and_eq_true] at h1
      have h2 := numL_lt _ h1.2
      have h3 := form_len h
      refine dl_le (Nat.lt_of_lt_of_le h2 (Nat.le_trans (Nat.pow_le_pow_left (show 10 ≤ W32 by decide) _) (Nat.pow_le_pow_right (by decide) ?_)))
      rw [List.length_append]; omega
  · exact Or.inl fun W => dparse_bad h hs hn
theorem no_point {l : List UInt8} (h : l.all isDig = true) : ¬ (46 : UInt8) ∈ l := fun hm => by
  have := List.all_eq_true.1 h 46 hm
  exact absurd this (by decide)
theorem back_form {m k : Nat} : Form (decD b m k) b (decL (m / 10 ^ k)) (if k = 0 then [] else partL m k) (decide (k ≠ 0)) := by
  refine ⟨_, rfl, fun _ => ?_, ?_⟩
  · obtain ⟨x, xs, hx⟩ : ∃ x xs, decL (m / 10 ^ k) = x :: xs := by
      cases h : decL (m / 10 ^ k) with
      | nil => exact absurd h (decL_ne _)
      | cons x xs => exact ⟨x, xs, rfl⟩
    have h1 := head_dec (m / 10 ^ k)
    rw [hx] at h1 ⊢
    exact h1
  · by_cases hk : k = 0
    · rw [if_pos hk, if_pos hk, List.append_nil]
      refine ⟨fun h => ?_, fun _ => ⟨rfl, rfl⟩, no_point (decL_all _)⟩
      rw [decide_eq_false (by simpa using hk)] at h; cases h
    · rw [if_neg hk, if_neg hk]
      refine ⟨fun _ => rfl, fun h => ?_, no_point (decL_all _)⟩
      rw [decide_eq_true hk] at h; cases h
/-- A numeral's text is read as it. -/
theorem dparse_back {m k : Nat} (ht : s.data.toList = decD b m k) (hk : k ≤ 60) (hb : b = true → 0 < m) (hs : s.size ≤ 256) : Calls Tryd.prog 49 #[.string s] W (DPR W b m k) := by
  have hf : Form s.data.toList b (decL (m / 10 ^ k)) (if k = 0 then [] else partL m k) (decide (k ≠ 0)) := by rw [ht]; exact back_form
  have e1 : (b && decide (m ≠ 0)) = b := by
    cases b
    · rfl
    · rw [decide_eq_true (by have := hb rfl; omega)]; rfl
  by_cases h0 : k = 0
  · have h1 := dparse_ok (W := W) (v := m) hf hs (decL_ne _) (fun h => by rw [decide_eq_false (by simpa using h0)] at h; cases h) (by rw [if_pos h0]; simp) (by rw [if_pos h0, List.append_nil]; exact (numL_decL _).2) (by rw [if_pos h0, List.append_nil, (numL_decL _).1, h0]; simp)
    rw [e1, if_pos h0] at h1
    rw [h0]
    exact h1
  · have hl := (part_facts m k).2.1
    have h1 := dparse_ok (W := W) (v := m) hf hs (decL_ne _) (fun _ => by rw [if_neg h0]; intro h; rw [h] at hl; exact h0 hl.symm) (by rw [if_neg h0, hl]; exact hk) (by rw [if_neg h0]; exact back_dig m k) (by rw [if_neg h0]; exact back_num m k)
    rw [e1, if_neg h0, hl] at h1
    exact h1
end
theorem decL_lit {m : Nat} {ds : List Nat} {l : List UInt8} (h : ∀ x ∈ ds, x < 10) (hl : ∀ x, ds.getLast? = some x → x ≠ 0) (hm : m = val 10 ds) (h0 : m ≠ 0) (hr : ds.reverse.map (fun d => UInt8.ofNat (48 + d)) = l) : decL m = l := by
  unfold decL
  rw [if_neg h0, hm, digs_val (by decide) ds h hl, hr]
end Go.Proofs.YteieelgdiccppaaDoor
end

section
/- strings.TrimRight at noughts; package dec: Short. Conditions: numbers of at most 99999 words. -/
open Go.RowKit
set_option maxRecDepth 100000
namespace Go.Proofs.YteieelgdiccppaaDoor
theorem strip_yes {l : List UInt8} : strip (l ++ [48]) = strip l := by
  unfold strip
  rw [List.reverse_append, List.reverse_singleton, List.singleton_append, List.dropWhile_cons, if_pos (by rfl)]
theorem strip_no {l : List UInt8} {d : UInt8} (h : d ≠ 48) : strip (l ++ [d]) = l ++ [d] := by
  unfold strip
  rw [List.reverse_append, List.reverse_singleton, List.singleton_append, List.dropWhile_cons, if_neg (by simpa using h), List.reverse_cons, List.reverse_reverse]
def StripPost (l : List UInt8) (w : World) (e : Ending) (w' : World) : Prop := ∃ t : ByteArray, e = .returned (.string t) ∧ Hid (t.data.toList = strip l) ∧ w = w'
theorem cut_last {t : ByteArray} {k : Nat} (hk : t.size = k + 1) (h : k < t.size) : t.data.toList = (t.extract 0 k).data.toList ++ [t[k]] := by
  rw [extract_list, List.drop_zero, ← take_snoc h, ← hk, List.take_of_length_le (show t.data.toList.length ≤ t.size from Nat.le_refl _)]
set_option maxHeartbeats 1000000 in
theorem trimR_any (s : ByteArray) (w : World) (hs : s.size ≤ 100000) :
    Calls Tryd.prog 134 #[.string s, .int .u8 48] w (StripPost s.data.toList w) := by
  go_enter Tryd.func134, Tryd.ntmps134
  go_wp2
  go_loop [0] (fun sv => ∃ t : ByteArray, sv = .string t ∧ Hid (strip s.data.toList = strip t.data.toList) ∧ t.size ≤ s.size) (fun sv => match sv with | .string t => t.size | _ => 0)
  case atStart => exact ⟨s, rfl, rfl, Nat.le_refl _⟩
  case round =>
    obtain ⟨t, rfl, ht, hts⟩ := hrel
    by_cases h0 : t.size = 0
    · have HZ := hide h0
      have h1 : ¬ 0 < t.size := by omega
      clear h0
      go_wp2
      go_ret
      exact ⟨t, rfl, by unfold Hid; rw [ht.out, List.eq_nil_of_length_eq_zero (show t.data.toList.length = 0 from HZ.out)]; rfl, rfl⟩
    · obtain ⟨k, hk⟩ : ∃ k, t.size = k + 1 := ⟨t.size - 1, by omega⟩
      have h1 : 0 < t.size := by omega
      have h2 : k < t.size := by omega
      have hw : IntKind.i64.wrap ((t.size : Int) - 1) = (k : Int) := by rw [IntWalk.i64_in _ (by omega)]; omega
      have q0 : (0 : Int) ≤ (k : Int) := by omega
      have q1 : (k : Int) < (t.size : Int) := by omega
      have q2 : (k : Int) ≤ (t.size : Int) := by omega
      have HK := hide hk
      have HT := hide (cut_last hk h2)
      by_cases hx : t[k] = 48
      · have HX := hide hx
        have hxt : ((t[k].toNat : Int) == 48) = true := by rw [hx]; rfl
        clear hx hk h0
        go_wp2
        go_round
        case rel => exact ⟨_, rfl, by unfold Hid; rw [ht.out, HT.out, HX.out, strip_yes], by simp; omega⟩
        case measure => simp; omega
      · have HX := hide hx
        have hxt : ((t[k].toNat : Int) == 48) = false := by
          rw [beq_eq_false_iff_ne]
          intro e
          exact hx (UInt8.toNat_inj.1 (by simpa using (show t[k].toNat = 48 by omega)))
        clear hx hk h0
        go_wp2
        go_ret
        exact ⟨t, rfl, by unfold Hid; rw [ht.out, HT.out, strip_no HX.out], rfl⟩
theorem TrimRight_any (s : ByteArray) (w : World) (hs : s.size ≤ 100000) :
    Calls Tryd.prog 104 #[.string s, .string ⟨#[48]⟩] w (StripPost s.data.toList w) := by
  have CT := hide (fun W => trimR_any s W hs)
  by_cases h0 : s.size = 0
  · have hl : s.toList = [] := by rw [Lib.toList_data]; exact List.eq_nil_of_length_eq_zero h0
    have HL : Hid (s.data.toList = []) := List.eq_nil_of_length_eq_zero h0
    clear h0 hs
    go_enter Tryd.func104, Tryd.ntmps104
    go_wp2
    go_ret
    exact ⟨s, rfl, by unfold Hid; rw [HL.out]; rfl, rfl⟩
  · have hl : s.toList.isEmpty = false := by
      rw [Lib.toList_data]
      cases h : s.data.toList with
      | nil => exact absurd (show s.size = 0 by rw [size_list, h]; rfl) h0
      | cons a l => rfl
    clear h0 hs
    go_enter Tryd.func104, Tryd.ntmps104
    go_wp2_with (first | (go_at_call 134; (refine (CT.out _).mono ?_); rintro e w' ⟨t, rfl, ht, rfl⟩) | fail)
    go_ret
    exact ⟨t, rfl, ht, rfl⟩
end Go.Proofs.YteieelgdiccppaaDoor
end
