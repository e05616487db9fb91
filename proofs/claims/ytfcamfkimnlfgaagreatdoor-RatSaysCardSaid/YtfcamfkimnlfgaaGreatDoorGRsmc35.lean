/- Several texts in one, each with its own sentence and conditions. -/
import Derived.Test.YtfcamfkimnlfgaaGreatDoorGRsmc30
import Derived.Deep.RegionHeld3
import Derived.Test.YtfcamfkimnlfgaaGreatDoorDc
import Derived.Test.YtfcamfkimnlfgaaGreatDoorGRsmc16
import Derived.Test.YtfcamfkimnlfgaaGreatDoorUe
section
/- Package dec: Part. Conditions: numbers of at most 99999 words. -/
open Go.RowKit
set_option maxRecDepth 100000
namespace Go.Proofs.YtfcamfkimnlfgaaGreatDoor
section
variable {W : World} {b b0 : Bool} {A A0 : Option Addr} {n c m s n0 c0 : Nat} {s0 : Int}
set_option maxHeartbeats 4000000 in
theorem part_h (h : DY W (.agg #[.bool b0, .slice A0 n0 c0, .int .i64 s0]) b A n c m s) (hd : dl m ≤ 99999) : Calls Tryz.prog 50 #[.agg #[.bool b0, .slice A0 n0 c0, .int .i64 s0]] W (TxR W (partL m s)) := by
  obtain ⟨p, hp⟩ : ∃ p, p = 10 ^ s := ⟨_, rfl⟩
  obtain ⟨q, hq⟩ : ∃ q, q = m / p := ⟨_, rfl⟩
  obtain ⟨r, hr⟩ : ∃ r, r = m % p := ⟨_, rfl⟩
  obtain ⟨x, hx⟩ : ∃ x, x = p + r := ⟨_, rfl⟩
  obtain ⟨hl1, hl2, hl3, hl4⟩ := part_facts m s
  have p0 : 0 < p := by rw [hp]; exact Nat.pow_pos (by decide)
  have hxd : dl x ≤ 100000 := by
    have h1 : x < 10 ^ (s + 1) := by rw [Nat.pow_succ, ← hp]; have := Nat.mod_lt m p0; omega
    have h2 : s ≤ 60 := h.1.sc
    exact Nat.le_trans (dl_le (k := 61) (Nat.lt_trans h1 (Nat.lt_of_le_of_lt (Nat.pow_le_pow_right (by decide) (show s + 1 ≤ 61 by omega)) (Nat.pow_lt_pow_left (by decide) (by decide))))) (by decide)
  have CC : Hid (∀ W', Bel W W' → Calls Tryz.prog 111 #[.agg #[.bool b0, .slice A0 n0 c0, .int .i64 s0]] W' (CnR W' b A n c s)) := h.2
  have CP : Hid (∀ W', Calls Tryz.prog 109 #[.int .i64 (s : Int)] W' (NumR W' p)) := fun W' => by rw [hp]; exact power_h h.1.sc
  have CD : Hid (∀ W' B e, Bel W W' → Nm W' B (dl p) e p → Calls Tryz.prog 108 #[.agg #[.slice A n c], .agg #[.slice B (dl p) e]] W' (DivV W' q r)) := fun W' B e hb hn => div_v (h.1.nm.up hb) hn p0 hd hq.symm hr.symm
  have CA : Hid (∀ W' B e B' e', Nm W' B (dl p) e p → Nm W' B' (dl r) e' r → Calls Tryz.prog 117 #[.agg #[.slice B (dl p) e], .agg #[.slice B' (dl r) e']] W' (NumR W' x)) := fun W' B e B' e' h1 h2 => add_h h1 h2 hx.symm hxd
  have HL : Hid (decL x = 49 :: partL m s ∧ (partL m s).length = s) := ⟨by rw [hx, hr, hp]; exact hl1, hl2⟩
  have CT : Hid (∀ W' B e, Nm W' B (dl x) e x → Calls Tryz.prog 103 #[.agg #[.slice B (dl x) e]] W' (TxR W' (decL x))) := fun W' B e h1 => text_h h1
  clear h hd hp hq hr hx hl1 hl2 hl3 hl4 p0 hxd
  have HB := Bel.refl W
  go_enter Tryz.func50, Tryz.ntmps50
  go_wp2_with (first | (go_at_call 111; (with_reducible refine (CC.out _ (HB.al _)).mono ?_); rintro e w1 ⟨rfl, hbk⟩; have HA := At.up (at_new0 _ _ _) hbk; replace HB := (HB.al _).up hbk; have ha_0 := HA.c0; have ha_1 := HA.c1; have ha_2 := HA.c2; have ha_l := HA.lt; have ha_f0 := HA.f0; have ha_f1 := HA.f1; have ha_f2 := HA.f2) | (go_at_call 109; (with_reducible refine (CP.out _).mono ?_); rintro e w2 ⟨Bp, ep, rfl, np, hbk⟩; replace HA : At w2 W.heap.size [.bool b, .slice A n c, .int .i64 (s : Int)] := At.up (HA.put3 _ _ _) hbk; replace HB := Bel.up (below3 HB (Nat.le_refl _) _ _ _) hbk; clear ha_0 ha_1 ha_2 ha_l ha_f0 ha_f1 ha_f2; have ha_0 := HA.c0; have ha_1 := HA.c1; have ha_2 := HA.c2; have ha_l := HA.lt) | (go_at_call 108; (with_reducible refine (CD.out _ _ _ (HB.al _) (np.al _)).mono ?_); rintro e w3 ⟨Aq, cq, Ar, cr, rfl, nq, nr, hbk⟩; have HO := At.up (at_new0 _ _ _) hbk; replace HB := (HB.al _).up hbk; replace HA := (HA.al _).up hbk; replace np := (np.al _).up hbk; clear ha_0 ha_1 ha_2 ha_l; have ho_0 := HO.c0; have ho_l := HO.lt) | (go_at_call 117; (with_reducible refine (CA.out _ _ _ _ _ ((np.al _).al _) ((nr.al _).al _)).mono ?_); rintro e w4 ⟨Ax, cx, rfl, nx, hbk⟩; replace HB := ((HB.al _).al _).up hbk; clear ho_0 ho_l) | (go_at_call 103; (with_reducible refine (CT.out _ _ _ nx).mono ?_); rintro e w5 ⟨t, rfl, ht, hbk⟩; replace HB := HB.up hbk; have hts : 1 ≤ t.size := (by rw [size_list, ht.out, HL.out.1]; simp)) | fail)
  go_ret
  refine ⟨_, rfl, ?_, HB⟩
  unfold Hid
  rw [extract_list, List.take_of_length_le (show t.data.toList.length ≤ t.size from Nat.le_refl _), ht.out, HL.out.1]
  rfl
end
end Go.Proofs.YtfcamfkimnlfgaaGreatDoor
end

section
/- Package dec: Text. Conditions: numbers of at most 99999 words. -/
open Go.RowKit
set_option maxRecDepth 100000
namespace Go.Proofs.YtfcamfkimnlfgaaGreatDoor
/-- A numeral's text. -/
def decD (b : Bool) (m s : Nat) : List UInt8 := (if b then [45] else []) ++ (decL (m / 10 ^ s) ++ (if s = 0 then [] else 46 :: partL m s))
section
variable {W : World} {b b0 : Bool} {A A0 : Option Addr} {n c m s n0 c0 : Nat} {s0 : Int}
set_option maxHeartbeats 4000000 in
theorem dtext_pz (h : DY W (.agg #[.bool b0, .slice A0 n0 c0, .int .i64 s0]) b A n c m s) (hd : dl m ≤ 99999) (hb : b = false) (h0 : s = 0) : Calls Tryz.prog 42 #[.agg #[.bool b0, .slice A0 n0 c0, .int .i64 s0]] W (TxR W (decD b m s)) := by
  subst hb
  obtain ⟨q, hq⟩ : ∃ q, q = m / 10 ^ s := ⟨_, rfl⟩
  have CC : Hid (∀ W', Bel W W' → Calls Tryz.prog 111 #[.agg #[.bool b0, .slice A0 n0 c0, .int .i64 s0]] W' (CnR W' false A n c s)) := h.2
  have CW : Hid (∀ W', Bel W W' → Calls Tryz.prog 48 #[.agg #[.bool false, .slice A n c, .int .i64 (s : Int)]] W' (NumR W' q)) := fun W' hb => by rw [hq]; exact whole_h ((h.1.bel hb).y) hd
  have CQ : Hid (∀ W', Bel W W' → Calls Tryz.prog 50 #[.agg #[.bool false, .slice A n c, .int .i64 (s : Int)]] W' (TxR W' (partL m s))) := fun W' hb => part_h ((h.1.bel hb).y) hd
  have CT : Hid (∀ W' B e, Nm W' B (dl q) e q → Calls Tryz.prog 103 #[.agg #[.slice B (dl q) e]] W' (TxR W' (decL q))) := fun W' B e h1 => text_h h1
  have HL : Hid ((partL m s).length ≤ 60) := by unfold Hid; rw [(part_facts m s).2.1]; exact h.1.sc
  have HQ := hide hq
  have HS := hide h0
  have hs : ((s : Int) == 0) = true := by simp [h0]
  clear h hd hq h0
  have HB := Bel.refl W
  go_enter Tryz.func42, Tryz.ntmps42
  go_wp2_with (first | (go_at_call 111; (with_reducible refine (CC.out _ (HB.al _)).mono ?_); rintro e w1 ⟨rfl, hbk⟩; have HA := At.up (at_new0 _ _ _) hbk; replace HB := (HB.al _).up hbk; have ha_0 := HA.c0; have ha_1 := HA.c1; have ha_2 := HA.c2; have ha_l := HA.lt; have ha_f0 := HA.f0; have ha_f1 := HA.f1; have ha_f2 := HA.f2) | (go_at_call 48; (with_reducible refine (CW.out _ (below3 HB (Nat.le_refl _) _ _ _)).mono ?_); rintro e w2 ⟨Bq, eq, rfl, nq, hbk⟩; replace HA : At w2 W.heap.size [.bool false, .slice A n c, .int .i64 (s : Int)] := At.up (HA.put3 _ _ _) hbk; replace HB := Bel.up (below3 HB (Nat.le_refl _) _ _ _) hbk; clear ha_0 ha_1 ha_2 ha_l ha_f0 ha_f1 ha_f2) | (go_at_call 103; (with_reducible refine (CT.out _ _ _ nq).mono ?_); rintro e w3 ⟨t, rfl, ht, hbk⟩; replace HB := HB.up hbk; replace HA := HA.up hbk; have ha_0 := HA.c0; have ha_1 := HA.c1; have ha_2 := HA.c2; have ha_l := HA.lt; have hts : t.size ≤ 1000001 := (by rw [size_list, ht.out]; exact decL_len nq)) | fail)
  all_goals first
    | (exfalso; omega)
    | (go_ret
       refine ⟨_, rfl, ?_, HB⟩
       unfold Hid decD
       rw [if_pos HS.out, ← HQ.out, ← ht.out]
       simp)
set_option maxHeartbeats 4000000 in
theorem dtext_pp (h : DY W (.agg #[.bool b0, .slice A0 n0 c0, .int .i64 s0]) b A n c m s) (hd : dl m ≤ 99999) (hb : b = false) (h0 : s ≠ 0) : Calls Tryz.prog 42 #[.agg #[.bool b0, .slice A0 n0 c0, .int .i64 s0]] W (TxR W (decD b m s)) := by
  subst hb
  obtain ⟨q, hq⟩ : ∃ q, q = m / 10 ^ s := ⟨_, rfl⟩
  have CC : Hid (∀ W', Bel W W' → Calls Tryz.prog 111 #[.agg #[.bool b0, .slice A0 n0 c0, .int .i64 s0]] W' (CnR W' false A n c s)) := h.2
  have CW : Hid (∀ W', Bel W W' → Calls Tryz.prog 48 #[.agg #[.bool false, .slice A n c, .int .i64 (s : Int)]] W' (NumR W' q)) := fun W' hb => by rw [hq]; exact whole_h ((h.1.bel hb).y) hd
  have CQ : Hid (∀ W', Bel W W' → Calls Tryz.prog 50 #[.agg #[.bool false, .slice A n c, .int .i64 (s : Int)]] W' (TxR W' (partL m s))) := fun W' hb => part_h ((h.1.bel hb).y) hd
  have CT : Hid (∀ W' B e, Nm W' B (dl q) e q → Calls Tryz.prog 103 #[.agg #[.slice B (dl q) e]] W' (TxR W' (decL q))) := fun W' B e h1 => text_h h1
  have HL : Hid ((partL m s).length ≤ 60) := by unfold Hid; rw [(part_facts m s).2.1]; exact h.1.sc
  have HQ := hide hq
  have HS := hide h0
  have hs : ((s : Int) == 0) = false := by simpa using h0
  clear h hd hq h0
  have HB := Bel.refl W
  go_enter Tryz.func42, Tryz.ntmps42
  go_wp2_with (first | (go_at_call 111; (with_reducible refine (CC.out _ (HB.al _)).mono ?_); rintro e w1 ⟨rfl, hbk⟩; have HA := At.up (at_new0 _ _ _) hbk; replace HB := (HB.al _).up hbk; have ha_0 := HA.c0; have ha_1 := HA.c1; have ha_2 := HA.c2; have ha_l := HA.lt; have ha_f0 := HA.f0; have ha_f1 := HA.f1; have ha_f2 := HA.f2) | (go_at_call 48; (with_reducible refine (CW.out _ (below3 HB (Nat.le_refl _) _ _ _)).mono ?_); rintro e w2 ⟨Bq, eq, rfl, nq, hbk⟩; replace HA : At w2 W.heap.size [.bool false, .slice A n c, .int .i64 (s : Int)] := At.up (HA.put3 _ _ _) hbk; replace HB := Bel.up (below3 HB (Nat.le_refl _) _ _ _) hbk; clear ha_0 ha_1 ha_2 ha_l ha_f0 ha_f1 ha_f2) | (go_at_call 103; (with_reducible refine (CT.out _ _ _ nq).mono ?_); rintro e w3 ⟨t, rfl, ht, hbk⟩; replace HB := HB.up hbk; replace HA := HA.up hbk; have ha_0 := HA.c0; have ha_1 := HA.c1; have ha_2 := HA.c2; have ha_l := HA.lt; have hts : t.size ≤ 1000001 := (by rw [size_list, ht.out]; exact decL_len nq)) | (go_at_call 50; (with_reducible refine (CQ.out _ HB).mono ?_); rintro e w4 ⟨u, rfl, hu, hbk⟩; replace HB := HB.up hbk; clear ha_0 ha_1 ha_2 ha_l; have hus : u.size ≤ 60 := (by rw [size_list, hu.out]; exact HL.out)) | fail)
  all_goals first
    | (exfalso; omega)
    | (go_ret
       refine ⟨_, rfl, ?_, HB⟩
       unfold Hid decD
       rw [if_neg HS.out, ← HQ.out, ← ht.out, ← hu.out]
       simp)
set_option maxHeartbeats 4000000 in
theorem dtext_nz (h : DY W (.agg #[.bool b0, .slice A0 n0 c0, .int .i64 s0]) b A n c m s) (hd : dl m ≤ 99999) (hb : b = true) (h0 : s = 0) : Calls Tryz.prog 42 #[.agg #[.bool b0, .slice A0 n0 c0, .int .i64 s0]] W (TxR W (decD b m s)) := by
  subst hb
  obtain ⟨q, hq⟩ : ∃ q, q = m / 10 ^ s := ⟨_, rfl⟩
  have CC : Hid (∀ W', Bel W W' → Calls Tryz.prog 111 #[.agg #[.bool b0, .slice A0 n0 c0, .int .i64 s0]] W' (CnR W' true A n c s)) := h.2
  have CW : Hid (∀ W', Bel W W' → Calls Tryz.prog 48 #[.agg #[.bool true, .slice A n c, .int .i64 (s : Int)]] W' (NumR W' q)) := fun W' hb => by rw [hq]; exact whole_h ((h.1.bel hb).y) hd
  have CQ : Hid (∀ W', Bel W W' → Calls Tryz.prog 50 #[.agg #[.bool true, .slice A n c, .int .i64 (s : Int)]] W' (TxR W' (partL m s))) := fun W' hb => part_h ((h.1.bel hb).y) hd
  have CT : Hid (∀ W' B e, Nm W' B (dl q) e q → Calls Tryz.prog 103 #[.agg #[.slice B (dl q) e]] W' (TxR W' (decL q))) := fun W' B e h1 => text_h h1
  have HL : Hid ((partL m s).length ≤ 60) := by unfold Hid; rw [(part_facts m s).2.1]; exact h.1.sc
  have HQ := hide hq
  have HS := hide h0
  have hs : ((s : Int) == 0) = true := by simp [h0]
  clear h hd hq h0
  have HB := Bel.refl W
  go_enter Tryz.func42, Tryz.ntmps42
  go_wp2_with (first | (go_at_call 111; (with_reducible refine (CC.out _ (HB.al _)).mono ?_); rintro e w1 ⟨rfl, hbk⟩; have HA := At.up (at_new0 _ _ _) hbk; replace HB := (HB.al _).up hbk; have ha_0 := HA.c0; have ha_1 := HA.c1; have ha_2 := HA.c2; have ha_l := HA.lt; have ha_f0 := HA.f0; have ha_f1 := HA.f1; have ha_f2 := HA.f2) | (go_at_call 48; (with_reducible refine (CW.out _ (below3 HB (Nat.le_refl _) _ _ _)).mono ?_); rintro e w2 ⟨Bq, eq, rfl, nq, hbk⟩; replace HA : At w2 W.heap.size [.bool true, .slice A n c, .int .i64 (s : Int)] := At.up (HA.put3 _ _ _) hbk; replace HB := Bel.up (below3 HB (Nat.le_refl _) _ _ _) hbk; clear ha_0 ha_1 ha_2 ha_l ha_f0 ha_f1 ha_f2) | (go_at_call 103; (with_reducible refine (CT.out _ _ _ nq).mono ?_); rintro e w3 ⟨t, rfl, ht, hbk⟩; replace HB := HB.up hbk; replace HA := HA.up hbk; have ha_0 := HA.c0; have ha_1 := HA.c1; have ha_2 := HA.c2; have ha_l := HA.lt; have hts : t.size ≤ 1000001 := (by rw [size_list, ht.out]; exact decL_len nq)) | fail)
  all_goals first
    | (exfalso; omega)
    | (go_ret
       refine ⟨_, rfl, ?_, HB⟩
       unfold Hid decD
       rw [if_pos HS.out, ← HQ.out, ← ht.out]
       simp)
set_option maxHeartbeats 4000000 in
theorem dtext_np (h : DY W (.agg #[.bool b0, .slice A0 n0 c0, .int .i64 s0]) b A n c m s) (hd : dl m ≤ 99999) (hb : b = true) (h0 : s ≠ 0) : Calls Tryz.prog 42 #[.agg #[.bool b0, .slice A0 n0 c0, .int .i64 s0]] W (TxR W (decD b m s)) := by
  subst hb
  obtain ⟨q, hq⟩ : ∃ q, q = m / 10 ^ s := ⟨_, rfl⟩
  have CC : Hid (∀ W', Bel W W' → Calls Tryz.prog 111 #[.agg #[.bool b0, .slice A0 n0 c0, .int .i64 s0]] W' (CnR W' true A n c s)) := h.2
  have CW : Hid (∀ W', Bel W W' → Calls Tryz.prog 48 #[.agg #[.bool true, .slice A n c, .int .i64 (s : Int)]] W' (NumR W' q)) := fun W' hb => by rw [hq]; exact whole_h ((h.1.bel hb).y) hd
  have CQ : Hid (∀ W', Bel W W' → Calls Tryz.prog 50 #[.agg #[.bool true, .slice A n c, .int .i64 (s : Int)]] W' (TxR W' (partL m s))) := fun W' hb => part_h ((h.1.bel hb).y) hd
  have CT : Hid (∀ W' B e, Nm W' B (dl q) e q → Calls Tryz.prog 103 #[.agg #[.slice B (dl q) e]] W' (TxR W' (decL q))) := fun W' B e h1 => text_h h1
  have HL : Hid ((partL m s).length ≤ 60) := by unfold Hid; rw [(part_facts m s).2.1]; exact h.1.sc
  have HQ := hide hq
  have HS := hide h0
  have hs : ((s : Int) == 0) = false := by simpa using h0
  clear h hd hq h0
  have HB := Bel.refl W
  go_enter Tryz.func42, Tryz.ntmps42
  go_wp2_with (first | (go_at_call 111; (with_reducible refine (CC.out _ (HB.al _)).mono ?_); rintro e w1 ⟨rfl, hbk⟩; have HA := At.up (at_new0 _ _ _) hbk; replace HB := (HB.al _).up hbk; have ha_0 := HA.c0; have ha_1 := HA.c1; have ha_2 := HA.c2; have ha_l := HA.lt; have ha_f0 := HA.f0; have ha_f1 := HA.f1; have ha_f2 := HA.f2) | (go_at_call 48; (with_reducible refine (CW.out _ (below3 HB (Nat.le_refl _) _ _ _)).mono ?_); rintro e w2 ⟨Bq, eq, rfl, nq, hbk⟩; replace HA : At w2 W.heap.size [.bool true, .slice A n c, .int .i64 (s : Int)] := At.up (HA.put3 _ _ _) hbk; replace HB := Bel.up (below3 HB (Nat.le_refl _) _ _ _) hbk; clear ha_0 ha_1 ha_2 ha_l ha_f0 ha_f1 ha_f2) | (go_at_call 103; (with_reducible refine (CT.out _ _ _ nq).mono ?_); rintro e w3 ⟨t, rfl, ht, hbk⟩; replace HB := HB.up hbk; replace HA := HA.up hbk; have ha_0 := HA.c0; have ha_1 := HA.c1; have ha_2 := HA.c2; have ha_l := HA.lt; have hts : t.size ≤ 1000001 := (by rw [size_list, ht.out]; exact decL_len nq)) | (go_at_call 50; (with_reducible refine (CQ.out _ HB).mono ?_); rintro e w4 ⟨u, rfl, hu, hbk⟩; replace HB := HB.up hbk; clear ha_0 ha_1 ha_2 ha_l; have hus : u.size ≤ 60 := (by rw [size_list, hu.out]; exact HL.out)) | fail)
  all_goals first
    | (exfalso; omega)
    | (go_ret
       refine ⟨_, rfl, ?_, HB⟩
       unfold Hid decD
       rw [if_neg HS.out, ← HQ.out, ← ht.out, ← hu.out]
       simp)
theorem dtext_h (h : DY W (.agg #[.bool b0, .slice A0 n0 c0, .int .i64 s0]) b A n c m s) (hd : dl m ≤ 99999) : Calls Tryz.prog 42 #[.agg #[.bool b0, .slice A0 n0 c0, .int .i64 s0]] W (TxR W (decD b m s)) := by
  by_cases h0 : s = 0
  · cases b
    · exact dtext_pz h hd rfl h0
    · exact dtext_nz h hd rfl h0
  · cases b
    · exact dtext_pp h hd rfl h0
    · exact dtext_np h hd rfl h0
end
end Go.Proofs.YtfcamfkimnlfgaaGreatDoor
end

section
/- Parted from Dw: by function. -/
open Go.RowKit
set_option maxRecDepth 100000
namespace Go.Proofs.YtfcamfkimnlfgaaGreatDoor
section
variable {W : World} {s : ByteArray} {b pt : Bool} {t u : List UInt8} {v : Nat}
theorem decL_lit {m : Nat} {ds : List Nat} {l : List UInt8} (h : ∀ x ∈ ds, x < 10) (hl : ∀ x, ds.getLast? = some x → x ≠ 0) (hm : m = val 10 ds) (h0 : m ≠ 0) (hr : ds.reverse.map (fun d => UInt8.ofNat (48 + d)) = l) : decL m = l := by
  unfold decL
  rw [if_neg h0, hm, digs_val (by decide) ds h hl, hr]
end
end Go.Proofs.YtfcamfkimnlfgaaGreatDoor
end

section
/- Statements of round: over, awake. No conditions. -/
open Go.RowKit
set_option maxRecDepth 100000
namespace Go.Proofs.YtfcamfkimnlfgaaGreatDoor
def UStr (W : World) (s : ByteArray) (e : Ending) (w' : World) : Prop := e = .returned (.string s) ∧ Hid (Below W.heap.size W w')
theorem ustr_of {W : World} {l : List UInt8} {s : ByteArray} {e : Ending} {w' : World} (h : TxR W l e w') (hs : s.data.toList = l) : UStr W s e w' := by
  obtain ⟨t, rfl, ht, hb⟩ := h
  exact ⟨by rw [show t = s from ByteArray.ext (Array.ext' (ht.out.trans hs.symm))], hb⟩
theorem qa_self {W : World} {sg : Bool} {A A' : Option Addr} {n c n' c' K : Nat} {r : Rat} (nz : ZA W sg A n c r.num) (nd : Nm W A' n' c' r.den) (hb : Bd r K) : QA W sg A n c A' n' c' r K := ⟨r.num, r.den, nz, nd, Rat.mkRat_self r, hb⟩
section
variable {W : World}
set_option maxHeartbeats 4000000 in
theorem over_h {p : Int} {q : Nat} {r : Rat} {sg : Bool} (hp : -9223372036854775808 ≤ p ∧ p ≤ 9223372036854775807) (hq : q ≤ 18446744073709551615) (h0 : 0 < q) (hr : mkRat p q = r) (hs : decide (r.num < 0) = sg) : Calls Tryz.prog 119 #[.int .i64 p, .int .u64 (q : Int)] W (QRw W sg r) := by
  obtain ⟨sp, hsp⟩ : ∃ x, x = decide (p < 0) := ⟨_, rfl⟩
  have bp : dl p.natAbs ≤ 99999 := Nat.le_trans (dl_le (k := 2) (Nat.lt_of_lt_of_le (show p.natAbs < 18446744073709551616 by omega) (by decide))) (by decide)
  have bq : dl q ≤ 99999 := Nat.le_trans (dl_le (k := 2) (Nat.lt_of_lt_of_le (show q < 18446744073709551616 by omega) (by decide))) (by decide)
  have CZ : Hid (∀ W', Calls Tryz.prog 156 #[.int .i64 p] W' (ZRu W' sp p)) := fun W' => by rw [hsp]; exact zof_h hp.1 hp.2
  have CN : Hid (∀ W', Calls Tryz.prog 77 #[.int .u64 (q : Int)] W' (NumR W' q)) := fun W' => of_h hq
  have CQ : Hid (∀ W' B e B' e', ZA W' sp B (dl p.natAbs) e p → Nm W' B' (dl q) e' q → Calls Tryz.prog 17 #[.agg #[.bool sp, .slice B (dl p.natAbs) e], .agg #[.slice B' (dl q) e']] W' (OfYw W' sg r)) := fun W' B e B' e' h1 h2 => by
    have h3 := of_yes h1 h2 h0 hr bp bq
    unfold OfYes at h3
    rw [hs] at h3
    exact h3
  clear hp hq h0 hr hs hsp bp bq
  have HB := Bel.refl W
  go_enter Tryz.func119, Tryz.ntmps119
  go_wp2_with (first | (go_at_call 156; (with_reducible refine (CZ.out _).mono ?_); rintro e w1 ⟨B1, e1, rfl, z1, hbk⟩; (with_reducible (have HR : At w1 W.heap.size [.bool false, .slice none 0 0, .slice none 0 0] := At.up (at_new0 _ _ _) hbk; replace HB := (HB.al _).up hbk))) | (go_at_call 77; (with_reducible refine (CN.out _).mono ?_); rintro e w2 ⟨B2, e2, rfl, n2, hbk⟩; (with_reducible (replace HB := HB.up hbk; replace HR := HR.up hbk; replace z1 := z1.up hbk))) | (go_at_call 17; (with_reducible refine (CQ.out _ _ _ _ _ z1 n2).mono ?_); rintro e w3 ⟨B3, e3, B4, e4, rfl, z3, n3, hbk⟩; (with_reducible (replace HB := HB.up hbk; replace HR := HR.up hbk)); have hr_l := HR.lt; have hs_0 := HR.c0; have hs_1 := HR.c1; have hs_2 := HR.c2; have hs_f0 := HR.f0; have hs_f1 := HR.f1; have hs_f2 := HR.f2) | fail)
  have n0 := z3.1
  refine name_end ?_
  intro W4 hW4
  have HF : At W4 W.heap.size [.bool sg, .slice B3 (dl r.num.natAbs) e3, .slice B4 (dl r.den) e4] := by rw [hW4]; (repeat (first | with_reducible exact HR | (with_reducible refine At.al ?_ _) | (with_reducible refine At.uput3 (v0 := .bool false) (v1 := .slice none 0 0) (v2 := .slice none 0 0) ?_ _ _ _)))
  have NF : Nm W4 B3 (dl r.num.natAbs) e3 r.num.natAbs := by rw [hW4]; (repeat (first | with_reducible exact n0 | with_reducible exact HR | (with_reducible refine Nm.al ?_ _) | (with_reducible refine Nm.putq ?_ ?_ _ _ _ _ _ _ _)))
  have DF : Nm W4 B4 (dl r.den) e4 r.den := by rw [hW4]; (repeat (first | with_reducible exact n3 | with_reducible exact HR | (with_reducible refine Nm.al ?_ _) | (with_reducible refine Nm.putq ?_ ?_ _ _ _ _ _ _ _)))
  have BF : Bel W W4 := by rw [hW4]; (repeat (first | with_reducible exact HB | (with_reducible refine Bel.al ?_ _) | (with_reducible refine Bel.uput3 ?_ (Nat.le_refl _) _ _ _)))
  clear hW4
  refine bodyPost_ret (v := .agg #[.bool sg, .slice B3 (dl r.num.natAbs) e3, .slice B4 (dl r.den) e4]) (by simp [results, Tryz.results119, go_sem, HF.c0, HF.c1, HF.c2]) rfl ?_
  exact ⟨B3, e3, B4, e4, rfl, z3.mv NF, DF, BF⟩
theorem dec_2 : decL 2 = [50] := decL_lit (ds := [2]) (by intro x hx; simp at hx; subst hx; decide) (by intro x hx; simp at hx; subst hx; decide) rfl (by decide) (by decide)
theorem lt10_3u {a b c : Nat} (ha : a < 10) (hb : b < 10) (hc : c < 10) : ∀ x ∈ [a, b, c], x < 10 := by
  intro x hx; simp at hx; rcases hx with rfl | rfl | rfl <;> assumption
theorem dec_100 : decL 100 = [49, 48, 48] := decL_lit (ds := [0, 0, 1]) (lt10_3u (by decide) (by decide) (by decide)) (by intro x hx; simp at hx; subst hx; decide) rfl (by decide) (by decide)
theorem dec_999 : decL 999 = [57, 57, 57] := decL_lit (ds := [9, 9, 9]) (lt10_3u (by decide) (by decide) (by decide)) (by intro x hx; simp at hx; subst hx; decide) rfl (by decide) (by decide)
theorem dec_10 : decL 10 = [49, 48] := decL_lit (ds := [0, 1]) (by intro x hx; simp at hx; rcases hx with rfl | rfl <;> decide) (by intro x hx; simp at hx; subst hx; decide) rfl (by decide) (by decide)
theorem decd_0 (m : Nat) : decD false m 0 = decL m := by
  unfold decD
  rw [if_neg (by decide), if_pos rfl]
  simp
def x52 : Rat := mkRat 5 2
def x999 : Rat := mkRat 999 10
def ten_ : Rat := ((10 : Int) : Rat)
theorem x52_num : x52.num = 5 := by decide +kernel
theorem x52_den : x52.den = 2 := by decide +kernel
theorem x999_num : x999.num = 999 := by decide +kernel
theorem x999_den : x999.den = 10 := by decide +kernel
theorem bd_lit {r : Rat} {a b : Nat} (ha : r.num.natAbs = a) (hb : r.den = b) (h1 : a < 4294967296) (h2 : b < 4294967296) : Bd r 1 := by
  unfold Bd
  rw [ha, hb, Nat.pow_one]
  exact ⟨h1, h2⟩
theorem x52_bd : Bd x52 1 := bd_lit (a := 5) (b := 2) (by rw [x52_num]; rfl) x52_den (by decide) (by decide)
theorem x999_bd : Bd x999 1 := bd_lit (a := 999) (b := 10) (by rw [x999_num]; rfl) x999_den (by decide) (by decide)
theorem ten_bd : Bd ten_ 1 := bd_lit (a := 10) (b := 1) rfl rfl (by decide) (by decide)
theorem ten1_bd : Bd (ten_ ^ 1) 1 := bd_lit (a := 10) (b := 1) (by decide +kernel) (by decide +kernel) (by decide) (by decide)
theorem to_52 {A A' : Option Addr} {c c' : Nat} (nz : ZA W false A (dl x52.num.natAbs) c x52.num) (nd : Nm W A' (dl x52.den) c' x52.den) : Calls Tryz.prog 58 #[.agg #[.bool false, .slice A (dl x52.num.natAbs) c, .slice A' (dl x52.den) c'], .int .i64 0, .int .i64 7] W (ToR W false 2 0) :=
  to_ok (s := 0) (m := 7) (qa_self nz nd x52_bd) (by decide) (by decide) (by decide) (by decide) (t := 2) (by decide +kernel)
set_option maxHeartbeats 4000000 in
theorem sig_999 {A A' : Option Addr} {c c' : Nat} (nz : ZA W false A (dl x999.num.natAbs) c x999.num) (nd : Nm W A' (dl x999.den) c' x999.den) : Calls Tryz.prog 59 #[.agg #[.bool false, .slice A (dl x999.num.natAbs) c, .slice A' (dl x999.den) c'], .int .i64 2, .int .i64 6] W (ToR W false 100 0) := by
  refine sig_walk (m := 6) (dg := 2) (e := 1) (sc := 0) (u := 1) (um := 1) (us := 0) (v := 100) (sg := false) (by decide) (by decide) ?_ (by decide) ?_ (by decide) (by decide) (by decide) ?_ ?_ ?_
  · intro W' hw
    exact rsign_h (K := 1) (qa_self (nz.up hw.hid) (nd.up hw.hid) x999_bd) (by decide) (by rw [x999_num]; rfl)
  · intro W' hw
    have h1 := expo_h (W := W') (tn := ten_) (K := 1) (pw := ten_ ^ 1) (e := 1) (L1 := 3) (L2 := 2) rfl (nz.up hw.hid) (nd.up hw.hid) (by rw [x999_den]; decide) (by rw [x999_num, show (999 : Int).natAbs = 999 from rfl, dec_999]; rfl) (by rw [x999_den, dec_10]; rfl) (by decide) (by decide) (by decide)
      (fun W2 B f B' f' h2 h3 => rpow_p (k := 1) (qa_self h2 h3 ten_bd) (by decide +kernel) ten_bd (by decide) (by decide) (by decide)) x999_bd.1 x999_bd.2 ten1_bd (by decide) (by decide)
    rwa [if_neg (by rw [x999_num, x999_den]; decide +kernel)] at h1
  · intro W'
    exact unit_p (s := 0) (by decide)
  · intro W' B f hw hn
    have h1 := multiple_h (W := W') (b' := false) (s := 0) (m := 6) (qa_self (nz.up hw.hid) (nd.up hw.hid) x999_bd) hn (show 1 < W32 ^ 1 by decide) (by decide) (by decide) (by decide) (by decide)
    rw [show rdR 6 (x999 * mkRat (10 ^ 0 : Nat) 1) = 100 by decide +kernel] at h1
    exact h1
  · intro W' B f hn
    exact (limit_0 hn).mono fun _ _ ⟨h1, h2, h3⟩ => ⟨B, f, h1, h2, h3⟩
set_option maxHeartbeats 8000000 in
theorem awake5_any (W : World) : Calls Tryz.prog 54 #[] W (BoolR W true) := by
  obtain ⟨v, hv⟩ : ∃ v : Nat, v = 2 := ⟨_, rfl⟩
  obtain ⟨v', hv'⟩ : ∃ v : Nat, v = 100 := ⟨_, rfl⟩
  have CO : Hid (∀ W', Calls Tryz.prog 119 #[.int .i64 5, .int .u64 2] W' (QRw W' false x52)) := fun W' => over_h (q := 2) (by decide) (by decide) (by decide) rfl (by rw [x52_num]; rfl)
  have CO2 : Hid (∀ W', Calls Tryz.prog 119 #[.int .i64 999, .int .u64 10] W' (QRw W' false x999)) := fun W' => over_h (q := 10) (by decide) (by decide) (by decide) rfl (by rw [x999_num]; rfl)
  have CT : Hid (∀ (W' : World) A c A' c', ZA W' false A (dl x52.num.natAbs) c x52.num → Nm W' A' (dl x52.den) c' x52.den → Calls Tryz.prog 58 #[.agg #[.bool false, .slice A (dl x52.num.natAbs) c, .slice A' (dl x52.den) c'], .int .i64 0, .int .i64 7] W' (ToR W' false v 0)) := fun W' A c A' c' h1 h2 => by rw [hv]; exact to_52 h1 h2
  have CS : Hid (∀ (W' : World) A c A' c', ZA W' false A (dl x999.num.natAbs) c x999.num → Nm W' A' (dl x999.den) c' x999.den → Calls Tryz.prog 59 #[.agg #[.bool false, .slice A (dl x999.num.natAbs) c, .slice A' (dl x999.den) c'], .int .i64 2, .int .i64 6] W' (ToR W' false v' 0)) := fun W' A c A' c' h1 h2 => by rw [hv']; exact sig_999 h1 h2
  have CX : Hid (∀ (W' : World) A c, Nm W' A (dl v) c v → Calls Tryz.prog 42 #[.agg #[.bool false, .slice A (dl v) c, .int .i64 0]] W' (UStr W' ⟨#[50]⟩)) := fun W' A c h => (dtext_h (dx_can (b := false) (s := 0) h (by decide) (fun h => by cases h)).y (by rw [hv]; exact Nat.le_trans (dl_le (k := 1) (by decide)) (by decide))).mono fun _ _ h1 => ustr_of h1 (by rw [decd_0, hv, dec_2])
  have CX2 : Hid (∀ (W' : World) A c, Nm W' A (dl v') c v' → Calls Tryz.prog 42 #[.agg #[.bool false, .slice A (dl v') c, .int .i64 0]] W' (UStr W' ⟨#[49, 48, 48]⟩)) := fun W' A c h => (dtext_h (dx_can (b := false) (s := 0) h (by decide) (fun h => by cases h)).y (by rw [hv']; exact Nat.le_trans (dl_le (k := 1) (by decide)) (by decide))).mono fun _ _ h1 => ustr_of h1 (by rw [decd_0, hv', dec_100])
  have CM : Hid (∀ W', Calls Tryz.prog 61 #[.int .i64 1] W' (RetB W' true)) := fun W' => mode_h (m := 1)
  have CM2 : Hid (∀ W', Calls Tryz.prog 61 #[.int .i64 8] W' (RetB W' false)) := fun W' => mode_h (m := 8)
  obtain ⟨x, hx⟩ : ∃ x, x = x52 := ⟨_, rfl⟩
  obtain ⟨y, hy⟩ : ∃ x, x = x999 := ⟨_, rfl⟩
  rw [← hx] at CO CT
  rw [← hy] at CO2 CS
  clear hv hv' hx hy
  have HB := Bel.refl W
  go_enter Tryz.func54, Tryz.ntmps54
  go_wp2_with (first | (go_at_call 119; (with_reducible refine (CO.out _).mono ?_); rintro e w1 ⟨A1, c1, A2, c2, rfl, z1, n1, hbk⟩; (with_reducible (replace HB := HB.up hbk))) | (go_at_call 58; (with_reducible refine (CT.out _ _ _ _ _ z1 n1).mono ?_); rintro e w2 ⟨A3, c3, rfl, n3, hbk⟩; (with_reducible (replace HB := HB.up hbk))) | (go_at_call 119; (with_reducible refine (CO2.out _).mono ?_); rintro e w3 ⟨A4, c4, A5, c5, rfl, z4, n4, hbk⟩; (with_reducible (have HA : At w3 w2.heap.size [.bool false, .slice A3 (dl v) c3, .int .i64 0] := At.up (at_new0 _ _ _) hbk; replace HB := (HB.al _).up hbk; replace n3 := (n3.al _).up hbk)); have ha_0 := HA.c0; have ha_1 := HA.c1; have ha_2 := HA.c2; have ha_l := HA.lt) | (go_at_call 59; (with_reducible refine (CS.out _ _ _ _ _ z4 n4).mono ?_); rintro e w4 ⟨A6, c6, rfl, n6, hbk⟩; (with_reducible (replace HB := HB.up hbk; replace HA := HA.up hbk; replace n3 := n3.up hbk)); clear ha_0 ha_1 ha_2 ha_l; have ha_0 := HA.c0; have ha_1 := HA.c1; have ha_2 := HA.c2; have ha_l := HA.lt) | (go_at_call 42; (with_reducible refine (CX.out _ _ _ (n3.al _)).mono ?_); rintro e w5 ⟨rfl, hbk⟩; (with_reducible (have HC : At w5 w4.heap.size [.bool false, .slice A6 (dl v') c6, .int .i64 0] := At.up (at_new0 _ _ _) hbk; replace HB := (HB.al _).up hbk; replace n6 := (n6.al _).up hbk)); clear ha_0 ha_1 ha_2 ha_l; have hc_0 := HC.c0; have hc_1 := HC.c1; have hc_2 := HC.c2; have hc_l := HC.lt) | (go_at_call 42; (with_reducible refine (CX2.out _ _ _ n6).mono ?_); rintro e w6 ⟨rfl, hbk⟩; (with_reducible (replace HB := HB.up hbk)); clear hc_0 hc_1 hc_2 hc_l) | (go_at_call 61; (with_reducible refine (CM.out _).mono ?_); rintro e w7 ⟨rfl, hbk⟩; replace hbk := Bel.hid hbk; (with_reducible (replace HB := HB.up hbk))) | (go_at_call 61; (with_reducible refine (CM2.out _).mono ?_); rintro e w8 ⟨rfl, hbk⟩; replace hbk := Bel.hid hbk; (with_reducible (replace HB := HB.up hbk))) | fail)
  go_ret
  exact ⟨rfl, HB⟩
end
end Go.Proofs.YtfcamfkimnlfgaaGreatDoor
end
