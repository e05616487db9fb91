/- Several texts in one, each with its own sentence and conditions. -/
import Derived.Test.YtphnmccpcjecnaaGreatDoorGDsbc22
import Derived.Deep.RegionHeld3
import Derived.Test.YtphnmccpcjecnaaGreatDoorDc
import Derived.Test.YtphnmccpcjecnaaGreatDoorRta
import Derived.Test.YtphnmccpcjecnaaGreatDoorGDsbc13
import Derived.Test.YtphnmccpcjecnaaGreatDoorRtd
import Derived.Deep.Cut
section
/- Package dec: Part. Conditions: numbers of at most 99999 words. -/
open Go.RowKit
set_option maxRecDepth 100000
namespace Go.Proofs.YtphnmccpcjecnaaGreatDoor
section
variable {W : World} {b b0 : Bool} {A A0 : Option Addr} {n c m s n0 c0 : Nat} {s0 : Int}
set_option maxHeartbeats 4000000 in
theorem part_h (h : DY W (.agg #[.bool b0, .slice A0 n0 c0, .int .i64 s0]) b A n c m s) (hd : dl m ≤ 99999) : Calls Tryz.prog 22 #[.agg #[.bool b0, .slice A0 n0 c0, .int .i64 s0]] W (TxR W (partL m s)) := by
  obtain ⟨p, hp⟩ : ∃ p, p = 10 ^ s := ⟨_, rfl⟩
  obtain ⟨q, hq⟩ : ∃ q, q = m / p := ⟨_, rfl⟩
  obtain ⟨r, hr⟩ : ∃ r, r = m % p := ⟨_, rfl⟩
  obtain ⟨x, hx⟩ : ∃ x, x = p + r := ⟨_, rfl⟩
  obtain ⟨hl1, hl2, hl3, hl4⟩ := part_facts m s
  have p0 : 0 < p := by rw [hp]; exact Nat.pow_pos (by decide)
  have hxd : dl x ≤ 100000 := by
    have h1 : x < 10 ^ (s + 1) := by rw [Nat.pow_succ, ← hp]; have := Nat.mod_lt m p0; omega
    have h2 : s ≤ 60 := h.1.sc
    exact Nat.le_trans (dl_le (k := 61) (Nat.lt_trans h1 (Nat.lt_of_le_of_lt (Nat.pow_le_pow_right (by decide) (show s + 1 ≤ 61 by omega)) (Nat.pow_lt_pow_left (by decide) (by decide))))) (by decide)
  have CC : Hid (∀ W', Bel W W' → Calls Tryz.prog 58 #[.agg #[.bool b0, .slice A0 n0 c0, .int .i64 s0]] W' (CnR W' b A n c s)) := h.2
  have CP : Hid (∀ W', Calls Tryz.prog 50 #[.int .i64 (s : Int)] W' (NumR W' p)) := fun W' => by rw [hp]; exact power_h h.1.sc
  have CD : Hid (∀ W' B e, Bel W W' → Nm W' B (dl p) e p → Calls Tryz.prog 49 #[.agg #[.slice A n c], .agg #[.slice B (dl p) e]] W' (DivV W' q r)) := fun W' B e hb hn => div_v (h.1.nm.up hb) hn p0 hd hq.symm hr.symm
  have CA : Hid (∀ W' B e B' e', Nm W' B (dl p) e p → Nm W' B' (dl r) e' r → Calls Tryz.prog 65 #[.agg #[.slice B (dl p) e], .agg #[.slice B' (dl r) e']] W' (NumR W' x)) := fun W' B e B' e' h1 h2 => add_h h1 h2 hx.symm hxd
  have HL : Hid (decL x = 49 :: partL m s ∧ (partL m s).length = s) := ⟨by rw [hx, hr, hp]; exact hl1, hl2⟩
  have CT : Hid (∀ W' B e, Nm W' B (dl x) e x → Calls Tryz.prog 59 #[.agg #[.slice B (dl x) e]] W' (TxR W' (decL x))) := fun W' B e h1 => text_h h1
  clear h hd hp hq hr hx hl1 hl2 hl3 hl4 p0 hxd
  have HB := Bel.refl W
  go_enter Tryz.func22, Tryz.ntmps22
  go_wp2_with (first | (go_at_call 58; (with_reducible refine (CC.out _ (HB.al _)).mono ?_); rintro e w1 ⟨rfl, hbk⟩; have HA := At.up (at_new0 _ _ _) hbk; replace HB := (HB.al _).up hbk; have ha_0 := HA.c0; have ha_1 := HA.c1; have ha_2 := HA.c2; have ha_l := HA.lt; have ha_f0 := HA.f0; have ha_f1 := HA.f1; have ha_f2 := HA.f2) | (go_at_call 50; (with_reducible refine (CP.out _).mono ?_); rintro e w2 ⟨Bp, ep, rfl, np, hbk⟩; replace HA : At w2 W.heap.size [.bool b, .slice A n c, .int .i64 (s : Int)] := At.up (HA.put3 _ _ _) hbk; replace HB := Bel.up (below3 HB (Nat.le_refl _) _ _ _) hbk; clear ha_0 ha_1 ha_2 ha_l ha_f0 ha_f1 ha_f2; have ha_0 := HA.c0; have ha_1 := HA.c1; have ha_2 := HA.c2; have ha_l := HA.lt) | (go_at_call 49; (with_reducible refine (CD.out _ _ _ (HB.al _) (np.al _)).mono ?_); rintro e w3 ⟨Aq, cq, Ar, cr, rfl, nq, nr, hbk⟩; have HO := At.up (at_new0 _ _ _) hbk; replace HB := (HB.al _).up hbk; replace HA := (HA.al _).up hbk; replace np := (np.al _).up hbk; clear ha_0 ha_1 ha_2 ha_l; have ho_0 := HO.c0; have ho_l := HO.lt) | (go_at_call 65; (with_reducible refine (CA.out _ _ _ _ _ ((np.al _).al _) ((nr.al _).al _)).mono ?_); rintro e w4 ⟨Ax, cx, rfl, nx, hbk⟩; replace HB := ((HB.al _).al _).up hbk; clear ho_0 ho_l) | (go_at_call 59; (with_reducible refine (CT.out _ _ _ nx).mono ?_); rintro e w5 ⟨t, rfl, ht, hbk⟩; replace HB := HB.up hbk; have hts : 1 ≤ t.size := (by rw [size_list, ht.out, HL.out.1]; simp)) | fail)
  go_ret
  refine ⟨_, rfl, ?_, HB⟩
  unfold Hid
  rw [extract_list, List.take_of_length_le (show t.data.toList.length ≤ t.size from Nat.le_refl _), ht.out, HL.out.1]
  rfl
end
end Go.Proofs.YtphnmccpcjecnaaGreatDoor
end

section
/- Package dec: Text. Conditions: numbers of at most 99999 words. -/
open Go.RowKit
set_option maxRecDepth 100000
namespace Go.Proofs.YtphnmccpcjecnaaGreatDoor
/-- A numeral's text. -/
def decD (b : Bool) (m s : Nat) : List UInt8 := (if b then [45] else []) ++ (decL (m / 10 ^ s) ++ (if s = 0 then [] else 46 :: partL m s))
section
variable {W : World} {b b0 : Bool} {A A0 : Option Addr} {n c m s n0 c0 : Nat} {s0 : Int}
set_option maxHeartbeats 4000000 in
theorem dtext_pz (h : DY W (.agg #[.bool b0, .slice A0 n0 c0, .int .i64 s0]) b A n c m s) (hd : dl m ≤ 99999) (hb : b = false) (h0 : s = 0) : Calls Tryz.prog 14 #[.agg #[.bool b0, .slice A0 n0 c0, .int .i64 s0]] W (TxR W (decD b m s)) := by
  subst hb
  obtain ⟨q, hq⟩ : ∃ q, q = m / 10 ^ s := ⟨_, rfl⟩
  have CC : Hid (∀ W', Bel W W' → Calls Tryz.prog 58 #[.agg #[.bool b0, .slice A0 n0 c0, .int .i64 s0]] W' (CnR W' false A n c s)) := h.2
  have CW : Hid (∀ W', Bel W W' → Calls Tryz.prog 20 #[.agg #[.bool false, .slice A n c, .int .i64 (s : Int)]] W' (NumR W' q)) := fun W' hb => by rw [hq]; exact whole_h ((h.1.bel hb).y) hd
  have CQ : Hid (∀ W', Bel W W' → Calls Tryz.prog 22 #[.agg #[.bool false, .slice A n c, .int .i64 (s : Int)]] W' (TxR W' (partL m s))) := fun W' hb => part_h ((h.1.bel hb).y) hd
  have CT : Hid (∀ W' B e, Nm W' B (dl q) e q → Calls Tryz.prog 59 #[.agg #[.slice B (dl q) e]] W' (TxR W' (decL q))) := fun W' B e h1 => text_h h1
  have HL : Hid ((partL m s).length ≤ 60) := by unfold Hid; rw [(part_facts m s).2.1]; exact h.1.sc
  have HQ := hide hq
  have HS := hide h0
  have hs : ((s : Int) == 0) = true := by simp [h0]
  clear h hd hq h0
  have HB := Bel.refl W
  go_enter Tryz.func14, Tryz.ntmps14
  go_wp2_with (first | (go_at_call 58; (with_reducible refine (CC.out _ (HB.al _)).mono ?_); rintro e w1 ⟨rfl, hbk⟩; have HA := At.up (at_new0 _ _ _) hbk; replace HB := (HB.al _).up hbk; have ha_0 := HA.c0; have ha_1 := HA.c1; have ha_2 := HA.c2; have ha_l := HA.lt; have ha_f0 := HA.f0; have ha_f1 := HA.f1; have ha_f2 := HA.f2) | (go_at_call 20; (with_reducible refine (CW.out _ (below3 HB (Nat.le_refl _) _ _ _)).mono ?_); rintro e w2 ⟨Bq, eq, rfl, nq, hbk⟩; replace HA : At w2 W.heap.size [.bool false, .slice A n c, .int .i64 (s : Int)] := At.up (HA.put3 _ _ _) hbk; replace HB := Bel.up (below3 HB (Nat.le_refl _) _ _ _) hbk; clear ha_0 ha_1 ha_2 ha_l ha_f0 ha_f1 ha_f2) | (go_at_call 59; (with_reducible refine (CT.out _ _ _ nq).mono ?_); rintro e w3 ⟨t, rfl, ht, hbk⟩; replace HB := HB.up hbk; replace HA := HA.up hbk; have ha_0 := HA.c0; have ha_1 := HA.c1; have ha_2 := HA.c2; have ha_l := HA.lt; have hts : t.size ≤ 1000001 := (by rw [size_list, ht.out]; exact decL_len nq)) | fail)
  all_goals first
    | (exfalso; omega)
    | (go_ret
       refine ⟨_, rfl, ?_, HB⟩
       unfold Hid decD
       rw [if_pos HS.out, ← HQ.out, ← ht.out]
       simp)
set_option maxHeartbeats 4000000 in
theorem dtext_pp (h : DY W (.agg #[.bool b0, .slice A0 n0 c0, .int .i64 s0]) b A n c m s) (hd : dl m ≤ 99999) (hb : b = false) (h0 : s ≠ 0) : Calls Tryz.prog 14 #[.agg #[.bool b0, .slice A0 n0 c0, .int .i64 s0]] W (TxR W (decD b m s)) := by
  subst hb
  obtain ⟨q, hq⟩ : ∃ q, q = m / 10 ^ s := ⟨_, rfl⟩
  have CC : Hid (∀ W', Bel W W' → Calls Tryz.prog 58 #[.agg #[.bool b0, .slice A0 n0 c0, .int .i64 s0]] W' (CnR W' false A n c s)) := h.2
  have CW : Hid (∀ W', Bel W W' → Calls Tryz.prog 20 #[.agg #[.bool false, .slice A n c, .int .i64 (s : Int)]] W' (NumR W' q)) := fun W' hb => by rw [hq]; exact whole_h ((h.1.bel hb).y) hd
  have CQ : Hid (∀ W', Bel W W' → Calls Tryz.prog 22 #[.agg #[.bool false, .slice A n c, .int .i64 (s : Int)]] W' (TxR W' (partL m s))) := fun W' hb => part_h ((h.1.bel hb).y) hd
  have CT : Hid (∀ W' B e, Nm W' B (dl q) e q → Calls Tryz.prog 59 #[.agg #[.slice B (dl q) e]] W' (TxR W' (decL q))) := fun W' B e h1 => text_h h1
  have HL : Hid ((partL m s).length ≤ 60) := by unfold Hid; rw [(part_facts m s).2.1]; exact h.1.sc
  have HQ := hide hq
  have HS := hide h0
  have hs : ((s : Int) == 0) = false := by simpa using h0
  clear h hd hq h0
  have HB := Bel.refl W
  go_enter Tryz.func14, Tryz.ntmps14
  go_wp2_with (first | (go_at_call 58; (with_reducible refine (CC.out _ (HB.al _)).mono ?_); rintro e w1 ⟨rfl, hbk⟩; have HA := At.up (at_new0 _ _ _) hbk; replace HB := (HB.al _).up hbk; have ha_0 := HA.c0; have ha_1 := HA.c1; have ha_2 := HA.c2; have ha_l := HA.lt; have ha_f0 := HA.f0; have ha_f1 := HA.f1; have ha_f2 := HA.f2) | (go_at_call 20; (with_reducible refine (CW.out _ (below3 HB (Nat.le_refl _) _ _ _)).mono ?_); rintro e w2 ⟨Bq, eq, rfl, nq, hbk⟩; replace HA : At w2 W.heap.size [.bool false, .slice A n c, .int .i64 (s : Int)] := At.up (HA.put3 _ _ _) hbk; replace HB := Bel.up (below3 HB (Nat.le_refl _) _ _ _) hbk; clear ha_0 ha_1 ha_2 ha_l ha_f0 ha_f1 ha_f2) | (go_at_call 59; (with_reducible refine (CT.out _ _ _ nq).mono ?_); rintro e w3 ⟨t, rfl, ht, hbk⟩; replace HB := HB.up hbk; replace HA := HA.up hbk; have ha_0 := HA.c0; have ha_1 := HA.c1; have ha_2 := HA.c2; have ha_l := HA.lt; have hts : t.size ≤ 1000001 := (by rw [size_list, ht.out]; exact decL_len nq)) | (go_at_call 22; (with_reducible refine (CQ.out _ HB).mono ?_); rintro e w4 ⟨u, rfl, hu, hbk⟩; replace HB := HB.up hbk; clear ha_0 ha_1 ha_2 ha_l; have hus : u.size ≤ 60 := (by rw [size_list, hu.out]; exact HL.out)) | fail)
  all_goals first
    | (exfalso; omega)
    | (go_ret
       refine ⟨_, rfl, ?_, HB⟩
       unfold Hid decD
       rw [if_neg HS.out, ← HQ.out, ← ht.out, ← hu.out]
       simp)
set_option maxHeartbeats 4000000 in
theorem dtext_nz (h : DY W (.agg #[.bool b0, .slice A0 n0 c0, .int .i64 s0]) b A n c m s) (hd : dl m ≤ 99999) (hb : b = true) (h0 : s = 0) : Calls Tryz.prog 14 #[.agg #[.bool b0, .slice A0 n0 c0, .int .i64 s0]] W (TxR W (decD b m s)) := by
  subst hb
  obtain ⟨q, hq⟩ : ∃ q, q = m / 10 ^ s := ⟨_, rfl⟩
  have CC : Hid (∀ W', Bel W W' → Calls Tryz.prog 58 #[.agg #[.bool b0, .slice A0 n0 c0, .int .i64 s0]] W' (CnR W' true A n c s)) := h.2
  have CW : Hid (∀ W', Bel W W' → Calls Tryz.prog 20 #[.agg #[.bool true, .slice A n c, .int .i64 (s : Int)]] W' (NumR W' q)) := fun W' hb => by rw [hq]; exact whole_h ((h.1.bel hb).y) hd
  have CQ : Hid (∀ W', Bel W W' → Calls Tryz.prog 22 #[.agg #[.bool true, .slice A n c, .int .i64 (s : Int)]] W' (TxR W' (partL m s))) := fun W' hb => part_h ((h.1.bel hb).y) hd
  have CT : Hid (∀ W' B e, Nm W' B (dl q) e q → Calls Tryz.prog 59 #[.agg #[.slice B (dl q) e]] W' (TxR W' (decL q))) := fun W' B e h1 => text_h h1
  have HL : Hid ((partL m s).length ≤ 60) := by unfold Hid; rw [(part_facts m s).2.1]; exact h.1.sc
  have HQ := hide hq
  have HS := hide h0
  have hs : ((s : Int) == 0) = true := by simp [h0]
  clear h hd hq h0
  have HB := Bel.refl W
  go_enter Tryz.func14, Tryz.ntmps14
  go_wp2_with (first | (go_at_call 58; (with_reducible refine (CC.out _ (HB.al _)).mono ?_); rintro e w1 ⟨rfl, hbk⟩; have HA := At.up (at_new0 _ _ _) hbk; replace HB := (HB.al _).up hbk; have ha_0 := HA.c0; have ha_1 := HA.c1; have ha_2 := HA.c2; have ha_l := HA.lt; have ha_f0 := HA.f0; have ha_f1 := HA.f1; have ha_f2 := HA.f2) | (go_at_call 20; (with_reducible refine (CW.out _ (below3 HB (Nat.le_refl _) _ _ _)).mono ?_); rintro e w2 ⟨Bq, eq, rfl, nq, hbk⟩; replace HA : At w2 W.heap.size [.bool true, .slice A n c, .int .i64 (s : Int)] := At.up (HA.put3 _ _ _) hbk; replace HB := Bel.up (below3 HB (Nat.le_refl _) _ _ _) hbk; clear ha_0 ha_1 ha_2 ha_l ha_f0 ha_f1 ha_f2) | (go_at_call 59; (with_reducible refine (CT.out _ _ _ nq).mono ?_); rintro e w3 ⟨t, rfl, ht, hbk⟩; replace HB := HB.up hbk; replace HA := HA.up hbk; have ha_0 := HA.c0; have ha_1 := HA.c1; have ha_2 := HA.c2; have ha_l := HA.lt; have hts : t.size ≤ 1000001 := (by rw [size_list, ht.out]; exact decL_len nq)) | fail)
  all_goals first
    | (exfalso; omega)
    | (go_ret
       refine ⟨_, rfl, ?_, HB⟩
       unfold Hid decD
       rw [if_pos HS.out, ← HQ.out, ← ht.out]
       simp)
set_option maxHeartbeats 4000000 in
theorem dtext_np (h : DY W (.agg #[.bool b0, .slice A0 n0 c0, .int .i64 s0]) b A n c m s) (hd : dl m ≤ 99999) (hb : b = true) (h0 : s ≠ 0) : Calls Tryz.prog 14 #[.agg #[.bool b0, .slice A0 n0 c0, .int .i64 s0]] W (TxR W (decD b m s)) := by
  subst hb
  obtain ⟨q, hq⟩ : ∃ q, q = m / 10 ^ s := ⟨_, rfl⟩
  have CC : Hid (∀ W', Bel W W' → Calls Tryz.prog 58 #[.agg #[.bool b0, .slice A0 n0 c0, .int .i64 s0]] W' (CnR W' true A n c s)) := h.2
  have CW : Hid (∀ W', Bel W W' → Calls Tryz.prog 20 #[.agg #[.bool true, .slice A n c, .int .i64 (s : Int)]] W' (NumR W' q)) := fun W' hb => by rw [hq]; exact whole_h ((h.1.bel hb).y) hd
  have CQ : Hid (∀ W', Bel W W' → Calls Tryz.prog 22 #[.agg #[.bool true, .slice A n c, .int .i64 (s : Int)]] W' (TxR W' (partL m s))) := fun W' hb => part_h ((h.1.bel hb).y) hd
  have CT : Hid (∀ W' B e, Nm W' B (dl q) e q → Calls Tryz.prog 59 #[.agg #[.slice B (dl q) e]] W' (TxR W' (decL q))) := fun W' B e h1 => text_h h1
  have HL : Hid ((partL m s).length ≤ 60) := by unfold Hid; rw [(part_facts m s).2.1]; exact h.1.sc
  have HQ := hide hq
  have HS := hide h0
  have hs : ((s : Int) == 0) = false := by simpa using h0
  clear h hd hq h0
  have HB := Bel.refl W
  go_enter Tryz.func14, Tryz.ntmps14
  go_wp2_with (first | (go_at_call 58; (with_reducible refine (CC.out _ (HB.al _)).mono ?_); rintro e w1 ⟨rfl, hbk⟩; have HA := At.up (at_new0 _ _ _) hbk; replace HB := (HB.al _).up hbk; have ha_0 := HA.c0; have ha_1 := HA.c1; have ha_2 := HA.c2; have ha_l := HA.lt; have ha_f0 := HA.f0; have ha_f1 := HA.f1; have ha_f2 := HA.f2) | (go_at_call 20; (with_reducible refine (CW.out _ (below3 HB (Nat.le_refl _) _ _ _)).mono ?_); rintro e w2 ⟨Bq, eq, rfl, nq, hbk⟩; replace HA : At w2 W.heap.size [.bool true, .slice A n c, .int .i64 (s : Int)] := At.up (HA.put3 _ _ _) hbk; replace HB := Bel.up (below3 HB (Nat.le_refl _) _ _ _) hbk; clear ha_0 ha_1 ha_2 ha_l ha_f0 ha_f1 ha_f2) | (go_at_call 59; (with_reducible refine (CT.out _ _ _ nq).mono ?_); rintro e w3 ⟨t, rfl, ht, hbk⟩; replace HB := HB.up hbk; replace HA := HA.up hbk; have ha_0 := HA.c0; have ha_1 := HA.c1; have ha_2 := HA.c2; have ha_l := HA.lt; have hts : t.size ≤ 1000001 := (by rw [size_list, ht.out]; exact decL_len nq)) | (go_at_call 22; (with_reducible refine (CQ.out _ HB).mono ?_); rintro e w4 ⟨u, rfl, hu, hbk⟩; replace HB := HB.up hbk; clear ha_0 ha_1 ha_2 ha_l; have hus : u.size ≤ 60 := (by rw [size_list, hu.out]; exact HL.out)) | fail)
  all_goals first
    | (exfalso; omega)
    | (go_ret
       refine ⟨_, rfl, ?_, HB⟩
       unfold Hid decD
       rw [if_neg HS.out, ← HQ.out, ← ht.out, ← hu.out]
       simp)
theorem dtext_h (h : DY W (.agg #[.bool b0, .slice A0 n0 c0, .int .i64 s0]) b A n c m s) (hd : dl m ≤ 99999) : Calls Tryz.prog 14 #[.agg #[.bool b0, .slice A0 n0 c0, .int .i64 s0]] W (TxR W (decD b m s)) := by
  by_cases h0 : s = 0
  · cases b
    · exact dtext_pz h hd rfl h0
    · exact dtext_nz h hd rfl h0
  · cases b
    · exact dtext_pp h hd rfl h0
    · exact dtext_np h hd rfl h0
end
end Go.Proofs.YtphnmccpcjecnaaGreatDoor
end

section
/- The document's own numerals: plain, DPart, DText. Conditions: numbers of at most 20000 of its words, scales of at most 1000. -/
open Go.RowKit
set_option maxRecDepth 100000
namespace Go.Proofs.YtphnmccpcjecnaaGreatDoor
theorem dcl_bounds {m : Nat} (hm : 0 < m) : 10 ^ ((decL m).length - 1) ≤ m ∧ m < 10 ^ (decL m).length ∧ 0 < (decL m).length := by
  have hl : (decL m).length = (digs 10 m).length := by unfold decL; rw [if_neg (by omega)]; simp
  have h0 : (digs 10 m).length ≠ 0 := fun h => by have := (digs_len_pos (b := 10) (n := m) (by decide)).1 h; omega
  rw [hl]
  refine ⟨?_, lt_pow_digs (b := 10) (by decide) m, by omega⟩
  refine Nat.le_of_not_lt fun h => ?_
  have h1 : ∀ (j n : Nat), n < 10 ^ j → (digs 10 n).length ≤ j := by
    intro j
    induction j with
    | zero => intro n hn; have : n = 0 := by simpa using hn
              subst this; rw [digs_zero]; exact Nat.le_refl _
    | succ j ih =>
      intro n hn
      by_cases hz : n = 0
      · subst hz; rw [digs_zero]; exact Nat.zero_le _
      · rw [digs_pos (by decide) (by omega), List.length_cons]
        have := ih (n / 10) (by rw [Nat.div_lt_iff_lt_mul (by decide), ← Nat.pow_succ]; exact hn)
        omega
  have := h1 _ m h
  omega
theorem dcl_len_of {m dg : Nat} (hdg : 1 ≤ dg) (h1 : 10 ^ (dg - 1) ≤ m) (h2 : m < 10 ^ dg) : (decL m).length = dg := by
  have h0 : 0 < 10 ^ (dg - 1) := Nat.pow_pos (by decide)
  obtain ⟨a1, a2, a3⟩ := dcl_bounds (m := m) (by omega)
  have b1 : (decL m).length - 1 < dg := (Nat.pow_lt_pow_iff_right (a := 10) (by decide)).1 (by omega)
  have b2 : dg - 1 < (decL m).length := (Nat.pow_lt_pow_iff_right (a := 10) (by decide)).1 (by omega)
  omega
theorem dig_lt {c : UInt8} (h : isDig c = true) : 48 ≤ c.toNat ∧ c.toNat ≤ 57 := by unfold isDig at h; simpa using h
theorem numL_inj : ∀ (n : Nat) (l l' : List UInt8), l.length = n → l'.length = n → l.all isDig = true → l'.all isDig = true → numL l = numL l' → l = l'
  | 0, l, l', h, h', _, _, _ => by rw [List.length_eq_zero_iff.1 h, List.length_eq_zero_iff.1 h']
  | n + 1, l, l', h, h', hd, hd', hv => by
    obtain ⟨a, x, rfl⟩ : ∃ a x, l = a ++ [x] := by
      rcases List.eq_nil_or_concat l with e | ⟨a, x, e⟩
      · rw [e] at h; cases h
      · exact ⟨a, x, by rw [e]; simp⟩
    obtain ⟨a', x', rfl⟩ : ∃ a x, l' = a ++ [x] := by
      rcases List.eq_nil_or_concat l' with e | ⟨a, x, e⟩
      · rw [e] at h'; cases h'
      · exact ⟨a, x, by rw [e]; simp⟩
    rw [List.all_append, Bool.and_eq_true] at hd hd'
    have g := dig_lt (c := x) (by simpa using hd.2)
    have g' := dig_lt (c := x') (by simpa using hd'.2)
    rw [numL_snoc, numL_snoc] at hv
    have e1 : x = x' := UInt8.toNat_inj.1 (by omega)
    have e2 := numL_inj n a a' (by simpa using h) (by simpa using h') hd.1 hd'.1 (by omega)
    rw [e1, e2]
/-- A numeral's digits, as many as to have one ahead of the point. -/
def padL (m s : Nat) : List UInt8 := decL (m / 10 ^ s) ++ partL m s
theorem padL_len (m s : Nat) : (padL m s).length = (decL (m / 10 ^ s)).length + s := by unfold padL; rw [List.length_append, (part_facts m s).2.1]
theorem padL_all (m s : Nat) : (padL m s).all isDig = true := by unfold padL; rw [List.all_append, decL_all, (part_facts m s).2.2.2]; rfl
theorem pad_eq {m s j : Nat} (h : j = 0 ∨ j + (decL m).length ≤ s + 1) (h2 : s < j + (decL m).length) : List.replicate j 48 ++ decL m = padL m s := by
  have hp : 0 < 10 ^ s := Nat.pow_pos (by decide)
  have hlen : j + (decL m).length = (decL (m / 10 ^ s)).length + s := by
    by_cases hq : m / 10 ^ s = 0
    · have hm : m < 10 ^ s := (Nat.div_eq_zero_iff_lt hp).1 hq
      have e0 : (decL 0).length = 1 := by decide
      rw [hq, e0]
      rcases h with h | h
      · subst h
        by_cases hs : s = 0
        · subst hs
          have : m = 0 := by simpa using hm
          subst this; rw [e0]
        · have h5 : (decL m).length ≤ s := dt_le hm (by omega)
          omega
      · omega
    · obtain ⟨b1, b2, b3⟩ := dcl_bounds (m := m / 10 ^ s) (Nat.pos_of_ne_zero hq)
      have g1 : 10 ^ ((decL (m / 10 ^ s)).length + s - 1) ≤ m := by
        rw [show (decL (m / 10 ^ s)).length + s - 1 = ((decL (m / 10 ^ s)).length - 1) + s by omega, Nat.pow_add]
        exact (Nat.le_div_iff_mul_le hp).1 b1
      have g2 : m < 10 ^ ((decL (m / 10 ^ s)).length + s) := by
        rw [Nat.pow_add]
        exact (Nat.div_lt_iff_lt_mul hp).1 b2
      have g3 := dcl_len_of (m := m) (dg := (decL (m / 10 ^ s)).length + s) (by omega) g1 g2
      omega
  refine numL_inj _ _ _ rfl ?_ ?_ (padL_all m s) ?_
  · rw [padL_len, List.length_append, List.length_replicate]; omega
  · rw [List.all_append, decL_all, Bool.and_true, List.all_replicate]; simp; right; decide
  · rw [numL_append, numL_noughts, Nat.zero_mul, Nat.zero_add, (numL_decL m).1]
    unfold padL; exact (back_num m s).symm
section
variable {W : World} {b : Bool} {A : Option Addr} {c m s : Nat}
set_option maxHeartbeats 2000000 in
theorem rplain_h (h : Rn W A c m) (hl : dq m ≤ 20000) (hs : s ≤ 1000) : Calls Tryz.prog 60 #[.agg #[.bool b, .slice A (dq m) c, .int .i64 (s : Int)]] W (TxR W (padL m s)) := by
  have CT : Hid (∀ W' A c, Rn W' A c m → Calls Tryz.prog 54 #[.slice A (dq m) c] W' (TxR W' (decL m))) := fun W' A c g => rText_any g (by omega)
  obtain ⟨L, hL⟩ : ∃ L, L = (decL m).length := ⟨_, rfl⟩
  have hL2 : L ≤ 80001 := by have := dec_four (m := m); omega
  have HPD : Hid (∀ j, (j = 0 ∨ j + L ≤ s + 1) → s < j + L → List.replicate j 48 ++ decL m = padL m s) := fun j h1 h2 => pad_eq (by rw [← hL]; exact h1) (by rw [← hL]; exact h2)
  have HL := hide hL
  have HB := Bel.refl W
  clear hl hL
  go_enter Tryz.func60, Tryz.ntmps60
  go_wp2_with (first
    | (go_at_call 54; (with_reducible refine (CT.out _ _ _ (h.al _)).mono ?_); rintro e w1 ⟨t, rfl, ht, hbk⟩; have HP := At.up (at_new0 _ [.bool b, .slice A (dq m) c, .int .i64 (s : Int)] _) hbk; replace HB := (HB.al _).up hbk)
    | fail)
  have hts : t.size = L := by rw [Lib.size_eq, ht.out]; exact HL.out.symm
  go_loopw [3] (fun tv wr => ∃ (j : Nat) (u : ByteArray), tv = .string u ∧ Hid (u.data.toList = List.replicate j 48 ++ decL m) ∧ u.size = j + L ∧ (j = 0 ∨ j + L ≤ s + 1) ∧ Hid (Bel w1 wr)) (fun tv _ => s + 1 - (match tv with | .string u => u.size | _ => 0))
  case atStart => exact ⟨0, t, rfl, by rw [ht.out]; rfl, by omega, .inl rfl, Bel.refl _⟩
  case round =>
    obtain ⟨j, u, rfl, hu, husz, hj, HW⟩ := hrel
    have HD := HP.up (Bel.hid HW)
    have hd2 := HD.c2
    have hdl := HD.lt
    by_cases hlt : u.size ≤ s
    · have dl : decide ((u.size : Int) ≤ (s : Int)) = true := decide_eq_true (by omega)
      have dl2 : decide (u.size ≤ s) = true := decide_eq_true (by omega)
      have c1 : ¬ 9223372036854775807 < 1 + u.size := by omega
      have hsz : ((⟨#[48]⟩ : ByteArray) ++ u).size = 1 + u.size := by rw [ByteArray.size_append]; rfl
      have HU : Hid (((⟨#[48]⟩ : ByteArray) ++ u).data.toList = List.replicate (j + 1) 48 ++ decL m) := by
        rw [ByteArray.data_append, Array.toList_append, hu.out, List.replicate_succ]; exact rfl
      go_wp2
      go_roundw
      case rel => exact ⟨j + 1, _, rfl, HU, by omega, .inr (by omega), HW⟩
      case measure => simp only; omega
    · have dl : decide ((u.size : Int) ≤ (s : Int)) = false := decide_eq_false (by omega)
      have dl2 : decide (u.size ≤ s) = false := decide_eq_false (by omega)
      have HU : Hid (u.data.toList = padL m s) := by rw [hu.out]; exact HPD.out j hj (by omega)
      have HF := HB.up (Bel.hid HW)
      go_wp2
      go_ret
      exact ⟨u, rfl, HU, HF.hid⟩
end
end Go.Proofs.YtphnmccpcjecnaaGreatDoor
end

section
/- The document's own numerals: DPart, DText. Conditions: numbers of at most 20000 of its words, scales of at most 1000. -/
open Go.RowKit
set_option maxRecDepth 100000
namespace Go.Proofs.YtphnmccpcjecnaaGreatDoor
section
variable {W : World} {b : Bool} {A : Option Addr} {c m s : Nat}
theorem pad_cut {u : ByteArray} {k : Nat} (hu : u.data.toList = padL m s) (hk : k = (decL (m / 10 ^ s)).length) : u.size = k + s ∧ (u.extract 0 k).data.toList = decL (m / 10 ^ s) ∧ (u.extract k (k + s)).data.toList = partL m s := by
  have h1 : u.size = k + s := by rw [Lib.size_eq, hu, padL_len, hk]
  refine ⟨h1, ?_, ?_⟩
  · rw [Lib.extract_data, List.drop_zero, Nat.sub_zero, hu, hk]; unfold padL; rw [List.take_left']; rfl
  · rw [← h1, Lib.extract_data, List.take_of_length_le (by rw [List.length_drop, ← Lib.size_eq]; exact Nat.le_refl _), hu, hk]; unfold padL; rw [List.drop_left']; rfl
set_option maxHeartbeats 2000000 in
theorem rdpart_h (h : Rn W A c m) (hl : dq m ≤ 20000) (hs : s ≤ 1000) : Calls Tryz.prog 23 #[.agg #[.bool b, .slice A (dq m) c, .int .i64 (s : Int)]] W (TxR W (partL m s)) := by
  obtain ⟨k, hk⟩ : ∃ k, k = (decL (m / 10 ^ s)).length := ⟨_, rfl⟩
  have hk2 : k ≤ 90000 := by
    have h1 := dec_four (m := m)
    have h2 := padL_len m s
    by_cases hq : m / 10 ^ s = 0
    · rw [hk, hq]; decide
    · have hp : 0 < 10 ^ s := Nat.pow_pos (by decide)
      obtain ⟨b1, b2, b3⟩ := dcl_bounds (m := m / 10 ^ s) (Nat.pos_of_ne_zero hq)
      have h5 : 10 ^ (k - 1) ≤ m := Nat.le_trans (by rw [hk]; exact b1) (Nat.div_le_self _ _)
      obtain ⟨d1, d2, d3⟩ := dcl_bounds (m := m) (Nat.lt_of_lt_of_le (Nat.pow_pos (by decide)) h5)
      have h6 : k - 1 < (decL m).length := (Nat.pow_lt_pow_iff_right (a := 10) (by decide)).1 (by omega)
      omega
  have CP : Hid (∀ W', Rn W' A c m → Calls Tryz.prog 60 #[.agg #[.bool b, .slice A (dq m) c, .int .i64 (s : Int)]] W' (TxR W' (padL m s))) := fun W' g => rplain_h g hl hs
  have HK := hide hk
  have HB := Bel.refl W
  clear hl hk
  go_enter Tryz.func23, Tryz.ntmps23
  go_wp2_with (first | (go_at_call 60; (with_reducible refine (CP.out _ (h.al _)).mono ?_); rintro e w1 ⟨u, rfl, hu, hbk⟩; have HP := At.up (at_new0 _ [.bool b, .slice A (dq m) c, .int .i64 (s : Int)] _) hbk; replace HB := (HB.al _).up hbk; have hp0 := HP.c0; have hp2 := HP.c2; have hpl := HP.lt; obtain ⟨usz, ua, ub⟩ := pad_cut hu.out HK.out; have UA := hide ua; have UB := hide ub; clear ua ub; have c1 : (0 : Int) ≤ (k : Int) := (by omega); have c2 : (k : Int) ≤ (u.size : Int) := (by omega); have c3 : (u.size : Int) - (s : Int) = (k : Int) := (by omega); have wk : IntKind.i64.wrap ((u.size : Int) - (s : Int)) = (k : Int) := (by rw [c3]; exact IntWalk.i64_in _ (by omega)); clear c3) | fail)
  go_ret
  exact ⟨_, rfl, UB, HB.hid⟩
set_option maxHeartbeats 2000000 in
theorem rdtext_pz (h : Rn W A c m) (hl : dq m ≤ 20000) (hs : s ≤ 1000) (h0 : s = 0) : Calls Tryz.prog 15 #[.agg #[.bool false, .slice A (dq m) c, .int .i64 (s : Int)]] W (TxR W (decD false m s)) := by
  obtain ⟨k, hk⟩ : ∃ k, k = (decL (m / 10 ^ s)).length := ⟨_, rfl⟩
  have hk2 : k ≤ 90000 := by
    have h1 := dec_four (m := m)
    have h2 := padL_len m s
    by_cases hq : m / 10 ^ s = 0
    · rw [hk, hq]; decide
    · have hp : 0 < 10 ^ s := Nat.pow_pos (by decide)
      obtain ⟨b1, b2, b3⟩ := dcl_bounds (m := m / 10 ^ s) (Nat.pos_of_ne_zero hq)
      have h5 : 10 ^ (k - 1) ≤ m := Nat.le_trans (by rw [hk]; exact b1) (Nat.div_le_self _ _)
      obtain ⟨d1, d2, d3⟩ := dcl_bounds (m := m) (Nat.lt_of_lt_of_le (Nat.pow_pos (by decide)) h5)
      have h6 : k - 1 < (decL m).length := (Nat.pow_lt_pow_iff_right (a := 10) (by decide)).1 (by omega)
      omega
  have CP : Hid (∀ W', Rn W' A c m → Calls Tryz.prog 60 #[.agg #[.bool false, .slice A (dq m) c, .int .i64 (s : Int)]] W' (TxR W' (padL m s))) := fun W' g => rplain_h g hl hs
  have HK := hide hk
  have HB := Bel.refl W
  clear hl hk
  have d0 : decide ((0 : Int) < (s : Int)) = false := decide_eq_false (by omega)
  have d1 : decide (0 < s) = false := decide_eq_false (by omega)
  have HS0 := hide h0
  clear h0
  go_enter Tryz.func15, Tryz.ntmps15
  go_wp2_with (first | (go_at_call 60; (with_reducible refine (CP.out _ (h.al _)).mono ?_); rintro e w1 ⟨u, rfl, hu, hbk⟩; have HP := At.up (at_new0 _ [.bool false, .slice A (dq m) c, .int .i64 (s : Int)] _) hbk; replace HB := (HB.al _).up hbk; have hp0 := HP.c0; have hp2 := HP.c2; have hpl := HP.lt; obtain ⟨usz, ua, ub⟩ := pad_cut hu.out HK.out; have UA := hide ua; have UB := hide ub; clear ua ub; have c1 : (0 : Int) ≤ (k : Int) := (by omega); have c2 : (k : Int) ≤ (u.size : Int) := (by omega); have c3 : (u.size : Int) - (s : Int) = (k : Int) := (by omega); have wk : IntKind.i64.wrap ((u.size : Int) - (s : Int)) = (k : Int) := (by rw [c3]; exact IntWalk.i64_in _ (by omega)); clear c3; have q1 : ¬ 9223372036854775807 < 1 + (u.extract 0 k).size := (by rw [ByteArray.size_extract]; omega)) | fail)
  go_ret
  refine ⟨_, rfl, ?_, HB.hid⟩
  unfold Hid
  simp only [ByteArray.data_append, Array.toList_append, UA.out, UB.out]
  unfold decD
  rw [if_pos HS0.out]; simp
set_option maxHeartbeats 2000000 in
theorem rdtext_pp (h : Rn W A c m) (hl : dq m ≤ 20000) (hs : s ≤ 1000) (h0 : s ≠ 0) : Calls Tryz.prog 15 #[.agg #[.bool false, .slice A (dq m) c, .int .i64 (s : Int)]] W (TxR W (decD false m s)) := by
  obtain ⟨k, hk⟩ : ∃ k, k = (decL (m / 10 ^ s)).length := ⟨_, rfl⟩
  have hk2 : k ≤ 90000 := by
    have h1 := dec_four (m := m)
    have h2 := padL_len m s
    by_cases hq : m / 10 ^ s = 0
    · rw [hk, hq]; decide
    · have hp : 0 < 10 ^ s := Nat.pow_pos (by decide)
      obtain ⟨b1, b2, b3⟩ := dcl_bounds (m := m / 10 ^ s) (Nat.pos_of_ne_zero hq)
      have h5 : 10 ^ (k - 1) ≤ m := Nat.le_trans (by rw [hk]; exact b1) (Nat.div_le_self _ _)
      obtain ⟨d1, d2, d3⟩ := dcl_bounds (m := m) (Nat.lt_of_lt_of_le (Nat.pow_pos (by decide)) h5)
      have h6 : k - 1 < (decL m).length := (Nat.pow_lt_pow_iff_right (a := 10) (by decide)).1 (by omega)
      omega
  have CP : Hid (∀ W', Rn W' A c m → Calls Tryz.prog 60 #[.agg #[.bool false, .slice A (dq m) c, .int .i64 (s : Int)]] W' (TxR W' (padL m s))) := fun W' g => rplain_h g hl hs
  have HK := hide hk
  have HB := Bel.refl W
  clear hl hk
  have d0 : decide ((0 : Int) < (s : Int)) = true := decide_eq_true (by omega)
  have d1 : decide (0 < s) = true := decide_eq_true (by omega)
  have HS0 := hide h0
  clear h0
  go_enter Tryz.func15, Tryz.ntmps15
  go_wp2_with (first | (go_at_call 60; (with_reducible refine (CP.out _ (h.al _)).mono ?_); rintro e w1 ⟨u, rfl, hu, hbk⟩; have HP := At.up (at_new0 _ [.bool false, .slice A (dq m) c, .int .i64 (s : Int)] _) hbk; replace HB := (HB.al _).up hbk; have hp0 := HP.c0; have hp2 := HP.c2; have hpl := HP.lt; obtain ⟨usz, ua, ub⟩ := pad_cut hu.out HK.out; have UA := hide ua; have UB := hide ub; clear ua ub; have c1 : (0 : Int) ≤ (k : Int) := (by omega); have c2 : (k : Int) ≤ (u.size : Int) := (by omega); have c3 : (u.size : Int) - (s : Int) = (k : Int) := (by omega); have wk : IntKind.i64.wrap ((u.size : Int) - (s : Int)) = (k : Int) := (by rw [c3]; exact IntWalk.i64_in _ (by omega)); clear c3; have q1 : ¬ 9223372036854775807 < (u.extract 0 k).size + 1 := (by rw [ByteArray.size_extract]; omega); have q2 : ¬ 9223372036854775807 < (u.extract 0 k).size + 1 + (u.extract k (k + s)).size := (by rw [ByteArray.size_extract, ByteArray.size_extract]; omega); have q3 : ¬ 9223372036854775807 < 1 + ((u.extract 0 k).size + 1 + (u.extract k (k + s)).size) := (by rw [ByteArray.size_extract, ByteArray.size_extract]; omega)) | fail)
  go_ret
  refine ⟨_, rfl, ?_, HB.hid⟩
  unfold Hid
  simp only [ByteArray.data_append, Array.toList_append, UA.out, UB.out]
  unfold decD
  rw [if_neg HS0.out]; simp
set_option maxHeartbeats 2000000 in
theorem rdtext_nz (h : Rn W A c m) (hl : dq m ≤ 20000) (hs : s ≤ 1000) (h0 : s = 0) : Calls Tryz.prog 15 #[.agg #[.bool true, .slice A (dq m) c, .int .i64 (s : Int)]] W (TxR W (decD true m s)) := by
  obtain ⟨k, hk⟩ : ∃ k, k = (decL (m / 10 ^ s)).length := ⟨_, rfl⟩
  have hk2 : k ≤ 90000 := by
    have h1 := dec_four (m := m)
    have h2 := padL_len m s
    by_cases hq : m / 10 ^ s = 0
    · rw [hk, hq]; decide
    · have hp : 0 < 10 ^ s := Nat.pow_pos (by decide)
      obtain ⟨b1, b2, b3⟩ := dcl_bounds (m := m / 10 ^ s) (Nat.pos_of_ne_zero hq)
      have h5 : 10 ^ (k - 1) ≤ m := Nat.le_trans (by rw [hk]; exact b1) (Nat.div_le_self _ _)
      obtain ⟨d1, d2, d3⟩ := dcl_bounds (m := m) (Nat.lt_of_lt_of_le (Nat.pow_pos (by decide)) h5)
      have h6 : k - 1 < (decL m).length := (Nat.pow_lt_pow_iff_right (a := 10) (by decide)).1 (by omega)
      omega
  have CP : Hid (∀ W', Rn W' A c m → Calls Tryz.prog 60 #[.agg #[.bool true, .slice A (dq m) c, .int .i64 (s : Int)]] W' (TxR W' (padL m s))) := fun W' g => rplain_h g hl hs
  have HK := hide hk
  have HB := Bel.refl W
  clear hl hk
  have d0 : decide ((0 : Int) < (s : Int)) = false := decide_eq_false (by omega)
  have d1 : decide (0 < s) = false := decide_eq_false (by omega)
  have HS0 := hide h0
  clear h0
  go_enter Tryz.func15, Tryz.ntmps15
  go_wp2_with (first | (go_at_call 60; (with_reducible refine (CP.out _ (h.al _)).mono ?_); rintro e w1 ⟨u, rfl, hu, hbk⟩; have HP := At.up (at_new0 _ [.bool true, .slice A (dq m) c, .int .i64 (s : Int)] _) hbk; replace HB := (HB.al _).up hbk; have hp0 := HP.c0; have hp2 := HP.c2; have hpl := HP.lt; obtain ⟨usz, ua, ub⟩ := pad_cut hu.out HK.out; have UA := hide ua; have UB := hide ub; clear ua ub; have c1 : (0 : Int) ≤ (k : Int) := (by omega); have c2 : (k : Int) ≤ (u.size : Int) := (by omega); have c3 : (u.size : Int) - (s : Int) = (k : Int) := (by omega); have wk : IntKind.i64.wrap ((u.size : Int) - (s : Int)) = (k : Int) := (by rw [c3]; exact IntWalk.i64_in _ (by omega)); clear c3; have q1 : ¬ 9223372036854775807 < 1 + (u.extract 0 k).size := (by rw [ByteArray.size_extract]; omega)) | fail)
  go_ret
  refine ⟨_, rfl, ?_, HB.hid⟩
  unfold Hid
  simp only [ByteArray.data_append, Array.toList_append, UA.out, UB.out]
  unfold decD
  rw [if_pos HS0.out]; simp
set_option maxHeartbeats 2000000 in
theorem rdtext_np (h : Rn W A c m) (hl : dq m ≤ 20000) (hs : s ≤ 1000) (h0 : s ≠ 0) : Calls Tryz.prog 15 #[.agg #[.bool true, .slice A (dq m) c, .int .i64 (s : Int)]] W (TxR W (decD true m s)) := by
  obtain ⟨k, hk⟩ : ∃ k, k = (decL (m / 10 ^ s)).length := ⟨_, rfl⟩
  have hk2 : k ≤ 90000 := by
    have h1 := dec_four (m := m)
    have h2 := padL_len m s
    by_cases hq : m / 10 ^ s = 0
    · rw [hk, hq]; decide
    · have hp : 0 < 10 ^ s := Nat.pow_pos (by decide)
      obtain ⟨b1, b2, b3⟩ := dcl_bounds (m := m / 10 ^ s) (Nat.pos_of_ne_zero hq)
      have h5 : 10 ^ (k - 1) ≤ m := Nat.le_trans (by rw [hk]; exact b1) (Nat.div_le_self _ _)
      obtain ⟨d1, d2, d3⟩ := dcl_bounds (m := m) (Nat.lt_of_lt_of_le (Nat.pow_pos (by decide)) h5)
      have h6 : k - 1 < (decL m).length := (Nat.pow_lt_pow_iff_right (a := 10) (by decide)).1 (by omega)
      omega
  have CP : Hid (∀ W', Rn W' A c m → Calls Tryz.prog 60 #[.agg #[.bool true, .slice A (dq m) c, .int .i64 (s : Int)]] W' (TxR W' (padL m s))) := fun W' g => rplain_h g hl hs
  have HK := hide hk
  have HB := Bel.refl W
  clear hl hk
  have d0 : decide ((0 : Int) < (s : Int)) = true := decide_eq_true (by omega)
  have d1 : decide (0 < s) = true := decide_eq_true (by omega)
  have HS0 := hide h0
  clear h0
  go_enter Tryz.func15, Tryz.ntmps15
  go_wp2_with (first | (go_at_call 60; (with_reducible refine (CP.out _ (h.al _)).mono ?_); rintro e w1 ⟨u, rfl, hu, hbk⟩; have HP := At.up (at_new0 _ [.bool true, .slice A (dq m) c, .int .i64 (s : Int)] _) hbk; replace HB := (HB.al _).up hbk; have hp0 := HP.c0; have hp2 := HP.c2; have hpl := HP.lt; obtain ⟨usz, ua, ub⟩ := pad_cut hu.out HK.out; have UA := hide ua; have UB := hide ub; clear ua ub; have c1 : (0 : Int) ≤ (k : Int) := (by omega); have c2 : (k : Int) ≤ (u.size : Int) := (by omega); have c3 : (u.size : Int) - (s : Int) = (k : Int) := (by omega); have wk : IntKind.i64.wrap ((u.size : Int) - (s : Int)) = (k : Int) := (by rw [c3]; exact IntWalk.i64_in _ (by omega)); clear c3; have q1 : ¬ 9223372036854775807 < (u.extract 0 k).size + 1 := (by rw [ByteArray.size_extract]; omega); have q2 : ¬ 9223372036854775807 < (u.extract 0 k).size + 1 + (u.extract k (k + s)).size := (by rw [ByteArray.size_extract, ByteArray.size_extract]; omega); have q3 : ¬ 9223372036854775807 < 1 + ((u.extract 0 k).size + 1 + (u.extract k (k + s)).size) := (by rw [ByteArray.size_extract, ByteArray.size_extract]; omega)) | fail)
  go_ret
  refine ⟨_, rfl, ?_, HB.hid⟩
  unfold Hid
  simp only [ByteArray.data_append, Array.toList_append, UA.out, UB.out]
  unfold decD
  rw [if_neg HS0.out]; simp
theorem rdtext_h (h : Rn W A c m) (hl : dq m ≤ 20000) (hs : s ≤ 1000) : Calls Tryz.prog 15 #[.agg #[.bool b, .slice A (dq m) c, .int .i64 (s : Int)]] W (TxR W (decD b m s)) := by
  cases hb : b
  · by_cases h0 : s = 0
    · exact rdtext_pz h hl hs h0
    · exact rdtext_pp h hl hs h0
  · by_cases h0 : s = 0
    · exact rdtext_nz h hl hs h0
    · exact rdtext_np h hl hs h0
end
end Go.Proofs.YtphnmccpcjecnaaGreatDoor
end

section
/- Statements of dec: is, dis, raw. Conditions: less than 4000 words. -/
open Go.RowKit
set_option maxRecDepth 100000
namespace Go.Proofs.YtphnmccpcjecnaaGreatDoor
/-- Is a number, told just, the document's own? -/
theorem is4_any {A A' : Option Addr} {c c' m n : Nat} {w : World} (h : Can w w.heap.size A c m) (h' : RN w w.heap.size A' c' n) (hl : dl m < 4000) (hq : dq n ≤ 100000) :
    Calls Tryz.prog 19 #[.agg #[.slice A (dl m) c], .slice A' (dq n) c'] w fun e w' => e = .returned (.bool (decide (m = n))) ∧ Below w.heap.size w w' := by
  have HX : Hid (∀ o, Rd U32 (w.alloc o) (w.alloc o).heap.size A (digs W32 m)) := fun o => ((h.below ((Below.refl _ _).alloc (Nat.le_refl _) _)).more (by simp)).2
  have HY : Hid (∀ o, RN (w.alloc o) (w.alloc o).heap.size A' c' n) := fun o => (h'.below ((Below.refl _ _).alloc (Nat.le_refl _) _)).more (by simp)
  have HA : Hid (∀ o, Below w.heap.size w (w.alloc o)) := fun o => (Below.refl _ _).alloc (Nat.le_refl _) _
  have hqm : Hid (dq m ≤ 100000) := by have := dq_words (lt_pow_digs (b := W32) (by decide) m); unfold dl at hl; unfold Hid; omega
  have HG := hide (goodB_digs m)
  have hl2 : dl m ≤ 4000 := by omega
  have CW : Hid (∀ o W, Hid (Below (w.alloc o).heap.size (w.alloc o) W) → Calls Tryz.prog 40 #[.slice A (dl m) c] W (RefPost W m)) := fun o W hb => by
    have h1 := Words_any (c := c) (show dl m = (digs W32 m).length from rfl) (((HX.out o).below hb.out).more hb.out.size) (good_digs m) hl2
    rw [val_digs32] at h1
    exact h1
  clear h h'
  go_enter Tryz.func19, Tryz.ntmps19
  go_wp2_with (first | (go_at_call 62; go_must (refine (Good_any (show dl m = (digs W32 m).length from rfl) (HX.out _) (by omega)).mono ?_); rintro e w1 ⟨rfl, hb1⟩; have HB1 := hide hb1; have hg1 := HG.out; have hc1 : w1.cell? ⟨w.heap.size, 0, none⟩ = some (.slice A (dl m) c) := (hb1.cell (by simp)).trans (one_cell (heap_alloc_new w _)).1; clear hb1) | (go_at_call 40; go_must (refine (CW.out _ _ HB1).mono ?_); rintro e w2 ⟨A2, c2, rfl, hr2, hb2⟩) | (go_at_call 63; go_must (refine (rCmp_any hr2.out (((HY.out _).below HB1.out).below (hb2.out.mono HB1.out.size) |>.more (Nat.le_trans HB1.out.size hb2.out.size)) (Nat.le_trans hqm.out (by omega)) (by omega)).mono ?_); rintro e w3 ⟨rfl, q, rfl⟩))
  go_ret
  refine ⟨bool_ret ?_, below_drewN (((HA.out _).trans (HB1.out.mono (by simp))).trans (hb2.out.mono (Nat.le_trans (by simp) HB1.out.size))) q⟩
  exact cmpI_beq m n

theorem is4_same {W : World} {A A' : Option Addr} {c c' m : Nat} (h : Nm W A (dl m) c m) (h' : Hid (RN W W.heap.size A' c' m)) (hl : dl m < 4000) : Calls Tryz.prog 19 #[.agg #[.slice A (dl m) c], .slice A' (dq m) c'] W (BoolR W true) := by
  have hq : dq m ≤ 100000 := by have := dq_words (lt_pow_digs (b := W32) (by decide) m); unfold dl at hl; omega
  refine (is4_any (h.out.digs).1 h'.out hl hq).mono fun e w' ⟨he, hb⟩ => ⟨by rw [he, decide_eq_true rfl], hb⟩

/-- A write over a nought behind which the block ends: no number of the document's own is there. -/
theorem RN.setZ {W : World} {B : Nat} {A : Option Addr} {c m p : Nat} (h : RN W B A c m) (h2 : W.cell? ⟨p, 2, none⟩ = some (.int .i64 0)) (h3 : W.cell? ⟨p, 3, none⟩ = none) (u : Value) : RN (W.setCell ⟨p, 2, none⟩ u) B A c m := by
  refine ⟨h.1, fun hn => ?_⟩
  obtain ⟨ad, e, hb, hx⟩ := h.2 hn
  refine ⟨ad, e, hb, fun j x hj => ?_⟩
  have h6 := hx j x hj
  refine (World.cell?_setCell_other W ⟨p, 2, none⟩ _ u (fun e2 => ?_)).trans h6
  rw [← e2, h2] at h6
  injection h6 with h6
  have hx0 : x = 0 := by
    unfold I64 at h6
    injection h6 with _ h7
    omega
  subst hx0
  have hlt : j < (digs D4 m).length := by
    rcases Nat.lt_or_ge j (digs D4 m).length with h | h
    · exact h
    · rw [List.getElem?_eq_none h] at hj; cases hj
  rcases Nat.lt_or_ge (j + 1) (digs D4 m).length with h8 | h8
  · have h9 := hx (j + 1) _ (List.getElem?_eq_getElem h8)
    have e3 : ad.add (j + 1) = ⟨p, 3, none⟩ := by
      obtain ⟨g, o, r⟩ := ad
      simp only [Addr.add, if_neg (Nat.succ_ne_zero j)] at e2 ⊢
      by_cases hj0 : j = 0
      · rw [if_pos hj0] at e2
        injection e2 with q1 q2 q3
        subst q1; subst hj0; subst q2
        rfl
      · rw [if_neg hj0] at e2
        injection e2 with q1 q2 q3
        subst q1
        congr 1
        omega
    rw [e3, h3] at h9
    cases h9
  · refine digs_last (b := D4) (by decide) m 0 ?_ rfl
    rw [List.getLast?_eq_getElem?, show (digs D4 m).length - 1 = j by omega]
    exact hj
theorem end_new (W : World) (v0 v1 v2 : Value) (t : TypeId) : (W.alloc (.cells #[v0, v1, v2] t)).cell? ⟨W.heap.size, 3, none⟩ = none := by
  have h : (W.alloc (.cells #[v0, v1, v2] t)).heap[W.heap.size]? = some (.cells #[v0, v1, v2] t (0, 0)) := heap_alloc_new W _
  rw [cell_of_row _ _ 3 _ t (0, 0) h]
  rfl
theorem end_up {W w1 : World} {o : Obj} {v0 v1 v2 : Value} {t : TypeId} (hbk : Hid (Below ((W.alloc o).alloc (.cells #[v0, v1, v2] t)).heap.size ((W.alloc o).alloc (.cells #[v0, v1, v2] t)) w1)) : w1.cell? ⟨W.heap.size + 1, 3, none⟩ = none := by
  have e : (W.alloc o).heap.size = W.heap.size + 1 := by simp
  have h9 := end_new (W.alloc o) v0 v1 v2 t
  rw [e] at h9
  exact (hbk.out.cell (by show W.heap.size + 1 < _; simp)).trans h9
section
variable {W : World} {b b' : Bool} {A A' : Option Addr} {n c c' m s : Nat}
end
end Go.Proofs.YtphnmccpcjecnaaGreatDoor
end

section
/- Parted from Di: by function. -/
open Go.RowKit
set_option maxRecDepth 100000
namespace Go.Proofs.YtphnmccpcjecnaaGreatDoor
section
variable {W : World} {b b' : Bool} {A A' : Option Addr} {n c c' m s : Nat}
set_option maxHeartbeats 2000000 in
theorem dis_h (h : DX W b A (dl m) c m s) (h' : Rn W A' c' m) (hl : dl m < 4000) : Calls Tryz.prog 9 #[.agg #[.bool b, .slice A (dl m) c, .int .i64 (s : Int)], .agg #[.bool b, .slice A' (dq m) c', .int .i64 (s : Int)]] W (RetB W true) := by
  have CG : Hid (∀ W', Bel W W' → Calls Tryz.prog 38 #[.agg #[.bool b, .slice A (dl m) c, .int .i64 (s : Int)]] W' (RetB W' true)) := h.gd
  have CI : Hid (∀ W', Bel W W' → Calls Tryz.prog 19 #[.agg #[.slice A (dl m) c], .slice A' (dq m) c'] W' (BoolR W' true)) := fun W' hb => is4_same (h.nm.up hb) (h'.up hb) hl
  clear h h' hl
  have HB := Bel.refl W
  cases b
  all_goals
    go_enter Tryz.func9, Tryz.ntmps9
    go_wp2_with (first | (go_at_call 38; (with_reducible refine (CG.out _ ((HB.al _).al _)).mono ?_); rintro e w1 ⟨rfl, hbk⟩; replace hbk := Bel.hid hbk; have HA := At.up ((at_new0 _ _ _).al _) hbk; have HE := At.up (at_new1 _ _ _ _) hbk; replace HB := ((HB.al _).al _).up hbk; have ha_0 := HA.c0; have ha_1 := HA.c1; have ha_2 := HA.c2; have ha_l := HA.lt; have he_0 := HE.c0; have he_1 := HE.c1; have he_2 := HE.c2; have he_l := HE.lt) | (go_at_call 19; (with_reducible refine (CI.out _ HB).mono ?_); rintro e w2 ⟨rfl, hbk⟩; replace HB := HB.up hbk) | fail)
    go_ret
    exact ⟨rfl, HB⟩
/-- What raw returns of a valid numeral. -/
def RDR (W : World) (b : Bool) (m s : Nat) (e : Ending) (w' : World) : Prop := ∃ A c, e = .returned (.agg #[.bool b, .slice A (dq m) c, .int .i64 (s : Int)]) ∧ Rn w' A c m ∧ Hid (Below W.heap.size W w')
set_option maxHeartbeats 4000000 in
theorem raw_h (h : DX W b A n c m s) (hl : n ≤ 4000) : Calls Tryz.prog 10 #[.agg #[.bool b, .slice A n c, .int .i64 (s : Int)]] W (RDR W b m s) := by
  have CG : Hid (∀ W', Bel W W' → Calls Tryz.prog 38 #[.agg #[.bool b, .slice A n c, .int .i64 (s : Int)]] W' (RetB W' true)) := h.gd
  have CW : Hid (∀ W', Bel W W' → Calls Tryz.prog 40 #[.slice A n c] W' (RefPost W' m)) := fun W' hb => by
    obtain ⟨ws, h1, h2, h3, hr, hg, hv⟩ := (h.nm.up hb).out
    have h4 := Words_any (c := c) h1 hr hg hl
    rwa [hv] at h4
  clear h hl
  have HB := Bel.refl W
  go_enter Tryz.func10, Tryz.ntmps10
  go_wp2_with (first | (go_at_call 38; (with_reducible refine (CG.out _ ((HB.al _).al _)).mono ?_); rintro e w1 ⟨rfl, hbk⟩; replace hbk := Bel.hid hbk; have HA := At.up ((at_new0 _ _ _).al _) hbk; have HR := At.up (at_new1 _ _ _ _) hbk; have HZ : w1.cell? ⟨W.heap.size + 1, 3, none⟩ = none := end_up hbk; replace HB := ((HB.al _).al _).up hbk; have hlr := HR.lt) | fail)
  go_region_held3 (fun w' => w'.cell? ⟨W.heap.size, 0, none⟩ = some (.bool b) ∧ w'.cell? ⟨W.heap.size, 1, none⟩ = some (.slice A n c) ∧ w'.cell? ⟨W.heap.size, 2, none⟩ = some (.int .i64 (s : Int)))
    (refine ⟨(?_ : At _ W.heap.size [.bool b, .slice A n c, .int .i64 (s : Int)]).c0, (?_ : At _ W.heap.size [.bool b, .slice A n c, .int .i64 (s : Int)]).c1, (?_ : At _ W.heap.size [.bool b, .slice A n c, .int .i64 (s : Int)]).c2⟩ <;> (repeat (first | with_reducible exact HA | (with_reducible refine At.dr ?_) | (with_reducible refine At.al ?_ _) | (with_reducible refine At.far3 ?_ (by omega) _ _ _) | (with_reducible refine At.far ?_ (by omega) _))))
    (first | (go_at_call 40; (with_reducible refine (CW.out _ HB.dr).mono ?_); rintro e w2 ⟨B, e2, rfl, rn, hbk⟩; (with_reducible (replace HB := HB.dr.up hbk; replace HA := HA.dr.up hbk)); replace HZ : w2.cell? ⟨W.heap.size + 1, 3, none⟩ = none := (hbk.out.cell (by simpa using HR.lt)).trans HZ; (with_reducible replace HR := HR.dr.up hbk); have hla := HR.lt; have hr_0 := HR.c0; have hr_1 := HR.c1; have hr_2 := HR.c2; have hr_f0 := HR.f0; have hr_f1 := HR.f1; have hr_f2 := HR.f2) | fail)
  go_wp2_with fail
  refine bodyPost_ret (v := .agg #[.bool b, .slice B (dq m) e2, .int .i64 (s : Int)]) (by simp [results, Tryz.results10, go_sem, hr_0, hr_1, hr_2]) rfl ?_
  refine ⟨B, e2, rfl, ?_, below3 HB (by omega) _ _ _⟩
  have r0 := RN.setn rn.out hr_0 (by intro x h; cases h) (.bool b)
  have r1 := RN.setn r0 ((World.cell?_setCell_other _ _ _ _ (by intro e; cases e)).trans hr_1) (by intro x h; cases h) (.slice B (dq m) e2)
  have r2 := RN.setZ r1 ((World.cell?_setCell_other _ _ _ _ (by intro e; cases e)).trans ((World.cell?_setCell_other _ _ _ _ (by intro e; cases e)).trans hr_2)) ((World.cell?_setCell_other _ _ _ _ (by intro e; cases e)).trans ((World.cell?_setCell_other _ _ _ _ (by intro e; cases e)).trans HZ)) (.int .i64 (s : Int))
  unfold Rn
  refine RN.more r2 ?_
  simp [World.setCell]
end
end Go.Proofs.YtphnmccpcjecnaaGreatDoor
end

section
/- The document's own numerals: DShort. Conditions: numbers of at most 20000 of its words, scales of at most 1000. -/
open Go.RowKit
set_option maxRecDepth 100000
namespace Go.Proofs.YtphnmccpcjecnaaGreatDoor
theorem short_uni {m s i v : Nat} (h : v * 10 ^ i = m) (hi : i ≤ s) (he : i = s ∨ v % 10 ≠ 0) : i = s - shortS m s := by
  have hS := short_le m s
  have h1 := short_dvd m s
  rcases Nat.lt_trichotomy i (s - shortS m s) with g | g | g
  · rcases he with he | he
    · omega
    · exfalso
      have h2 : 10 ^ (i + 1) ∣ m := Nat.dvd_trans (Nat.pow_dvd_pow 10 (by omega)) h1
      rw [← h, Nat.pow_succ, Nat.mul_comm (10 ^ i) 10] at h2
      have h3 : 10 ∣ v := Nat.dvd_of_mul_dvd_mul_right (Nat.pow_pos (by decide)) h2
      omega
  · exact g
  · exfalso
    refine short_ndvd (m := m) (s := s) (by omega) ?_
    refine Nat.dvd_trans (Nat.pow_dvd_pow 10 (show s - shortS m s + 1 ≤ i by omega)) ?_
    rw [← h]; exact Nat.dvd_mul_left _ _
theorem RN.set0 {w : World} {B : Nat} {A : Option Addr} {c m g i : Nat} (h : RN w B A c m) (hg : 0 < dq m → ∀ ad, A = some ad → ad.block ≠ g) (u : Value) : RN (w.setCell ⟨g, i, none⟩ u) B A c m := by
  by_cases h0 : 0 < dq m
  · exact RN.set h (hg h0) u
  · have e : m = 0 := (digs_len_pos (b := D4) (n := m) (by decide)).1 (by unfold dq at h0; omega)
    subst e
    exact rn_nil _ _ _ _
theorem Rn.set0 {W : World} {A : Option Addr} {c m g i : Nat} (h : Rn W A c m) (hg : 0 < dq m → ∀ ad, A = some ad → ad.block ≠ g) (u : Value) : Rn (W.setCell ⟨g, i, none⟩ u) A c m := by
  have h1 := RN.set0 h hg (i := i) u
  have e : (W.setCell ⟨g, i, none⟩ u).heap.size = W.heap.size := by simp [World.setCell]
  unfold Rn
  rw [e]; exact h1
theorem Rn.set3 {W : World} {A : Option Addr} {c m g : Nat} (h : Rn W A c m) (hg : 0 < dq m → ∀ ad, A = some ad → ad.block ≠ g) (x y z : Value) : Rn (((W.setCell ⟨g, 0, none⟩ x).setCell ⟨g, 1, none⟩ y).setCell ⟨g, 2, none⟩ z) A c m := ((h.set0 hg x).set0 hg y).set0 hg z
theorem Rn.below {W : World} {A : Option Addr} {c m : Nat} (h : Rn W A c m) : 0 < dq m → ∀ ad, A = some ad → ad.block < W.heap.size := fun h0 ad e => by
  obtain ⟨ad', e', hb, _⟩ := h.2 h0
  rw [e] at e'
  injection e' with e'
  rw [e']; exact hb
section
variable {W : World} {b : Bool} {A : Option Addr} {c m s : Nat}
set_option maxHeartbeats 8000000 in
theorem rdshort_h (h : Rn W A c m) (hl : dq m ≤ 20000) (hs : s ≤ 1000) (hb0 : b = true → m ≠ 0) : Calls Tryz.prog 25 #[.agg #[.bool b, .slice A (dq m) c, .int .i64 (s : Int)]] W (RDR W b (m / 10 ^ (s - shortS m s)) (shortS m s)) := by
  have CO : Hid (∀ W', Calls Tryz.prog 42 #[.int .u64 10] W' (RefPost W' 10)) := fun W' => Small_any (n := 10) (w := W') (by decide)
  have CD : Hid (∀ W' B e C d v, v ≤ m → Rn W' B e v → Rn W' C d 10 → Calls Tryz.prog 64 #[.slice B (dq v) e, .slice C (dq 10) d] W' (RDivF W' (v / 10) (v % 10))) := fun W' B e C d v hv h1 h2 =>
    rDivF_any h1 h2 (by have := dq_mono hv; omega) (by decide +kernel) (by decide)
  have HU : Hid (∀ i v, v * 10 ^ i = m → i ≤ s → (i = s ∨ v % 10 ≠ 0) → v = m / 10 ^ (s - shortS m s) ∧ s - i = shortS m s) := fun i v h1 h2 h3 => by
    have h4 := short_uni h1 h2 h3
    have h5 := short_le m s
    refine ⟨?_, by omega⟩
    rw [← h4, ← h1, Nat.mul_div_cancel _ (Nat.pow_pos (by decide))]
  have HB0 := hide hb0
  have HFA := hide (Rn.below h)
  obtain ⟨vv, hvv⟩ : ∃ x, x = m / 10 ^ (s - shortS m s) := ⟨_, rfl⟩
  obtain ⟨jj, hjj⟩ : ∃ x, x = shortS m s := ⟨_, rfl⟩
  rw [← hvv, ← hjj] at HU ⊢
  have HB := Bel.refl W
  clear hl hb0 hvv hjj
  go_enter Tryz.func25, Tryz.ntmps25
  go_wp2_with fail
  obtain ⟨W1, hW1⟩ : ∃ X, X = (W.alloc (.cells #[.bool b, .slice A (dq m) c, .int .i64 (s : Int)] 39)).alloc (.cells #[.bool false, .slice none 0 0, .int .i64 0] 39) := ⟨_, rfl⟩
  rw [← hW1]
  have HP : At W1 W.heap.size [.bool b, .slice A (dq m) c, .int .i64 (s : Int)] := by rw [hW1]; exact (at_new0 _ _ _).al _
  have HR : At W1 (W.heap.size + 1) [.bool false, .slice none 0 0, .int .i64 0] := by rw [hW1]; exact at_new1 _ _ _ _
  replace HB : Bel W W1 := by rw [hW1]; exact (HB.al _).al _
  replace h : Rn W1 A c m := by rw [hW1]; exact (h.al _).al _
  clear hW1
  obtain ⟨p, hp⟩ : ∃ p, p = W.heap.size := ⟨_, rfl⟩
  have HPS := hide hp
  rw [← hp] at HP HR HFA ⊢
  clear hp
  go_loopw [3] (fun _ wr => ∃ (i j v : Nat) (B : Option Addr) (e : Nat), i + j = s ∧ v * 10 ^ i = m ∧ At wr p [.bool b, .slice B (dq v) e, .int .i64 (j : Int)] ∧ At wr (p + 1) [.bool false, .slice none 0 0, .int .i64 0] ∧ Rn wr B e v ∧ Hid (0 < dq v → ∀ ad, B = some ad → ad.block ≠ p ∧ ad.block ≠ p + 1) ∧ Bel W wr) (fun _ wr => match wr.cell? ⟨p, 2, none⟩ with | some (.int _ x) => x.toNat | _ => 0)
  case atStart => exact ⟨0, s, m, A, c, by omega, by simp, HP, HR, h, fun h0 ad e => (by have := HFA.out h0 ad e; omega), HB⟩
  case round =>
    obtain ⟨i, j, v, B, e, hij, hv, HP, HR, hn, hfar, HB⟩ := hrel
    have hp0 := HP.c0
    have hp1 := HP.c1
    have hp2 := HP.c2
    have hpl := HP.lt
    have HCW := hide hp2
    have hvm : v ≤ m := by rw [← hv]; exact Nat.le_mul_of_pos_right _ (Nat.pow_pos (by decide))
    by_cases hj : j = 0
    · have HV : Hid (v = vv ∧ j = jj) := by
        obtain ⟨h1, h2⟩ := HU.out i v hv (by omega) (.inl (by omega))
        exact ⟨h1, by omega⟩
      have dj : decide ((0 : Int) < (j : Int)) = false := decide_eq_false (by omega)
      have dj2 : decide (0 < j) = false := decide_eq_false (by omega)
      clear hj
      have hr_0 := HR.c0
      have hr_1 := HR.c1
      have hr_2 := HR.c2
      have hr_l := HR.lt
      have hr_f0 := HR.f0
      have hr_f1 := HR.f1
      have hr_f2 := HR.f2
      go_wp2_with fail
      refine bodyPost_ret (v := .agg #[.bool b, .slice B (dq v) e, .int .i64 (j : Int)]) (by simp [results, Tryz.results25, go_sem, hr_0, hr_1, hr_2]) rfl ?_
      obtain ⟨rfl, rfl⟩ := HV.out
      exact ⟨B, e, rfl, hn.set3 (fun h0 ad e2 => (hfar.out h0 ad e2).2) _ _ _, (below3 HB (by have := HPS.out; omega) _ _ _)⟩
    · have dj : decide ((0 : Int) < (j : Int)) = true := decide_eq_true (by omega)
      have dj2 : decide (0 < j) = true := decide_eq_true (by omega)
      have hj0 : 0 < j := by omega
      obtain ⟨q, hq⟩ : ∃ q, q = v / 10 := ⟨_, rfl⟩
      obtain ⟨r, hr⟩ : ∃ r, r = v % 10 := ⟨_, rfl⟩
      have CD2 : Hid (∀ W' C d, Rn W' B e v → Rn W' C d 10 → Calls Tryz.prog 64 #[.slice B (dq v) e, .slice C (dq 10) d] W' (RDivF W' q r)) := fun W' C d h1 h2 => by rw [hq, hr]; exact CD.out W' B e C d v hvm h1 h2
      have w1' : IntKind.i64.wrap ((j : Int) - 1) = ((j - 1 : Nat) : Int) := by rw [show (j : Int) - 1 = ((j - 1 : Nat) : Int) by omega]; exact IntWalk.i64_in _ (by omega)
      obtain ⟨j1, hj1⟩ : ∃ j1, j1 = j - 1 := ⟨_, rfl⟩
      rw [← hj1] at w1'
      have HQE := hide hq
      have HRE := hide hr
      have HJ1 := hide hj1
      clear hj hq hr hj1
      go_wp2_with fail
      go_region_held3 (fun w' => w'.cell? ⟨p, 0, none⟩ = some (.bool b) ∧ w'.cell? ⟨p, 1, none⟩ = some (.slice B (dq v) e) ∧ w'.cell? ⟨p, 2, none⟩ = some (.int .i64 (j : Int)))
        (refine ⟨(?_ : At _ p [.bool b, .slice B (dq v) e, .int .i64 (j : Int)]).c0, (?_ : At _ p [.bool b, .slice B (dq v) e, .int .i64 (j : Int)]).c1, (?_ : At _ p [.bool b, .slice B (dq v) e, .int .i64 (j : Int)]).c2⟩ <;> (repeat (first | with_reducible exact HP | (with_reducible refine At.dr ?_) | (with_reducible refine At.al ?_ _) | (with_reducible refine At.far ?_ (by omega) _))))
        (first
          | (go_at_call 42; (with_reducible refine (CO.out _).mono ?_); rintro e' w1 ⟨C, d, rfl, nc, hbk⟩; (with_reducible (replace HB := HB.dr.up hbk; replace HP := HP.dr.up hbk; replace HR := HR.dr.up hbk; replace hn := hn.dr.up hbk)))
          | (go_at_call 64; (with_reducible refine (CD2.out _ _ _ hn (Rn.of nc)).mono ?_); rintro e' w2 ⟨X, x, Y, y, rfl, hfx, nq, nr, hbk⟩; have HL1 := hide HP.lt; have HL2 := hide HR.lt; (with_reducible (replace HB := HB.up hbk; replace HP := HP.up hbk; replace HR := HR.up hbk; replace hn := hn.up hbk)))
          | fail)
      by_cases hr0 : r = 0
      · subst hr0
        have e0 : dq 0 = 0 := dq_zero
        rw [e0]
        have hfq : Hid (0 < dq q → ∀ ad, X = some ad → ad.block ≠ p ∧ ad.block ≠ p + 1) := fun _ ad e => by
          have h1 := hfx ad e
          have h2 := HL1.out
          have h3 := HL2.out
          omega
        have HVQ : Hid (q * 10 ^ (i + 1) = m) := by
          have h1 : q * 10 = v := by have g1 := HQE.out; have g2 := HRE.out; omega
          rw [Nat.pow_succ, Nat.mul_comm (10 ^ i) 10, ← Nat.mul_assoc, h1]; exact hv
        have HBQ : Hid (b = true → 0 < dq q) := fun h1 => by
          rcases Nat.eq_zero_or_pos (dq q) with h0 | h0
          · exfalso
            have h2 : q = 0 := (digs_len_pos (b := D4) (n := q) (by decide)).1 h0
            have h3 := HVQ.out
            rw [h2, Nat.zero_mul] at h3
            exact HB0.out h1 h3.symm
          · exact h0
        clear hfx hfar
        have hp0 := HP.c0
        have hp1 := HP.c1
        have hp2 := HP.c2
        have hpl := HP.lt
        have hpf0 := HP.f0
        have hpf1 := HP.f1
        have hpf2 := HP.f2
        obtain ⟨nq1, hnq1⟩ : ∃ n, n = dq q := ⟨_, rfl⟩
        rw [← hnq1] at HBQ hfq ⊢
        have HNQ := hide hnq1
        clear hnq1
        cases b
        · go_wp2_with fail
          go_roundw
          case rel =>
            refine ⟨i + 1, j1, q, X, x, by have g1 := HJ1.out; omega, HVQ.out, by rw [← HNQ.out]; exact HP.put3 _ _ _, HR.far3 (by omega) _ _ _, (Rn.of nq).set3 (fun h0 ad e2 => (hfq.out (by rw [HNQ.out]; exact h0) ad e2).1) _ _ _, by rw [← HNQ.out]; exact hfq, below3 HB (by have := HPS.out; omega) _ _ _⟩
          case measure =>
            rw [(HP.put3 _ _ _).c2, HCW.out]
            show (j1 : Int).toNat < (j : Int).toNat
            have g1 := HJ1.out
            omega
        · have hq1 := HBQ.out rfl
          have dq1 : decide ((0 : Int) < (nq1 : Int)) = true := decide_eq_true (by omega)
          have dq2 : decide (0 < nq1) = true := decide_eq_true (by omega)
          go_wp2_with fail
          go_roundw
          case rel =>
            try rw [show ∀ inst : Decidable (0 < nq1), @decide _ inst = true from fun _ => decide_eq_true hq1]
            refine ⟨i + 1, j1, q, X, x, by have g1 := HJ1.out; omega, HVQ.out, by rw [← HNQ.out]; exact HP.put3 _ _ _, HR.far3 (by omega) _ _ _, (Rn.of nq).set3 (fun h0 ad e2 => (hfq.out (by rw [HNQ.out]; exact h0) ad e2).1) _ _ _, by rw [← HNQ.out]; exact hfq, below3 HB (by have := HPS.out; omega) _ _ _⟩
          case measure =>
            rw [(HP.put3 _ _ _).c2, HCW.out]
            show (j1 : Int).toNat < (j : Int).toNat
            have g1 := HJ1.out
            omega
      · have HV : Hid (v = vv ∧ j = jj) := by
          obtain ⟨h1, h2⟩ := HU.out i v hv (by omega) (.inr (by have g2 := HRE.out; omega))
          exact ⟨h1, by omega⟩
        have hr1 : 0 < dq r := Nat.pos_of_ne_zero (fun h0 => hr0 ((digs_len_pos (b := D4) (n := r) (by decide)).1 h0))
        obtain ⟨rn, hrn⟩ : ∃ n, n = dq r := ⟨_, rfl⟩
        rw [← hrn] at hr1 ⊢
        have dr1 : decide ((0 : Int) < (rn : Int)) = true := decide_eq_true (by omega)
        clear hfx hr0
        have hp0 := HP.c0
        have hp1 := HP.c1
        have hp2 := HP.c2
        have hpl := HP.lt
        have hr_0 := HR.c0
        have hr_1 := HR.c1
        have hr_2 := HR.c2
        have hr_l := HR.lt
        have hr_f0 := HR.f0
        have hr_f1 := HR.f1
        have hr_f2 := HR.f2
        go_wp2_with fail
        refine bodyPost_ret (v := .agg #[.bool b, .slice B (dq v) e, .int .i64 (j : Int)]) (by simp [results, Tryz.results25, go_sem, hr_0, hr_1, hr_2]) rfl ?_
        obtain ⟨rfl, rfl⟩ := HV.out
        exact ⟨B, e, rfl, hn.set3 (fun h0 ad e2 => (hfar.out h0 ad e2).2) _ _ _, (below3 HB (by have := HPS.out; omega) _ _ _)⟩
end
end Go.Proofs.YtphnmccpcjecnaaGreatDoor
end

section
/- The document's own fractions: QAdd, QMul of fractions in lowest terms, QFloor, QCmp. Conditions: terms of at most 1000 words. -/
open Go.RowKit
set_option maxRecDepth 100000
namespace Go.Proofs.YtphnmccpcjecnaaGreatDoor
section
variable {W : World} {b b' s : Bool} {A A' B B' : Option Addr} {c c' e e' d K : Nat} {z v : Int} {r r' : Rat}
theorem dq_bw {m k : Nat} (h : m < W32 ^ k) (hk : k ≤ 33000) : dq m ≤ 99999 := Nat.le_trans (dq_words h) (by omega)
theorem bd_q (h : Bd r K) (hK : K ≤ 1000) : dq r.num.natAbs ≤ 4000 ∧ dq r.den ≤ 4000 := ⟨Nat.le_trans (dq_words h.1) (by omega), Nat.le_trans (dq_words h.2) (by omega)⟩
theorem rqadd_c (hb : Bd r K) (hb' : Bd r' K) (hK : K ≤ 1000) (h : Rz W b A c r.num) (h' : Rn W A' c' r.den) (k : Rz W b' B e r'.num) (k' : Rn W B' e' r'.den) :
    Calls Tryz.prog 81 #[.agg #[.bool b, .slice A (dq r.num.natAbs) c, .slice A' (dq r.den) c'], .agg #[.bool b', .slice B (dq r'.num.natAbs) e, .slice B' (dq r'.den) e']] W (RQm W (decide ((r + r').num < 0)) (r + r').num (r + r').den) := by
  have q := bd_q hb hK
  have q' := bd_q hb' hK
  have t := tt_add hb.tt hb'.tt
  exact rqadd_h h h' k k' r.den_pos r'.den_pos q.1 q.2 q'.1 q'.2 (dq_bw (bd_zmul hb.1 hb'.2) (by omega)) (dq_bw (bd_zmul hb'.1 hb.2) (by omega)) (dq_bw t.2.2.1 (by omega)) (dq_bw t.2.2.2 (by omega)) t.2.1
theorem rqmul_c (hb : Bd r K) (hb' : Bd r' K) (hK : K ≤ 1000) (h : Rz W b A c r.num) (h' : Rn W A' c' r.den) (k : Rz W b' B e r'.num) (k' : Rn W B' e' r'.den) :
    Calls Tryz.prog 52 #[.agg #[.bool b, .slice A (dq r.num.natAbs) c, .slice A' (dq r.den) c'], .agg #[.bool b', .slice B (dq r'.num.natAbs) e, .slice B' (dq r'.den) e']] W (RQm W (decide ((r * r').num < 0)) (r * r').num (r * r').den) := by
  have q := bd_q hb hK
  have q' := bd_q hb' hK
  have t := tt_mul hb.tt hb'.tt
  exact rqmul_h h h' k k' r.den_pos r'.den_pos q.1 q.2 q'.1 q'.2 (dq_bw t.2.2.1 (by omega)) (dq_bw t.2.2.2 (by omega)) t.2.1
theorem rqneg_c (h : Rz W b A c r.num) (h' : Rn W A' c' r.den) (hs : s = decide ((-r).num < 0)) :
    Calls Tryz.prog 82 #[.agg #[.bool b, .slice A (dq r.num.natAbs) c, .slice A' (dq r.den) c']] W (RQm W s (-r).num (-r).den) := rqneg_h h h' hs (Rat.neg_num r)
set_option maxHeartbeats 4000000 in
theorem rqfloor_h (h : Rz W b A c z) (h' : Rn W A' c' d) (h0 : 0 < d) (hl : dq z.natAbs ≤ 4000) (hl' : dq d ≤ 4000) (hv : z / (d : Int) = v) (hs : s = decide (v < 0)) :
    Calls Tryz.prog 77 #[.agg #[.bool b, .slice A (dq z.natAbs) c, .slice A' (dq d) c']] W (RZv W s v) := by
  obtain ⟨u, hu⟩ : ∃ u, u = (z % (d : Int)).natAbs := ⟨_, rfl⟩
  have CD : Hid (∀ W', Bel W W' → Calls Tryz.prog 128 #[.agg #[.bool b, .slice A (dq z.natAbs) c], .agg #[.bool false, .slice A' (dq d) c']] W' (RzD W' s v.natAbs u)) := fun W' hb => by
    rw [hu]
    exact rzdiv_h (b' := false) (z' := (d : Int)) (h.up hb.hid) ⟨h'.up hb.hid, (decide_eq_false (by omega)).symm⟩ (by omega) (by omega) (by rw [Int.natAbs_natCast]; omega) hv rfl hs
  have HS := hide hs
  clear h h' h0 hl hl' hv hs hu
  have HB := Bel.refl W
  go_enter Tryz.func77, Tryz.ntmps77
  go_upto_region 2 with (first | (go_at_call 128; (with_reducible refine (CD.out _ ((HB.al _).al _)).mono ?_); rintro e w1 ⟨B, e1, B', e2, rfl, nz, nr, hbk⟩; (with_reducible (have HR : At w1 (W.heap.size + 1) [.bool false, .slice none 0 0] := At.up (at_new1 _ _ _ _) hbk; replace HB := ((HB.al _).al _).up hbk))) | fail)
  obtain ⟨W2, hW2⟩ : ∃ X, X = (w1.alloc (.cells #[.bool s, .slice B (dq v.natAbs) e1] 49)).alloc (.cells #[.bool false, .slice B' (dq u) e2] 49) := ⟨_, rfl⟩
  rw [← hW2]
  have HQ : At W2 w1.heap.size [.bool s, .slice B (dq v.natAbs) e1] := by rw [hW2]; exact (at_new0 _ _ _).al _
  replace HR : At W2 (W.heap.size + 1) [.bool false, .slice none 0 0] := by rw [hW2]; exact (HR.al _).al _
  replace HB : Bel W W2 := by rw [hW2]; exact (HB.al _).al _
  replace nz : Rn W2 B e1 v.natAbs := by rw [hW2]; exact (nz.al _).al _
  clear hW2
  have hr_0 := HR.c0
  have hr_1 := HR.c1
  have hr_l := HR.lt
  have hr_f0 := HR.f0
  have hr_f1 := HR.f1
  have hq_0 := HQ.c0
  have hq_1 := HQ.c1
  have hq_l := HQ.lt
  go_wp2_with fail
  refine bodyPost_ret (v := .agg #[.bool s, .slice B (dq v.natAbs) e1]) (by simp [results, Tryz.results77, go_sem, hr_0, hr_1]) rfl ?_
  obtain ⟨_, g1, g2⟩ := rn_two HR nz HB (by omega) s (dq v.natAbs)
  exact ⟨B, e1, rfl, ⟨g1, HS⟩, g2⟩
end
end Go.Proofs.YtphnmccpcjecnaaGreatDoor
end
