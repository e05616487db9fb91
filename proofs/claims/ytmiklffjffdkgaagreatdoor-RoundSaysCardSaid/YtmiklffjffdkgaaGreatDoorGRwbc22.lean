/- Several texts in one, each with its own sentence and conditions. -/
import Derived.Test.YtmiklffjffdkgaaGreatDoorGRwbc20
import Derived.Deep.RegionHeld3
import Derived.Test.YtmiklffjffdkgaaGreatDoorDc
import Derived.Test.YtmiklffjffdkgaaGreatDoorGRwbc13
import Derived.Test.YtmiklffjffdkgaaGreatDoorRtd
import Derived.Deep.Cut
section
/- Package dec: Part. Conditions: numbers of at most 99999 words. -/
open Go.RowKit
set_option maxRecDepth 100000
namespace Go.Proofs.YtmiklffjffdkgaaGreatDoor
section
variable {W : World} {b b0 : Bool} {A A0 : Option Addr} {n c m s n0 c0 : Nat} {s0 : Int}
set_option maxHeartbeats 4000000 in
theorem part_h (h : DY W (.agg #[.bool b0, .slice A0 n0 c0, .int .i64 s0]) b A n c m s) (hd : dl m ≤ 99999) : Calls Tryz.prog 60 #[.agg #[.bool b0, .slice A0 n0 c0, .int .i64 s0]] W (TxR W (partL m s)) := by
  obtain ⟨p, hp⟩ : ∃ p, p = 10 ^ s := ⟨_, rfl⟩
  obtain ⟨q, hq⟩ : ∃ q, q = m / p := ⟨_, rfl⟩
  obtain ⟨r, hr⟩ : ∃ r, r = m % p := ⟨_, rfl⟩
  obtain ⟨x, hx⟩ : ∃ x, x = p + r := ⟨_, rfl⟩
  obtain ⟨hl1, hl2, hl3, hl4⟩ := part_facts m s
  have p0 : 0 < p := by rw [hp]; exact Nat.pow_pos (by decide)
  have hxd : dl x ≤ 100000 := by
    have h1 : x < 10 ^ (s + 1) := by rw [Nat.pow_succ, ← hp]; have := Nat.mod_lt m p0; omega
    have h2 : s ≤ 60 := h.1.sc
    exact Nat.le_trans (dl_le (k := 61) (Nat.lt_trans h1 (Nat.lt_of_le_of_lt (Nat.pow_le_pow_right (by decide) (show s + 1 ≤ 61 by omega)) (Nat.pow_lt_pow_left (by decide) (by decide))))) (by decide)
  have CC : Hid (∀ W', Bel W W' → Calls Tryz.prog 57 #[.agg #[.bool b0, .slice A0 n0 c0, .int .i64 s0]] W' (CnR W' b A n c s)) := h.2
  have CP : Hid (∀ W', Calls Tryz.prog 93 #[.int .i64 (s : Int)] W' (NumR W' p)) := fun W' => by rw [hp]; exact power_h h.1.sc
  have CD : Hid (∀ W' B e, Bel W W' → Nm W' B (dl p) e p → Calls Tryz.prog 73 #[.agg #[.slice A n c], .agg #[.slice B (dl p) e]] W' (DivV W' q r)) := fun W' B e hb hn => div_v (h.1.nm.up hb) hn p0 hd hq.symm hr.symm
  have CA : Hid (∀ W' B e B' e', Nm W' B (dl p) e p → Nm W' B' (dl r) e' r → Calls Tryz.prog 94 #[.agg #[.slice B (dl p) e], .agg #[.slice B' (dl r) e']] W' (NumR W' x)) := fun W' B e B' e' h1 h2 => add_h h1 h2 hx.symm hxd
  have HL : Hid (decL x = 49 :: partL m s ∧ (partL m s).length = s) := ⟨by rw [hx, hr, hp]; exact hl1, hl2⟩
  have CT : Hid (∀ W' B e, Nm W' B (dl x) e x → Calls Tryz.prog 58 #[.agg #[.slice B (dl x) e]] W' (TxR W' (decL x))) := fun W' B e h1 => text_h h1
  clear h hd hp hq hr hx hl1 hl2 hl3 hl4 p0 hxd
  have HB := Bel.refl W
  go_enter Tryz.func60, Tryz.ntmps60
  go_wp2_with (first | (go_at_call 57; (with_reducible refine (CC.out _ (HB.al _)).mono ?_); rintro e w1 ⟨rfl, hbk⟩; have HA := At.up (at_new0 _ _ _) hbk; replace HB := (HB.al _).up hbk; have ha_0 := HA.c0; have ha_1 := HA.c1; have ha_2 := HA.c2; have ha_l := HA.lt; have ha_f0 := HA.f0; have ha_f1 := HA.f1; have ha_f2 := HA.f2) | (go_at_call 93; (with_reducible refine (CP.out _).mono ?_); rintro e w2 ⟨Bp, ep, rfl, np, hbk⟩; replace HA : At w2 W.heap.size [.bool b, .slice A n c, .int .i64 (s : Int)] := At.up (HA.put3 _ _ _) hbk; replace HB := Bel.up (below3 HB (Nat.le_refl _) _ _ _) hbk; clear ha_0 ha_1 ha_2 ha_l ha_f0 ha_f1 ha_f2; have ha_0 := HA.c0; have ha_1 := HA.c1; have ha_2 := HA.c2; have ha_l := HA.lt) | (go_at_call 73; (with_reducible refine (CD.out _ _ _ (HB.al _) (np.al _)).mono ?_); rintro e w3 ⟨Aq, cq, Ar, cr, rfl, nq, nr, hbk⟩; have HO := At.up (at_new0 _ _ _) hbk; replace HB := (HB.al _).up hbk; replace HA := (HA.al _).up hbk; replace np := (np.al _).up hbk; clear ha_0 ha_1 ha_2 ha_l; have ho_0 := HO.c0; have ho_l := HO.lt) | (go_at_call 94; (with_reducible refine (CA.out _ _ _ _ _ ((np.al _).al _) ((nr.al _).al _)).mono ?_); rintro e w4 ⟨Ax, cx, rfl, nx, hbk⟩; replace HB := ((HB.al _).al _).up hbk; clear ho_0 ho_l) | (go_at_call 58; (with_reducible refine (CT.out _ _ _ nx).mono ?_); rintro e w5 ⟨t, rfl, ht, hbk⟩; replace HB := HB.up hbk; have hts : 1 ≤ t.size := (by rw [size_list, ht.out, HL.out.1]; simp)) | fail)
  go_ret
  refine ⟨_, rfl, ?_, HB⟩
  unfold Hid
  rw [extract_list, List.take_of_length_le (show t.data.toList.length ≤ t.size from Nat.le_refl _), ht.out, HL.out.1]
  rfl
end
end Go.Proofs.YtmiklffjffdkgaaGreatDoor
end

section
/- Package dec: Text. Conditions: numbers of at most 99999 words. -/
open Go.RowKit
set_option maxRecDepth 100000
namespace Go.Proofs.YtmiklffjffdkgaaGreatDoor
/-- A numeral's text. -/
def decD (b : Bool) (m s : Nat) : List UInt8 := (if b then [45] else []) ++ (decL (m / 10 ^ s) ++ (if s = 0 then [] else 46 :: partL m s))
section
variable {W : World} {b b0 : Bool} {A A0 : Option Addr} {n c m s n0 c0 : Nat} {s0 : Int}
set_option maxHeartbeats 4000000 in
theorem dtext_pz (h : DY W (.agg #[.bool b0, .slice A0 n0 c0, .int .i64 s0]) b A n c m s) (hd : dl m ≤ 99999) (hb : b = false) (h0 : s = 0) : Calls Tryz.prog 21 #[.agg #[.bool b0, .slice A0 n0 c0, .int .i64 s0]] W (TxR W (decD b m s)) := by
  subst hb
  obtain ⟨q, hq⟩ : ∃ q, q = m / 10 ^ s := ⟨_, rfl⟩
  have CC : Hid (∀ W', Bel W W' → Calls Tryz.prog 57 #[.agg #[.bool b0, .slice A0 n0 c0, .int .i64 s0]] W' (CnR W' false A n c s)) := h.2
  have CW : Hid (∀ W', Bel W W' → Calls Tryz.prog 59 #[.agg #[.bool false, .slice A n c, .int .i64 (s : Int)]] W' (NumR W' q)) := fun W' hb => by rw [hq]; exact whole_h ((h.1.bel hb).y) hd
  have CQ : Hid (∀ W', Bel W W' → Calls Tryz.prog 60 #[.agg #[.bool false, .slice A n c, .int .i64 (s : Int)]] W' (TxR W' (partL m s))) := fun W' hb => part_h ((h.1.bel hb).y) hd
  have CT : Hid (∀ W' B e, Nm W' B (dl q) e q → Calls Tryz.prog 58 #[.agg #[.slice B (dl q) e]] W' (TxR W' (decL q))) := fun W' B e h1 => text_h h1
  have HL : Hid ((partL m s).length ≤ 60) := by unfold Hid; rw [(part_facts m s).2.1]; exact h.1.sc
  have HQ := hide hq
  have HS := hide h0
  have hs : ((s : Int) == 0) = true := by simp [h0]
  clear h hd hq h0
  have HB := Bel.refl W
  go_enter Tryz.func21, Tryz.ntmps21
  go_wp2_with (first | (go_at_call 57; (with_reducible refine (CC.out _ (HB.al _)).mono ?_); rintro e w1 ⟨rfl, hbk⟩; have HA := At.up (at_new0 _ _ _) hbk; replace HB := (HB.al _).up hbk; have ha_0 := HA.c0; have ha_1 := HA.c1; have ha_2 := HA.c2; have ha_l := HA.lt; have ha_f0 := HA.f0; have ha_f1 := HA.f1; have ha_f2 := HA.f2) | (go_at_call 59; (with_reducible refine (CW.out _ (below3 HB (Nat.le_refl _) _ _ _)).mono ?_); rintro e w2 ⟨Bq, eq, rfl, nq, hbk⟩; replace HA : At w2 W.heap.size [.bool false, .slice A n c, .int .i64 (s : Int)] := At.up (HA.put3 _ _ _) hbk; replace HB := Bel.up (below3 HB (Nat.le_refl _) _ _ _) hbk; clear ha_0 ha_1 ha_2 ha_l ha_f0 ha_f1 ha_f2) | (go_at_call 58; (with_reducible refine (CT.out _ _ _ nq).mono ?_); rintro e w3 ⟨t, rfl, ht, hbk⟩; replace HB := HB.up hbk; replace HA := HA.up hbk; have ha_0 := HA.c0; have ha_1 := HA.c1; have ha_2 := HA.c2; have ha_l := HA.lt; have hts : t.size ≤ 1000001 := (by rw [size_list, ht.out]; exact decL_len nq)) | fail)
  all_goals first
    | (exfalso; omega)
    | (go_ret
       refine ⟨_, rfl, ?_, HB⟩
       unfold Hid decD
       rw [if_pos HS.out, ← HQ.out, ← ht.out]
       simp)
set_option maxHeartbeats 4000000 in
theorem dtext_pp (h : DY W (.agg #[.bool b0, .slice A0 n0 c0, .int .i64 s0]) b A n c m s) (hd : dl m ≤ 99999) (hb : b = false) (h0 : s ≠ 0) : Calls Tryz.prog 21 #[.agg #[.bool b0, .slice A0 n0 c0, .int .i64 s0]] W (TxR W (decD b m s)) := by
  subst hb
  obtain ⟨q, hq⟩ : ∃ q, q = m / 10 ^ s := ⟨_, rfl⟩
  have CC : Hid (∀ W', Bel W W' → Calls Tryz.prog 57 #[.agg #[.bool b0, .slice A0 n0 c0, .int .i64 s0]] W' (CnR W' false A n c s)) := h.2
  have CW : Hid (∀ W', Bel W W' → Calls Tryz.prog 59 #[.agg #[.bool false, .slice A n c, .int .i64 (s : Int)]] W' (NumR W' q)) := fun W' hb => by rw [hq]; exact whole_h ((h.1.bel hb).y) hd
  have CQ : Hid (∀ W', Bel W W' → Calls Tryz.prog 60 #[.agg #[.bool false, .slice A n c, .int .i64 (s : Int)]] W' (TxR W' (partL m s))) := fun W' hb => part_h ((h.1.bel hb).y) hd
  have CT : Hid (∀ W' B e, Nm W' B (dl q) e q → Calls Tryz.prog 58 #[.agg #[.slice B (dl q) e]] W' (TxR W' (decL q))) := fun W' B e h1 => text_h h1
  have HL : Hid ((partL m s).length ≤ 60) := by unfold Hid; rw [(part_facts m s).2.1]; exact h.1.sc
  have HQ := hide hq
  have HS := hide h0
  have hs : ((s : Int) == 0) = false := by simpa using h0
  clear h hd hq h0
  have HB := Bel.refl W
  go_enter Tryz.func21, Tryz.ntmps21
  go_wp2_with (first | (go_at_call 57; (with_reducible refine (CC.out _ (HB.al _)).mono ?_); rintro e w1 ⟨rfl, hbk⟩; have HA := At.up (at_new0 _ _ _) hbk; replace HB := (HB.al _).up hbk; have ha_0 := HA.c0; have ha_1 := HA.c1; have ha_2 := HA.c2; have ha_l := HA.lt; have ha_f0 := HA.f0; have ha_f1 := HA.f1; have ha_f2 := HA.f2) | (go_at_call 59; (with_reducible refine (CW.out _ (below3 HB (Nat.le_refl _) _ _ _)).mono ?_); rintro e w2 ⟨Bq, eq, rfl, nq, hbk⟩; replace HA : At w2 W.heap.size [.bool false, .slice A n c, .int .i64 (s : Int)] := At.up (HA.put3 _ _ _) hbk; replace HB := Bel.up (below3 HB (Nat.le_refl _) _ _ _) hbk; clear ha_0 ha_1 ha_2 ha_l ha_f0 ha_f1 ha_f2) | (go_at_call 58; (with_reducible refine (CT.out _ _ _ nq).mono ?_); rintro e w3 ⟨t, rfl, ht, hbk⟩; replace HB := HB.up hbk; replace HA := HA.up hbk; have ha_0 := HA.c0; have ha_1 := HA.c1; have ha_2 := HA.c2; have ha_l := HA.lt; have hts : t.size ≤ 1000001 := (by rw [size_list, ht.out]; exact decL_len nq)) | (go_at_call 60; (with_reducible refine (CQ.out _ HB).mono ?_); rintro e w4 ⟨u, rfl, hu, hbk⟩; replace HB := HB.up hbk; clear ha_0 ha_1 ha_2 ha_l; have hus : u.size ≤ 60 := (by rw [size_list, hu.out]; exact HL.out)) | fail)
  all_goals first
    | (exfalso; omega)
    | (go_ret
       refine ⟨_, rfl, ?_, HB⟩
       unfold Hid decD
       rw [if_neg HS.out, ← HQ.out, ← ht.out, ← hu.out]
       simp)
set_option maxHeartbeats 4000000 in
theorem dtext_nz (h : DY W (.agg #[.bool b0, .slice A0 n0 c0, .int .i64 s0]) b A n c m s) (hd : dl m ≤ 99999) (hb : b = true) (h0 : s = 0) : Calls Tryz.prog 21 #[.agg #[.bool b0, .slice A0 n0 c0, .int .i64 s0]] W (TxR W (decD b m s)) := by
  subst hb
  obtain ⟨q, hq⟩ : ∃ q, q = m / 10 ^ s := ⟨_, rfl⟩
  have CC : Hid (∀ W', Bel W W' → Calls Tryz.prog 57 #[.agg #[.bool b0, .slice A0 n0 c0, .int .i64 s0]] W' (CnR W' true A n c s)) := h.2
  have CW : Hid (∀ W', Bel W W' → Calls Tryz.prog 59 #[.agg #[.bool true, .slice A n c, .int .i64 (s : Int)]] W' (NumR W' q)) := fun W' hb => by rw [hq]; exact whole_h ((h.1.bel hb).y) hd
  have CQ : Hid (∀ W', Bel W W' → Calls Tryz.prog 60 #[.agg #[.bool true, .slice A n c, .int .i64 (s : Int)]] W' (TxR W' (partL m s))) := fun W' hb => part_h ((h.1.bel hb).y) hd
  have CT : Hid (∀ W' B e, Nm W' B (dl q) e q → Calls Tryz.prog 58 #[.agg #[.slice B (dl q) e]] W' (TxR W' (decL q))) := fun W' B e h1 => text_h h1
  have HL : Hid ((partL m s).length ≤ 60) := by unfold Hid; rw [(part_facts m s).2.1]; exact h.1.sc
  have HQ := hide hq
  have HS := hide h0
  have hs : ((s : Int) == 0) = true := by simp [h0]
  clear h hd hq h0
  have HB := Bel.refl W
  go_enter Tryz.func21, Tryz.ntmps21
  go_wp2_with (first | (go_at_call 57; (with_reducible refine (CC.out _ (HB.al _)).mono ?_); rintro e w1 ⟨rfl, hbk⟩; have HA := At.up (at_new0 _ _ _) hbk; replace HB := (HB.al _).up hbk; have ha_0 := HA.c0; have ha_1 := HA.c1; have ha_2 := HA.c2; have ha_l := HA.lt; have ha_f0 := HA.f0; have ha_f1 := HA.f1; have ha_f2 := HA.f2) | (go_at_call 59; (with_reducible refine (CW.out _ (below3 HB (Nat.le_refl _) _ _ _)).mono ?_); rintro e w2 ⟨Bq, eq, rfl, nq, hbk⟩; replace HA : At w2 W.heap.size [.bool true, .slice A n c, .int .i64 (s : Int)] := At.up (HA.put3 _ _ _) hbk; replace HB := Bel.up (below3 HB (Nat.le_refl _) _ _ _) hbk; clear ha_0 ha_1 ha_2 ha_l ha_f0 ha_f1 ha_f2) | (go_at_call 58; (with_reducible refine (CT.out _ _ _ nq).mono ?_); rintro e w3 ⟨t, rfl, ht, hbk⟩; replace HB := HB.up hbk; replace HA := HA.up hbk; have ha_0 := HA.c0; have ha_1 := HA.c1; have ha_2 := HA.c2; have ha_l := HA.lt; have hts : t.size ≤ 1000001 := (by rw [size_list, ht.out]; exact decL_len nq)) | fail)
  all_goals first
    | (exfalso; omega)
    | (go_ret
       refine ⟨_, rfl, ?_, HB⟩
       unfold Hid decD
       rw [if_pos HS.out, ← HQ.out, ← ht.out]
       simp)
set_option maxHeartbeats 4000000 in
theorem dtext_np (h : DY W (.agg #[.bool b0, .slice A0 n0 c0, .int .i64 s0]) b A n c m s) (hd : dl m ≤ 99999) (hb : b = true) (h0 : s ≠ 0) : Calls Tryz.prog 21 #[.agg #[.bool b0, .slice A0 n0 c0, .int .i64 s0]] W (TxR W (decD b m s)) := by
  subst hb
  obtain ⟨q, hq⟩ : ∃ q, q = m / 10 ^ s := ⟨_, rfl⟩
  have CC : Hid (∀ W', Bel W W' → Calls Tryz.prog 57 #[.agg #[.bool b0, .slice A0 n0 c0, .int .i64 s0]] W' (CnR W' true A n c s)) := h.2
  have CW : Hid (∀ W', Bel W W' → Calls Tryz.prog 59 #[.agg #[.bool true, .slice A n c, .int .i64 (s : Int)]] W' (NumR W' q)) := fun W' hb => by rw [hq]; exact whole_h ((h.1.bel hb).y) hd
  have CQ : Hid (∀ W', Bel W W' → Calls Tryz.prog 60 #[.agg #[.bool true, .slice A n c, .int .i64 (s : Int)]] W' (TxR W' (partL m s))) := fun W' hb => part_h ((h.1.bel hb).y) hd
  have CT : Hid (∀ W' B e, Nm W' B (dl q) e q → Calls Tryz.prog 58 #[.agg #[.slice B (dl q) e]] W' (TxR W' (decL q))) := fun W' B e h1 => text_h h1
  have HL : Hid ((partL m s).length ≤ 60) := by unfold Hid; rw [(part_facts m s).2.1]; exact h.1.sc
  have HQ := hide hq
  have HS := hide h0
  have hs : ((s : Int) == 0) = false := by simpa using h0
  clear h hd hq h0
  have HB := Bel.refl W
  go_enter Tryz.func21, Tryz.ntmps21
  go_wp2_with (first | (go_at_call 57; (with_reducible refine (CC.out _ (HB.al _)).mono ?_); rintro e w1 ⟨rfl, hbk⟩; have HA := At.up (at_new0 _ _ _) hbk; replace HB := (HB.al _).up hbk; have ha_0 := HA.c0; have ha_1 := HA.c1; have ha_2 := HA.c2; have ha_l := HA.lt; have ha_f0 := HA.f0; have ha_f1 := HA.f1; have ha_f2 := HA.f2) | (go_at_call 59; (with_reducible refine (CW.out _ (below3 HB (Nat.le_refl _) _ _ _)).mono ?_); rintro e w2 ⟨Bq, eq, rfl, nq, hbk⟩; replace HA : At w2 W.heap.size [.bool true, .slice A n c, .int .i64 (s : Int)] := At.up (HA.put3 _ _ _) hbk; replace HB := Bel.up (below3 HB (Nat.le_refl _) _ _ _) hbk; clear ha_0 ha_1 ha_2 ha_l ha_f0 ha_f1 ha_f2) | (go_at_call 58; (with_reducible refine (CT.out _ _ _ nq).mono ?_); rintro e w3 ⟨t, rfl, ht, hbk⟩; replace HB := HB.up hbk; replace HA := HA.up hbk; have ha_0 := HA.c0; have ha_1 := HA.c1; have ha_2 := HA.c2; have ha_l := HA.lt; have hts : t.size ≤ 1000001 := (by rw [size_list, ht.out]; exact decL_len nq)) | (go_at_call 60; (with_reducible refine (CQ.out _ HB).mono ?_); rintro e w4 ⟨u, rfl, hu, hbk⟩; replace HB := HB.up hbk; clear ha_0 ha_1 ha_2 ha_l; have hus : u.size ≤ 60 := (by rw [size_list, hu.out]; exact HL.out)) | fail)
  all_goals first
    | (exfalso; omega)
    | (go_ret
       refine ⟨_, rfl, ?_, HB⟩
       unfold Hid decD
       rw [if_neg HS.out, ← HQ.out, ← ht.out, ← hu.out]
       simp)
theorem dtext_h (h : DY W (.agg #[.bool b0, .slice A0 n0 c0, .int .i64 s0]) b A n c m s) (hd : dl m ≤ 99999) : Calls Tryz.prog 21 #[.agg #[.bool b0, .slice A0 n0 c0, .int .i64 s0]] W (TxR W (decD b m s)) := by
  by_cases h0 : s = 0
  · cases b
    · exact dtext_pz h hd rfl h0
    · exact dtext_nz h hd rfl h0
  · cases b
    · exact dtext_pp h hd rfl h0
    · exact dtext_np h hd rfl h0
end
end Go.Proofs.YtmiklffjffdkgaaGreatDoor
end

section
/- The document's own numerals: plain, DPart, DText. Conditions: numbers of at most 20000 of its words, scales of at most 1000. -/
open Go.RowKit
set_option maxRecDepth 100000
namespace Go.Proofs.YtmiklffjffdkgaaGreatDoor
theorem dcl_bounds {m : Nat} (hm : 0 < m) : 10 ^ ((decL m).length - 1) ≤ m ∧ m < 10 ^ (decL m).length ∧ 0 < (decL m).length := by
  have hl : (decL m).length = (digs 10 m).length := by unfold decL; rw [if_neg (by omega)]; simp
  have h0 : (digs 10 m).length ≠ 0 := fun h => by have := (digs_len_pos (b := 10) (n := m) (by decide)).1 h; omega
  rw [hl]
  refine ⟨?_, lt_pow_digs (b := 10) (by decide) m, by omega⟩
  refine Nat.le_of_not_lt fun h => ?_
  have h1 : ∀ (j n : Nat), n < 10 ^ j → (digs 10 n).length ≤ j := by
    intro j
    induction j with
    | zero => intro n hn; have : n = 0 := by simpa using hn
              subst this; rw [digs_zero]; exact Nat.le_refl _
    | succ j ih =>
      intro n hn
      by_cases hz : n = 0
      · subst hz; rw [digs_zero]; exact Nat.zero_le _
      · rw [digs_pos (by decide) (by omega), List.length_cons]
        have := ih (n / 10) (by rw [Nat.div_lt_iff_lt_mul (by decide), ← Nat.pow_succ]; exact hn)
        omega
  have := h1 _ m h
  omega
theorem dcl_len_of {m dg : Nat} (hdg : 1 ≤ dg) (h1 : 10 ^ (dg - 1) ≤ m) (h2 : m < 10 ^ dg) : (decL m).length = dg := by
  have h0 : 0 < 10 ^ (dg - 1) := Nat.pow_pos (by decide)
  obtain ⟨a1, a2, a3⟩ := dcl_bounds (m := m) (by omega)
  have b1 : (decL m).length - 1 < dg := (Nat.pow_lt_pow_iff_right (a := 10) (by decide)).1 (by omega)
  have b2 : dg - 1 < (decL m).length := (Nat.pow_lt_pow_iff_right (a := 10) (by decide)).1 (by omega)
  omega
theorem dig_lt {c : UInt8} (h : isDig c = true) : 48 ≤ c.toNat ∧ c.toNat ≤ 57 := by unfold isDig at h; simpa using h
theorem numL_inj : ∀ (n : Nat) (l l' : List UInt8), l.length = n → l'.length = n → l.all isDig = true → l'.all isDig = true → numL l = numL l' → l = l'
  | 0, l, l', h, h', _, _, _ => by rw [List.length_eq_zero_iff.1 h, List.length_eq_zero_iff.1 h']
  | n + 1, l, l', h, h', hd, hd', hv => by
    obtain ⟨a, x, rfl⟩ : ∃ a x, l = a ++ [x] := by
      rcases List.eq_nil_or_concat l with e | ⟨a, x, e⟩
      · rw [e] at h; cases h
      · exact ⟨a, x, by rw [e]; simp⟩
    obtain ⟨a', x', rfl⟩ : ∃ a x, l' = a ++ [x] := by
      rcases List.eq_nil_or_concat l' with e | ⟨a, x, e⟩
      · rw [e] at h'; cases h'
      · exact ⟨a, x, by rw [e]; simp⟩
    rw [List.all_append, Bool.and_eq_true] at hd hd'
    have g := dig_lt (c := x) (by simpa using hd.2)
    have g' := dig_lt (c := x') (by simpa using hd'.2)
    rw [numL_snoc, numL_snoc] at hv
    have e1 : x = x' := UInt8.toNat_inj.1 (by omega)
    have e2 := numL_inj n a a' (by simpa using h) (by simpa using h') hd.1 hd'.1 (by omega)
    rw [e1, e2]
/-- A numeral's digits, as many as to have one ahead of the point. -/
def padL (m s : Nat) : List UInt8 := decL (m / 10 ^ s) ++ partL m s
theorem padL_len (m s : Nat) : (padL m s).length = (decL (m / 10 ^ s)).length + s := by unfold padL; rw [List.length_append, (part_facts m s).2.1]
theorem padL_all (m s : Nat) : (padL m s).all isDig = true := by unfold padL; rw [List.all_append, decL_all, (part_facts m s).2.2.2]; rfl
theorem pad_eq {m s j : Nat} (h : j = 0 ∨ j + (decL m).length ≤ s + 1) (h2 : s < j + (decL m).length) : List.replicate j 48 ++ decL m = padL m s := by
  have hp : 0 < 10 ^ s := Nat.pow_pos (by decide)
  have hlen : j + (decL m).length = (decL (m / 10 ^ s)).length + s := by
    by_cases hq : m / 10 ^ s = 0
    · have hm : m < 10 ^ s := (Nat.div_eq_zero_iff_lt hp).1 hq
      have e0 : (decL 0).length = 1 := by decide
      rw [hq, e0]
      rcases h with h | h
      · subst h
        by_cases hs : s = 0
        · subst hs
          have : m = 0 := by simpa using hm
          subst this; rw [e0]
        · have h5 : (decL m).length ≤ s := dt_le hm (by omega)
          omega
      · omega
    · obtain ⟨b1, b2, b3⟩ := dcl_bounds (m := m / 10 ^ s) (Nat.pos_of_ne_zero hq)
      have g1 : 10 ^ ((decL (m / 10 ^ s)).length + s - 1) ≤ m := by
        rw [show (decL (m / 10 ^ s)).length + s - 1 = ((decL (m / 10 ^ s)).length - 1) + s by omega, Nat.pow_add]
        exact (Nat.le_div_iff_mul_le hp).1 b1
      have g2 : m < 10 ^ ((decL (m / 10 ^ s)).length + s) := by
        rw [Nat.pow_add]
        exact (Nat.div_lt_iff_lt_mul hp).1 b2
      have g3 := dcl_len_of (m := m) (dg := (decL (m / 10 ^ s)).length + s) (by omega) g1 g2
      omega
  refine numL_inj _ _ _ rfl ?_ ?_ (padL_all m s) ?_
  · rw [padL_len, List.length_append, List.length_replicate]; omega
  · rw [List.all_append, decL_all, Bool.and_true, List.all_replicate]; simp; right; decide
  · rw [numL_append, numL_noughts, Nat.zero_mul, Nat.zero_add, (numL_decL m).1]
    unfold padL; exact (back_num m s).symm
section
variable {W : World} {b : Bool} {A : Option Addr} {c m s : Nat}
end
end Go.Proofs.YtmiklffjffdkgaaGreatDoor
end

section
/- The document's own numerals: DPart, DText. Conditions: numbers of at most 20000 of its words, scales of at most 1000. -/
open Go.RowKit
set_option maxRecDepth 100000
namespace Go.Proofs.YtmiklffjffdkgaaGreatDoor
section
variable {W : World} {b : Bool} {A : Option Addr} {c m s : Nat}
theorem pad_cut {u : ByteArray} {k : Nat} (hu : u.data.toList = padL m s) (hk : k = (decL (m / 10 ^ s)).length) : u.size = k + s ∧ (u.extract 0 k).data.toList = decL (m / 10 ^ s) ∧ (u.extract k (k + s)).data.toList = partL m s := by
  have h1 : u.size = k + s := by rw [Lib.size_eq, hu, padL_len, hk]
  refine ⟨h1, ?_, ?_⟩
  · rw [Lib.extract_data, List.drop_zero, Nat.sub_zero, hu, hk]; unfold padL; rw [List.take_left']; rfl
  · rw [← h1, Lib.extract_data, List.take_of_length_le (by rw [List.length_drop, ← Lib.size_eq]; exact Nat.le_refl _), hu, hk]; unfold padL; rw [List.drop_left']; rfl
end
end Go.Proofs.YtmiklffjffdkgaaGreatDoor
end

section
/- Statements of dec: is, dis, raw. Conditions: less than 4000 words. -/
open Go.RowKit
set_option maxRecDepth 100000
namespace Go.Proofs.YtmiklffjffdkgaaGreatDoor
/-- A write over a nought behind which the block ends: no number of the document's own is there. -/
theorem RN.setZ {W : World} {B : Nat} {A : Option Addr} {c m p : Nat} (h : RN W B A c m) (h2 : W.cell? ⟨p, 2, none⟩ = some (.int .i64 0)) (h3 : W.cell? ⟨p, 3, none⟩ = none) (u : Value) : RN (W.setCell ⟨p, 2, none⟩ u) B A c m := by
  refine ⟨h.1, fun hn => ?_⟩
  obtain ⟨ad, e, hb, hx⟩ := h.2 hn
  refine ⟨ad, e, hb, fun j x hj => ?_⟩
  have h6 := hx j x hj
  refine (World.cell?_setCell_other W ⟨p, 2, none⟩ _ u (fun e2 => ?_)).trans h6
  rw [← e2, h2] at h6
  injection h6 with h6
  have hx0 : x = 0 := by
    unfold I64 at h6
    injection h6 with _ h7
    omega
  subst hx0
  have hlt : j < (digs D4 m).length := by
    rcases Nat.lt_or_ge j (digs D4 m).length with h | h
    · exact h
    · rw [List.getElem?_eq_none h] at hj; cases hj
  rcases Nat.lt_or_ge (j + 1) (digs D4 m).length with h8 | h8
  · have h9 := hx (j + 1) _ (List.getElem?_eq_getElem h8)
    have e3 : ad.add (j + 1) = ⟨p, 3, none⟩ := by
      obtain ⟨g, o, r⟩ := ad
      simp only [Addr.add, if_neg (Nat.succ_ne_zero j)] at e2 ⊢
      by_cases hj0 : j = 0
      · rw [if_pos hj0] at e2
        injection e2 with q1 q2 q3
        subst q1; subst hj0; subst q2
        rfl
      · rw [if_neg hj0] at e2
        injection e2 with q1 q2 q3
        subst q1
        congr 1
        omega
    rw [e3, h3] at h9
    cases h9
  · refine digs_last (b := D4) (by decide) m 0 ?_ rfl
    rw [List.getLast?_eq_getElem?, show (digs D4 m).length - 1 = j by omega]
    exact hj
theorem end_new (W : World) (v0 v1 v2 : Value) (t : TypeId) : (W.alloc (.cells #[v0, v1, v2] t)).cell? ⟨W.heap.size, 3, none⟩ = none := by
  have h : (W.alloc (.cells #[v0, v1, v2] t)).heap[W.heap.size]? = some (.cells #[v0, v1, v2] t (0, 0)) := heap_alloc_new W _
  rw [cell_of_row _ _ 3 _ t (0, 0) h]
  rfl
theorem end_up {W w1 : World} {o : Obj} {v0 v1 v2 : Value} {t : TypeId} (hbk : Hid (Below ((W.alloc o).alloc (.cells #[v0, v1, v2] t)).heap.size ((W.alloc o).alloc (.cells #[v0, v1, v2] t)) w1)) : w1.cell? ⟨W.heap.size + 1, 3, none⟩ = none := by
  have e : (W.alloc o).heap.size = W.heap.size + 1 := by simp
  have h9 := end_new (W.alloc o) v0 v1 v2 t
  rw [e] at h9
  exact (hbk.out.cell (by show W.heap.size + 1 < _; simp)).trans h9
section
variable {W : World} {b b' : Bool} {A A' : Option Addr} {n c c' m s : Nat}
end
end Go.Proofs.YtmiklffjffdkgaaGreatDoor
end

section
/- Parted from Di: by function. -/
open Go.RowKit
set_option maxRecDepth 100000
namespace Go.Proofs.YtmiklffjffdkgaaGreatDoor
section
variable {W : World} {b b' : Bool} {A A' : Option Addr} {n c c' m s : Nat}
/-- What raw returns of a valid numeral. -/
def RDR (W : World) (b : Bool) (m s : Nat) (e : Ending) (w' : World) : Prop := ∃ A c, e = .returned (.agg #[.bool b, .slice A (dq m) c, .int .i64 (s : Int)]) ∧ Rn w' A c m ∧ Hid (Below W.heap.size W w')
end
end Go.Proofs.YtmiklffjffdkgaaGreatDoor
end

section
/- The document's own numerals: DShort. Conditions: numbers of at most 20000 of its words, scales of at most 1000. -/
open Go.RowKit
set_option maxRecDepth 100000
namespace Go.Proofs.YtmiklffjffdkgaaGreatDoor
theorem short_uni {m s i v : Nat} (h : v * 10 ^ i = m) (hi : i ≤ s) (he : i = s ∨ v % 10 ≠ 0) : i = s - shortS m s := by
  have hS := short_le m s
  have h1 := short_dvd m s
  rcases Nat.lt_trichotomy i (s - shortS m s) with g | g | g
  · rcases he with he | he
    · omega
    · exfalso
      have h2 : 10 ^ (i + 1) ∣ m := Nat.dvd_trans (Nat.pow_dvd_pow 10 (by omega)) h1
      rw [← h, Nat.pow_succ, Nat.mul_comm (10 ^ i) 10] at h2
      have h3 : 10 ∣ v := Nat.dvd_of_mul_dvd_mul_right (Nat.pow_pos (by decide)) h2
      omega
  · exact g
  · exfalso
    refine short_ndvd (m := m) (s := s) (by omega) ?_
    refine Nat.dvd_trans (Nat.pow_dvd_pow 10 (show s - shortS m s + 1 ≤ i by omega)) ?_
    rw [← h]; exact Nat.dvd_mul_left _ _
theorem RN.set0 {w : World} {B : Nat} {A : Option Addr} {c m g i : Nat} (h : RN w B A c m) (hg : 0 < dq m → ∀ ad, A = some ad → ad.block ≠ g) (u : Value) : RN (w.setCell ⟨g, i, none⟩ u) B A c m := by
  by_cases h0 : 0 < dq m
  · exact RN.set h (hg h0) u
  · have e : m = 0 := (digs_len_pos (b := D4) (n := m) (by decide)).1 (by unfold dq at h0; omega)
    subst e
    exact rn_nil _ _ _ _
theorem Rn.set0 {W : World} {A : Option Addr} {c m g i : Nat} (h : Rn W A c m) (hg : 0 < dq m → ∀ ad, A = some ad → ad.block ≠ g) (u : Value) : Rn (W.setCell ⟨g, i, none⟩ u) A c m := by
  have h1 := RN.set0 h hg (i := i) u
  have e : (W.setCell ⟨g, i, none⟩ u).heap.size = W.heap.size := by simp [World.setCell]
  unfold Rn
  rw [e]; exact h1
theorem Rn.set3 {W : World} {A : Option Addr} {c m g : Nat} (h : Rn W A c m) (hg : 0 < dq m → ∀ ad, A = some ad → ad.block ≠ g) (x y z : Value) : Rn (((W.setCell ⟨g, 0, none⟩ x).setCell ⟨g, 1, none⟩ y).setCell ⟨g, 2, none⟩ z) A c m := ((h.set0 hg x).set0 hg y).set0 hg z
theorem Rn.below {W : World} {A : Option Addr} {c m : Nat} (h : Rn W A c m) : 0 < dq m → ∀ ad, A = some ad → ad.block < W.heap.size := fun h0 ad e => by
  obtain ⟨ad', e', hb, _⟩ := h.2 h0
  rw [e] at e'
  injection e' with e'
  rw [e']; exact hb
section
variable {W : World} {b : Bool} {A : Option Addr} {c m s : Nat}
end
end Go.Proofs.YtmiklffjffdkgaaGreatDoor
end

section
/- The document's own fractions: QAdd, QMul of fractions in lowest terms, QFloor, QCmp. Conditions: terms of at most 1000 words. -/
open Go.RowKit
set_option maxRecDepth 100000
namespace Go.Proofs.YtmiklffjffdkgaaGreatDoor
section
variable {W : World} {b b' s : Bool} {A A' B B' : Option Addr} {c c' e e' d K : Nat} {z v : Int} {r r' : Rat}
theorem dq_bw {m k : Nat} (h : m < W32 ^ k) (hk : k ≤ 33000) : dq m ≤ 99999 := Nat.le_trans (dq_words h) (by omega)
theorem bd_q (h : Bd r K) (hK : K ≤ 1000) : dq r.num.natAbs ≤ 4000 ∧ dq r.den ≤ 4000 := ⟨Nat.le_trans (dq_words h.1) (by omega), Nat.le_trans (dq_words h.2) (by omega)⟩
theorem rqadd_c (hb : Bd r K) (hb' : Bd r' K) (hK : K ≤ 1000) (h : Rz W b A c r.num) (h' : Rn W A' c' r.den) (k : Rz W b' B e r'.num) (k' : Rn W B' e' r'.den) :
    Calls Tryz.prog 39 #[.agg #[.bool b, .slice A (dq r.num.natAbs) c, .slice A' (dq r.den) c'], .agg #[.bool b', .slice B (dq r'.num.natAbs) e, .slice B' (dq r'.den) e']] W (RQm W (decide ((r + r').num < 0)) (r + r').num (r + r').den) := by
  have q := bd_q hb hK
  have q' := bd_q hb' hK
  have t := tt_add hb.tt hb'.tt
  exact rqadd_h h h' k k' r.den_pos r'.den_pos q.1 q.2 q'.1 q'.2 (dq_bw (bd_zmul hb.1 hb'.2) (by omega)) (dq_bw (bd_zmul hb'.1 hb.2) (by omega)) (dq_bw t.2.2.1 (by omega)) (dq_bw t.2.2.2 (by omega)) t.2.1
theorem rqmul_c (hb : Bd r K) (hb' : Bd r' K) (hK : K ≤ 1000) (h : Rz W b A c r.num) (h' : Rn W A' c' r.den) (k : Rz W b' B e r'.num) (k' : Rn W B' e' r'.den) :
    Calls Tryz.prog 47 #[.agg #[.bool b, .slice A (dq r.num.natAbs) c, .slice A' (dq r.den) c'], .agg #[.bool b', .slice B (dq r'.num.natAbs) e, .slice B' (dq r'.den) e']] W (RQm W (decide ((r * r').num < 0)) (r * r').num (r * r').den) := by
  have q := bd_q hb hK
  have q' := bd_q hb' hK
  have t := tt_mul hb.tt hb'.tt
  exact rqmul_h h h' k k' r.den_pos r'.den_pos q.1 q.2 q'.1 q'.2 (dq_bw t.2.2.1 (by omega)) (dq_bw t.2.2.2 (by omega)) t.2.1
theorem rqneg_c (h : Rz W b A c r.num) (h' : Rn W A' c' r.den) (hs : s = decide ((-r).num < 0)) :
    Calls Tryz.prog 40 #[.agg #[.bool b, .slice A (dq r.num.natAbs) c, .slice A' (dq r.den) c']] W (RQm W s (-r).num (-r).den) := rqneg_h h h' hs (Rat.neg_num r)
set_option maxHeartbeats 4000000 in
theorem rqfloor_h (h : Rz W b A c z) (h' : Rn W A' c' d) (h0 : 0 < d) (hl : dq z.natAbs ≤ 4000) (hl' : dq d ≤ 4000) (hv : z / (d : Int) = v) (hs : s = decide (v < 0)) :
    Calls Tryz.prog 34 #[.agg #[.bool b, .slice A (dq z.natAbs) c, .slice A' (dq d) c']] W (RZv W s v) := by
  obtain ⟨u, hu⟩ : ∃ u, u = (z % (d : Int)).natAbs := ⟨_, rfl⟩
  have CD : Hid (∀ W', Bel W W' → Calls Tryz.prog 78 #[.agg #[.bool b, .slice A (dq z.natAbs) c], .agg #[.bool false, .slice A' (dq d) c']] W' (RzD W' s v.natAbs u)) := fun W' hb => by
    rw [hu]
    exact rzdiv_h (b' := false) (z' := (d : Int)) (h.up hb.hid) ⟨h'.up hb.hid, (decide_eq_false (by omega)).symm⟩ (by omega) (by omega) (by rw [Int.natAbs_natCast]; omega) hv rfl hs
  have HS := hide hs
  clear h h' h0 hl hl' hv hs hu
  have HB := Bel.refl W
  go_enter Tryz.func34, Tryz.ntmps34
  go_upto_region 2 with (first | (go_at_call 78; (with_reducible refine (CD.out _ ((HB.al _).al _)).mono ?_); rintro e w1 ⟨B, e1, B', e2, rfl, nz, nr, hbk⟩; (with_reducible (have HR : At w1 (W.heap.size + 1) [.bool false, .slice none 0 0] := At.up (at_new1 _ _ _ _) hbk; replace HB := ((HB.al _).al _).up hbk))) | fail)
  obtain ⟨W2, hW2⟩ : ∃ X, X = (w1.alloc (.cells #[.bool s, .slice B (dq v.natAbs) e1] 36)).alloc (.cells #[.bool false, .slice B' (dq u) e2] 36) := ⟨_, rfl⟩
  rw [← hW2]
  have HQ : At W2 w1.heap.size [.bool s, .slice B (dq v.natAbs) e1] := by rw [hW2]; exact (at_new0 _ _ _).al _
  replace HR : At W2 (W.heap.size + 1) [.bool false, .slice none 0 0] := by rw [hW2]; exact (HR.al _).al _
  replace HB : Bel W W2 := by rw [hW2]; exact (HB.al _).al _
  replace nz : Rn W2 B e1 v.natAbs := by rw [hW2]; exact (nz.al _).al _
  clear hW2
  have hr_0 := HR.c0
  have hr_1 := HR.c1
  have hr_l := HR.lt
  have hr_f0 := HR.f0
  have hr_f1 := HR.f1
  have hq_0 := HQ.c0
  have hq_1 := HQ.c1
  have hq_l := HQ.lt
  go_wp2_with fail
  refine bodyPost_ret (v := .agg #[.bool s, .slice B (dq v.natAbs) e1]) (by simp [results, Tryz.results34, go_sem, hr_0, hr_1]) rfl ?_
  obtain ⟨_, g1, g2⟩ := rn_two HR nz HB (by omega) s (dq v.natAbs)
  exact ⟨B, e1, rfl, ⟨g1, HS⟩, g2⟩
end
end Go.Proofs.YtmiklffjffdkgaaGreatDoor
end
