/- DecBack: the walk over any numeral. No conditions. -/
import Derived.Test.YtdjngaejdmlekaaDoorGDvc26
import Derived.Test.YtdjngaejdmlekaaDoorGDvc28
import Derived.Test.YtdjngaejdmlekaaDoorDn
import Derived.Test.YtdjngaejdmlekaaDoorGDvc10
open Go.RowKit
set_option maxRecDepth 100000
namespace Go.Proofs.YtdjngaejdmlekaaDoor
theorem cmpR_self (r : Rat) : cmpR r r = 0 := by
  unfold cmpR
  rw [if_neg (Rat.lt_irrefl), if_neg (Rat.lt_irrefl)]
theorem back_size {b : Bool} {m k : Nat} (hd : dl m ≤ 16) (hk : k ≤ 60) : (decD b m k).length ≤ 256 := by
  have h1 : m < W32 ^ 16 := Nat.lt_of_lt_of_le (lt_pow_digs (b := W32) (by decide) m) (Nat.pow_le_pow_right (by decide) hd)
  have h2 := dec_bd (Nat.lt_of_le_of_lt (Nat.div_le_self m (10 ^ k)) h1)
  have h3 := (part_facts m k).2.1
  unfold decD
  rw [List.length_append, List.length_append]
  have e1 : (if b = true then [(45 : UInt8)] else []).length ≤ 1 := by cases b <;> decide
  have e2 : (if k = 0 then [] else (46 : UInt8) :: partL m k).length ≤ 61 := by
    split
    · simp
    · rw [List.length_cons]; omega
  omega
section
variable {b : Bool} {A : Option Addr} {n c m : Nat} {s : Int}
set_option maxHeartbeats 2000000 in
theorem decback_x0 (w : World) (hn : ¬ n ≤ 16) : Calls Tryd.prog 8 #[.agg #[.bool b, .slice A n c, .int .i64 s]] w fun e w' => e = .returned (.bool true) ∧ Below w.heap.size w w' := by
  have HB := Bel.refl w
  go_enter Tryd.func8, Tryd.ntmps8
  go_wp2_with (first | (go_at_call 57; (with_reducible refine (awake4_any _).mono ?_); rintro e w1 ⟨rfl, hbk⟩; have HA := At.up (at_new0 _ _ _) hbk; replace HB := (HB.al _).up hbk; have ha_0 := HA.c0; have ha_1 := HA.c1; have ha_2 := HA.c2; have ha_l := HA.lt) | fail)
  go_ret
  exact ⟨rfl, HB⟩
set_option maxHeartbeats 2000000 in
theorem decback_x1 (w : World) (hn : n ≤ 16) (h : ∀ W', Bel w W' → Calls Tryd.prog 61 #[.agg #[.bool b, .slice A n c, .int .i64 s]] W' (RetB W' false)) : Calls Tryd.prog 8 #[.agg #[.bool b, .slice A n c, .int .i64 s]] w fun e w' => e = .returned (.bool true) ∧ Below w.heap.size w w' := by
  have CG := hide h
  clear h
  have HB := Bel.refl w
  go_enter Tryd.func8, Tryd.ntmps8
  go_wp2_with (first | (go_at_call 57; (with_reducible refine (awake4_any _).mono ?_); rintro e w1 ⟨rfl, hbk⟩; have HA := At.up (at_new0 _ _ _) hbk; replace HB := (HB.al _).up hbk; have ha_0 := HA.c0; have ha_1 := HA.c1; have ha_2 := HA.c2; have ha_l := HA.lt) | (go_at_call 61; (with_reducible refine (CG.out _ HB).mono ?_); rintro e w2 ⟨rfl, hbk⟩; replace hbk := Bel.hid hbk; replace HB := HB.up hbk) | fail)
  go_ret
  exact ⟨rfl, HB⟩
end
section
variable {b : Bool} {A : Option Addr} {n c m s : Nat}
set_option maxHeartbeats 16000000 in
theorem decback_main (w : World) (hn : n ≤ 16) (h : DX w b A n c m s) (hm : dl m ≤ 16) : Calls Tryd.prog 8 #[.agg #[.bool b, .slice A n c, .int .i64 (s : Int)]] w fun e w' => e = .returned (.bool true) ∧ Below w.heap.size w w' := by
  obtain ⟨j, hj⟩ : ∃ j, j = shortS m s := ⟨_, rfl⟩
  obtain ⟨v, hv⟩ : ∃ v, v = m / 10 ^ (s - j) := ⟨_, rfl⟩
  obtain ⟨r, hr⟩ : ∃ r : Rat, mkRat (zi b m) (10 ^ s) = r := ⟨_, rfl⟩
  obtain ⟨sg, hsg⟩ : ∃ sg, sg = decide (r.num < 0) := ⟨_, rfl⟩
  have hs60 : s ≤ 60 := h.sc
  have hjs : j ≤ s := by rw [hj]; exact short_le m s
  have hvm : v ≤ m := by rw [hv]; exact Nat.div_le_self _ _
  have hvd : dl v ≤ 16 := Nat.le_trans (dl_mono hvm) hm
  have hv0 : b = true → 0 < v := fun hb => by
    have h1 := h.ng hb
    rcases Nat.eq_zero_or_pos v with h2 | h2
    · exfalso
      obtain ⟨q, hq⟩ := short_dvd m s
      have h3 : m = 10 ^ (s - j) * v := by
        rw [hv]; exact (Nat.mul_div_cancel' (by rw [hj]; exact ⟨q, hq⟩)).symm
      rw [h2, Nat.mul_zero] at h3
      omega
    · exact h2
  obtain ⟨k1, k2, k3⟩ := rat_short hr
  have hsb : sg = b := by rw [hsg]; exact rat_neg hr h.ng
  have hbd : Bd r 256 := by rw [← hr]; exact drat_bd (by omega) h.sc
  have CG : Hid (∀ W', Bel w W' → Calls Tryd.prog 61 #[.agg #[.bool b, .slice A n c, .int .i64 (s : Int)]] W' (RetB W' true)) := h.gd
  have CT : Hid (∀ W', Bel w W' → Calls Tryd.prog 60 #[.agg #[.bool b, .slice A n c, .int .i64 (s : Int)]] W' (TxR W' (decD b m s))) := fun W' hb => dtext_h (h.bel hb).y (by omega)
  have CP : Hid (∀ W' (t : ByteArray), Hid (t.data.toList = decD b m s) → Calls Tryd.prog 58 #[.string t] W' (DPR W' b m s)) := fun W' t ht => dparse_back ht.out h.sc h.ng (by rw [size_list, ht.out]; exact back_size hm h.sc)
  have CS : Hid (∀ W', Bel w W' → Calls Tryd.prog 63 #[.agg #[.bool b, .slice A n c, .int .i64 (s : Int)]] W' (ShR W' b v j)) := fun W' hb => by
    have h1 := short_h (h.bel hb).y (by omega)
    rwa [← hj, ← hv] at h1
  have CR : Hid (∀ W', Bel w W' → Calls Tryd.prog 64 #[.agg #[.bool b, .slice A n c, .int .i64 (s : Int)]] W' (QRw W' sg r)) := fun W' hb => by rw [hsg]; exact drat_h (h.bel hb).y (by omega) hr
  have CR2 : Hid (∀ (W' : World) B e, Nm W' B (dl v) e v → Calls Tryd.prog 64 #[.agg #[.bool b, .slice B (dl v) e, .int .i64 (j : Int)]] W' (QRw W' sg r)) := fun W' B e hn => by
    rw [hsg]
    exact drat_h (dx_can hn (by omega) hv0).y (by omega) (by rw [hv, hj, short_val]; exact hr)
  have CO : Hid (∀ (W' : World) B e B' e', ZA W' sg B (dl r.num.natAbs) e r.num → Nm W' B' (dl r.den) e' r.den → Calls Tryd.prog 59 #[.agg #[.bool sg, .slice B (dl r.num.natAbs) e, .slice B' (dl r.den) e'], .int .i64 60] W' (DofR W' sg v j)) := fun W' B e B' e' h1 h2 => by
    have h3 := dof_hit (lim := 60) (most := 60) (j := j) h1 h2 r.den_pos (Rat.mkRat_self r) (Nat.le_trans (dl_le hbd.1) (by decide)) (Nat.le_trans (dl_le hbd.2) (by decide)) (by decide) (by omega) (by rw [hj]; exact k1) (fun k hk => k2 k (by omega))
    have e1 : r.num.natAbs * (10 ^ j / r.den) = v := by rw [hj, k3, hv, hj]
    rw [e1, ← hsg] at h3
    exact h3
  have CW : Hid (∀ W', Bel w W' → Calls Tryd.prog 66 #[.agg #[.bool b, .slice A n c, .int .i64 (s : Int)]] W' (RDR W' b m s)) := fun W' hb => raw_h (h.bel hb) (by omega)
  have CW2 : Hid (∀ (W' : World) B e, Nm W' B (dl v) e v → Calls Tryd.prog 66 #[.agg #[.bool b, .slice B (dl v) e, .int .i64 (j : Int)]] W' (RDR W' b v j)) := fun W' B e hn => raw_h (dx_can hn (by omega) hv0) (by omega)
  have CI : Hid (∀ (W' : World) B e B' e', Nm W' B (dl m) e m → Rn W' B' e' m → Calls Tryd.prog 65 #[.agg #[.bool b, .slice B (dl m) e, .int .i64 (s : Int)], .agg #[.bool b, .slice B' (dq m) e', .int .i64 (s : Int)]] W' (RetB W' true)) := fun W' B e B' e' h1 h2 => dis_h (dx_can h1 h.sc h.ng) h2 (by omega)
  have CI2 : Hid (∀ (W' : World) B e B' e', Nm W' B (dl v) e v → Rn W' B' e' v → Calls Tryd.prog 65 #[.agg #[.bool sg, .slice B (dl v) e, .int .i64 (j : Int)], .agg #[.bool b, .slice B' (dq v) e', .int .i64 (j : Int)]] W' (RetB W' true)) := fun W' B e B' e' h1 h2 => by rw [hsb]; exact dis_h (dx_can h1 (by omega) hv0) h2 (by omega)
  have CC : Hid (∀ (W' : World) B e B' e' D f D' f', ZA W' sg B (dl r.num.natAbs) e r.num → Nm W' B' (dl r.den) e' r.den → ZA W' sg D (dl r.num.natAbs) f r.num → Nm W' D' (dl r.den) f' r.den → Calls Tryd.prog 67 #[.agg #[.bool sg, .slice B (dl r.num.natAbs) e, .slice B' (dl r.den) e'], .agg #[.bool sg, .slice D (dl r.num.natAbs) f, .slice D' (dl r.den) f']] W' (IntPost W' 0)) := fun W' B e B' e' D f D' f' h1 h2 h3 h4 => by
    have h5 := rcmp_h (K := 256) ⟨r.num, r.den, h1, h2, Rat.mkRat_self r, hbd⟩ ⟨r.num, r.den, h3, h4, Rat.mkRat_self r, hbd⟩ (by decide) (by decide)
    rwa [cmpR_self] at h5
  have CQ : Hid (∀ W', Bel w W' → Calls Tryd.prog 62 #[.agg #[.bool b, .slice A n c, .int .i64 (s : Int)]] W' (TxR W' (partL m s))) := fun W' hb => part_h (h.bel hb).y (by omega)
  have HPS : Hid ((partL m s).length = s) := (part_facts m s).2.1
  have hjsI : (j : Int) ≤ (s : Int) := by omega
  clear h hm hj hv hr hsg hs60 hjs hvm hvd hv0 k1 k2 k3 hsb hbd
  have HB := Bel.refl w
  go_enter Tryd.func8, Tryd.ntmps8
  go_wp2_with (first | (go_at_call 57; (with_reducible refine (awake4_any _).mono ?_); rintro e w1 ⟨rfl, hbk⟩; have HA := At.up (at_new0 _ _ _) hbk; replace HB := (HB.al _).up hbk; have ha_0 := HA.c0; have ha_1 := HA.c1; have ha_2 := HA.c2; have ha_l := HA.lt) | (go_at_call 61; (with_reducible refine (CG.out _ HB).mono ?_); rintro e w2 ⟨rfl, hbk⟩; replace hbk := Bel.hid hbk; (with_reducible (replace HB := HB.up hbk; replace HA := HA.up hbk)); clear ha_0 ha_1 ha_2 ha_l; have ha_0 := HA.c0; have ha_1 := HA.c1; have ha_2 := HA.c2; have ha_l := HA.lt) | (go_at_call 60; (with_reducible refine (CT.out _ HB).mono ?_); rintro e w3 ⟨t, rfl, ht, hbk⟩; (with_reducible (replace HB := HB.up hbk; replace HA := HA.up hbk)); clear ha_0 ha_1 ha_2 ha_l; have ha_0 := HA.c0; have ha_1 := HA.c1; have ha_2 := HA.c2; have ha_l := HA.lt) | (go_at_call 58; (with_reducible refine (CP.out _ _ ht).mono ?_); rintro e wx ⟨Ax, cx, rfl, nx, hbk⟩; (with_reducible (replace HB := HB.up hbk; replace HA := HA.up hbk)); clear ha_0 ha_1 ha_2 ha_l; have ha_0 := HA.c0; have ha_1 := HA.c1; have ha_2 := HA.c2; have ha_l := HA.lt) | (go_at_call 63; (with_reducible refine (CS.out _ (HB.al _)).mono ?_); rintro e ws ⟨As, cs, rfl, ns, hbk⟩; (with_reducible (have HX : At ws wx.heap.size [.bool b, .slice Ax (dl m) cx, .int .i64 (s : Int)] := At.up (at_new0 _ _ _) hbk; replace HB := (HB.al _).up hbk; replace HA := (HA.al _).up hbk; replace nx := (nx.al _).up hbk)); clear ha_0 ha_1 ha_2 ha_l; have ha_0 := HA.c0; have ha_1 := HA.c1; have ha_2 := HA.c2; have ha_l := HA.lt) | (go_at_call 64; (with_reducible refine (CR.out _ (HB.al _)).mono ?_); rintro e wr ⟨Ra, ca, Rb, cb, rfl, za, nb, hbk⟩; (with_reducible (have HS : At wr ws.heap.size [.bool b, .slice As (dl v) cs, .int .i64 (j : Int)] := At.up (at_new0 _ _ _) hbk; replace HB := (HB.al _).up hbk; replace HA := (HA.al _).up hbk; replace nx := (nx.al _).up hbk; replace ns := (ns.al _).up hbk; replace HX := (HX.al _).up hbk)); clear ha_0 ha_1 ha_2 ha_l; have ha_0 := HA.c0; have ha_1 := HA.c1; have ha_2 := HA.c2; have ha_l := HA.lt) | (go_at_call 59; (with_reducible refine (CO.out _ _ _ _ _ za nb).mono ?_); rintro e wo ⟨Ao, co, rfl, no, hbk⟩; (with_reducible (replace HB := HB.up hbk; replace HA := HA.up hbk; replace nx := nx.up hbk; replace ns := ns.up hbk; replace HX := HX.up hbk; replace HS := HS.up hbk)); clear ha_0 ha_1 ha_2 ha_l) | fail)
  obtain ⟨W5, hW5⟩ : ∃ W5, W5 = wo.alloc (.cells #[.bool sg, .slice Ao (dl v) co, .int .i64 (j : Int)] 83) := ⟨_, rfl⟩
  rw [← hW5]
  obtain ⟨po, hpo⟩ : ∃ po, po = wo.heap.size := ⟨_, rfl⟩
  rw [← hpo]
  obtain ⟨px, hpx⟩ : ∃ px, px = wx.heap.size := ⟨_, rfl⟩
  rw [← hpx] at HX ⊢
  obtain ⟨ps, hps⟩ : ∃ ps, ps = ws.heap.size := ⟨_, rfl⟩
  rw [← hps] at HS ⊢
  have HO : At W5 po [.bool sg, .slice Ao (dl v) co, .int .i64 (j : Int)] := by rw [hW5, hpo]; exact at_new0 _ _ _
  replace HA : At W5 w.heap.size [.bool b, .slice A n c, .int .i64 (s : Int)] := by rw [hW5]; exact HA.al _
  replace HX : At W5 px [.bool b, .slice Ax (dl m) cx, .int .i64 (s : Int)] := by rw [hW5]; exact HX.al _
  replace HS : At W5 ps [.bool b, .slice As (dl v) cs, .int .i64 (j : Int)] := by rw [hW5]; exact HS.al _
  replace HB : Bel w W5 := by rw [hW5]; exact HB.al _
  replace nx : Nm W5 Ax (dl m) cx m := by rw [hW5]; exact nx.al _
  replace ns : Nm W5 As (dl v) cs v := by rw [hW5]; exact ns.al _
  replace no : Nm W5 Ao (dl v) co v := by rw [hW5]; exact no.al _
  clear hW5 hpo hpx hps
  go_region_held3 (fun w' => w'.cell? ⟨w.heap.size, 0, none⟩ = some (.bool b) ∧ w'.cell? ⟨w.heap.size, 1, none⟩ = some (.slice A n c) ∧ w'.cell? ⟨w.heap.size, 2, none⟩ = some (.int .i64 (s : Int)) ∧ w'.cell? ⟨px, 0, none⟩ = some (.bool b) ∧ w'.cell? ⟨px, 1, none⟩ = some (.slice Ax (dl m) cx) ∧ w'.cell? ⟨px, 2, none⟩ = some (.int .i64 (s : Int)) ∧ w'.cell? ⟨ps, 0, none⟩ = some (.bool b) ∧ w'.cell? ⟨ps, 1, none⟩ = some (.slice As (dl v) cs) ∧ w'.cell? ⟨ps, 2, none⟩ = some (.int .i64 (j : Int)) ∧ w'.cell? ⟨po, 0, none⟩ = some (.bool sg) ∧ w'.cell? ⟨po, 1, none⟩ = some (.slice Ao (dl v) co) ∧ w'.cell? ⟨po, 2, none⟩ = some (.int .i64 (j : Int)))
    (refine ⟨(?_ : At _ w.heap.size [.bool b, .slice A n c, .int .i64 (s : Int)]).c0, (?_ : At _ w.heap.size [.bool b, .slice A n c, .int .i64 (s : Int)]).c1, (?_ : At _ w.heap.size [.bool b, .slice A n c, .int .i64 (s : Int)]).c2, (?_ : At _ px [.bool b, .slice Ax (dl m) cx, .int .i64 (s : Int)]).c0, (?_ : At _ px [.bool b, .slice Ax (dl m) cx, .int .i64 (s : Int)]).c1, (?_ : At _ px [.bool b, .slice Ax (dl m) cx, .int .i64 (s : Int)]).c2, (?_ : At _ ps [.bool b, .slice As (dl v) cs, .int .i64 (j : Int)]).c0, (?_ : At _ ps [.bool b, .slice As (dl v) cs, .int .i64 (j : Int)]).c1, (?_ : At _ ps [.bool b, .slice As (dl v) cs, .int .i64 (j : Int)]).c2, (?_ : At _ po [.bool sg, .slice Ao (dl v) co, .int .i64 (j : Int)]).c0, (?_ : At _ po [.bool sg, .slice Ao (dl v) co, .int .i64 (j : Int)]).c1, (?_ : At _ po [.bool sg, .slice Ao (dl v) co, .int .i64 (j : Int)]).c2⟩ <;> (repeat (first | with_reducible exact HA | with_reducible exact HX | with_reducible exact HS | with_reducible exact HO | (with_reducible refine At.dr ?_) | (with_reducible refine At.al ?_ _) | (with_reducible refine At.far ?_ (by omega) _))))
    (first | (go_at_call 66; (with_reducible refine (CW.out _ HB.dr).mono ?_); rintro e y1 ⟨A1, c1, rfl, r1, hbk⟩; (with_reducible (replace HB := HB.dr.up hbk; replace HA := HA.dr.up hbk; replace HX := HX.dr.up hbk; replace HS := HS.dr.up hbk; replace HO := HO.dr.up hbk; replace nx := nx.dr.up hbk; replace ns := ns.dr.up hbk; replace no := no.dr.up hbk))) | (go_at_call 65; (with_reducible refine (CI.out _ _ _ _ _ nx r1).mono ?_); rintro e y2 ⟨rfl, hbk⟩; replace hbk := Bel.hid hbk; (with_reducible (replace HB := HB.up hbk; replace HA := HA.up hbk; replace HX := HX.up hbk; replace HS := HS.up hbk; replace HO := HO.up hbk; replace nx := nx.up hbk; replace ns := ns.up hbk; replace no := no.up hbk))) | (go_at_call 64; (with_reducible refine (CR2.out _ _ _ ns).mono ?_); rintro e y3 ⟨Sa, ea, Sb, eb, rfl, zs, ms, hbk⟩; (with_reducible (replace HB := HB.up hbk; replace HA := HA.up hbk; replace HX := HX.up hbk; replace HS := HS.up hbk; replace HO := HO.up hbk; replace nx := nx.up hbk; replace ns := ns.up hbk; replace no := no.up hbk))) | (go_at_call 64; (with_reducible refine (CR.out _ HB).mono ?_); rintro e y4 ⟨Ta, fa, Tb, fb, rfl, zt, mt, hbk⟩; (with_reducible (replace HB := HB.up hbk; replace HA := HA.up hbk; replace HX := HX.up hbk; replace HS := HS.up hbk; replace HO := HO.up hbk; replace nx := nx.up hbk; replace ns := ns.up hbk; replace no := no.up hbk; replace zs := zs.up hbk; replace ms := ms.up hbk))) | (go_at_call 67; (with_reducible refine (CC.out _ _ _ _ _ _ _ _ _ zs ms zt mt).mono ?_); rintro e y5 ⟨rfl, hbk⟩; (with_reducible (replace HB := HB.up hbk; replace HA := HA.up hbk; replace HX := HX.up hbk; replace HS := HS.up hbk; replace HO := HO.up hbk; replace nx := nx.up hbk; replace ns := ns.up hbk; replace no := no.up hbk))) | (go_at_call 66; (with_reducible refine (CW2.out _ _ _ ns).mono ?_); rintro e y6 ⟨A2, c2, rfl, r2, hbk⟩; (with_reducible (replace HB := HB.up hbk; replace HA := HA.up hbk; replace HX := HX.up hbk; replace HS := HS.up hbk; replace HO := HO.up hbk; replace nx := nx.up hbk; replace ns := ns.up hbk; replace no := no.up hbk))) | (go_at_call 65; (with_reducible refine (CI2.out _ _ _ _ _ no r2).mono ?_); rintro e y7 ⟨rfl, hbk⟩; replace hbk := Bel.hid hbk; (with_reducible (replace HB := HB.up hbk; replace HA := HA.up hbk; replace HX := HX.up hbk; replace HS := HS.up hbk; replace HO := HO.up hbk; replace nx := nx.up hbk; replace ns := ns.up hbk; replace no := no.up hbk))) | (go_at_call 62; (with_reducible refine (CQ.out _ HB).mono ?_); rintro e y8 ⟨t8, rfl, ht8, hbk⟩; (with_reducible (replace HB := HB.up hbk; replace HA := HA.up hbk; replace HX := HX.up hbk; replace HS := HS.up hbk; replace HO := HO.up hbk; replace nx := nx.up hbk; replace ns := ns.up hbk; replace no := no.up hbk)); have hts : t8.size = s := (by rw [size_list, ht8.out, HPS.out])) | fail)
  go_wp2
  go_ret
  exact ⟨rfl, HB⟩
end
theorem decback_walk {b : Bool} {A : Option Addr} {n c : Nat} {s : Int} {z : List Nat} (w : World) (h : n = z.length ∧ n ≤ c ∧ Rd U32 w w.heap.size A z ∧ Good32 z) (_hs : -9223372036854775808 ≤ s ∧ s ≤ 9223372036854775807) : Calls Tryd.prog 8 #[.agg #[.bool b, .slice A n c, .int .i64 s]] w fun e w' => e = .returned (.bool true) ∧ Below w.heap.size w w' := by
  by_cases hn : n ≤ 16
  · have hN : Nm w A n c (val W32 z) := nm_later (later_of h (by omega)) (Below.refl _ _)
    obtain ⟨u, hu1, hu2⟩ := dgood_e (b := b) hN s
    cases u
    · exact decback_x1 w hn hu2
    · obtain ⟨h0, h6, hb⟩ := hu1 rfl
      obtain ⟨k, rfl⟩ : ∃ k : Nat, s = (k : Int) := ⟨s.toNat, by omega⟩
      have hm : dl (val W32 z) ≤ 16 := by
        have h1 := digs_len_le (b := W32) (by decide) z h.2.2.2
        unfold dl
        omega
      exact decback_main w hn ⟨hN, by omega, hb, hu2⟩ hm
  · exact decback_x0 w hn
end Go.Proofs.YtdjngaejdmlekaaDoor
