/- DecParts: the walk over any text. No conditions. -/
import Derived.Test.YtdjngaejdmlekaaDoorGDvc28
import Derived.Test.YtdjngaejdmlekaaDoorGDvc26
import Derived.Deep.LoopGhost
open Go.RowKit
set_option maxRecDepth 100000
namespace Go.Proofs.YtdjngaejdmlekaaDoor
theorem dig_at {t : ByteArray} {P : List UInt8} (ht : t.data.toList = P) (hP : P.all isDig = true) {k : Nat} (hk : k < P.length) : ∃ hx : k < t.size, ¬ (t[k].toNat : Int) < 48 ∧ ¬ 57 < (t[k].toNat : Int) := by
  obtain ⟨hx, e⟩ := get_list ht hk
  refine ⟨hx, ?_⟩
  rw [e]
  have := (dig_iff _).1 (List.all_eq_true.1 hP _ (List.getElem_mem hk))
  omega
section
variable {W : World} {A : Option Addr} {c v sc : Nat} {s : ByteArray}
theorem decparts_x0 (hs : 256 < s.size) : Calls Tryd.prog 9 #[.string s] W (BoolR W true) := by
  have HB := Bel.refl W
  go_enter Tryd.func9, Tryd.ntmps9
  go_wp2_with (first | (go_at_call 57; (with_reducible refine (awake4_any _).mono ?_); rintro e w1 ⟨rfl, hbk⟩; replace HB := HB.up hbk) | fail)
  go_ret
  exact ⟨rfl, HB⟩
theorem decparts_x1 (hs : ¬ 256 < s.size) (h : ∀ W, Calls Tryd.prog 58 #[.string s] W (DPE W 2)) : Calls Tryd.prog 9 #[.string s] W (BoolR W true) := by
  have CP := hide h
  clear h
  have HB := Bel.refl W
  go_enter Tryd.func9, Tryd.ntmps9
  go_wp2_with (first | (go_at_call 57; (with_reducible refine (awake4_any _).mono ?_); rintro e w1 ⟨rfl, hbk⟩; replace HB := HB.up hbk) | (go_at_call 58; (with_reducible refine (CP.out _).mono ?_); rintro e w2 ⟨rfl, hbk⟩; replace HB := HB.up hbk) | fail)
  go_ret
  exact ⟨rfl, HB.al _⟩
/-- The sign of a numeral's value. -/
theorem drat_sign {b : Bool} {m k : Nat} (hb : b = true → 0 < m) : (if b then (mkRat (zi b m) (10 ^ k)).num.sign < 0 else ¬ (mkRat (zi b m) (10 ^ k)).num.sign < 0) := by
  have h0 : 0 < 10 ^ k := Nat.pow_pos (by decide)
  have e := sign_mk (z := zi b m) h0
  cases b
  · rw [if_neg (by simp), e, zi_false]
    intro h
    have := Int.sign_neg_iff.1 h
    omega
  · rw [if_pos rfl, e, zi_true]
    refine Int.sign_neg_iff.2 ?_
    have := hb rfl
    omega
theorem drat_bd {b : Bool} {m k : Nat} (hd : dl m ≤ 256) (hk : k ≤ 60) : Bd (mkRat (zi b m) (10 ^ k)) 256 := by
  refine tt_bd ⟨Nat.pow_pos (by decide), rfl, ?_, ?_⟩
  · rw [zi_abs]
    exact Nat.lt_of_lt_of_le (lt_pow_digs (b := W32) (by decide) m) (Nat.pow_le_pow_right (by decide) hd)
  · exact Nat.lt_of_le_of_lt (Nat.pow_le_pow_right (by decide) hk) (Nat.lt_of_lt_of_le (Nat.pow_lt_pow_left (show 10 < W32 by decide) (by decide)) (Nat.pow_le_pow_right (by decide) (show 60 ≤ 256 by decide)))
theorem text_len {b : Bool} {m k : Nat} (hd : dl m ≤ 256) (hk : k ≤ 60) : (decD b m k).length ≤ 3000 ∧ (decL (m / 10 ^ k)).length ≤ 2600 ∧ (partL m k).length ≤ 60 := by
  have h1 : m / 10 ^ k < W32 ^ 256 := Nat.lt_of_le_of_lt (Nat.div_le_self _ _) (Nat.lt_of_lt_of_le (lt_pow_digs (b := W32) (by decide) m) (Nat.pow_le_pow_right (by decide) hd))
  have h2 := dec_bd h1
  have h3 := (part_facts m k).2.1
  refine ⟨?_, by omega, by omega⟩
  unfold decD
  rw [List.length_append, List.length_append]
  have e1 : (if b = true then [(45 : UInt8)] else []).length ≤ 1 := by cases b <;> decide
  have e2 : (if k = 0 then [] else (46 : UInt8) :: partL m k).length ≤ 61 := by
    split
    · simp
    · rw [List.length_cons]; omega
  omega
set_option maxHeartbeats 16000000 in
theorem decparts_pz (hs : ¬ 256 < s.size) (h : ∀ W, Calls Tryd.prog 58 #[.string s] W (DPR W false v sc)) (hn : false = true → 0 < v) (hsc : sc ≤ 60) (hd : dl v ≤ 256) (h0 : sc = 0) : Calls Tryd.prog 9 #[.string s] W (BoolR W true) := by
  have CP := hide h
  have HNG := hide hn
  have HSC := hide hsc
  have HDL := hide hd
  have H0 := hide h0
  clear h hn hsc hd h0
  have HB := Bel.refl W
  go_enter Tryd.func9, Tryd.ntmps9
  go_wp2_with (first | (go_at_call 57; (with_reducible refine (awake4_any _).mono ?_); rintro e w1 ⟨rfl, hbk⟩; replace HB := HB.up hbk) | (go_at_call 58; (with_reducible refine (CP.out _).mono ?_); rintro e w2 ⟨A, c, rfl, nm, hbk⟩; replace HB := HB.up hbk) | fail)
  obtain ⟨W3, hW3⟩ : ∃ W3, W3 = w2.alloc (.cells #[.bool false, .slice A (dl v) c, .int .i64 (sc : Int)] 83) := ⟨_, rfl⟩
  rw [← hW3]
  obtain ⟨p, hp⟩ : ∃ p, p = w2.heap.size := ⟨_, rfl⟩
  rw [← hp]
  have HD3 : At W3 p [.bool false, .slice A (dl v) c, .int .i64 (sc : Int)] := by rw [hW3, hp]; exact at_new0 _ _ _
  replace HB : Bel W W3 := by rw [hW3]; exact HB.al _
  have nx : DX W3 false A (dl v) c v sc := by rw [hW3]; exact dx_can (nm.al _) HSC.out HNG.out
  clear hW3 hp nm
  have hdl : dl v ≤ 99999 := Nat.le_trans HDL.out (by decide)
  obtain ⟨tl1, tl2, tl3⟩ := text_len (b := false) (m := v) (k := sc) HDL.out HSC.out
  obtain ⟨P, hP⟩ : ∃ P, P = partL v sc := ⟨_, rfl⟩
  obtain ⟨X, hX⟩ : ∃ X, X = decL (v / 10 ^ sc) := ⟨_, rfl⟩
  obtain ⟨r, hr⟩ : ∃ r : Rat, r = mkRat (zi false v) (10 ^ sc) := ⟨_, rfl⟩
  obtain ⟨sg, hsg⟩ : ∃ sg, sg = decide (r.num < 0) := ⟨_, rfl⟩
  obtain ⟨u, hu, hu2⟩ : ∃ u, r.num.sign = u ∧ ¬ u < 0 := by
    have h1 := drat_sign (b := false) (m := v) (k := sc) HNG.out
    rw [← hr] at h1
    exact ⟨_, rfl, by simpa using h1⟩
  have hbd : Bd r 256 := by rw [hr]; exact drat_bd HDL.out HSC.out
  have CQ : Hid (∀ W', Bel W3 W' → Calls Tryd.prog 62 #[.agg #[.bool false, .slice A (dl v) c, .int .i64 (sc : Int)]] W' (TxR W' P)) := fun W' hb => by rw [hP]; exact part_h (nx.bel hb).y hdl
  have CH : Hid (∀ W', Bel W3 W' → Calls Tryd.prog 68 #[.agg #[.bool false, .slice A (dl v) c, .int .i64 (sc : Int)]] W' (TxR W' X)) := fun W' hb => by rw [hX]; exact lwhole_h (nx.bel hb) hdl (by omega)
  have CT : Hid (∀ W' (S : ByteArray), Bel W3 W' → Hid (S.data.toList = decD false v sc) → Calls Tryd.prog 60 #[.agg #[.bool false, .slice A (dl v) c, .int .i64 (sc : Int)]] W' (DStr W' S)) := fun W' S hb hS => (dtext_h (nx.bel hb).y hdl).mono fun _ _ h1 => dstr_of h1 hS.out
  have CR : Hid (∀ W', Bel W3 W' → Calls Tryd.prog 64 #[.agg #[.bool false, .slice A (dl v) c, .int .i64 (sc : Int)]] W' (QRw W' sg r)) := fun W' hb => by rw [hsg]; exact drat_h (nx.bel hb).y hdl hr.symm
  have CG : Hid (∀ W' B e B' e', ZA W' sg B (dl r.num.natAbs) e r.num → Nm W' B' (dl r.den) e' r.den → Calls Tryd.prog 69 #[.agg #[.bool sg, .slice B (dl r.num.natAbs) e, .slice B' (dl r.den) e']] W' (RetB W' true)) := fun W' B e B' e' h1 h2 => by
    rw [hsg] at h1 ⊢
    exact rgood_yes h1 h2 hbd (by decide)
  have CS : Hid (∀ W' B e B' e', ZA W' sg B (dl r.num.natAbs) e r.num → Nm W' B' (dl r.den) e' r.den → Calls Tryd.prog 70 #[.agg #[.bool sg, .slice B (dl r.num.natAbs) e, .slice B' (dl r.den) e']] W' (IntPost W' u)) := fun W' B e B' e' h1 h2 => rsign_h ⟨r.num, r.den, h1, h2, Rat.mkRat_self r, hbd⟩ (by decide) hu
  have HDD : Hid (decD false v sc = (X ++ [])) := by unfold Hid decD; rw [if_pos H0.out, hX]; rfl
  have HPL : Hid (P.length = sc ∧ P.all isDig = true) := by unfold Hid; rw [hP]; exact ⟨(part_facts v sc).2.1, (part_facts v sc).2.2.2⟩
  have HXL : Hid (X.length ≤ 2600) := by unfold Hid; rw [hX]; exact tl2
  clear hdl tl1 tl2 tl3 hP hX hr hsg hu hbd nx
  go_loopw [6] (fun iv wr => ∃ k : Nat, k ≤ sc ∧ iv = .int .i64 (k : Int) ∧ Hid (Bel W3 wr)) (fun iv _ => sc - (intOf iv).toNat)
  case atStart => exact ⟨0, Nat.zero_le _, rfl, Bel.refl W3⟩
  case round =>
    obtain ⟨k, hk, rfl, HW0⟩ := hrel
    have HW : Bel W3 wr := HW0
    have HD := At.up HD3 HW.hid
    clear HW0
    have hsc := HSC.out
    have hd_0 := HD.c0
    have hd_1 := HD.c1
    have hd_2 := HD.c2
    have hd_l := HD.lt
    by_cases hlt : k < sc
    · have hlP : k < P.length := by rw [HPL.out.1]; exact hlt
      have HLP := hide hlP
      clear hlP
      go_wp2_with (first | (go_at_call 62; (with_reducible refine (CQ.out _ HW).mono ?_); rintro e w4 ⟨t, rfl, ht, hbk⟩; (with_reducible (replace HW := HW.up hbk; replace HD := HD.up hbk)); clear hd_0 hd_1 hd_2 hd_l; have hd_0 := HD.c0; have hd_1 := HD.c1; have hd_2 := HD.c2; have hd_l := HD.lt; obtain ⟨hx, hge, hle⟩ := dig_at ht.out HPL.out.2 HLP.out) | fail)
      go_roundw
      case rel => exact ⟨k + 1, by omega, by go_num, HW⟩
      case measure => simp [intOf]; omega
    · obtain rfl : k = sc := by omega
      have HEM : Hid (P.isEmpty = true) := by
        have h1 := HPL.out.1
        have h2 := H0.out
        unfold Hid
        cases P with
        | nil => rfl
        | cons a l => rw [h2] at h1; cases h1
      go_wp2_with (first | (go_at_call 62; (with_reducible refine (CQ.out _ HW).mono ?_); rintro e w4 ⟨t, rfl, ht, hbk⟩; (with_reducible (replace HW := HW.up hbk; replace HD := HD.up hbk)); clear hd_0 hd_1 hd_2 hd_l; have hd_0 := HD.c0; have hd_1 := HD.c1; have hd_2 := HD.c2; have hd_l := HD.lt; have hts : t.size = k := (by rw [size_list, ht.out, HPL.out.1]); have hem := (empty_iff t).trans (show t.data.toList.isEmpty = true by rw [ht.out]; exact HEM.out)) | (go_at_call 68; (with_reducible refine (CH.out _ HW).mono ?_); rintro e w5 ⟨x, rfl, hx, hbk⟩; (with_reducible (replace HW := HW.up hbk; replace HD := HD.up hbk)); clear hd_0 hd_1 hd_2 hd_l; have hd_0 := HD.c0; have hd_1 := HD.c1; have hd_2 := HD.c2; have hd_l := HD.lt; have hxs : x.size ≤ 2600 := (by rw [size_list, hx.out]; exact HXL.out)) | fail)
      all_goals first
        | (exfalso; omega)
        | skip
      have HTX : Hid (((⟨#[]⟩ ++ x) : ByteArray).data.toList = decD false v k) := by
        unfold Hid
        rw [HDD.out]
        simp [hx.out]
      go_region_held3 (fun w' => w'.cell? ⟨p, 0, none⟩ = some (.bool false) ∧ w'.cell? ⟨p, 1, none⟩ = some (.slice A (dl v) c) ∧ w'.cell? ⟨p, 2, none⟩ = some (.int .i64 (k : Int)))
        (refine ⟨(?_ : At _ p [.bool false, .slice A (dl v) c, .int .i64 (k : Int)]).c0, (?_ : At _ p [.bool false, .slice A (dl v) c, .int .i64 (k : Int)]).c1, (?_ : At _ p [.bool false, .slice A (dl v) c, .int .i64 (k : Int)]).c2⟩ <;> (repeat (first | with_reducible exact HD | (with_reducible refine At.dr ?_) | (with_reducible refine At.al ?_ _) | (with_reducible refine At.far ?_ (by omega) _))))
        (first | (go_at_call 60; (with_reducible refine (CT.out _ _ HW.dr HTX).mono ?_); rintro e w6 ⟨rfl, hbk⟩; (with_reducible (replace HW := HW.dr.up hbk; replace HD := HD.dr.up hbk))) | (go_at_call 64; (with_reducible refine (CR.out _ HW).mono ?_); rintro e w7 ⟨Ra, ca, Rb, cb, rfl, za, nb, hbk⟩; (with_reducible (replace HW := HW.up hbk; replace HD := HD.up hbk))) | (go_at_call 69; (with_reducible refine (CG.out _ _ _ _ _ za nb).mono ?_); rintro e w8 ⟨rfl, hbk⟩; replace hbk := Bel.hid hbk; (with_reducible (replace HW := HW.up hbk; replace HD := HD.up hbk))) | (go_at_call 70; (with_reducible refine (CS.out _ _ _ _ _ za nb).mono ?_); rintro e w9 ⟨rfl, hbk⟩; (with_reducible (replace HW := HW.up hbk; replace HD := HD.up hbk))) | fail)
      go_wp2
      go_ret
      refine ⟨?_, HB.up HW.hid⟩
      first | rfl | simp [hu2] | (rw [decide_eq_true hu2]; rfl) | (rw [decide_eq_false hu2]; rfl)
set_option maxHeartbeats 16000000 in
theorem decparts_pp (hs : ¬ 256 < s.size) (h : ∀ W, Calls Tryd.prog 58 #[.string s] W (DPR W false v sc)) (hn : false = true → 0 < v) (hsc : sc ≤ 60) (hd : dl v ≤ 256) (h0 : sc ≠ 0) : Calls Tryd.prog 9 #[.string s] W (BoolR W true) := by
  have CP := hide h
  have HNG := hide hn
  have HSC := hide hsc
  have HDL := hide hd
  have H0 := hide h0
  clear h hn hsc hd h0
  have HB := Bel.refl W
  go_enter Tryd.func9, Tryd.ntmps9
  go_wp2_with (first | (go_at_call 57; (with_reducible refine (awake4_any _).mono ?_); rintro e w1 ⟨rfl, hbk⟩; replace HB := HB.up hbk) | (go_at_call 58; (with_reducible refine (CP.out _).mono ?_); rintro e w2 ⟨A, c, rfl, nm, hbk⟩; replace HB := HB.up hbk) | fail)
  obtain ⟨W3, hW3⟩ : ∃ W3, W3 = w2.alloc (.cells #[.bool false, .slice A (dl v) c, .int .i64 (sc : Int)] 83) := ⟨_, rfl⟩
  rw [← hW3]
  obtain ⟨p, hp⟩ : ∃ p, p = w2.heap.size := ⟨_, rfl⟩
  rw [← hp]
  have HD3 : At W3 p [.bool false, .slice A (dl v) c, .int .i64 (sc : Int)] := by rw [hW3, hp]; exact at_new0 _ _ _
  replace HB : Bel W W3 := by rw [hW3]; exact HB.al _
  have nx : DX W3 false A (dl v) c v sc := by rw [hW3]; exact dx_can (nm.al _) HSC.out HNG.out
  clear hW3 hp nm
  have hdl : dl v ≤ 99999 := Nat.le_trans HDL.out (by decide)
  obtain ⟨tl1, tl2, tl3⟩ := text_len (b := false) (m := v) (k := sc) HDL.out HSC.out
  obtain ⟨P, hP⟩ : ∃ P, P = partL v sc := ⟨_, rfl⟩
  obtain ⟨X, hX⟩ : ∃ X, X = decL (v / 10 ^ sc) := ⟨_, rfl⟩
  obtain ⟨r, hr⟩ : ∃ r : Rat, r = mkRat (zi false v) (10 ^ sc) := ⟨_, rfl⟩
  obtain ⟨sg, hsg⟩ : ∃ sg, sg = decide (r.num < 0) := ⟨_, rfl⟩
  obtain ⟨u, hu, hu2⟩ : ∃ u, r.num.sign = u ∧ ¬ u < 0 := by
    have h1 := drat_sign (b := false) (m := v) (k := sc) HNG.out
    rw [← hr] at h1
    exact ⟨_, rfl, by simpa using h1⟩
  have hbd : Bd r 256 := by rw [hr]; exact drat_bd HDL.out HSC.out
  have CQ : Hid (∀ W', Bel W3 W' → Calls Tryd.prog 62 #[.agg #[.bool false, .slice A (dl v) c, .int .i64 (sc : Int)]] W' (TxR W' P)) := fun W' hb => by rw [hP]; exact part_h (nx.bel hb).y hdl
  have CH : Hid (∀ W', Bel W3 W' → Calls Tryd.prog 68 #[.agg #[.bool false, .slice A (dl v) c, .int .i64 (sc : Int)]] W' (TxR W' X)) := fun W' hb => by rw [hX]; exact lwhole_h (nx.bel hb) hdl (by omega)
  have CT : Hid (∀ W' (S : ByteArray), Bel W3 W' → Hid (S.data.toList = decD false v sc) → Calls Tryd.prog 60 #[.agg #[.bool false, .slice A (dl v) c, .int .i64 (sc : Int)]] W' (DStr W' S)) := fun W' S hb hS => (dtext_h (nx.bel hb).y hdl).mono fun _ _ h1 => dstr_of h1 hS.out
  have CR : Hid (∀ W', Bel W3 W' → Calls Tryd.prog 64 #[.agg #[.bool false, .slice A (dl v) c, .int .i64 (sc : Int)]] W' (QRw W' sg r)) := fun W' hb => by rw [hsg]; exact drat_h (nx.bel hb).y hdl hr.symm
  have CG : Hid (∀ W' B e B' e', ZA W' sg B (dl r.num.natAbs) e r.num → Nm W' B' (dl r.den) e' r.den → Calls Tryd.prog 69 #[.agg #[.bool sg, .slice B (dl r.num.natAbs) e, .slice B' (dl r.den) e']] W' (RetB W' true)) := fun W' B e B' e' h1 h2 => by
    rw [hsg] at h1 ⊢
    exact rgood_yes h1 h2 hbd (by decide)
  have CS : Hid (∀ W' B e B' e', ZA W' sg B (dl r.num.natAbs) e r.num → Nm W' B' (dl r.den) e' r.den → Calls Tryd.prog 70 #[.agg #[.bool sg, .slice B (dl r.num.natAbs) e, .slice B' (dl r.den) e']] W' (IntPost W' u)) := fun W' B e B' e' h1 h2 => rsign_h ⟨r.num, r.den, h1, h2, Rat.mkRat_self r, hbd⟩ (by decide) hu
  have HDD : Hid (decD false v sc = (X ++ (46 :: P))) := by unfold Hid decD; rw [if_neg H0.out, hX, hP]; rfl
  have HPL : Hid (P.length = sc ∧ P.all isDig = true) := by unfold Hid; rw [hP]; exact ⟨(part_facts v sc).2.1, (part_facts v sc).2.2.2⟩
  have HXL : Hid (X.length ≤ 2600) := by unfold Hid; rw [hX]; exact tl2
  clear hdl tl1 tl2 tl3 hP hX hr hsg hu hbd nx
  go_loopw [6] (fun iv wr => ∃ k : Nat, k ≤ sc ∧ iv = .int .i64 (k : Int) ∧ Hid (Bel W3 wr)) (fun iv _ => sc - (intOf iv).toNat)
  case atStart => exact ⟨0, Nat.zero_le _, rfl, Bel.refl W3⟩
  case round =>
    obtain ⟨k, hk, rfl, HW0⟩ := hrel
    have HW : Bel W3 wr := HW0
    have HD := At.up HD3 HW.hid
    clear HW0
    have hsc := HSC.out
    have hd_0 := HD.c0
    have hd_1 := HD.c1
    have hd_2 := HD.c2
    have hd_l := HD.lt
    by_cases hlt : k < sc
    · have hlP : k < P.length := by rw [HPL.out.1]; exact hlt
      have HLP := hide hlP
      clear hlP
      go_wp2_with (first | (go_at_call 62; (with_reducible refine (CQ.out _ HW).mono ?_); rintro e w4 ⟨t, rfl, ht, hbk⟩; (with_reducible (replace HW := HW.up hbk; replace HD := HD.up hbk)); clear hd_0 hd_1 hd_2 hd_l; have hd_0 := HD.c0; have hd_1 := HD.c1; have hd_2 := HD.c2; have hd_l := HD.lt; obtain ⟨hx, hge, hle⟩ := dig_at ht.out HPL.out.2 HLP.out) | fail)
      go_roundw
      case rel => exact ⟨k + 1, by omega, by go_num, HW⟩
      case measure => simp [intOf]; omega
    · obtain rfl : k = sc := by omega
      have HEM : Hid (P.isEmpty = false) := by
        have h1 := HPL.out.1
        have h2 := H0.out
        unfold Hid
        cases P with
        | nil => exact absurd h1.symm h2
        | cons a l => rfl
      go_wp2_with (first | (go_at_call 62; (with_reducible refine (CQ.out _ HW).mono ?_); rintro e w4 ⟨t, rfl, ht, hbk⟩; (with_reducible (replace HW := HW.up hbk; replace HD := HD.up hbk)); clear hd_0 hd_1 hd_2 hd_l; have hd_0 := HD.c0; have hd_1 := HD.c1; have hd_2 := HD.c2; have hd_l := HD.lt; have hts : t.size = k := (by rw [size_list, ht.out, HPL.out.1]); have hem := (empty_iff t).trans (show t.data.toList.isEmpty = false by rw [ht.out]; exact HEM.out)) | (go_at_call 68; (with_reducible refine (CH.out _ HW).mono ?_); rintro e w5 ⟨x, rfl, hx, hbk⟩; (with_reducible (replace HW := HW.up hbk; replace HD := HD.up hbk)); clear hd_0 hd_1 hd_2 hd_l; have hd_0 := HD.c0; have hd_1 := HD.c1; have hd_2 := HD.c2; have hd_l := HD.lt; have hxs : x.size ≤ 2600 := (by rw [size_list, hx.out]; exact HXL.out)) | fail)
      all_goals first
        | (exfalso; omega)
        | skip
      have HTX : Hid (((((⟨#[]⟩ ++ x) ++ ⟨#[46]⟩) ++ t) : ByteArray).data.toList = decD false v k) := by
        unfold Hid
        rw [HDD.out]
        simp [hx.out, ht.out]
      go_region_held3 (fun w' => w'.cell? ⟨p, 0, none⟩ = some (.bool false) ∧ w'.cell? ⟨p, 1, none⟩ = some (.slice A (dl v) c) ∧ w'.cell? ⟨p, 2, none⟩ = some (.int .i64 (k : Int)))
        (refine ⟨(?_ : At _ p [.bool false, .slice A (dl v) c, .int .i64 (k : Int)]).c0, (?_ : At _ p [.bool false, .slice A (dl v) c, .int .i64 (k : Int)]).c1, (?_ : At _ p [.bool false, .slice A (dl v) c, .int .i64 (k : Int)]).c2⟩ <;> (repeat (first | with_reducible exact HD | (with_reducible refine At.dr ?_) | (with_reducible refine At.al ?_ _) | (with_reducible refine At.far ?_ (by omega) _))))
        (first | (go_at_call 60; (with_reducible refine (CT.out _ _ HW.dr HTX).mono ?_); rintro e w6 ⟨rfl, hbk⟩; (with_reducible (replace HW := HW.dr.up hbk; replace HD := HD.dr.up hbk))) | (go_at_call 64; (with_reducible refine (CR.out _ HW).mono ?_); rintro e w7 ⟨Ra, ca, Rb, cb, rfl, za, nb, hbk⟩; (with_reducible (replace HW := HW.up hbk; replace HD := HD.up hbk))) | (go_at_call 69; (with_reducible refine (CG.out _ _ _ _ _ za nb).mono ?_); rintro e w8 ⟨rfl, hbk⟩; replace hbk := Bel.hid hbk; (with_reducible (replace HW := HW.up hbk; replace HD := HD.up hbk))) | (go_at_call 70; (with_reducible refine (CS.out _ _ _ _ _ za nb).mono ?_); rintro e w9 ⟨rfl, hbk⟩; (with_reducible (replace HW := HW.up hbk; replace HD := HD.up hbk))) | fail)
      go_wp2
      go_ret
      refine ⟨?_, HB.up HW.hid⟩
      first | rfl | simp [hu2] | (rw [decide_eq_true hu2]; rfl) | (rw [decide_eq_false hu2]; rfl)
set_option maxHeartbeats 16000000 in
theorem decparts_nz (hs : ¬ 256 < s.size) (h : ∀ W, Calls Tryd.prog 58 #[.string s] W (DPR W true v sc)) (hn : true = true → 0 < v) (hsc : sc ≤ 60) (hd : dl v ≤ 256) (h0 : sc = 0) : Calls Tryd.prog 9 #[.string s] W (BoolR W true) := by
  have CP := hide h
  have HNG := hide (hn rfl)
  have HSC := hide hsc
  have HDL := hide hd
  have H0 := hide h0
  clear h hn hsc hd h0
  have HB := Bel.refl W
  go_enter Tryd.func9, Tryd.ntmps9
  go_wp2_with (first | (go_at_call 57; (with_reducible refine (awake4_any _).mono ?_); rintro e w1 ⟨rfl, hbk⟩; replace HB := HB.up hbk) | (go_at_call 58; (with_reducible refine (CP.out _).mono ?_); rintro e w2 ⟨A, c, rfl, nm, hbk⟩; replace HB := HB.up hbk) | fail)
  obtain ⟨W3, hW3⟩ : ∃ W3, W3 = w2.alloc (.cells #[.bool true, .slice A (dl v) c, .int .i64 (sc : Int)] 83) := ⟨_, rfl⟩
  rw [← hW3]
  obtain ⟨p, hp⟩ : ∃ p, p = w2.heap.size := ⟨_, rfl⟩
  rw [← hp]
  have HD3 : At W3 p [.bool true, .slice A (dl v) c, .int .i64 (sc : Int)] := by rw [hW3, hp]; exact at_new0 _ _ _
  replace HB : Bel W W3 := by rw [hW3]; exact HB.al _
  have nx : DX W3 true A (dl v) c v sc := by rw [hW3]; exact dx_can (nm.al _) HSC.out (fun _ => HNG.out)
  clear hW3 hp nm
  have hdl : dl v ≤ 99999 := Nat.le_trans HDL.out (by decide)
  obtain ⟨tl1, tl2, tl3⟩ := text_len (b := true) (m := v) (k := sc) HDL.out HSC.out
  obtain ⟨P, hP⟩ : ∃ P, P = partL v sc := ⟨_, rfl⟩
  obtain ⟨X, hX⟩ : ∃ X, X = decL (v / 10 ^ sc) := ⟨_, rfl⟩
  obtain ⟨r, hr⟩ : ∃ r : Rat, r = mkRat (zi true v) (10 ^ sc) := ⟨_, rfl⟩
  obtain ⟨sg, hsg⟩ : ∃ sg, sg = decide (r.num < 0) := ⟨_, rfl⟩
  obtain ⟨u, hu, hu2⟩ : ∃ u, r.num.sign = u ∧ u < 0 := by
    have h1 := drat_sign (b := true) (m := v) (k := sc) (fun _ => HNG.out)
    rw [← hr] at h1
    exact ⟨_, rfl, by simpa using h1⟩
  have hbd : Bd r 256 := by rw [hr]; exact drat_bd HDL.out HSC.out
  have CQ : Hid (∀ W', Bel W3 W' → Calls Tryd.prog 62 #[.agg #[.bool true, .slice A (dl v) c, .int .i64 (sc : Int)]] W' (TxR W' P)) := fun W' hb => by rw [hP]; exact part_h (nx.bel hb).y hdl
  have CH : Hid (∀ W', Bel W3 W' → Calls Tryd.prog 68 #[.agg #[.bool true, .slice A (dl v) c, .int .i64 (sc : Int)]] W' (TxR W' X)) := fun W' hb => by rw [hX]; exact lwhole_h (nx.bel hb) hdl (by omega)
  have CT : Hid (∀ W' (S : ByteArray), Bel W3 W' → Hid (S.data.toList = decD true v sc) → Calls Tryd.prog 60 #[.agg #[.bool true, .slice A (dl v) c, .int .i64 (sc : Int)]] W' (DStr W' S)) := fun W' S hb hS => (dtext_h (nx.bel hb).y hdl).mono fun _ _ h1 => dstr_of h1 hS.out
  have CR : Hid (∀ W', Bel W3 W' → Calls Tryd.prog 64 #[.agg #[.bool true, .slice A (dl v) c, .int .i64 (sc : Int)]] W' (QRw W' sg r)) := fun W' hb => by rw [hsg]; exact drat_h (nx.bel hb).y hdl hr.symm
  have CG : Hid (∀ W' B e B' e', ZA W' sg B (dl r.num.natAbs) e r.num → Nm W' B' (dl r.den) e' r.den → Calls Tryd.prog 69 #[.agg #[.bool sg, .slice B (dl r.num.natAbs) e, .slice B' (dl r.den) e']] W' (RetB W' true)) := fun W' B e B' e' h1 h2 => by
    rw [hsg] at h1 ⊢
    exact rgood_yes h1 h2 hbd (by decide)
  have CS : Hid (∀ W' B e B' e', ZA W' sg B (dl r.num.natAbs) e r.num → Nm W' B' (dl r.den) e' r.den → Calls Tryd.prog 70 #[.agg #[.bool sg, .slice B (dl r.num.natAbs) e, .slice B' (dl r.den) e']] W' (IntPost W' u)) := fun W' B e B' e' h1 h2 => rsign_h ⟨r.num, r.den, h1, h2, Rat.mkRat_self r, hbd⟩ (by decide) hu
  have HDD : Hid (decD true v sc = 45 :: (X ++ [])) := by unfold Hid decD; rw [if_pos H0.out, hX]; rfl
  have HPL : Hid (P.length = sc ∧ P.all isDig = true) := by unfold Hid; rw [hP]; exact ⟨(part_facts v sc).2.1, (part_facts v sc).2.2.2⟩
  have HXL : Hid (X.length ≤ 2600) := by unfold Hid; rw [hX]; exact tl2
  clear hdl tl1 tl2 tl3 hP hX hr hsg hu hbd nx
  go_loopw [6] (fun iv wr => ∃ k : Nat, k ≤ sc ∧ iv = .int .i64 (k : Int) ∧ Hid (Bel W3 wr)) (fun iv _ => sc - (intOf iv).toNat)
  case atStart => exact ⟨0, Nat.zero_le _, rfl, Bel.refl W3⟩
  case round =>
    obtain ⟨k, hk, rfl, HW0⟩ := hrel
    have HW : Bel W3 wr := HW0
    have HD := At.up HD3 HW.hid
    clear HW0
    have hsc := HSC.out
    have hd_0 := HD.c0
    have hd_1 := HD.c1
    have hd_2 := HD.c2
    have hd_l := HD.lt
    by_cases hlt : k < sc
    · have hlP : k < P.length := by rw [HPL.out.1]; exact hlt
      have HLP := hide hlP
      clear hlP
      go_wp2_with (first | (go_at_call 62; (with_reducible refine (CQ.out _ HW).mono ?_); rintro e w4 ⟨t, rfl, ht, hbk⟩; (with_reducible (replace HW := HW.up hbk; replace HD := HD.up hbk)); clear hd_0 hd_1 hd_2 hd_l; have hd_0 := HD.c0; have hd_1 := HD.c1; have hd_2 := HD.c2; have hd_l := HD.lt; obtain ⟨hx, hge, hle⟩ := dig_at ht.out HPL.out.2 HLP.out) | fail)
      go_roundw
      case rel => exact ⟨k + 1, by omega, by go_num, HW⟩
      case measure => simp [intOf]; omega
    · obtain rfl : k = sc := by omega
      have HEM : Hid (P.isEmpty = true) := by
        have h1 := HPL.out.1
        have h2 := H0.out
        unfold Hid
        cases P with
        | nil => rfl
        | cons a l => rw [h2] at h1; cases h1
      go_wp2_with (first | (go_at_call 62; (with_reducible refine (CQ.out _ HW).mono ?_); rintro e w4 ⟨t, rfl, ht, hbk⟩; (with_reducible (replace HW := HW.up hbk; replace HD := HD.up hbk)); clear hd_0 hd_1 hd_2 hd_l; have hd_0 := HD.c0; have hd_1 := HD.c1; have hd_2 := HD.c2; have hd_l := HD.lt; have hts : t.size = k := (by rw [size_list, ht.out, HPL.out.1]); have hem := (empty_iff t).trans (show t.data.toList.isEmpty = true by rw [ht.out]; exact HEM.out)) | (go_at_call 68; (with_reducible refine (CH.out _ HW).mono ?_); rintro e w5 ⟨x, rfl, hx, hbk⟩; (with_reducible (replace HW := HW.up hbk; replace HD := HD.up hbk)); clear hd_0 hd_1 hd_2 hd_l; have hd_0 := HD.c0; have hd_1 := HD.c1; have hd_2 := HD.c2; have hd_l := HD.lt; have hxs : x.size ≤ 2600 := (by rw [size_list, hx.out]; exact HXL.out)) | fail)
      all_goals first
        | (exfalso; omega)
        | skip
      have HTX : Hid (((⟨#[45]⟩ ++ x) : ByteArray).data.toList = decD true v k) := by
        unfold Hid
        rw [HDD.out]
        simp [hx.out]
      go_region_held3 (fun w' => w'.cell? ⟨p, 0, none⟩ = some (.bool true) ∧ w'.cell? ⟨p, 1, none⟩ = some (.slice A (dl v) c) ∧ w'.cell? ⟨p, 2, none⟩ = some (.int .i64 (k : Int)))
        (refine ⟨(?_ : At _ p [.bool true, .slice A (dl v) c, .int .i64 (k : Int)]).c0, (?_ : At _ p [.bool true, .slice A (dl v) c, .int .i64 (k : Int)]).c1, (?_ : At _ p [.bool true, .slice A (dl v) c, .int .i64 (k : Int)]).c2⟩ <;> (repeat (first | with_reducible exact HD | (with_reducible refine At.dr ?_) | (with_reducible refine At.al ?_ _) | (with_reducible refine At.far ?_ (by omega) _))))
        (first | (go_at_call 60; (with_reducible refine (CT.out _ _ HW.dr HTX).mono ?_); rintro e w6 ⟨rfl, hbk⟩; (with_reducible (replace HW := HW.dr.up hbk; replace HD := HD.dr.up hbk))) | (go_at_call 64; (with_reducible refine (CR.out _ HW).mono ?_); rintro e w7 ⟨Ra, ca, Rb, cb, rfl, za, nb, hbk⟩; (with_reducible (replace HW := HW.up hbk; replace HD := HD.up hbk))) | (go_at_call 69; (with_reducible refine (CG.out _ _ _ _ _ za nb).mono ?_); rintro e w8 ⟨rfl, hbk⟩; replace hbk := Bel.hid hbk; (with_reducible (replace HW := HW.up hbk; replace HD := HD.up hbk))) | (go_at_call 70; (with_reducible refine (CS.out _ _ _ _ _ za nb).mono ?_); rintro e w9 ⟨rfl, hbk⟩; (with_reducible (replace HW := HW.up hbk; replace HD := HD.up hbk))) | fail)
      go_wp2
      go_ret
      refine ⟨?_, HB.up HW.hid⟩
      first | rfl | simp [hu2] | (rw [decide_eq_true hu2]; rfl) | (rw [decide_eq_false hu2]; rfl)
set_option maxHeartbeats 16000000 in
theorem decparts_np (hs : ¬ 256 < s.size) (h : ∀ W, Calls Tryd.prog 58 #[.string s] W (DPR W true v sc)) (hn : true = true → 0 < v) (hsc : sc ≤ 60) (hd : dl v ≤ 256) (h0 : sc ≠ 0) : Calls Tryd.prog 9 #[.string s] W (BoolR W true) := by
  have CP := hide h
  have HNG := hide (hn rfl)
  have HSC := hide hsc
  have HDL := hide hd
  have H0 := hide h0
  clear h hn hsc hd h0
  have HB := Bel.refl W
  go_enter Tryd.func9, Tryd.ntmps9
  go_wp2_with (first | (go_at_call 57; (with_reducible refine (awake4_any _).mono ?_); rintro e w1 ⟨rfl, hbk⟩; replace HB := HB.up hbk) | (go_at_call 58; (with_reducible refine (CP.out _).mono ?_); rintro e w2 ⟨A, c, rfl, nm, hbk⟩; replace HB := HB.up hbk) | fail)
  obtain ⟨W3, hW3⟩ : ∃ W3, W3 = w2.alloc (.cells #[.bool true, .slice A (dl v) c, .int .i64 (sc : Int)] 83) := ⟨_, rfl⟩
  rw [← hW3]
  obtain ⟨p, hp⟩ : ∃ p, p = w2.heap.size := ⟨_, rfl⟩
  rw [← hp]
  have HD3 : At W3 p [.bool true, .slice A (dl v) c, .int .i64 (sc : Int)] := by rw [hW3, hp]; exact at_new0 _ _ _
  replace HB : Bel W W3 := by rw [hW3]; exact HB.al _
  have nx : DX W3 true A (dl v) c v sc := by rw [hW3]; exact dx_can (nm.al _) HSC.out (fun _ => HNG.out)
  clear hW3 hp nm
  have hdl : dl v ≤ 99999 := Nat.le_trans HDL.out (by decide)
  obtain ⟨tl1, tl2, tl3⟩ := text_len (b := true) (m := v) (k := sc) HDL.out HSC.out
  obtain ⟨P, hP⟩ : ∃ P, P = partL v sc := ⟨_, rfl⟩
  obtain ⟨X, hX⟩ : ∃ X, X = decL (v / 10 ^ sc) := ⟨_, rfl⟩
  obtain ⟨r, hr⟩ : ∃ r : Rat, r = mkRat (zi true v) (10 ^ sc) := ⟨_, rfl⟩
  obtain ⟨sg, hsg⟩ : ∃ sg, sg = decide (r.num < 0) := ⟨_, rfl⟩
  obtain ⟨u, hu, hu2⟩ : ∃ u, r.num.sign = u ∧ u < 0 := by
    have h1 := drat_sign (b := true) (m := v) (k := sc) (fun _ => HNG.out)
    rw [← hr] at h1
    exact ⟨_, rfl, by simpa using h1⟩
  have hbd : Bd r 256 := by rw [hr]; exact drat_bd HDL.out HSC.out
  have CQ : Hid (∀ W', Bel W3 W' → Calls Tryd.prog 62 #[.agg #[.bool true, .slice A (dl v) c, .int .i64 (sc : Int)]] W' (TxR W' P)) := fun W' hb => by rw [hP]; exact part_h (nx.bel hb).y hdl
  have CH : Hid (∀ W', Bel W3 W' → Calls Tryd.prog 68 #[.agg #[.bool true, .slice A (dl v) c, .int .i64 (sc : Int)]] W' (TxR W' X)) := fun W' hb => by rw [hX]; exact lwhole_h (nx.bel hb) hdl (by omega)
  have CT : Hid (∀ W' (S : ByteArray), Bel W3 W' → Hid (S.data.toList = decD true v sc) → Calls Tryd.prog 60 #[.agg #[.bool true, .slice A (dl v) c, .int .i64 (sc : Int)]] W' (DStr W' S)) := fun W' S hb hS => (dtext_h (nx.bel hb).y hdl).mono fun _ _ h1 => dstr_of h1 hS.out
  have CR : Hid (∀ W', Bel W3 W' → Calls Tryd.prog 64 #[.agg #[.bool true, .slice A (dl v) c, .int .i64 (sc : Int)]] W' (QRw W' sg r)) := fun W' hb => by rw [hsg]; exact drat_h (nx.bel hb).y hdl hr.symm
  have CG : Hid (∀ W' B e B' e', ZA W' sg B (dl r.num.natAbs) e r.num → Nm W' B' (dl r.den) e' r.den → Calls Tryd.prog 69 #[.agg #[.bool sg, .slice B (dl r.num.natAbs) e, .slice B' (dl r.den) e']] W' (RetB W' true)) := fun W' B e B' e' h1 h2 => by
    rw [hsg] at h1 ⊢
    exact rgood_yes h1 h2 hbd (by decide)
  have CS : Hid (∀ W' B e B' e', ZA W' sg B (dl r.num.natAbs) e r.num → Nm W' B' (dl r.den) e' r.den → Calls Tryd.prog 70 #[.agg #[.bool sg, .slice B (dl r.num.natAbs) e, .slice B' (dl r.den) e']] W' (IntPost W' u)) := fun W' B e B' e' h1 h2 => rsign_h ⟨r.num, r.den, h1, h2, Rat.mkRat_self r, hbd⟩ (by decide) hu
  have HDD : Hid (decD true v sc = 45 :: (X ++ (46 :: P))) := by unfold Hid decD; rw [if_neg H0.out, hX, hP]; rfl
  have HPL : Hid (P.length = sc ∧ P.all isDig = true) := by unfold Hid; rw [hP]; exact ⟨(part_facts v sc).2.1, (part_facts v sc).2.2.2⟩
  have HXL : Hid (X.length ≤ 2600) := by unfold Hid; rw [hX]; exact tl2
  clear hdl tl1 tl2 tl3 hP hX hr hsg hu hbd nx
  go_loopw [6] (fun iv wr => ∃ k : Nat, k ≤ sc ∧ iv = .int .i64 (k : Int) ∧ Hid (Bel W3 wr)) (fun iv _ => sc - (intOf iv).toNat)
  case atStart => exact ⟨0, Nat.zero_le _, rfl, Bel.refl W3⟩
  case round =>
    obtain ⟨k, hk, rfl, HW0⟩ := hrel
    have HW : Bel W3 wr := HW0
    have HD := At.up HD3 HW.hid
    clear HW0
    have hsc := HSC.out
    have hd_0 := HD.c0
    have hd_1 := HD.c1
    have hd_2 := HD.c2
    have hd_l := HD.lt
    by_cases hlt : k < sc
    · have hlP : k < P.length := by rw [HPL.out.1]; exact hlt
      have HLP := hide hlP
      clear hlP
      go_wp2_with (first | (go_at_call 62; (with_reducible refine (CQ.out _ HW).mono ?_); rintro e w4 ⟨t, rfl, ht, hbk⟩; (with_reducible (replace HW := HW.up hbk; replace HD := HD.up hbk)); clear hd_0 hd_1 hd_2 hd_l; have hd_0 := HD.c0; have hd_1 := HD.c1; have hd_2 := HD.c2; have hd_l := HD.lt; obtain ⟨hx, hge, hle⟩ := dig_at ht.out HPL.out.2 HLP.out) | fail)
      go_roundw
      case rel => exact ⟨k + 1, by omega, by go_num, HW⟩
      case measure => simp [intOf]; omega
    · obtain rfl : k = sc := by omega
      have HEM : Hid (P.isEmpty = false) := by
        have h1 := HPL.out.1
        have h2 := H0.out
        unfold Hid
        cases P with
        | nil => exact absurd h1.symm h2
        | cons a l => rfl
      go_wp2_with (first | (go_at_call 62; (with_reducible refine (CQ.out _ HW).mono ?_); rintro e w4 ⟨t, rfl, ht, hbk⟩; (with_reducible (replace HW := HW.up hbk; replace HD := HD.up hbk)); clear hd_0 hd_1 hd_2 hd_l; have hd_0 := HD.c0; have hd_1 := HD.c1; have hd_2 := HD.c2; have hd_l := HD.lt; have hts : t.size = k := (by rw [size_list, ht.out, HPL.out.1]); have hem := (empty_iff t).trans (show t.data.toList.isEmpty = false by rw [ht.out]; exact HEM.out)) | (go_at_call 68; (with_reducible refine (CH.out _ HW).mono ?_); rintro e w5 ⟨x, rfl, hx, hbk⟩; (with_reducible (replace HW := HW.up hbk; replace HD := HD.up hbk)); clear hd_0 hd_1 hd_2 hd_l; have hd_0 := HD.c0; have hd_1 := HD.c1; have hd_2 := HD.c2; have hd_l := HD.lt; have hxs : x.size ≤ 2600 := (by rw [size_list, hx.out]; exact HXL.out)) | fail)
      all_goals first
        | (exfalso; omega)
        | skip
      have HTX : Hid (((((⟨#[45]⟩ ++ x) ++ ⟨#[46]⟩) ++ t) : ByteArray).data.toList = decD true v k) := by
        unfold Hid
        rw [HDD.out]
        simp [hx.out, ht.out]
      go_region_held3 (fun w' => w'.cell? ⟨p, 0, none⟩ = some (.bool true) ∧ w'.cell? ⟨p, 1, none⟩ = some (.slice A (dl v) c) ∧ w'.cell? ⟨p, 2, none⟩ = some (.int .i64 (k : Int)))
        (refine ⟨(?_ : At _ p [.bool true, .slice A (dl v) c, .int .i64 (k : Int)]).c0, (?_ : At _ p [.bool true, .slice A (dl v) c, .int .i64 (k : Int)]).c1, (?_ : At _ p [.bool true, .slice A (dl v) c, .int .i64 (k : Int)]).c2⟩ <;> (repeat (first | with_reducible exact HD | (with_reducible refine At.dr ?_) | (with_reducible refine At.al ?_ _) | (with_reducible refine At.far ?_ (by omega) _))))
        (first | (go_at_call 60; (with_reducible refine (CT.out _ _ HW.dr HTX).mono ?_); rintro e w6 ⟨rfl, hbk⟩; (with_reducible (replace HW := HW.dr.up hbk; replace HD := HD.dr.up hbk))) | (go_at_call 64; (with_reducible refine (CR.out _ HW).mono ?_); rintro e w7 ⟨Ra, ca, Rb, cb, rfl, za, nb, hbk⟩; (with_reducible (replace HW := HW.up hbk; replace HD := HD.up hbk))) | (go_at_call 69; (with_reducible refine (CG.out _ _ _ _ _ za nb).mono ?_); rintro e w8 ⟨rfl, hbk⟩; replace hbk := Bel.hid hbk; (with_reducible (replace HW := HW.up hbk; replace HD := HD.up hbk))) | (go_at_call 70; (with_reducible refine (CS.out _ _ _ _ _ za nb).mono ?_); rintro e w9 ⟨rfl, hbk⟩; (with_reducible (replace HW := HW.up hbk; replace HD := HD.up hbk))) | fail)
      go_wp2
      go_ret
      refine ⟨?_, HB.up HW.hid⟩
      first | rfl | simp [hu2] | (rw [decide_eq_true hu2]; rfl) | (rw [decide_eq_false hu2]; rfl)
theorem decparts_walk (W : World) (s : ByteArray) : Calls Tryd.prog 9 #[.string s] W (BoolR W true) := by
  by_cases hs : 256 < s.size
  · exact decparts_x0 hs
  · rcases dparse_any s (by omega) with h | ⟨nb, v, sc, hn, hsc, hd, h⟩
    · exact decparts_x1 hs h
    · by_cases h0 : sc = 0
      · cases nb
        · exact decparts_pz hs h hn hsc hd h0
        · exact decparts_nz hs h hn hsc hd h0
      · cases nb
        · exact decparts_pp hs h hn hsc hd h0
        · exact decparts_np hs h hn hsc hd h0
theorem decparts_all {s : ByteArray} (w : World) (_hs : s.size ≤ maxLen) : Calls Tryd.prog 9 #[.string s] w fun e w' => e = .returned (.bool true) ∧ Below w.heap.size w w' := (decparts_walk w s).mono fun _ _ h => ⟨h.1, h.2.out⟩
end
end Go.Proofs.YtdjngaejdmlekaaDoor
