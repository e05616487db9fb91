/- Several texts in one, each with its own sentence and conditions. -/
import Derived.Test.YthdpojkeceoiiaaGreatDoorGOmc16
import Derived.Deep.CutRange
import Derived.Maps.AppendAt
import Derived.WalkSmall
section
/- The document's own ParseAtom. Conditions: texts and lists that fit. -/
open Go.RowKit
set_option maxRecDepth 100000
namespace Go.Proofs.YthdpojkeceoiiaaGreatDoor
theorem hp_split (u x : ByteArray) : Lib.hasPrefix u.data.toList x.data.toList = (decide (x.size ≤ u.size) && ((u.extract 0 x.size).toList == x.toList)) := by
  rw [Lib.toList_data, Lib.toList_data, ByteArray.data_extract, Array.toList_extract]
  simp only [List.extract, List.drop_zero, Nat.sub_zero]
  unfold Lib.hasPrefix
  rw [Bool.eq_iff_iff, Bool.and_eq_true, decide_eq_true_eq, beq_iff_eq, List.isPrefixOf_iff_prefix]
  constructor
  · intro h
    refine ⟨by rw [Lib.size_eq, Lib.size_eq]; exact h.length_le, ?_⟩
    rw [Lib.size_eq]
    exact (List.prefix_iff_eq_take.1 h).symm
  · rintro ⟨_, h⟩
    rw [Lib.size_eq] at h
    exact List.prefix_iff_eq_take.2 h.symm
/-- What the loop over the prefixes has found. -/
def Best (names ps : List ByteArray) (u : ByteArray) (k : Nat) (bi : Int) : Prop :=
  (bi = -1 ∧ lpB names u (ps.take k) = 0) ∨ ∃ b, b < k ∧ bi = (b : Int) ∧ ∃ p, ps[b]? = some p ∧ hitB names u p = true ∧ p.size = lpB names u (ps.take k) ∧ 0 < p.size
theorem best_zero (names ps : List ByteArray) (u : ByteArray) : Best names ps u 0 (-1) := .inl ⟨rfl, rfl⟩
theorem best_miss {names ps : List ByteArray} {u x : ByteArray} {k : Nat} {bi : Int} (h : Best names ps u k bi) (hx : ps[k]? = some x) (hh : hitB names u x = false) : Best names ps u (k + 1) bi := by
  obtain ⟨hk, hk2⟩ := List.getElem?_eq_some_iff.1 hx
  have e : lpB names u (ps.take (k + 1)) = lpB names u (ps.take k) := by rw [lpB_take hk, hk2, hh]; rfl
  rcases h with ⟨h1, h2⟩ | ⟨b, h1, h2, p, h3, h4, h5, h6⟩
  · exact .inl ⟨h1, by rw [e, h2]⟩
  · exact .inr ⟨b, by omega, h2, p, h3, h4, by rw [e, h5], h6⟩
theorem hit_pos {names : List ByteArray} {u x : ByteArray} (hn : hasB names u = false) (hh : hitB names u x = true) : 0 < x.size := by
  rcases Nat.eq_zero_or_pos x.size with h | h
  · have h1 := hitB_rest hh
    rw [h, restB_zero] at h1
    rw [hasB_iff.2 h1] at hn; cases hn
  · exact h
theorem best_hit {names ps : List ByteArray} {u x : ByteArray} {k : Nat} (hx : ps[k]? = some x) (hh : hitB names u x = true) (h0 : 0 < x.size) (hl : lpB names u (ps.take k) < x.size) : Best names ps u (k + 1) (k : Int) := by
  obtain ⟨hk, hk2⟩ := List.getElem?_eq_some_iff.1 hx
  refine .inr ⟨k, by omega, rfl, x, hx, hh, ?_, h0⟩
  rw [lpB_take hk, hk2, hh, if_pos rfl]; omega
theorem best_stay {names ps : List ByteArray} {u x : ByteArray} {k : Nat} {bi : Int} (h : Best names ps u k bi) (hx : ps[k]? = some x) (hh : hitB names u x = true) (hl : x.size ≤ lpB names u (ps.take k)) : Best names ps u (k + 1) bi := by
  obtain ⟨hk, hk2⟩ := List.getElem?_eq_some_iff.1 hx
  have e : lpB names u (ps.take (k + 1)) = lpB names u (ps.take k) := by rw [lpB_take hk, hk2, hh, if_pos rfl]; omega
  rcases h with ⟨h1, h2⟩ | ⟨b, h1, h2, p, h3, h4, h5, h6⟩
  · exact .inl ⟨h1, by rw [e, h2]⟩
  · exact .inr ⟨b, by omega, h2, p, h3, h4, by rw [e, h5], h6⟩
theorem parseU_name {names ps : List ByteArray} {k t : Nat} {u : ByteArray} (h : hasB names u = true) : parseU names ps k t u = ⟨⟨#[]⟩, u, k, t + 1, true⟩ := by
  have e : sizeP names ps u = (0, true) := by unfold sizeP; rw [if_pos h]
  unfold parseU
  rw [e]
  show (if true = true then _ else _) = _
  rw [if_pos rfl, restB_zero]
  have : u.extract 0 0 = ⟨#[]⟩ := by apply ByteArray.ext; apply Array.ext'; rw [ByteArray.data_extract, Array.toList_extract]; simp [List.extract]
  rw [this]
theorem parseU_none {names ps : List ByteArray} {k t : Nat} {u : ByteArray} (h : hasB names u = false) (hb : Best names ps u ps.length (-1)) : parseU names ps k t u = noPA := by
  rcases hb with ⟨_, h2⟩ | ⟨b, _, h2, _⟩
  · rw [List.take_length] at h2
    have e : sizeP names ps u = (0, false) := by unfold sizeP; rw [if_neg (by rw [h]; simp), h2]; rfl
    unfold parseU; rw [e]; rfl
  · omega
theorem parseU_some {names ps : List ByteArray} {k t b : Nat} {u : ByteArray} (h : hasB names u = false) (hb : Best names ps u ps.length (b : Int)) : ∃ p, ps[b]? = some p ∧ p.size ≤ u.size ∧ parseU names ps k t u = ⟨p, u.extract p.size u.size, k, t + 1, true⟩ := by
  rcases hb with ⟨h1, _⟩ | ⟨b', _, h2, p, h3, h4, h5, h6⟩
  · omega
  · have : b' = b := by omega
    subst this
    rw [List.take_length] at h5
    have e : sizeP names ps u = (p.size, true) := by unfold sizeP; rw [if_neg (by rw [h]; simp), ← h5, decide_eq_true h6]
    refine ⟨p, h3, (hitB_pre h4).1, ?_⟩
    unfold parseU; rw [e]
    show (if true = true then _ else _) = _
    rw [if_pos rfl, (hitB_pre h4).2]; rfl
set_option maxHeartbeats 16000000 in
theorem rparse_any {A B D : Option Addr} {n c m d j g : Nat} {names ps l : List ByteArray} {w : World} (h : Ss w A names) (hn : n = names.length) (hl : n ≤ 1000000) (h' : Ss w B ps) (hm : m = ps.length) (hl' : m ≤ 1000000) (h2 : Ss w D l) (hj : j = l.length) (hu : ∀ x ∈ l, x.size ≤ 2000000) (hps : ∀ x ∈ ps, x.size ≤ 2000000) :
    Calls Tryz.prog 96 #[.agg #[.slice A n c, .slice B m d], .slice D j g] w (PRes w (parseA names ps l)) := by
  obtain ⟨W1, hW1⟩ : ∃ X, X = (w.alloc (.cells #[.slice A n c, .slice B m d] 48)).alloc (.cells #[.string ⟨#[]⟩, .string ⟨#[]⟩, .int .i64 0] 125) := ⟨_, rfl⟩
  have HA : At W1 w.heap.size [.slice A n c, .slice B m d] := by rw [hW1]; exact (at_new0 _ _ _).al _
  have HR : At W1 (w.heap.size + 1) [.string ⟨#[]⟩, .string ⟨#[]⟩, .int .i64 0] := by rw [hW1]; exact at_new1 _ _ _ _
  have HB : Bel w W1 := by rw [hW1]; exact ((Bel.refl w).al _).al _
  have HW := khide hW1
  have HN := khide hn
  have HM := khide hm
  have HJ := khide hj
  have HPS := khide hps
  clear hW1 hn hm hps
  go_enter Tryz.func96, Tryz.ntmps96
  go_upto_region 1 with fail
  rw [← HW.out]
  obtain ⟨p, hp⟩ : ∃ p, p = w.heap.size := ⟨_, rfl⟩
  obtain ⟨q, hq⟩ : ∃ p, p = w.heap.size + 1 := ⟨_, rfl⟩
  have HQ : Hid (w.heap.size ≤ q) := by unfold Hid; omega
  have NPQ : Hid (q ≠ p) := by unfold Hid; omega
  rw [← hp] at HA
  rw [← hq] at HR
  rw [← hq, ← hp]
  clear HW hp hq
  cases l with
  | nil =>
    have d1 : ((j : Int) == 0) = true := by rw [beq_iff_eq, hj]; rfl
    clear hj h2
    have hr_0 := HR.c0; have hr_1 := HR.c1; have hr_2 := HR.c2; have hr_l := HR.lt; have hr_f0 := HR.f0; have hr_f1 := HR.f1; have hr_f2 := HR.f2
    go_wp2_with fail
    refine bodyPost_ret (v := .tuple #[.agg #[.string ⟨#[]⟩, .string ⟨#[]⟩, .int .i64 0], .int .i64 0, .bool false]) (by simp [results, Tryz.results96, go_sem, hr_0, hr_1, hr_2]) rfl ⟨?_, kbelow3 HB HQ.out _ _ _⟩
    rfl
  | cons s r =>
    have j0 : (0 : Int) < (j : Int) := by rw [hj]; simp
    have d1 : ((j : Int) == 0) = false := by rw [beq_eq_false_iff_ne]; omega
    obtain ⟨ad, rfl, had, hcell0⟩ := h2.out.at_ (k := 0) (by simp)
    rw [show (s :: r)[0] = s from rfl, show ad.add 0 = ad by simp [Addr.add]] at hcell0
    have HC0 : Hid (∀ W', Bel w W' → W'.cell? ad = some (.string s)) := fun W' hb => (hb.cell had).trans hcell0
    clear hj
    have HC : Hid (∀ (i : Nat) (W' : World) (hi : i < (s :: r).length), Bel w W' → W'.cell? (ad.add i) = some (.string (s :: r)[i])) := fun i W' hi hb => by
      obtain ⟨ad2, e9, had2, hc9⟩ := h2.out.at_ hi
      injection e9 with e9
      subst e9
      exact (hb.cell (by rw [yblock_add]; exact had2)).trans hc9
    clear hcell0 had
    go_upto_region 4 with fail
    refine kwp_named ?_
    intro W2 hW2
    have H7 : At W2 W1.heap.size [.string ⟨#[]⟩, .string ⟨#[]⟩, .int .i64 1] := by rw [hW2]; exact at_new0 _ _ _
    have nA : W1.heap.size ≠ p := Nat.ne_of_gt HA.lt
    have nR : W1.heap.size ≠ q := Nat.ne_of_gt HR.lt
    have h7b : w.heap.size ≤ W1.heap.size := Below.size HB
    replace HA : At W2 p [.slice A n c, .slice B m d] := by rw [hW2]; exact HA.al _
    replace HR : At W2 q [.string ⟨#[]⟩, .string ⟨#[]⟩, .int .i64 0] := by rw [hW2]; exact HR.al _
    replace HB : Bel w W2 := by rw [hW2]; exact HB.al _
    obtain ⟨p7, hp7⟩ : ∃ q, q = W1.heap.size := ⟨_, rfl⟩
    rw [← hp7] at H7 nA nR h7b ⊢
    have N7 : Hid (p7 ≠ p ∧ p7 ≠ q ∧ w.heap.size ≤ p7) := ⟨nA, nR, h7b⟩
    clear hW2 hp7 nA nR h7b
    obtain ⟨v, hv⟩ : ∃ v, powOf s = v := ⟨_, rfl⟩
    have CPW : Hid (∀ W, Calls Tryz.prog 136 #[.string s] W (RetI W (v : Int))) := fun W => hv ▸ power_any s W
    obtain ⟨pw, hpw⟩ : ∃ x, (leadP (s :: r)).1 = x := ⟨_, rfl⟩
    obtain ⟨tk, htk⟩ : ∃ x, (leadP (s :: r)).2 = x := ⟨_, rfl⟩
    have hle := leadP_le (s :: r)
    rw [htk] at hle
    have HV : Hid (parseA names ps (s :: r) = match (s :: r)[tk]? with | none => noPA | some u => parseU names ps pw tk u) := by unfold Hid parseA; rw [hpw, htk]; rfl
    have HL : Hid ((v = 0 ∧ pw = 1 ∧ tk = 0) ∨ (0 < v ∧ pw = v ∧ tk = 1)) := by
      rw [← hpw, ← htk, ← hv]
      by_cases h0 : powOf s = 0
      · have e : leadP (s :: r) = (1, 0) := if_pos h0
        exact .inl ⟨h0, by rw [e], by rw [e]⟩
      · have e : leadP (s :: r) = (powOf s, 1) := if_neg h0
        exact .inr ⟨by omega, by rw [e], by rw [e]⟩
    clear hv hpw htk
    have hcell := HC0.out _ HB
    go_upto_if 24 with (first | (go_at_call 136; (with_reducible refine (CPW.out _).mono ?_); rintro e w3 ⟨rfl, hb⟩; (replace HA := HA.up hb.hid); (replace HR := HR.up hb.hid); (replace H7 := H7.up hb.hid); (replace HB := HB.up hb.hid); clear hb hcell) | fail)
    go_cut [8] from 24 to 26 (fun v' w' => v' = .int .i64 (tk : Int) ∧ At w' p [.slice A n c, .slice B m d] ∧ At w' q [.string ⟨#[]⟩, .string ⟨#[]⟩, .int .i64 0] ∧ At w' p7 [.string ⟨#[]⟩, .string ⟨#[]⟩, .int .i64 (pw : Int)] ∧ Bel w w')
    case first =>
      rcases HL.out with ⟨k1, k2, k3⟩ | ⟨k1, k2, k3⟩
      · have d2 : decide ((0 : Int) < (v : Int)) = false := decide_eq_false (by omega)
        have d2n : decide (0 < v) = false := decide_eq_false (by omega)
        rw [d2n]
        clear d2n d2
        subst k2 k3
        clear k1
        go_wp2_with fail
        go_meet
        case rel => exact ⟨rfl, HA, HR, H7, HB⟩
      · have d2 : decide ((0 : Int) < (v : Int)) = true := decide_eq_true (by omega)
        have d2n : decide (0 < v) = true := decide_eq_true (by omega)
        rw [d2n]
        clear d2n d2
        subst k2 k3
        clear k1
        have h7_0 := H7.c0; have h7_1 := H7.c1; have h7_2 := H7.c2; have h7_l := H7.lt; have h7_f2 := H7.f2
        go_wp2_with fail
        go_meet
        case rel => exact ⟨rfl, HA.far N7.out.1 _, HR.far N7.out.2.1 _, H7.put (i := 2) (by simp) _, Below.setCell HB N7.out.2.2 _⟩
    case rest =>
      obtain ⟨rfl, HA, HR, H7, HB⟩ := hcut
      clear HL CPW
      by_cases he : tk = j
      · have d2 : ((tk : Int) == (j : Int)) = true := by rw [beq_iff_eq]; omega
        have HV2 : Hid (parseA names ps (s :: r) = noPA) := by unfold Hid; rw [HV.out, List.getElem?_eq_none (by have := HJ.out; omega)]
        have HE := khide he
        clear he hle hu HV HC HC0
        have hr_0 := HR.c0; have hr_1 := HR.c1; have hr_2 := HR.c2; have hr_l := HR.lt; have hr_f0 := HR.f0; have hr_f1 := HR.f1; have hr_f2 := HR.f2
        go_wp2_with fail
        refine bodyPost_ret (v := .tuple #[.agg #[.string ⟨#[]⟩, .string ⟨#[]⟩, .int .i64 0], .int .i64 0, .bool false]) (by simp [results, Tryz.results96, go_sem, hr_0, hr_1, hr_2]) rfl ⟨?_, kbelow3 HB HQ.out _ _ _⟩
        rw [HV2.out]; rfl
      have d2 : ((tk : Int) == (j : Int)) = false := by rw [beq_eq_false_iff_ne]; omega
      have hk : tk < (s :: r).length := by have := HJ.out; omega
      obtain ⟨u, hu2⟩ : ∃ u, u = (s :: r)[tk] := ⟨_, rfl⟩
      have huz : u.size ≤ 2000000 := hu u (by rw [hu2]; exact List.getElem_mem hk)
      have HV2 : Hid (parseA names ps (s :: r) = parseU names ps pw tk u) := by
        unfold Hid
        rw [HV.out, List.getElem?_eq_getElem hk, ← hu2]
      have hcell := HC.out tk _ hk HB
      rw [← hu2] at hcell
      have t1 : (tk : Int) < (j : Int) := by have := HJ.out; omega
      have t2 : (0 : Int) ≤ (tk : Int) := by omega
      have HT1 : Hid (tk ≤ 1) := hle.2
      obtain ⟨hb, hhb⟩ : ∃ b, hasB names u = b := ⟨_, rfl⟩
      have CH : Hid (∀ W, Bel w W → Calls Tryz.prog 137 #[.slice A n c, .string u] W fun e w' => e = .returned (.bool hb) ∧ W = w') := fun W h9 => by rw [← hhb]; exact has_any (h.up h9.hid) HN.out (by omega)
      have HHB := khide hhb
      clear hu2 hu hle HV he hk hhb HC HC0 h2
      have e9 : wrap64 ((tk : Int) + 1) = (tk : Int) + 1 := by have := HT1.out; unfold wrap64; omega
      have ha_0 := HA.c0; have ha_1 := HA.c1; have ha_l := HA.lt
      cases hb with
      | true =>
        have HV3 : Hid (parseA names ps (s :: r) = ⟨⟨#[]⟩, u, pw, tk + 1, true⟩) := HV2.out.trans (parseU_name HHB.out)
        have h7_0 := H7.c0; have h7_1 := H7.c1; have h7_2 := H7.c2; have h7_l := H7.lt; have h7_f1 := H7.f1
        go_upto_region 13 with (first | (go_at_call 137; (with_reducible refine (CH.out _ HB).mono ?_); rintro e w4 ⟨rfl, rfl⟩) | fail)
        refine kwp_named ?_
        intro W5 hW5
        replace H7 : At W5 p7 [.string ⟨#[]⟩, .string u, .int .i64 (pw : Int)] := by rw [hW5]; exact H7.put (i := 1) (by simp) _
        replace HR : At W5 q [.string ⟨#[]⟩, .string ⟨#[]⟩, .int .i64 0] := by rw [hW5]; exact HR.far N7.out.2.1 _
        replace HB : Bel w W5 := by rw [hW5]; exact Below.setCell HB N7.out.2.2 _
        clear hW5 h7_0 h7_1 h7_2 h7_l h7_f1 ha_0 ha_1 ha_l hcell
        have h7_0 := H7.c0; have h7_1 := H7.c1; have h7_2 := H7.c2; have h7_l := H7.lt
        have hr_0 := HR.c0; have hr_1 := HR.c1; have hr_2 := HR.c2; have hr_l := HR.lt; have hr_f0 := HR.f0; have hr_f1 := HR.f1; have hr_f2 := HR.f2
        go_wp2_with fail
        refine bodyPost_ret (v := .tuple #[.agg #[.string ⟨#[]⟩, .string u, .int .i64 (pw : Int)], .int .i64 ((tk : Int) + 1), .bool true]) (by simp [results, Tryz.results96, go_sem, hr_0, hr_1, hr_2, e9]) rfl ⟨?_, kbelow3 HB HQ.out _ _ _⟩
        rw [HV3.out]; rfl
      | false =>
        go_upto_region 15 with (first | (go_at_call 137; (with_reducible refine (CH.out _ HB).mono ?_); rintro e w4 ⟨rfl, rfl⟩) | fail)
        refine kwp_named ?_
        intro W5 hW5
        rw [← hW5] at HA HR H7 HB
        clear hW5 hcell ha_0 ha_1 ha_l CH
        go_upto_region 16 with fail
        go_loopw [11, 12] (fun bv iv wr => ∃ (k q : Nat) (bi : Int), k ≤ m ∧ iv = .int .i64 (k : Int) ∧ bv = .int .i64 bi ∧ Hid (wr = W5.drewN q) ∧ Hid (Best names ps u k bi)) (fun _ iv _ => m - (intOf iv).toNat)
        case atStart => exact ⟨0, 0, -1, Nat.zero_le _, rfl, rfl, rfl, best_zero _ _ _⟩
        case round =>
          obtain ⟨k, q9, bi, hk, rfl, rfl, HQW, HBB⟩ := hrel
          have HA9 : At wr p [.slice A n c, .slice B m d] := by rw [HQW.out]; exact ⟨HA.lt, HA.all⟩
          have ha_0 := HA9.c0; have ha_1 := HA9.c1; have ha_l := HA9.lt
          by_cases hlt : k < m
          · have hx : k < ps.length := by rw [← HM.out]; exact hlt
            obtain ⟨bd, rfl, hbd, hcell⟩ := (h'.up HB.hid).out.at_ hx
            obtain ⟨x, hxe⟩ : ∃ x, x = ps[k] := ⟨_, rfl⟩
            rw [← hxe] at hcell
            have HXK : Hid (ps[k]? = some x) := by rw [hxe]; exact List.getElem?_eq_getElem hx
            have hxz : x.size ≤ 2000000 := HPS.out x (by rw [hxe]; exact List.getElem_mem hx)
            replace hcell : wr.cell? (bd.add k) = some (.string x) := by rw [HQW.out]; exact hcell
            have HCB : Hid (∀ (i : Nat) (y : ByteArray), ps[i]? = some y → wr.cell? (bd.add i) = some (.string y)) := fun i y hy => by
              obtain ⟨hi, hi2⟩ := List.getElem?_eq_some_iff.1 hy
              obtain ⟨bd2, e8, hbd2, hc9⟩ := (h'.up HB.hid).out.at_ hi
              injection e8 with e8
              subst e8
              rw [HQW.out, ← hi2]; exact hc9
            have k0 : (0 : Int) ≤ (k : Int) := by omega
            have k1 : (k : Int) < (m : Int) := by omega
            obtain ⟨e2, he2⟩ : ∃ e2, hasB names (u.extract x.size u.size) = e2 := ⟨_, rfl⟩
            have C1 : Hid (∀ i : Nat, Calls Tryz.prog 137 #[.slice A n c, .string (u.extract x.size u.size)] (wr.drewN i) fun e w' => e = .returned (.bool e2) ∧ w' = wr.drewN i) := fun i => by
              rw [← he2]
              have h9 : Ss (wr.drewN i) A names := by rw [HQW.out]; exact ((h.up HB.hid).dn q9).dn i
              exact (has_any h9 HN.out (by omega)).mono fun _ _ ⟨a, b⟩ => ⟨a, b.symm⟩
            have hhit : hitB names u x = ((decide (x.size ≤ u.size) && ((u.extract 0 x.size).toList == x.toList)) && e2) := by
              unfold hitB restB; rw [hp_split, he2]
            clear hbd hxe hx he2
            by_cases g1 : x.size ≤ u.size
            · have d3 : decide ((x.size : Int) ≤ (u.size : Int)) = true := decide_eq_true (by omega)
              have l3 : (x.size : Int) ≤ (u.size : Int) := by omega
              obtain ⟨e1, he1⟩ : ∃ e1, ((u.extract 0 x.size).toList == x.toList) = e1 := ⟨_, rfl⟩
              rw [decide_eq_true g1, he1, Bool.true_and] at hhit
              have HH := khide hhit
              clear g1 hhit
              cases e1 with
              | false =>
                have HNX : Hid (Best names ps u (k + 1) bi) := best_miss HBB.out HXK.out HH.out
                go_wp2_with fail
                go_quiet (first | (go_at_call 137; exact Calls.quiet_of_same (C1.out _)) | fail)
                go_wp2
                go_roundw
                case rel =>
                  obtain ⟨q2, hq2⟩ := ydrew_more HQW
                  exact ⟨k + 1, q2, bi, by omega, by go_num, rfl, hq2, HNX⟩
                case measure => simp [intOf]; omega
              | true =>
                cases e2 with
                | false =>
                  have HNX : Hid (Best names ps u (k + 1) bi) := best_miss HBB.out HXK.out HH.out
                  go_wp2_with fail
                  go_quiet (first | (go_at_call 137; exact Calls.quiet_of_same (C1.out _)) | fail)
                  go_wp2
                  go_roundw
                  case rel =>
                    obtain ⟨q2, hq2⟩ := ydrew_more HQW
                    exact ⟨k + 1, q2, bi, by omega, by go_num, rfl, hq2, HNX⟩
                  case measure => simp [intOf]; omega
                | true =>
                  have HH2 : Hid (hitB names u x = true) := HH.out
                  have HX0 : Hid (0 < x.size) := hit_pos HHB.out HH2.out
                  rcases HBB.out with ⟨b1, b2⟩ | ⟨b, b1, b2, y, b3, b4, b5, b6⟩
                  · subst b1
                    have HNX : Hid (Best names ps u (k + 1) (k : Int)) := best_hit HXK.out HH2.out HX0.out (by rw [b2]; exact HX0.out)
                    clear b2
                    go_wp2_with fail
                    go_quiet (first | (go_at_call 137; exact Calls.quiet_of_same (C1.out _)) | fail)
                    go_wp2
                    go_roundw
                    case rel =>
                      obtain ⟨q2, hq2⟩ := ydrew_more HQW
                      exact ⟨k + 1, q2, (k : Int), by omega, by go_num, rfl, hq2, HNX⟩
                    case measure => simp [intOf]; omega
                  · subst b2
                    have hcy := HCB.out b y b3
                    have d4 : decide ((b : Int) < 0) = false := decide_eq_false (by omega)
                    have b0 : (0 : Int) ≤ (b : Int) := by omega
                    have b9 : (b : Int) < (m : Int) := by omega
                    have HYZ : Hid (y.size = lpB names u (ps.take k)) := b5
                    by_cases g2 : y.size < x.size
                    · have d5 : decide ((y.size : Int) < (x.size : Int)) = true := decide_eq_true (by omega)
                      have d5n : decide (y.size < x.size) = true := decide_eq_true g2
                      have HNX : Hid (Best names ps u (k + 1) (k : Int)) := best_hit HXK.out HH2.out HX0.out (by rw [← HYZ.out]; exact g2)
                      clear g2 b1 b3 b4 b5 b6
                      go_wp2_with fail
                      go_quiet (first | (go_at_call 137; exact Calls.quiet_of_same (C1.out _)) | fail)
                      go_wp2
                      go_roundw
                      case rel =>
                        obtain ⟨q2, hq2⟩ := ydrew_more HQW
                        exact ⟨k + 1, q2, (k : Int), by omega, by go_num, rfl, hq2, HNX⟩
                      case measure => simp [intOf]; omega
                    · have d5 : decide ((y.size : Int) < (x.size : Int)) = false := decide_eq_false (by omega)
                      have d5n : decide (y.size < x.size) = false := decide_eq_false g2
                      have HNX : Hid (Best names ps u (k + 1) (b : Int)) := best_stay HBB.out HXK.out HH2.out (by rw [← HYZ.out]; omega)
                      clear g2 b1 b3 b4 b5 b6
                      go_wp2_with fail
                      go_quiet (first | (go_at_call 137; exact Calls.quiet_of_same (C1.out _)) | fail)
                      go_wp2
                      go_roundw
                      case rel =>
                        obtain ⟨q2, hq2⟩ := ydrew_more HQW
                        exact ⟨k + 1, q2, (b : Int), by omega, by go_num, rfl, hq2, HNX⟩
                      case measure => simp [intOf]; omega
            · have d3 : decide ((x.size : Int) ≤ (u.size : Int)) = false := decide_eq_false (by omega)
              have d3n : decide (x.size ≤ u.size) = false := decide_eq_false g1
              have HNX : Hid (Best names ps u (k + 1) bi) := best_miss HBB.out HXK.out (by rw [hhit, decide_eq_false g1]; rfl)
              clear g1 hhit
              go_wp2_with fail
              go_quiet (first | (go_at_call 137; exact Calls.quiet_of_same (C1.out _)) | fail)
              go_wp2
              go_roundw
              case rel =>
                obtain ⟨q2, hq2⟩ := ydrew_more HQW
                exact ⟨k + 1, q2, bi, by omega, by go_num, rfl, hq2, HNX⟩
              case measure => simp [intOf]; omega
          · obtain rfl : k = m := by omega
            have HBE : Hid (Best names ps u ps.length bi) := by have h9 := HBB.out; rwa [HM.out] at h9
            replace HR : At wr q [.string ⟨#[]⟩, .string ⟨#[]⟩, .int .i64 0] := by rw [HQW.out]; exact ⟨HR.lt, HR.all⟩
            replace H7 : At wr p7 [.string ⟨#[]⟩, .string ⟨#[]⟩, .int .i64 (pw : Int)] := by rw [HQW.out]; exact ⟨H7.lt, H7.all⟩
            have HBW : Bel w wr := by rw [HQW.out]; exact ybelow_drewN HB q9
            clear hlt
            rcases HBB.out with ⟨b1, _⟩ | ⟨b, b1, b2, y, b3, b4, b5, b6⟩
            · subst b1
              have HV3 : Hid (parseA names ps (s :: r) = noPA) := HV2.out.trans (parseU_none HHB.out HBE.out)
              have hr_0 := HR.c0; have hr_1 := HR.c1; have hr_2 := HR.c2; have hr_l := HR.lt; have hr_f0 := HR.f0; have hr_f1 := HR.f1; have hr_f2 := HR.f2
              go_wp2_with fail
              refine bodyPost_ret (v := .tuple #[.agg #[.string ⟨#[]⟩, .string ⟨#[]⟩, .int .i64 0], .int .i64 0, .bool false]) (by simp [results, Tryz.results96, go_sem, hr_0, hr_1, hr_2]) rfl ⟨?_, kbelow3 HBW HQ.out _ _ _⟩
              rw [HV3.out]; rfl
            · subst b2
              obtain ⟨y', hy1, hy2, hy3⟩ := parseU_some (k := pw) (t := tk) HHB.out HBE.out
              obtain rfl : y = y' := by rw [b3] at hy1; exact Option.some.inj hy1
              have HV3 : Hid (parseA names ps (s :: r) = ⟨y, u.extract y.size u.size, pw, tk + 1, true⟩) := HV2.out.trans hy3
              obtain ⟨hi, hi2⟩ := List.getElem?_eq_some_iff.1 b3
              obtain ⟨bd, rfl, hbd2, hc9⟩ := (h'.up HB.hid).out.at_ hi
              rw [hi2] at hc9
              have NB : Hid (p7 ≠ bd.block) := by
                have h9 := (h'.out.at_ hi)
                obtain ⟨bd3, e8, hbd3, _⟩ := h9
                injection e8 with e8
                subst e8
                have := N7.out.2.2
                unfold Hid; omega
              replace hc9 : wr.cell? (bd.add b) = some (.string y) := by rw [HQW.out]; exact hc9
              have d4 : decide ((b : Int) < 0) = false := decide_eq_false (by omega)
              have b0 : (0 : Int) ≤ (b : Int) := by omega
              have b9 : (b : Int) < (k : Int) := by omega
              have l3 : (y.size : Int) ≤ (u.size : Int) := by omega
              have h7_0 := H7.c0; have h7_1 := H7.c1; have h7_2 := H7.c2; have h7_l := H7.lt; have h7_f0 := H7.f0; have h7_f1 := H7.f1
              clear hi hi2 hbd2 b1 b3 b4 b5 b6 hy1 hy2 hy3
              go_upto_region 23 with fail
              have hf : ∀ (W : World) (i : Nat) (v : Value), W.cell? (bd.add b) = some (.string y) → (W.setCell ⟨p7, i, none⟩ v).cell? (bd.add b) = some (.string y) := fun W i v h => (World.cell?_setCell_far _ _ _ _ (by rw [yblock_add]; exact NB.out)).trans h
              go_region_held3 (fun w' => w'.cell? ⟨p, 1, none⟩ = some (.slice (some bd) k d) ∧ w'.cell? (bd.add b) = some (.string y))
                (first | exact ⟨HA9.c1, hc9⟩ | exact ⟨(HA9.far N7.out.1 _).c1, hf _ _ _ hc9⟩ | exact ⟨((HA9.far N7.out.1 _).far N7.out.1 _).c1, hf _ _ _ (hf _ _ _ hc9)⟩ | fail)
                (fail)
              all_goals go_upto_region 24 with fail
              all_goals refine kwp_named ?_
              all_goals intro W6 hW6
              all_goals replace H7 : At W6 p7 [.string y, .string (u.extract y.size u.size), .int .i64 (pw : Int)] := by rw [hW6]; first | exact ((H7.put (i := 0) (by simp) _).put (i := 1) (by simp) _).dr | exact (H7.dr.put (i := 0) (by simp) _).put (i := 1) (by simp) _
              all_goals replace HR : At W6 q [.string ⟨#[]⟩, .string ⟨#[]⟩, .int .i64 0] := by rw [hW6]; first | exact ((HR.far N7.out.2.1 _).far N7.out.2.1 _).dr | exact (HR.dr.far N7.out.2.1 _).far N7.out.2.1 _
              all_goals replace HBW : Bel w W6 := by rw [hW6]; first | exact (Below.setCell (Below.setCell HBW N7.out.2.2 _) N7.out.2.2 _).drew | exact Below.setCell (Below.setCell HBW.dr N7.out.2.2 _) N7.out.2.2 _
              all_goals clear hW6 h7_0 h7_1 h7_2 h7_l h7_f0 h7_f1 ha_0 ha_1 ha_l hc9 hf
              all_goals have h7_0 := H7.c0
              all_goals have h7_1 := H7.c1
              all_goals have h7_2 := H7.c2
              all_goals have h7_l := H7.lt
              all_goals have hr_0 := HR.c0
              all_goals have hr_1 := HR.c1
              all_goals have hr_2 := HR.c2
              all_goals have hr_l := HR.lt
              all_goals have hr_f0 := HR.f0
              all_goals have hr_f1 := HR.f1
              all_goals have hr_f2 := HR.f2
              all_goals go_wp2_with fail
              all_goals refine bodyPost_ret (v := .tuple #[.agg #[.string y, .string (u.extract y.size u.size), .int .i64 (pw : Int)], .int .i64 ((tk : Int) + 1), .bool true]) (by simp [results, Tryz.results96, go_sem, hr_0, hr_1, hr_2, e9]) rfl ⟨?_, kbelow3 HBW HQ.out _ _ _⟩
              all_goals (rw [HV3.out]; rfl)
end Go.Proofs.YthdpojkeceoiiaaGreatDoor
end

section
/- Slices of atoms in memory; the law's own sameAtoms. Conditions: lists that fit. -/
open Go.RowKit
set_option maxRecDepth 100000
namespace Go.Proofs.YthdpojkeceoiiaaGreatDoor
/-- A slice at A reads as these cells, below block B. -/
def RC (w : World) (B : Nat) (A : Option Addr) (cs : List Value) : Prop := 0 < cs.length → ∃ ad, A = some ad ∧ ad.block < B ∧ ∀ j v, cs[j]? = some v → w.cell? (ad.add j) = some v
section
variable {w w' : World} {B B' : Nat} {A : Option Addr} {cs : List Value}
theorem RC.nil : RC w B A [] := fun h => absurd h (by simp)
theorem RC.keep (h : RC w B A cs) (hk : ∀ p : Addr, p.block < B → w'.cell? p = w.cell? p) : RC w' B A cs := fun hn => by
  obtain ⟨ad, e, hb, hc⟩ := h hn
  exact ⟨ad, e, hb, fun j u hu => (hk _ (by rw [yblock_add]; exact hb)).trans (hc j u hu)⟩
theorem RC.more (h : RC w B A cs) (hB : B ≤ B') : RC w B' A cs := fun hn => by
  obtain ⟨ad, e, hb, hc⟩ := h hn
  exact ⟨ad, e, by omega, hc⟩
theorem RC.below (h : RC w B A cs) (hb : Below B w w') : RC w' B A cs := h.keep fun _ hp => hb.cell hp
theorem RC.of_own {base size : Nat} {e : TypeId} {n c : Nat} (h : w.ownsRow base e size (.slice A n c) n cs) : RC w w.heap.size A cs := fun hn => by
  rcases h.2 with ⟨h0, h1⟩ | ⟨g, cap, cur, h0, _, hg, _⟩
  · have := h.1
    rw [h1] at this
    omega
  · injection h0 with h0 h1 h2
    subst h0
    refine ⟨_, rfl, (Array.getElem?_eq_some_iff.1 hg).1, fun j x hx => ?_⟩
    exact h.cells (g := g) rfl j _ hx
end
/-- In world W the slice at A reads as these cells. -/
def Cs (W : World) (A : Option Addr) (cs : List Value) : Prop := Hid (RC W W.heap.size A cs)
section
variable {W W' : World} {A : Option Addr} {cs : List Value}
theorem Cs.nil : Cs W A [] := RC.nil
theorem Cs.up (h : Cs W A cs) (hb : Hid (Below W.heap.size W W')) : Cs W' A cs := (h.out.below hb.out).more hb.out.size
theorem Cs.al (h : Cs W A cs) (o : Obj) : Cs (W.alloc o) A cs := h.up ((Below.refl _ _).alloc (Nat.le_refl _) o)
theorem Cs.dr (h : Cs W A cs) : Cs W.drew A cs := h
theorem Cs.dn (h : Cs W A cs) (k : Nat) : Cs (W.drewN k) A cs := h
theorem Cs.of_own {base size : Nat} {e : TypeId} {n c : Nat} (h : W.ownsRow base e size (.slice A n c) n cs) : Cs W A cs := RC.of_own h
end
/-- A prefix, a name, a power. -/
abbrev AL := ByteArray × ByteArray × Int
def cellA (a : AL) : List Value := [.string a.1, .string a.2.1, .int .i64 a.2.2]
def cellsA (l : List AL) : List Value := l.flatMap cellA
theorem cellsA_snoc (l : List AL) (a : AL) : cellsA (l ++ [a]) = cellsA l ++ cellA a := by unfold cellsA; rw [List.flatMap_append]; simp
theorem cellsA_len : ∀ l : List AL, (cellsA l).length = l.length * 3
  | [] => rfl
  | a :: l => by
    have := cellsA_len l
    show (cellA a ++ cellsA l).length = _
    rw [List.length_append, this]; simp [cellA]; omega
theorem cellsA_get : ∀ {l : List AL} {k : Nat} {a : AL}, l[k]? = some a → (cellsA l)[k * 3]? = some (.string a.1) ∧ (cellsA l)[k * 3 + 1]? = some (.string a.2.1) ∧ (cellsA l)[k * 3 + 2]? = some (.int .i64 a.2.2)
  | [], k, a, h => by simp at h
  | b :: l, 0, a, h => by
    simp at h; subst h
    exact ⟨rfl, rfl, rfl⟩
  | b :: l, k + 1, a, h => by
    have h1 := cellsA_get (l := l) (k := k) (by simpa using h)
    have e : ∀ i, (cellsA (b :: l))[(k + 1) * 3 + i]? = (cellsA l)[k * 3 + i]? := fun i => by
      show (cellA b ++ cellsA l)[(k + 1) * 3 + i]? = _
      rw [List.getElem?_append_right (by simp [cellA]; omega)]
      congr 1
      simp [cellA]; omega
    exact ⟨(e 0).trans h1.1, (e 1).trans h1.2.1, (e 2).trans h1.2.2⟩
/-- The three cells of an atom from an address on, as a walk spells them. -/
abbrev Has3 (W : World) (ad : Addr) (a : AL) : Prop :=
  W.cell? ad = some (.string a.1) ∧ W.cell? ⟨ad.block, ad.off + 1, none⟩ = some (.string a.2.1) ∧ W.cell? ⟨ad.block, ad.off + 2, none⟩ = some (.int .i64 a.2.2)
theorem cs_at3 {W : World} {A : Option Addr} {l : List AL} {k : Nat} {a : AL} (h : Cs W A (cellsA l)) (hk : l[k]? = some a) : ∃ ad, A = some ad ∧ ad.block < W.heap.size ∧ Has3 W (ad.add (k * 3)) a := by
  have hl : k < l.length := (List.getElem?_eq_some_iff.1 hk).1
  obtain ⟨ad, e, hb, hc⟩ := h.out (by rw [cellsA_len]; omega)
  obtain ⟨h0, h1, h2⟩ := cellsA_get hk
  have c0 := hc _ _ h0
  have c1 := hc _ _ h1
  have c2 := hc _ _ h2
  have ea : ∀ i, (⟨(ad.add (k * 3)).block, (ad.add (k * 3)).off + (i + 1), none⟩ : Addr) = ad.add (k * 3 + (i + 1)) := fun i => by
    unfold Addr.add
    split <;> split <;> simp_all <;> omega
  refine ⟨ad, e, hb, c0, ?_, ?_⟩
  · rw [ea 0]; exact c1
  · rw [ea 1]; exact c2
theorem take_moreA {α : Type} {l l' : List α} {k : Nat} {x : α} (h : l[k]? = some x) (h' : l'[k]? = some x) (ht : l.take k = l'.take k) : l.take (k + 1) = l'.take (k + 1) := by
  obtain ⟨a, b⟩ := List.getElem?_eq_some_iff.1 h
  obtain ⟨c, d⟩ := List.getElem?_eq_some_iff.1 h'
  rw [List.take_succ_eq_append_getElem a, List.take_succ_eq_append_getElem c, ht, b, d]
def sameA (l l' : List AL) : Bool := decide (l = l')
theorem eqA_al (a b : AL) : eqA a.1 a.2.1 a.2.2 b.1 b.2.1 b.2.2 = decide (a = b) := by
  obtain ⟨p, n, k⟩ := a
  obtain ⟨p', n', k'⟩ := b
  unfold eqA
  rw [Bool.eq_iff_iff]; simp
set_option maxHeartbeats 2000000 in
theorem sameAtoms_any {A B : Option Addr} {n m c d : Nat} {l l' : List AL} {w : World} (h : Cs w A (cellsA l)) (h' : Cs w B (cellsA l')) (hn : n = l.length) (hm : m = l'.length) (hl : n ≤ 1000000) (hl' : m ≤ 1000000) :
    Calls Tryz.prog 44 #[.slice A n c, .slice B m d] w (BoolQ w (sameA l l')) := by
  by_cases hnm : n = m
  · subst hnm
    have HN := khide hn
    have HM := khide hm
    clear hn hm
    go_enter Tryz.func44, Tryz.ntmps44
    go_wp2
    go_loopw [5] (fun iv wr => ∃ k q : Nat, k ≤ n ∧ iv = .int .i64 (k : Int) ∧ Hid (wr = w.drewN q) ∧ Hid (l.take k = l'.take k)) (fun iv _ => n - (intOf iv).toNat)
    case atStart => exact ⟨0, 0, Nat.zero_le _, rfl, rfl, rfl⟩
    case round =>
      obtain ⟨k, q, hk, rfl, HQ, HT⟩ := hrel
      by_cases hlt : k < n
      · obtain ⟨a, ha⟩ : ∃ a, l[k]? = some a := ⟨l[k]'(by rw [← HN.out]; exact hlt), List.getElem?_eq_getElem _⟩
        obtain ⟨b, hb⟩ : ∃ a, l'[k]? = some a := ⟨l'[k]'(by rw [← HM.out]; exact hlt), List.getElem?_eq_getElem _⟩
        have h9 : Cs wr A (cellsA l) := by rw [HQ.out]; exact h.dn q
        have h9' : Cs wr B (cellsA l') := by rw [HQ.out]; exact h'.dn q
        obtain ⟨ad, rfl, had, a0, a1, a2⟩ := cs_at3 h9 ha
        obtain ⟨bd, rfl, hbd, b0, b1, b2⟩ := cs_at3 h9' hb
        have k0 : (0 : Int) ≤ (k : Int) := by omega
        have k1 : (k : Int) < (n : Int) := by omega
        by_cases he : a = b
        · have HT2 : Hid (l.take (k + 1) = l'.take (k + 1)) := take_moreA ha (by rw [hb, he]) HT.out
          have q1 : ∀ W, (binOp .neq 125 (.agg #[.string a.1, .string a.2.1, .int .i64 a.2.2]) (.agg #[.string b.1, .string b.2.1, .int .i64 b.2.2])).run Tryz.prog W = .ok (.bool false) W := fun W => by
            rw [rneq W, eqA_al, decide_eq_true he]; rfl
          clear he ha hb h9 h9' had hbd
          go_wp2_with fail
          go_quiet (fail)
          go_wp2
          go_roundw
          case rel =>
            obtain ⟨q2, hq2⟩ := ydrew_more HQ
            exact ⟨k + 1, q2, by omega, by go_num, hq2, HT2⟩
          case measure => simp [intOf]; omega
        · have HD : Hid (sameA l l' = false) := decide_eq_false (fun e => he (by rw [e, hb] at ha; exact (Option.some.inj ha).symm))
          have q1 : ∀ W, (binOp .neq 125 (.agg #[.string a.1, .string a.2.1, .int .i64 a.2.2]) (.agg #[.string b.1, .string b.2.1, .int .i64 b.2.2])).run Tryz.prog W = .ok (.bool true) W := fun W => by
            rw [rneq W, eqA_al, decide_eq_false he]; rfl
          clear he ha hb h9 h9' had hbd
          go_wp2_with fail
          go_quiet (fail)
          go_wp2
          go_ret
          exact ⟨ybool HD.out.symm, ydrew_more HQ⟩
      · obtain rfl : k = n := by omega
        go_wp2
        go_ret
        refine ⟨ybool (Eq.symm (decide_eq_true ?_)), q, HQ.out⟩
        have h3 := HT.out
        rwa [List.take_of_length_le (by rw [← HN.out]; exact Nat.le_refl _), List.take_of_length_le (by rw [← HM.out]; exact Nat.le_refl _)] at h3
  · have d1 : ((n : Int) == (m : Int)) = false := by rw [beq_eq_false_iff_ne]; omega
    have HD : Hid (sameA l l' = false) := decide_eq_false (fun e => hnm (by rw [hn, hm, e]))
    clear hnm hn hm
    go_enter Tryz.func44, Tryz.ntmps44
    go_wp2
    go_ret
    exact ⟨ybool HD.out.symm, 0, rfl⟩
end Go.Proofs.YthdpojkeceoiiaaGreatDoor
end

section
/- The document's own atoms. Conditions: texts and lists that fit. -/
open Go.RowKit
set_option maxRecDepth 100000
namespace Go.Proofs.YthdpojkeceoiiaaGreatDoor
theorem addr_add (a : Addr) (n j : Nat) : (a.add n).add j = a.add (n + j) := by
  unfold Addr.add
  split <;> split <;> simp_all <;> omega
theorem Ss.drop {W : World} {ad : Addr} {xs : List ByteArray} (h : Ss W (some ad) xs) (k : Nat) : Ss W (some (ad.add k)) (xs.drop k) := fun h0 => by
  rw [List.length_drop] at h0
  obtain ⟨ad', e, hb, hc⟩ := h.out (by omega)
  injection e with e
  subst e
  refine ⟨_, rfl, by rw [yblock_add]; exact hb, fun j x hj => ?_⟩
  rw [addr_add]
  exact hc _ x (by rw [List.getElem?_drop] at hj; exact hj)
theorem Ss.sub {W : World} {D : Option Addr} {xs : List ByteArray} {g t : Nat} (h : Ss W D xs) (hg : xs.length ≤ g) : Ss W (if g = t then D else Option.map (fun x => x.add t) D) (xs.drop t) := by
  by_cases e : g = t
  · rw [List.drop_eq_nil_of_le (by omega)]
    exact RS.nil
  · rw [if_neg e]
    cases D with
    | none =>
      intro h0
      rw [List.length_drop] at h0
      obtain ⟨ad, e, _⟩ := h.out (by omega)
      cases e
    | some ad => exact h.drop t
theorem parseU_t (names ps : List ByteArray) (k t : Nat) (u : ByteArray) : (parseU names ps k t u).ok = true → (parseU names ps k t u).t = t + 1 := by
  unfold parseU
  split
  · intro _; rfl
  · intro h; cases h
/-- What an atom takes: a word or two. -/
theorem parseA_t {names ps l : List ByteArray} (h : (parseA names ps l).ok = true) : 1 ≤ (parseA names ps l).t ∧ (parseA names ps l).t ≤ 2 ∧ (parseA names ps l).t ≤ l.length := by
  have h2 := (leadP_le l).2
  revert h
  unfold parseA
  cases e : l[(leadP l).2]? with
  | none => intro h; cases h
  | some u =>
    intro h
    have h3 := (List.getElem?_eq_some_iff.1 e).1
    have h4 : (parseU names ps (leadP l).1 (leadP l).2 u).t = (leadP l).2 + 1 := parseU_t _ _ _ _ _ h
    show 1 ≤ (parseU names ps (leadP l).1 (leadP l).2 u).t ∧ (parseU names ps (leadP l).1 (leadP l).2 u).t ≤ 2 ∧ (parseU names ps (leadP l).1 (leadP l).2 u).t ≤ l.length
    omega
/-- Words that are atoms alone. -/
def atomsF (names ps : List ByteArray) : Nat → List ByteArray → Option (List AL)
  | _, [] => some []
  | 0, _ :: _ => none
  | f + 1, u :: l => if (parseA names ps (u :: l)).ok then ((atomsF names ps f ((u :: l).drop (parseA names ps (u :: l)).t)).map fun r => ((parseA names ps (u :: l)).p, (parseA names ps (u :: l)).n, ((parseA names ps (u :: l)).k : Int)) :: r) else none
def atomsL (names ps l : List ByteArray) : Option (List AL) := atomsF names ps l.length l
section
variable {names ps : List ByteArray}
theorem atomsF_more : ∀ {f f' : Nat} {l : List ByteArray}, l.length ≤ f → l.length ≤ f' → atomsF names ps f l = atomsF names ps f' l
  | f, f', [], _, _ => by cases f <;> cases f' <;> rfl
  | f + 1, f' + 1, u :: l, h, h' => by
    unfold atomsF
    by_cases e : (parseA names ps (u :: l)).ok = true
    · rw [if_pos e, if_pos e]
      have h1 := parseA_t e
      have h2 : ((u :: l).drop (parseA names ps (u :: l)).t).length ≤ l.length := by rw [List.length_drop, List.length_cons]; omega
      rw [atomsF_more (f := f) (f' := f') (by simp at h; omega) (by simp at h'; omega)]
    · rw [if_neg e, if_neg e]
theorem atomsL_nil : atomsL names ps [] = some [] := rfl
theorem atomsL_bad {l : List ByteArray} (hn : 0 < l.length) (h : (parseA names ps l).ok = false) : atomsL names ps l = none := by
  cases l with
  | nil => simp at hn
  | cons u l =>
    unfold atomsL
    rw [List.length_cons, atomsF, if_neg (by rw [h]; simp)]
theorem atomsL_more {l : List ByteArray} (h : (parseA names ps l).ok = true) : atomsL names ps l = (atomsL names ps (l.drop (parseA names ps l).t)).map fun r => ((parseA names ps l).p, (parseA names ps l).n, ((parseA names ps l).k : Int)) :: r := by
  have h1 := parseA_t h
  cases l with
  | nil => simp at h1; omega
  | cons u l =>
    unfold atomsL
    rw [List.length_cons, atomsF, if_pos h]
    congr 1
    exact atomsF_more (by rw [List.length_drop, List.length_cons]; omega) (Nat.le_refl _)
/-- With atoms ahead of them. -/
def combA (acc : List AL) (r : Option (List AL)) : Option (List AL) := r.map (acc ++ ·)
theorem combA_start (r : Option (List AL)) : combA [] r = r := by cases r <;> rfl
theorem combA_end (acc : List AL) : combA acc (some []) = some acc := by simp [combA]
theorem combA_bad {acc : List AL} {l : List ByteArray} (hn : 0 < l.length) (h : (parseA names ps l).ok = false) : combA acc (atomsL names ps l) = none := by rw [atomsL_bad hn h]; rfl
theorem combA_more {acc : List AL} {l : List ByteArray} {p n : ByteArray} {k t : Nat} (h : parseA names ps l = ⟨p, n, k, t, true⟩) : combA acc (atomsL names ps l) = combA (acc ++ [(p, n, (k : Int))]) (atomsL names ps (l.drop t)) := by
  rw [atomsL_more (by rw [h]), h]
  unfold combA
  cases atomsL names ps (l.drop t) <;> simp
end
theorem infoAtomC : (Tryz.prog.info? 125).map (fun i => (i.zero, i.size, i.bytes)) = some (some (.agg #[.string ByteArray.empty, .string ByteArray.empty, .int .i64 0]), 3, 40) := by kernel_rfl
theorem own_up {W W' : World} {base size n : Nat} {e : TypeId} {v : Value} {xs : List Value} (h : W.ownsRow base e size v n xs) (hb : Hid (Below W.heap.size W W')) : W'.ownsRow base e size v n xs :=
  h.kept (row := none) ⟨hb.out.os, hb.out.tape, hb.out.output, hb.out.size, fun k hk _ => hb.out.block k hk⟩ (by cases v.ownBlock <;> simp)
theorem own_slice {W : World} {base size n : Nat} {e : TypeId} {v : Value} {xs : List Value} (h : W.ownsRow base e size v n xs) : ∃ A c, v = .slice A n c ∧ (A = none → c = 0) := by
  rcases h.2 with ⟨rfl, rfl⟩ | ⟨g, cap, cur, rfl, _⟩
  · exact ⟨none, 0, rfl, fun _ => rfl⟩
  · exact ⟨_, cap, rfl, fun h => by cases h⟩
theorem own_base {W : World} {base base' size n : Nat} {e : TypeId} {v : Value} {xs : List Value} (h : W.ownsRow base e size v n xs) (hb : base' ≤ base) : W.ownsRow base' e size v n xs := by
  refine ⟨h.1, ?_⟩
  rcases h.2 with h2 | ⟨g, cap, cur, h3, h4, h5⟩
  · exact .inl h2
  · exact .inr ⟨g, cap, cur, h3, Nat.le_trans hb h4, h5⟩
/-- What a row of atoms comes to. -/
def AtomsR (W : World) (r : Option (List AL)) (e : Ending) (w' : World) : Prop := match r with
  | none => e = .returned (.tuple #[.slice none 0 0, .bool false]) ∧ Bel W w'
  | some l => ∃ A c, e = .returned (.tuple #[.slice A l.length c, .bool true]) ∧ (A = none → c = 0) ∧ Hid (w'.ownsRow W.heap.size 125 3 (.slice A l.length c) l.length (cellsA l)) ∧ Bel W w'
end Go.Proofs.YthdpojkeceoiiaaGreatDoor
end
