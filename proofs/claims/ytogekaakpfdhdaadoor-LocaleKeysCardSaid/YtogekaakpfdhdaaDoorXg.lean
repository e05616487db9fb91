/- Package locale: Parse. Conditions: texts that fit. -/
import Derived.Test.YtogekaakpfdhdaaDoorXf
open Go.RowKit
set_option maxRecDepth 100000
namespace Go.Proofs.YtogekaakpfdhdaaDoor.X
def noL : LL := ⟨[], [], [], [], []⟩
def locV (x : LL) : Value := .agg #[.string (bsL x.lang), .string (bsL x.reg), .string (bsL x.rg), .string (bsL x.ms), .string (bsL x.mu)]
def ParseX (W : World) (r : Option LL) (e : Ending) (w' : World) : Prop := e = .returned (.tuple #[locV (r.getD noL), .int .i64 (if r.isSome then 0 else 2)]) ∧ Bel W w'
abbrev set5 (W : World) (q : Nat) (a b c d e : Value) : World := ((((W.setCell ⟨q, 0, none⟩ a).setCell ⟨q, 1, none⟩ b).setCell ⟨q, 2, none⟩ c).setCell ⟨q, 3, none⟩ d).setCell ⟨q, 4, none⟩ e
theorem xput5 {W : World} {p : Nat} {v0 v1 v2 v3 v4 a b c d e : Value} (h : At W p [v0, v1, v2, v3, v4]) : At (set5 W p a b c d e) p [a, b, c, d, e] :=
  ((((h.put (i := 0) (by simp) a).put (i := 1) (by simp) b).put (i := 2) (by simp) c).put (i := 3) (by simp) d).put (i := 4) (by simp) e
theorem xbel5 {w W : World} {p : Nat} {a b c d e : Value} (h : Bel w W) (hp : w.heap.size ≤ p) : Bel w (set5 W p a b c d e) :=
  ((((Below.setCell h hp _).setCell hp _).setCell hp _).setCell hp _).setCell hp _
theorem parseL_no {s : LB} (h : headOkB (Lib.cut s opL).1 = false) : parseL s = none := by unfold parseL; rw [h]; rfl
theorem xfar5 {W : World} {p q : Nat} {vs : List Value} {a b c d e : Value} (h : At W q vs) (hn : p ≠ q) : At (set5 W p a b c d e) q vs := ((((h.far hn _).far hn _).far hn _).far hn _).far hn _
theorem xwp_named {P : Program} {c : Code} {Q : Exit → Act → World → Prop} {a : Act} {X : World} (h : ∀ W', W' = X → Code.wp P c Q a W') : Code.wp P c Q a X := h X rfl
theorem parts_of (x : LL) : ∃ a b c d e : ByteArray, a = bsL x.lang ∧ b = bsL x.reg ∧ c = bsL x.rg ∧ d = bsL x.ms ∧ e = bsL x.mu ∧ cellsX x = [.string a, .string b, .string c, .string d, .string e] ∧ locV x = .agg #[.string a, .string b, .string c, .string d, .string e] := ⟨_, _, _, _, _, rfl, rfl, rfl, rfl, rfl, rfl, rfl⟩
set_option maxHeartbeats 8000000 in
theorem parse_h {s : LB} {w : World} (hm : Mx w) (hs : s.length ≤ 900) : Calls Tryd.prog 7 #[.string (bsL s)] w (ParseX w (parseL s)) := by
  obtain ⟨R, hR⟩ : ∃ R, parseL s = R := ⟨_, rfl⟩
  obtain ⟨Q, hQ⟩ : ∃ Q, ParseX w R = Q := ⟨_, rfl⟩
  have HN : Hid (R = none → ∀ w', Bel w w' → Q (.returned (.tuple #[.agg #[.string ⟨#[]⟩, .string ⟨#[]⟩, .string ⟨#[]⟩, .string ⟨#[]⟩, .string ⟨#[]⟩], .int .i64 2])) w') := fun h1 w' h2 => by
    rw [← hQ, h1]; exact ⟨rfl, h2⟩
  have HS : Hid (∀ y, R = some y → ∀ w', Bel w w' → Q (.returned (.tuple #[locV y, .int .i64 0])) w') := fun y h1 w' h2 => by
    rw [← hQ, h1]; exact ⟨rfl, h2⟩
  obtain ⟨hd, hhd⟩ : ∃ k, (Lib.cut s opL).1 = k := ⟨_, rfl⟩
  obtain ⟨ps, hps⟩ : ∃ k, (Lib.cut s opL).2.1 = k := ⟨_, rfl⟩
  obtain ⟨hp, hhp⟩ : ∃ k, (Lib.cut s opL).2.2 = k := ⟨_, rfl⟩
  obtain ⟨lg, hlg⟩ : ∃ k, (Lib.cut hd hyL).1 = k := ⟨_, rfl⟩
  obtain ⟨rg, hrg⟩ : ∃ k, (Lib.cut hd hyL).2.1 = k := ⟨_, rfl⟩
  obtain ⟨hr, hhr⟩ : ∃ k, (Lib.cut hd hyL).2.2 = k := ⟨_, rfl⟩
  obtain ⟨a, ha⟩ : ∃ k, isLangB lg = k := ⟨_, rfl⟩
  obtain ⟨b, hb⟩ : ∃ k, isRegB rg = k := ⟨_, rfl⟩
  have l1 := cut_len s opL
  have l2 := cut_len hd hyL
  rw [hhd, hps] at l1
  have C1 : Hid (∀ W, Bel w W → Calls Tryd.prog 11 #[.string (bsL s), .string ⟨#[45, 117, 45]⟩] W fun e w' => e = .returned (.tuple #[.string (bsL hd), .string (bsL ps), .bool hp]) ∧ Bel W w') := fun W hw => by
    have := cut_h (l := s) (sep := opL) (hm.bel hw) (by omega)
    unfold CutRx at this
    rwa [hhd, hps, hhp] at this
  have C2 : Hid (∀ W, Bel w W → Calls Tryd.prog 11 #[.string (bsL hd), .string ⟨#[45]⟩] W fun e w' => e = .returned (.tuple #[.string (bsL lg), .string (bsL rg), .bool hr]) ∧ Bel W w') := fun W hw => by
    have := cut_h (l := hd) (sep := hyL) (hm.bel hw) (by omega)
    unfold CutRx at this
    rwa [hlg, hrg, hhr] at this
  have CL : Hid (∀ W : World, Calls Tryd.prog 12 #[.string (bsL lg)] W fun e w' => e = .returned (.bool a) ∧ W = w') := fun W => ha ▸ isLang_h lg W
  have CR : Hid (∀ W : World, Calls Tryd.prog 13 #[.string (bsL rg)] W fun e w' => e = .returned (.bool b) ∧ W = w') := fun W => hb ▸ isReg_h rg W
  have HH : Hid (headOkB hd = (a && !(hr && !b))) := by unfold Hid headOkB; rw [hlg, hrg, hhr, ha, hb]
  obtain ⟨r, hrr⟩ : ∃ r, setPairsB (s.length + 1) ⟨lg, rg, [], [], []⟩ ps = r := ⟨_, rfl⟩
  have HV : Hid (headOkB hd = true → R = if hp then r else some ⟨lg, rg, [], [], []⟩) := fun h => by
    rw [← hR, ← hrr]
    unfold parseL
    rw [hhd, hps, hhp, if_pos h]
    unfold headL
    rw [hlg, hrg]
  have HV0 : Hid (headOkB hd = false → R = none) := fun h => by rw [← hR]; exact parseL_no (by rw [hhd]; exact h)
  have CP : Hid (∀ W0 W q, Bel w W0 → At W q (cellsX ⟨lg, rg, [], [], []⟩) → Bel W0 W → W0.heap.size ≤ q → Calls Tryd.prog 14 #[.pointer (some ⟨q, 0, none⟩), .string (bsL ps)] W (PairsR W0 q r)) := fun W0 W q h0 h1 h2 h3 => by
    rw [← hrr]; exact setPairs_h (hm.bel h0) h1 h2 h3 (by omega) (by omega)
  rw [hR, hQ]
  obtain ⟨S, hS⟩ : ∃ P, bsL s = P := ⟨_, rfl⟩
  obtain ⟨HD, hHD⟩ : ∃ P, bsL hd = P := ⟨_, rfl⟩
  obtain ⟨PS, hPS⟩ : ∃ P, bsL ps = P := ⟨_, rfl⟩
  obtain ⟨LG, hLG⟩ : ∃ P, bsL lg = P := ⟨_, rfl⟩
  obtain ⟨RG, hRG⟩ : ∃ P, bsL rg = P := ⟨_, rfl⟩
  have HLR := xhide (And.intro hLG.symm hRG.symm)
  have HX0 : Hid (cellsX ⟨lg, rg, [], [], []⟩ = [.string LG, .string RG, .string ⟨#[]⟩, .string ⟨#[]⟩, .string ⟨#[]⟩] ∧ locV ⟨lg, rg, [], [], []⟩ = .agg #[.string LG, .string RG, .string ⟨#[]⟩, .string ⟨#[]⟩, .string ⟨#[]⟩]) := by
    unfold Hid cellsX locV; rw [← hLG, ← hRG]; exact ⟨rfl, rfl⟩
  rw [hS, hHD, hPS] at C1
  rw [hHD, hLG, hRG] at C2
  rw [hLG] at CL
  rw [hRG] at CR
  rw [hPS] at CP
  rw [hS]
  clear hR hQ hhd hps hhp hlg hrg hhr ha hb hrr hS hHD hPS hLG hRG l1 l2
  obtain ⟨W1, hW1⟩ : ∃ X, X = w.alloc (.cells #[.string ⟨#[]⟩, .string ⟨#[]⟩, .string ⟨#[]⟩, .string ⟨#[]⟩, .string ⟨#[]⟩] 25) := ⟨_, rfl⟩
  have HA : At W1 w.heap.size [.string ⟨#[]⟩, .string ⟨#[]⟩, .string ⟨#[]⟩, .string ⟨#[]⟩, .string ⟨#[]⟩] := by rw [hW1]; exact at_new0 _ _ _
  have HB : Bel w W1 := by rw [hW1]; exact (Bel.refl w).al _
  have HW := xhide hW1
  clear hW1
  go_enter Tryd.func7, Tryd.ntmps7
  go_upto_region 1 with fail
  rw [← HW.out]
  obtain ⟨q, hq⟩ : ∃ p, p = w.heap.size := ⟨_, rfl⟩
  have HQ : Hid (w.heap.size ≤ q) := by unfold Hid; omega
  rw [← hq] at HA ⊢
  clear HW hq
  by_cases hk : headOkB hd = true
  · have hk2 := HH.out
    rw [hk] at hk2
    have HV1 := HV.out hk
    have HKK := xhide hk2
    cases hr <;> cases a <;> cases b <;> first | (exact absurd HKK.out (by decide)) | skip
    all_goals
      clear hk hk2 HKK
      go_upto_region 6 with (first
        | (go_at_call 11; (first | (with_reducible refine (C1.out _ HB).mono ?_) | (with_reducible refine (C2.out _ HB).mono ?_)); rintro e w1 ⟨rfl, hb⟩; (replace HA := HA.up hb.hid); (replace HB := HB.up hb.hid); clear hb)
        | (go_at_call 12; (with_reducible refine (CL.out _).mono ?_); rintro e w1 ⟨rfl, rfl⟩)
        | (go_at_call 13; (with_reducible refine (CR.out _).mono ?_); rintro e w1 ⟨rfl, rfl⟩)
        | fail)
      refine xwp_named ?_
      intro W6 hW6
      have HA6 : At W6 q [.string ⟨#[]⟩, .string ⟨#[]⟩, .string ⟨#[]⟩, .string ⟨#[]⟩, .string ⟨#[]⟩] := by rw [hW6]; exact HA.al _
      have HB6 : Bel w W6 := by rw [hW6]; exact HB.al _
      obtain ⟨p, hp6⟩ : ∃ p, p = w1.heap.size := ⟨_, rfl⟩
      have HP6 : At W6 p [.string LG, .string RG, .string ⟨#[]⟩, .string ⟨#[]⟩, .string ⟨#[]⟩] := by rw [hW6, hp6]; exact at_new0 _ _ _
      have HQP : Hid (w.heap.size ≤ p ∧ q ≠ p ∧ p ≠ q) := by
        have h1 := HB.size
        have h2 := HA.lt
        unfold Hid; omega
      rw [← hp6]
      have HB16 : Bel w1 W6 := by rw [hW6]; exact (Bel.refl w1).al _
      have HP1 : Hid (w1.heap.size ≤ p) := by unfold Hid; omega
      clear hW6 hp6
      cases hp
      · have HS1 := xhide (HS.out _ HV1)
        have hr_l := HA6.lt; have hr_f0 := HA6.f0; have hr_f1 := HA6.f1; have hr_f2 := HA6.f2; have hr_f3 := xf3 HA6; have hr_f4 := xf4 HA6; have hr_0 := HA6.c0; have hr_1 := HA6.c1; have hr_2 := HA6.c2; have hr_3 := xc3 HA6; have hr_4 := xc4 HA6
        have hp_l := HP6.lt; have hp_0 := HP6.c0; have hp_1 := HP6.c1; have hp_2 := HP6.c2; have hp_3 := xc3 HP6; have hp_4 := xc4 HP6; have hp_f0 := HP6.f0; have hp_f1 := HP6.f1; have hp_f2 := HP6.f2; have hp_f3 := xf3 HP6; have hp_f4 := xf4 HP6
        have hqp := HQP.out.2.1
        have hpq := HQP.out.2.2
        clear HV1
        go_wp2_with fail
        have h9 := HS1.out _ (xbel5 (a := .string LG) (b := .string RG) (c := .string ⟨#[]⟩) (d := .string ⟨#[]⟩) (e := .string ⟨#[]⟩) HB6 HQ.out)
        rw [HX0.out.2] at h9
        exact bodyPost_ret (v := .tuple #[.agg #[.string LG, .string RG, .string ⟨#[]⟩, .string ⟨#[]⟩, .string ⟨#[]⟩], .int .i64 0]) (by simp [results, Tryd.results7, go_sem, hr_0, hr_1, hr_2, hr_3, hr_4, hr_l]) rfl h9
      · simp only [if_true] at HV1
        have HRR := xhide HV1
        clear HV1
        have CP6 : Hid (Calls Tryd.prog 14 #[.pointer (some ⟨p, 0, none⟩), .string PS] W6 (PairsR w1 p r)) := CP.out _ _ _ HB (by rw [HX0.out.1]; exact HP6) HB16 HP1.out
        cases r with
        | none =>
          go_upto_region 7 with (first | (go_at_call 14; (with_reducible refine CP6.out.mono ?_); rintro e w2 ⟨rfl, _, hb⟩) | fail)
          replace HA6 := HA.up hb.hid
          have HB7 := HB.up hb.hid
          have hr_l := HA6.lt; have hr_f0 := HA6.f0; have hr_f1 := HA6.f1; have hr_f2 := HA6.f2; have hr_f3 := xf3 HA6; have hr_f4 := xf4 HA6; have hr_0 := HA6.c0; have hr_1 := HA6.c1; have hr_2 := HA6.c2; have hr_3 := xc3 HA6; have hr_4 := xc4 HA6
          go_wp2_with fail
          refine bodyPost_ret (v := .tuple #[.agg #[.string ⟨#[]⟩, .string ⟨#[]⟩, .string ⟨#[]⟩, .string ⟨#[]⟩, .string ⟨#[]⟩], .int .i64 2]) ?_ rfl (HN.out HRR.out _ ?_)
          · simp [results, Tryd.results7, go_sem, hr_0, hr_1, hr_2, hr_3, hr_4, hr_l]
          · exact xbel5 HB7 HQ.out
        | some y =>
          obtain ⟨a0, a1, a2, a3, a4, e0, e1, e2, e3, e4, hcx, hlv⟩ := parts_of y
          have HS1 := xhide (HS.out y HRR.out)
          rw [hlv] at HS1
          have HCX := xhide hcx
          clear e0 e1 e2 e3 e4 hcx hlv
          go_upto_region 8 with (first | (go_at_call 14; (with_reducible refine CP6.out.mono ?_); rintro e w2 ⟨rfl, ⟨y', hy1, hy2⟩, hb⟩) | fail)
          have hy3 := hy2 y rfl
          subst hy3
          rw [HCX.out] at hy1
          replace HA6 := HA.up hb.hid
          have HB7 := HB.up hb.hid
          have hr_l := HA6.lt; have hr_f0 := HA6.f0; have hr_f1 := HA6.f1; have hr_f2 := HA6.f2; have hr_f3 := xf3 HA6; have hr_f4 := xf4 HA6; have hr_0 := HA6.c0; have hr_1 := HA6.c1; have hr_2 := HA6.c2; have hr_3 := xc3 HA6; have hr_4 := xc4 HA6
          have hp_l := hy1.lt; have hp_0 := hy1.c0; have hp_1 := hy1.c1; have hp_2 := hy1.c2; have hp_3 := xc3 hy1; have hp_4 := xc4 hy1
          have hqp := HQP.out.2.1
          have hpq := HQP.out.2.2
          go_wp2_with fail
          refine bodyPost_ret (v := .tuple #[.agg #[.string a0, .string a1, .string a2, .string a3, .string a4], .int .i64 0]) ?_ rfl (HS1.out _ ?_)
          · simp [results, Tryd.results7, go_sem, hr_0, hr_1, hr_2, hr_3, hr_4, hr_l]
          · exact xbel5 HB7 HQ.out
  · have hk0 : headOkB hd = false := by cases h : headOkB hd; rfl; exact absurd h hk
    have HN0 := xhide (HN.out (HV0.out hk0))
    have hk2 := HH.out
    rw [hk0] at hk2
    have HKK := xhide hk2
    clear hk hk0 hk2
    cases hr <;> cases a <;> cases b <;> first | (exact absurd HKK.out (by decide)) | skip
    all_goals
      clear HKK
      go_upto_region 4 with (first
        | (go_at_call 11; (first | (with_reducible refine (C1.out _ HB).mono ?_) | (with_reducible refine (C2.out _ HB).mono ?_)); rintro e w1 ⟨rfl, hb⟩; (replace HA := HA.up hb.hid); (replace HB := HB.up hb.hid); clear hb)
        | (go_at_call 12; (with_reducible refine (CL.out _).mono ?_); rintro e w1 ⟨rfl, rfl⟩)
        | (go_at_call 13; (with_reducible refine (CR.out _).mono ?_); rintro e w1 ⟨rfl, rfl⟩)
        | fail)
      have hr_l := HA.lt; have hr_f0 := HA.f0; have hr_f1 := HA.f1; have hr_f2 := HA.f2; have hr_f3 := xf3 HA; have hr_f4 := xf4 HA; have hr_0 := HA.c0; have hr_1 := HA.c1; have hr_2 := HA.c2; have hr_3 := xc3 HA; have hr_4 := xc4 HA
      go_wp2_with fail
      refine bodyPost_ret (v := .tuple #[.agg #[.string ⟨#[]⟩, .string ⟨#[]⟩, .string ⟨#[]⟩, .string ⟨#[]⟩, .string ⟨#[]⟩], .int .i64 2]) ?_ rfl (HN0.out _ ?_)
      · simp [results, Tryd.results7, go_sem, hr_0, hr_1, hr_2, hr_3, hr_4, hr_l]
      · exact xbel5 HB HQ.out
end Go.Proofs.YtogekaakpfdhdaaDoor.X
