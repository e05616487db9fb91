/- WordSays' walk. Conditions: the texts of the row together of at most 2^47 bytes. -/
import Derived.Test.YteahcbeohopdlaaDoorYp
import Derived.Test.YteahcbeohopdlaaDoorYn
import Derived.Test.YteahcbeohopdlaaDoorYq
import Derived.Test.YteahcbeohopdlaaDoorLas
open Go.RowKit
set_option maxRecDepth 100000
namespace Go.Proofs.YteahcbeohopdlaaDoor
/-- What Split leaves, with an error or without. -/
def SplitX (W : World) (ev : Int) (np : Nat) (ps : List ByteArray) (e : Ending) (w' : World) : Prop := ∃ A c, e = .returned (.tuple #[.slice A np c, .int .i64 ev]) ∧ Ss w' A ps ∧ Hid (Below W.heap.size W w')
theorem split_no {W : World} {v : Int} {e : Ending} {w' : World} (h : SplitNo W v e w') : SplitX W v 0 [] e w' := ⟨none, 0, h.1, RS.nil, h.2⟩
theorem split_yes {W : World} {ps : List ByteArray} {e : Ending} {w' : World} (h : SplitOk W ps e w') : SplitX W 0 ps.length ps e w' := by
  obtain ⟨ad, c, he, _, hs, hb⟩ := h
  exact ⟨some ad, c, he, hs, hb⟩
theorem rsplit_long {s : ByteArray} (hs : 256 < s.size) (w : World) : Calls Tryd.prog 56 #[.string s] w (SplitNo w 11) := by
  have d : decide ((256 : Int) < (s.size : Int)) = true := decide_eq_true (by omega)
  clear hs
  go_enter Tryd.func56, Tryd.ntmps56
  go_wp2
  go_ret2
  exact ⟨rfl, Below.refl _ _⟩
/-- Both answer alike. -/
theorem split_both (s : ByteArray) : ∃ (ev : Int) (ps : List ByteArray), ps.length ≤ 1000000 ∧ (∀ W : World, Calls Tryd.prog 50 #[.string s] W (SplitX W ev ps.length ps)) ∧ (∀ W : World, Calls Tryd.prog 56 #[.string s] W (SplitX W ev ps.length ps)) := by
  by_cases h1 : 256 < s.size
  · exact ⟨11, [], by simp, fun W => (wsplit_long h1 W).mono fun _ _ h => split_no h, fun W => (rsplit_long h1 W).mono fun _ _ h => split_no h⟩
  · have h2 : s.size ≤ 256 := by omega
    cases hg : goodAll (pcs s)
    · refine ⟨2, [], by simp, fun W => ?_, fun W => ?_⟩
      · have h3 := wsplit_any h2 W
        rw [hg] at h3
        exact h3.mono fun _ _ h => split_no h
      · have h3 := rsplit_any h2 W
        unfold SplitA at h3
        rw [hg] at h3
        exact h3.mono fun _ _ h => split_no h
    · refine ⟨0, pcs s, by have := pcs_le s; omega, fun W => ?_, fun W => ?_⟩
      · have h3 := wsplit_any h2 W
        rw [hg] at h3
        exact h3.mono fun _ _ h => split_yes h
      · have h3 := rsplit_any h2 W
        unfold SplitA at h3
        rw [hg] at h3
        exact h3.mono fun _ _ h => split_yes h
set_option maxHeartbeats 4000000 in
theorem wsays_walk {A : Option Addr} {n c : Nat} {xs : List ByteArray} {s t : ByteArray} {w : World} (h : Ss w A xs) (hn : n = xs.length) (hc : n ≤ c) (hl : (glue 45 (xs.map (·.data.toList))).length ≤ 140737488355328) :
    Calls Tryd.prog 7 #[.string s, .slice A n c, .string t] w (TextsR w true) := by
  have CA := yhide (fun W => awake6_h W)
  by_cases h300 : 300 < s.size
  · have d1 : decide ((300 : Int) < (s.size : Int)) = true := decide_eq_true (by omega)
    clear h300 hn hc hl h
    go_enter Tryd.func7, Tryd.ntmps7
    go_wp2_with (first | (go_at_call 49; (with_reducible refine (CA.out _).mono ?_); rintro e w1 ⟨rfl, HB⟩) | fail)
    go_ret
    exact ⟨rfl, HB⟩
  by_cases h30 : 30 < n
  · have d1 : decide ((300 : Int) < (s.size : Int)) = false := decide_eq_false (by omega)
    have d2 : decide ((30 : Int) < (n : Int)) = true := decide_eq_true (by omega)
    clear h300 h30 hn hc hl h
    go_enter Tryd.func7, Tryd.ntmps7
    go_wp2_with (first | (go_at_call 49; (with_reducible refine (CA.out _).mono ?_); rintro e w1 ⟨rfl, HB⟩) | fail)
    go_ret
    exact ⟨rfl, HB⟩
  have d1 : decide ((300 : Int) < (s.size : Int)) = false := decide_eq_false (by omega)
  have d2 : decide ((30 : Int) < (n : Int)) = false := decide_eq_false (by omega)
  have hs : s.size ≤ 300 := by omega
  have hn30 : n ≤ 30 := by omega
  obtain ⟨ev, ps, hpl, cs1, cs2⟩ := split_both s
  obtain ⟨np, hnp⟩ : ∃ np, np = ps.length := ⟨_, rfl⟩
  rw [← hnp] at hpl cs1 cs2
  have HNP := yhide hnp
  have HPL := yhide hpl
  have CS := yhide cs1
  have CR := yhide cs2
  obtain ⟨css, hcss⟩ : ∃ css, css = cutBy t xs := ⟨_, rfl⟩
  obtain ⟨m, hm⟩ : ∃ m, m = css.length := ⟨_, rfl⟩
  have hm31 : m ≤ 31 := by rw [hm, hcss]; have := cutBy_le (a := t) xs; omega
  have HM := yhide hm
  have HN := yhide hn
  have HPC : Hid (∀ p ∈ css, p.length ≤ 1000000) := fun p hp => by
    have h1 := cutBy_piece (a := t) (l := xs) (by rw [← hcss]; exact hp)
    omega
  have CC : Hid (∀ W, Ss W A xs → Calls Tryd.prog 51 #[.slice A n c, .string t] W (fun e w' => ∃ ad c, e = .returned (.slice (some ad) m c) ∧ Sss w' (some ad) css ∧ Hid (Below W.heap.size W w'))) := fun W hs2 => by
    rw [hcss] at hm
    rw [hcss, hm]
    exact wcut_any hs2 hn (by omega)
  have CD : Hid (∀ W, Ss W A xs → Calls Tryd.prog 57 #[.slice A n c, .string t] W (fun e w' => ∃ ad c, e = .returned (.slice (some ad) m c) ∧ Sss w' (some ad) css ∧ Hid (Below W.heap.size W w'))) := fun W hs2 => by
    rw [hcss] at hm
    rw [hcss, hm]
    exact rcut_any hs2 hn (by omega)
  obtain ⟨js, hjs⟩ : ∃ js, js = joinS xs := ⟨_, rfl⟩
  have CJ : Hid (∀ W, Ss W A xs → Calls Tryd.prog 55 #[.slice A n c] W (StrR W js)) := fun W hs2 => by rw [hjs]; exact wjoin_any hs2 hn hc (by omega) hl
  have CK : Hid (∀ W, Ss W A xs → Calls Tryd.prog 60 #[.slice A n c] W fun e w' => e = .returned (.string js) ∧ W = w') := fun W hs2 => by rw [hjs]; exact rjoin_any hs2 hn (by omega) hl
  obtain ⟨b1, hb1⟩ : ∃ b, b = goodW s.data.toList := ⟨_, rfl⟩
  obtain ⟨b2, hb2⟩ : ∃ b, b = numW s.data.toList := ⟨_, rfl⟩
  have CG : Hid (∀ W, Calls Tryd.prog 54 #[.string s] W fun e w' => e = .returned (.bool b1) ∧ W = w') := fun W => by rw [hb1]; exact wgood_any s W
  have CG2 : Hid (∀ W, Calls Tryd.prog 58 #[.string s] W fun e w' => e = .returned (.bool b1) ∧ W = w') := fun W => by rw [hb1]; exact rgood_any (by omega) W
  have CN : Hid (∀ W, Calls Tryd.prog 53 #[.string s] W fun e w' => e = .returned (.bool b2) ∧ W = w') := fun W => by rw [hb2]; exact wnumber_any s W
  have CN2 : Hid (∀ W, Calls Tryd.prog 59 #[.string s] W fun e w' => e = .returned (.bool b2) ∧ W = w') := fun W => by rw [hb2]; exact rnumber_any (by omega) W
  clear h300 h30 hn hc hl hpl cs1 cs2 hnp hcss hm hjs hb1 hb2 hs
  go_enter Tryd.func7, Tryd.ntmps7
  go_wp2_with (first
    | (go_at_call 49; (with_reducible refine (CA.out _).mono ?_); rintro e w1 ⟨rfl, HB⟩; replace h := h.up HB)
    | (go_at_call 50; (with_reducible refine (CS.out _).mono ?_); rintro e w2 ⟨Aa, ca, rfl, ha, hb⟩; replace h := h.up hb; replace HB : Hid (Below w.heap.size w w2) := HB.out.trans (hb.out.mono HB.out.size); clear hb)
    | (go_at_call 56; (with_reducible refine (CR.out _).mono ?_); rintro e w3 ⟨Ab, cb, rfl, hbb, hb⟩; replace h := h.up hb; replace ha := ha.up hb; replace HB : Hid (Below w.heap.size w w3) := HB.out.trans (hb.out.mono HB.out.size); clear hb)
    | (go_at_call 51; (with_reducible refine (CC.out _ h).mono ?_); rintro e w4 ⟨ad4, c4, rfl, H4, hb⟩; replace h := h.up hb; replace ha := ha.up hb; replace hbb := hbb.up hb; replace HB : Hid (Below w.heap.size w w4) := HB.out.trans (hb.out.mono HB.out.size); clear hb)
    | (go_at_call 57; (with_reducible refine (CD.out _ h).mono ?_); rintro e w5 ⟨ad5, c5, rfl, H5, hb⟩; replace h := h.up hb; replace ha := ha.up hb; replace hbb := hbb.up hb; replace H4 := H4.up hb; replace HB : Hid (Below w.heap.size w w5) := HB.out.trans (hb.out.mono HB.out.size); clear hb)
    | fail)
  go_loopw [13] (fun iv wr => ∃ i q : Nat, i ≤ m ∧ iv = .int .i64 (i : Int) ∧ Hid (wr = w5.drewN q)) (fun iv _ => m - (intOf iv).toNat)
  case atStart => exact ⟨0, 0, Nat.zero_le _, rfl, rfl⟩
  case round =>
    obtain ⟨i, q, hi, rfl, HQ⟩ := hrel
    by_cases hlt : i < m
    · have hix : i < css.length := by rw [← HM.out]; exact hlt
      obtain ⟨ad6, A4, k4, e4, hb4, hcell4, hrs4, _⟩ := H4.out.at_ hix
      obtain rfl : ad4 = ad6 := by injection e4
      obtain ⟨ad7, A5, k5, e5, hb5, hcell5, hrs5, _⟩ := H5.out.at_ hix
      obtain rfl : ad5 = ad7 := by injection e5
      obtain ⟨p, hpe⟩ : ∃ p, p = css[i] := ⟨_, rfl⟩
      obtain ⟨l, hle⟩ : ∃ l, l = p.length := ⟨_, rfl⟩
      have hpl : l ≤ 1000000 := by rw [hle]; exact HPC.out p (by rw [hpe]; exact List.getElem_mem hix)
      rw [← hpe] at hcell4 hcell5 hrs4 hrs5
      rw [← hle] at hcell4 hcell5
      have CT : Hid (∀ k, Calls Tryd.prog 52 #[.slice A4 l k4, .slice A5 l k5] (wr.drewN k) (TextsQ (wr.drewN k) true)) := fun k => by
        have h1 := texts_q (c := k4) (c' := k5) (w := wr.drewN k) (A := A4) (A' := A5) (xs := p) (ys := p) (by rw [HQ.out]; exact hrs4) (by rw [HQ.out]; exact hrs5) hle hle hpl hpl
        rwa [decide_eq_true rfl] at h1
      replace hcell4 : wr.cell? (ad4.add i) = some (.slice A4 l k4) := by rw [HQ.out]; exact hcell4
      replace hcell5 : wr.cell? (ad5.add i) = some (.slice A5 l k5) := by rw [HQ.out]; exact hcell5
      clear hpe hle hix e4 e5 hrs4 hrs5 hb4 hb5 hpl
      go_wp2_with fail
      go_quiet ((go_at_call 52; exact Calls.quiet_of (CT.out _)))
      go_wp2
      go_roundw
      case rel =>
        obtain ⟨q2, hq2⟩ := ydrew_more HQ
        exact ⟨i + 1, q2, by omega, by go_num, hq2⟩
      case measure => simp [intOf]; omega
    · obtain rfl : i = m := by omega
      replace h : Ss wr A xs := by rw [HQ.out]; exact h.dn q
      replace ha : Ss wr Aa ps := by rw [HQ.out]; exact ha.dn q
      replace hbb : Ss wr Ab ps := by rw [HQ.out]; exact hbb.dn q
      replace HB : Hid (Below w.heap.size w wr) := by rw [HQ.out]; exact ybelow_drewN HB.out q
      have CT : Hid (∀ W, Ss W Aa ps → Ss W Ab ps → Calls Tryd.prog 52 #[.slice Aa np ca, .slice Ab np cb] W (TextsR W true)) := fun W h1 h2 => texts_h h1 h2 HNP.out HNP.out HPL.out HPL.out (decide_eq_true rfl)
      clear HQ H4 H5
      go_wp2_with (first
        | (go_at_call 52; (with_reducible refine (CT.out _ ha hbb).mono ?_); rintro e w6 ⟨rfl, hb⟩; replace h := h.up hb; replace HB : Hid (Below w.heap.size w w6) := HB.out.trans (hb.out.mono HB.out.size); clear hb)
        | (go_at_call 54; (with_reducible refine (CG.out _).mono ?_); rintro e w7 ⟨rfl, rfl⟩)
        | (go_at_call 58; (with_reducible refine (CG2.out _).mono ?_); rintro e w8 ⟨rfl, rfl⟩)
        | (go_at_call 53; (with_reducible refine (CN.out _).mono ?_); rintro e w9 ⟨rfl, rfl⟩)
        | (go_at_call 59; (with_reducible refine (CN2.out _).mono ?_); rintro e w10 ⟨rfl, rfl⟩)
        | (go_at_call 55; (with_reducible refine (CJ.out _ h).mono ?_); rintro e w11 ⟨rfl, hb⟩; replace h := h.up hb; replace HB : Hid (Below w.heap.size w w11) := HB.out.trans (hb.out.mono HB.out.size); clear hb)
        | (go_at_call 60; (with_reducible refine (CK.out _ h).mono ?_); rintro e w12 ⟨rfl, rfl⟩)
        | fail)
      go_ret
      exact ⟨rfl, HB⟩
theorem wsays_all {A : Option Addr} {n c : Nat} {xs : List ByteArray} {s t : ByteArray} (w : World) (_ : s.size ≤ maxLen) (h : InStrs w A n c xs) (hl : (glue 45 (xs.map (·.data.toList))).length ≤ 140737488355328) (_ : t.size ≤ maxLen) :
    Calls Tryd.prog 7 #[.string s, .slice A n c, .string t] w fun e w' => e = .returned (.bool true) ∧ Below w.heap.size w w' :=
  (wsays_walk h.2.2 h.1 h.2.1 hl).mono fun _ _ ⟨he, hb⟩ => ⟨he, hb⟩
end Go.Proofs.YteahcbeohopdlaaDoor
