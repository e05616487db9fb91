/- Package locale: setPair of any key, setPairs. Conditions: texts that fit. -/
import Derived.Test.YtogekaakpfdhdaaDoorXe
import Derived.Test.YtogekaakpfdhdaaDoorXb
open Go.RowKit
set_option maxRecDepth 100000
namespace Go.Proofs.YtogekaakpfdhdaaDoor.X
theorem xeq (k c : LB) : ((bsL k).toList == c) = decide (k = c) := by
  rw [xlist]
  by_cases h : k = c
  · subst h; simp
  · rw [decide_eq_false h, beq_eq_false_iff_ne.2 h]
set_option maxHeartbeats 4000000 in
theorem setPair_h {q : Nat} {x : LL} {k v : LB} {W0 W : World} (h : At W q (cellsX x)) (hb : Bel W0 W) (hq : W0.heap.size ≤ q) (hv : v.length ≤ 1000) :
    Calls Tryd.prog 22 #[.pointer (some ⟨q, 0, none⟩), .string (bsL k), .string (bsL v)] W (SetR W0 q x (setPairB x k v)) := by
  by_cases h1 : k = rgK
  · subst h1
    rw [show setPairB x rgK v = setRg x v from if_pos rfl]
    exact pair_rg h hb hq hv
  by_cases h2 : k = msK
  · subst h2
    rw [show setPairB x msK v = setMs x v from by unfold setPairB; rw [if_neg (by decide), if_pos rfl]]
    exact pair_ms h hb hq
  by_cases h3 : k = muK
  · subst h3
    rw [show setPairB x muK v = setMu x v from by unfold setPairB; rw [if_neg (by decide), if_neg (by decide), if_pos rfl]]
    exact pair_mu h hb hq
  have e : setPairB x k v = none := by unfold setPairB; rw [if_neg h1, if_neg h2, if_neg h3]
  rw [e]
  obtain ⟨Q, hQ⟩ : ∃ Q, SetR W0 q x none = Q := ⟨_, rfl⟩
  have HN : Hid (Q (.returned (.bool false)) W) := by unfold Hid; rw [← hQ]; exact SetR.mk rfl h hb
  have d1 : ((bsL k).toList == [114, 103]) = false := (xeq k rgK).trans (decide_eq_false h1)
  have d2 : ((bsL k).toList == [109, 115]) = false := (xeq k msK).trans (decide_eq_false h2)
  have d3 : ((bsL k).toList == [109, 117]) = false := (xeq k muK).trans (decide_eq_false h3)
  obtain ⟨K, hK⟩ : ∃ K, bsL k = K := ⟨_, rfl⟩
  rw [hQ]
  rw [hK] at d1 d2 d3 ⊢
  clear hQ hK e h h1 h2 h3 hb
  go_enter Tryd.func22, Tryd.ntmps22
  go_wp2_with fail
  exact HN.out
/-- What setPairs hands back and leaves. -/
def PairsR (W0 : World) (q : Nat) (r : Option LL) (e : Ending) (w' : World) : Prop := e = .returned (.bool r.isSome) ∧ (∃ y, At w' q (cellsX y) ∧ ∀ z, r = some z → y = z) ∧ Bel W0 w'
theorem cut_len (s sub : LB) : (Lib.cut s sub).1.length ≤ s.length ∧ (Lib.cut s sub).2.1.length ≤ s.length ∧ ((Lib.cut s sub).2.2 = true → (Lib.cut s sub).2.1.length + sub.length ≤ s.length) := by
  rcases cut_spec s sub with ⟨_, h2⟩ | h
  · have e := congrArg List.length h2
    rw [List.length_append, List.length_append] at e
    refine ⟨by omega, by omega, fun _ => by omega⟩
  · rw [h]; simp
def stepP (n : Nat) (p2 : LB) (m : Bool) (r : Option LL) : Option LL := match r with
  | none => none
  | some y => if m then setPairsB n y p2 else some y
theorem pairs_succ (n : Nat) (x : LL) (p : LB) : setPairsB (n + 1) x p = stepP n (Lib.cut (Lib.cut p hyL).2.1 hyL).2.1 (Lib.cut (Lib.cut p hyL).2.1 hyL).2.2 (setPairB x (Lib.cut p hyL).1 (Lib.cut (Lib.cut p hyL).2.1 hyL).1) := rfl
def msrX (pv mv : Value) : Nat := match pv, mv with
  | .string s, .bool true => s.size + 1
  | _, _ => 0
theorem sr_some {W0 w' : World} {q : Nat} {x y : LL} {e : Ending} (h : SetR W0 q x (some y) e w') : e = .returned (.bool true) ∧ At w' q (cellsX y) ∧ Bel W0 w' := h
theorem sr_none {W0 w' : World} {q : Nat} {x : LL} {e : Ending} (h : SetR W0 q x none e w') : e = .returned (.bool false) ∧ At w' q (cellsX x) ∧ Bel W0 w' := h
set_option maxHeartbeats 4000000 in
theorem setPairs_h {q n : Nat} {x : LL} {p : LB} {W0 W : World} (hm : Mx W0) (h : At W q (cellsX x)) (hb : Bel W0 W) (hq : W0.heap.size ≤ q) (hp : p.length ≤ 1000) (hn : p.length < n) :
    Calls Tryd.prog 14 #[.pointer (some ⟨q, 0, none⟩), .string (bsL p)] W (PairsR W0 q (setPairsB n x p)) := by
  obtain ⟨R, hR⟩ : ∃ R, setPairsB n x p = R := ⟨_, rfl⟩
  obtain ⟨Q, hQ⟩ : ∃ Q, PairsR W0 q R = Q := ⟨_, rfl⟩
  have HN : Hid (R = none → ∀ w' y, At w' q (cellsX y) → Bel W0 w' → Q (.returned (.bool false)) w') := fun h1 w' y h2 h3 => by
    rw [← hQ, h1]; exact ⟨rfl, ⟨y, h2, fun z hz => by cases hz⟩, h3⟩
  have HS : Hid (∀ y, R = some y → ∀ w', At w' q (cellsX y) → Bel W0 w' → Q (.returned (.bool true)) w') := fun y h1 w' h2 h3 => by
    rw [← hQ, h1]; exact ⟨rfl, ⟨y, h2, fun z hz => by injection hz⟩, h3⟩
  have CC : Hid (∀ (l : LB) W, Bel W0 W → l.length ≤ 1000 → Calls Tryd.prog 11 #[.string (bsL l), .string ⟨#[45]⟩] W (CutRx W l hyL)) := fun l W hw hl => cut_h (hm.bel hw) hl
  have CP : Hid (∀ (x : LL) (k v : LB) W, At W q (cellsX x) → Bel W0 W → v.length ≤ 1000 → Calls Tryd.prog 22 #[.pointer (some ⟨q, 0, none⟩), .string (bsL k), .string (bsL v)] W (SetR W0 q x (setPairB x k v))) := fun x k v W h1 h2 h3 => setPair_h h1 h2 hq h3
  have H0 := xhide (And.intro hp (And.intro hn hR))
  have HA := xhide h
  have HB := xhide hb
  rw [hR, hQ]
  clear h hb hn hR hQ hp hq
  go_enter Tryd.func14, Tryd.ntmps14
  go_upto_region 2 with fail
  go_loopw [1, 5] (fun pv mv wr => ∃ (n : Nat) (p : LB) (x : LL) (m : Bool), pv = .string (bsL p) ∧ mv = .bool m ∧ Hid (p.length ≤ 1000) ∧ Hid (At wr q (cellsX x)) ∧ Hid (Bel W0 wr) ∧ Hid (m = true → p.length < n ∧ setPairsB n x p = R) ∧ Hid (m = false → R = some x)) (fun pv mv _ => msrX pv mv)
  case atStart => exact ⟨n, p, x, true, rfl, rfl, H0.out.1, HA, HB, fun _ => H0.out.2, fun h => by cases h⟩
  case round =>
    obtain ⟨n, p, x, m, rfl, rfl, HL, HA, HB, HT, HF⟩ := hrel
    cases m
    · go_wp2_with fail
      exact HS.out x (HF.out (by trivial)) _ HA.out HB.out
    · obtain ⟨hn, hR⟩ := HT.out (by trivial)
      obtain ⟨n, rfl⟩ : ∃ j, n = j + 1 := ⟨n - 1, by omega⟩
      obtain ⟨k, hk⟩ : ∃ k, (Lib.cut p hyL).1 = k := ⟨_, rfl⟩
      obtain ⟨p1, hp1⟩ : ∃ k, (Lib.cut p hyL).2.1 = k := ⟨_, rfl⟩
      obtain ⟨f1, hf1⟩ : ∃ k, (Lib.cut p hyL).2.2 = k := ⟨_, rfl⟩
      obtain ⟨v, hv⟩ : ∃ k, (Lib.cut p1 hyL).1 = k := ⟨_, rfl⟩
      obtain ⟨p2, hp2⟩ : ∃ k, (Lib.cut p1 hyL).2.1 = k := ⟨_, rfl⟩
      obtain ⟨m2, hm2⟩ : ∃ k, (Lib.cut p1 hyL).2.2 = k := ⟨_, rfl⟩
      obtain ⟨r, hr⟩ : ∃ r, setPairB x k v = r := ⟨_, rfl⟩
      have HV : Hid (stepP n p2 m2 r = R) := by
        unfold Hid
        rw [← hR, pairs_succ, hk, hp1, hv, hp2, hm2, hr]
      have HX : Hid (p1.length ≤ 1000 ∧ v.length ≤ 1000 ∧ p2.length ≤ 1000 ∧ p2.length ≤ p.length ∧ (m2 = true → p2.length + 1 ≤ p.length)) := by
        have a1 := cut_len p hyL
        have a2 := cut_len p1 hyL
        rw [hp1] at a1
        rw [hv, hp2, hm2] at a2
        have a3 := HL.out
        exact ⟨by omega, by omega, by omega, by omega, fun h => by have := a2.2.2 h; simp only [hyL, List.length_cons, List.length_nil] at this; omega⟩
      have C1 : Hid (∀ W, Bel W0 W → Calls Tryd.prog 11 #[.string (bsL p), .string ⟨#[45]⟩] W fun e w' => e = .returned (.tuple #[.string (bsL k), .string (bsL p1), .bool f1]) ∧ Bel W w') := fun W hw => by
        have := CC.out p W hw HL.out
        unfold CutRx at this
        rwa [hk, hp1, hf1] at this
      have C2 : Hid (∀ W, Bel W0 W → Calls Tryd.prog 11 #[.string (bsL p1), .string ⟨#[45]⟩] W fun e w' => e = .returned (.tuple #[.string (bsL v), .string (bsL p2), .bool m2]) ∧ Bel W w') := fun W hw => by
        have := CC.out p1 W hw HX.out.1
        unfold CutRx at this
        rwa [hv, hp2, hm2] at this
      have C3 : Hid (∀ W, At W q (cellsX x) → Bel W0 W → Calls Tryd.prog 22 #[.pointer (some ⟨q, 0, none⟩), .string (bsL k), .string (bsL v)] W (SetR W0 q x r)) := fun W h1 h2 => hr ▸ CP.out x k v W h1 h2 HX.out.2.1
      have HN1 := xhide hn
      have HSZ : Hid (msrX (.string (bsL p)) (.bool true) = p.length + 1 ∧ msrX (.string (bsL p2)) (.bool m2) ≤ if m2 then p2.length + 1 else 0) := by
        refine ⟨by show (bsL p).size + 1 = _; rw [bsL_size], ?_⟩
        cases m2
        · exact Nat.le_refl _
        · show (bsL p2).size + 1 ≤ _; rw [bsL_size]; exact Nat.le_refl _
      obtain ⟨P, hP⟩ : ∃ P, bsL p = P := ⟨_, rfl⟩
      obtain ⟨P1, hP1⟩ : ∃ P, bsL p1 = P := ⟨_, rfl⟩
      obtain ⟨K, hK⟩ : ∃ P, bsL k = P := ⟨_, rfl⟩
      obtain ⟨V, hV⟩ : ∃ P, bsL v = P := ⟨_, rfl⟩
      obtain ⟨P2, hP2⟩ : ∃ P, bsL p2 = P := ⟨_, rfl⟩
      have HP2 := xhide hP2.symm
      rw [hP, hK, hP1] at C1
      rw [hP1, hV, hP2] at C2
      rw [hK, hV] at C3
      rw [hP, hP2] at HSZ
      rw [hP]
      replace HA : At wr q (cellsX x) := HA.out
      replace HB : Bel W0 wr := HB.out
      clear hk hp1 hf1 hv hp2 hm2 hr hR hn hP hP1 hK hV hP2
      cases r with
      | none =>
        go_wp2_with (first
          | (go_at_call 11; (first | (with_reducible refine (C1.out _ HB).mono ?_) | (with_reducible refine (C2.out _ HB).mono ?_)); rintro e w1 ⟨rfl, hb⟩; (replace HA := HA.up hb.hid); (replace HB := HB.up hb.hid); clear hb)
          | (go_at_call 22; (with_reducible refine (C3.out _ HA HB).mono ?_); intro e w1 hs; obtain ⟨rfl, hs1, hs2⟩ := sr_none hs; clear hs)
          | fail)
        exact HN.out HV.out.symm _ _ hs1 hs2
      | some y =>
        go_wp2_with (first
          | (go_at_call 11; (first | (with_reducible refine (C1.out _ HB).mono ?_) | (with_reducible refine (C2.out _ HB).mono ?_)); rintro e w1 ⟨rfl, hb⟩; (replace HA := HA.up hb.hid); (replace HB := HB.up hb.hid); clear hb)
          | (go_at_call 22; (with_reducible refine (C3.out _ HA HB).mono ?_); intro e w1 hs; obtain ⟨rfl, hs1, hs2⟩ := sr_some hs; clear hs)
          | fail)
        go_round
        case rel =>
          refine ⟨n, p2, y, m2, by rw [HP2.out], rfl, HX.out.2.2.1, hs1, hs2, ?_, ?_⟩
          · intro h0
            have h1 := HV.out
            have h2 := HX.out.2.2.2.2 h0
            have h3 := HN1.out
            subst h0
            exact ⟨by omega, h1⟩
          · intro h0
            have h1 := HV.out
            subst h0
            exact h1.symm
        case measure =>
          have h1 := HSZ.out
          have h2 := HX.out.2.2.2.2
          cases m2
          · have : msrX (.string P2) (.bool false) = 0 := rfl
            omega
          · have h3 := h2 rfl
            have h4 := h1.2
            simp only [if_true] at h4
            omega
end Go.Proofs.YtogekaakpfdhdaaDoor.X
