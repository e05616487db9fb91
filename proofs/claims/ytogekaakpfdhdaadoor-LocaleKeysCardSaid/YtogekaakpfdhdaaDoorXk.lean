/- Package locale: Show, Place; closed texts. Conditions: texts that fit. -/
import Derived.Test.YtogekaakpfdhdaaDoorXj
open Go.RowKit
set_option maxRecDepth 100000
namespace Go.Proofs.YtogekaakpfdhdaaDoor.X
set_option maxHeartbeats 4000000 in
theorem show_h {x : LL} {w : World} (hm : Mx w) (hx : SL x) (hs : (writeL x).length ≤ 900) : Calls Tryd.prog 8 #[locV x] w (StrX w (bsL (showLB x))) := by
  have CW : Hid (∀ W, Calls Tryd.prog 15 #[locV x] W (StrX W (bsL (writeL x)))) := fun W => write_h hx
  obtain ⟨b, hb⟩ : ∃ b, tellsB (writeL x) x = b := ⟨_, rfl⟩
  have CT : Hid (∀ W, Bel w W → Calls Tryd.prog 16 #[.string (bsL (writeL x)), locV x] W (RetB W b)) := fun W hw => hb ▸ tells_h (hm.bel hw) hs
  obtain ⟨Q, hQ⟩ : ∃ Q, StrX w (bsL (showLB x)) = Q := ⟨_, rfl⟩
  have HT : Hid (b = true → ∀ w', Bel w w' → Q (.returned (.string (bsL (writeL x)))) w') := fun h w' hw => by
    rw [← hQ]; unfold StrX showLB; rw [if_pos (hb.trans h)]; exact ⟨rfl, hw⟩
  have HF : Hid (b = false → ∀ w', Bel w w' → Q (.returned (.string ⟨#[]⟩)) w') := fun h w' hw => by
    rw [← hQ]; unfold StrX showLB; rw [if_neg (by rw [hb, h]; decide)]; exact ⟨rfl, hw⟩
  rw [hQ]
  obtain ⟨T, hT⟩ : ∃ b, bsL (writeL x) = b := ⟨_, rfl⟩
  rw [hT] at CW CT HT
  clear hb hT hm hx hs hQ
  unfold locV at CW CT ⊢
  obtain ⟨L, R, G, M, U, e0, e1, e2, e3, e4⟩ := parts_of2 x
  rw [← e0, ← e1, ← e2, ← e3, ← e4] at CW CT ⊢
  clear e0 e1 e2 e3 e4
  obtain ⟨W1, hW1⟩ : ∃ X, X = w.alloc (.cells #[.string L, .string R, .string G, .string M, .string U] 25) := ⟨_, rfl⟩
  have HA : At W1 w.heap.size [.string L, .string R, .string G, .string M, .string U] := by rw [hW1]; exact at_new0 _ _ _
  have HB : Bel w W1 := by rw [hW1]; exact (Bel.refl w).al _
  have HW := xhide hW1
  clear hW1
  cases b <;>
  · go_enter Tryd.func8, Tryd.ntmps8
    go_upto_region 1 with fail
    rw [← HW.out]
    obtain ⟨q, hq⟩ : ∃ p, p = w.heap.size := ⟨_, rfl⟩
    rw [← hq] at HA ⊢
    clear HW hq
    have a_0 := HA.c0; have a_1 := HA.c1; have a_2 := HA.c2; have a_3 := xc3 HA; have a_4 := xc4 HA; have a_l := HA.lt
    go_wp2_with (first
      | (go_at_call 15; (with_reducible refine (CW.out _).mono ?_); rintro e w1 ⟨rfl, hb⟩; (replace HB := HB.up hb.hid); (replace HA := HA.up hb.hid); clear hb a_0 a_1 a_2 a_3 a_4 a_l; have a_0 := HA.c0; have a_1 := HA.c1; have a_2 := HA.c2; have a_3 := xc3 HA; have a_4 := xc4 HA; have a_l := HA.lt)
      | (go_at_call 16; (with_reducible refine (CT.out _ HB).mono ?_); rintro e w1 ⟨rfl, hb⟩; (replace HB := HB.up hb.hid); clear hb)
      | fail)
    first
      | exact HT.out (by trivial) _ HB
      | exact HF.out (by trivial) _ HB
theorem place_h {x : LL} (w : World) : Calls Tryd.prog 9 #[locV x] w (StrX w (bsL (placeB x))) := by
  have e1 := xeq x.ms metL
  have e2 := xeq x.ms usL
  have e3 := xeq x.ms ukL
  have e4 := xemp x.rg
  have e5 := xemp' x.rg
  obtain ⟨b1, hb1⟩ : ∃ b, decide (x.ms = metL) = b := ⟨_, rfl⟩
  obtain ⟨b2, hb2⟩ : ∃ b, decide (x.ms = usL) = b := ⟨_, rfl⟩
  obtain ⟨b3, hb3⟩ : ∃ b, decide (x.ms = ukL) = b := ⟨_, rfl⟩
  obtain ⟨b4, hb4⟩ : ∃ b, decide (x.rg = []) = b := ⟨_, rfl⟩
  have HV : Hid (bsL (placeB x) = if b1 then ⟨#[48, 48, 49]⟩ else if b2 then ⟨#[85, 83]⟩ else if b3 then ⟨#[71, 66]⟩ else if b4 then bsL x.reg else bsL x.rg) := by
    unfold Hid placeB
    rw [← hb1, ← hb2, ← hb3, ← hb4]
    by_cases h1 : x.ms = metL
    · rw [if_pos h1, decide_eq_true h1]; rfl
    · rw [if_neg h1, decide_eq_false h1]
      by_cases h2 : x.ms = usL
      · rw [if_pos h2, decide_eq_true h2]; rfl
      · rw [if_neg h2, decide_eq_false h2]
        by_cases h3 : x.ms = ukL
        · rw [if_pos h3, decide_eq_true h3]; rfl
        · rw [if_neg h3, decide_eq_false h3]
          by_cases h4 : x.rg = []
          · rw [if_neg (by rw [h4]; simp), decide_eq_true h4]; rfl
          · rw [if_pos h4, decide_eq_false h4]; rfl
  obtain ⟨Q, hQ⟩ : ∃ Q, StrX w (bsL (placeB x)) = Q := ⟨_, rfl⟩
  have HQ : Hid (∀ t, bsL (placeB x) = t → ∀ w', Bel w w' → Q (.returned (.string t)) w') := fun t ht w' hw => by
    rw [← hQ, ← ht]; exact ⟨rfl, hw⟩
  rw [hQ]
  rw [hb1] at e1; rw [hb2] at e2; rw [hb3] at e3; rw [hb4] at e4 e5
  obtain ⟨P, hP⟩ : ∃ P, bsL (placeB x) = P := ⟨_, rfl⟩
  rw [hP] at HV HQ
  unfold locV
  obtain ⟨L, R, G, M, U, f0, f1, f2, f3, f4⟩ := parts_of2 x
  rw [← f1, ← f2] at HV
  rw [← f3] at e1 e2 e3
  rw [← f2] at e4 e5
  rw [← f0, ← f1, ← f2, ← f3, ← f4]
  have g1 : (M.toList == [109, 101, 116, 114, 105, 99]) = b1 := e1
  have g2 : (M.toList == [117, 115, 115, 121, 115, 116, 101, 109]) = b2 := e2
  have g3 : (M.toList == [117, 107, 115, 121, 115, 116, 101, 109]) = b3 := e3
  clear f0 f1 f2 f3 f4 hb1 hb2 hb3 hb4 hQ hP e1 e2 e3
  cases b1 <;> cases b2 <;> cases b3 <;> cases b4 <;>
  · have HP := xhide (HQ.out _ HV.out)
    simp only [if_true, if_false, Bool.false_eq_true] at HP
    clear HV HQ
    go_enter Tryd.func9, Tryd.ntmps9
    go_wp2_with fail
    exact HP.out _ ((Bel.refl w).al _)
def eqO : Option LL → Option LL → Bool
  | none, none => true
  | some x, some y => eqX x y
  | _, _ => false
theorem eqX_eq {x y : LL} (h : eqX x y = true) : x = y := by
  unfold eqX at h
  simp only [decide_eq_true_eq] at h
  obtain ⟨h1, h2, h3, h4, h5⟩ := h
  cases x; cases y; simp_all
theorem eqO_eq {a b : Option LL} (h : eqO a b = true) : a = b := by
  cases a <;> cases b <;> simp_all [eqO]
  exact eqX_eq h
theorem parse_is {s : LB} {r : Option LL} {w : World} (hm : Mx w) (hs : s.length ≤ 900) (h : eqO (parseL s) r = true) : Calls Tryd.prog 7 #[.string (bsL s)] w (ParseX w r) := eqO_eq h ▸ parse_h hm hs
theorem show_is {x : LL} {t : LB} {w : World} (hm : Mx w) (hx : SL x) (hs : (writeL x).length ≤ 900) (h : showLB x = t) : Calls Tryd.prog 8 #[locV x] w (StrX w (bsL t)) := h ▸ show_h hm hx hs
theorem good_is {x : LL} {b : Bool} {w : World} (hm : Mx w) (hx : SL x) (hs : (writeL x).length ≤ 900) (h : goodLB x = b) : Calls Tryd.prog 10 #[locV x] w (RetB w b) := h ▸ good_h hm hx hs
theorem place_is {x : LL} {t : LB} (w : World) (h : placeB x = t) : Calls Tryd.prog 9 #[locV x] w (StrX w (bsL t)) := h ▸ place_h w
def slB (x : LL) : Bool := decide (x.lang.length ≤ 1000) && (decide (x.reg.length ≤ 1000) && (decide (x.rg.length ≤ 300) && (decide (x.ms.length ≤ 1000) && (decide (x.mu.length ≤ 1000) && x.rg.all (fun b => decide (b.toNat < 128))))))
theorem slB_sl {x : LL} (h : slB x = true) : SL x := by
  unfold slB at h
  simp only [Bool.and_eq_true, decide_eq_true_eq, List.all_eq_true] at h
  exact ⟨h.1, h.2.1, h.2.2.1, h.2.2.2.1, h.2.2.2.2.1, h.2.2.2.2.2⟩
end Go.Proofs.YtogekaakpfdhdaaDoor.X
