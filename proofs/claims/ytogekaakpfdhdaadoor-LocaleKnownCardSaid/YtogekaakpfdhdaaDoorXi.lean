/- Package locale: write. Conditions: texts that fit. -/
import Derived.Test.YtogekaakpfdhdaaDoorXh
open Go.RowKit
set_option maxRecDepth 100000
namespace Go.Proofs.YtogekaakpfdhdaaDoor.X
/-- A locale whose fields are short, and whose rg is of ASCII's letters. -/
structure SL (x : LL) : Prop where
  l : x.lang.length ≤ 1000
  r : x.reg.length ≤ 1000
  g : x.rg.length ≤ 300
  s : x.ms.length ≤ 1000
  m : x.mu.length ≤ 1000
  a : ∀ b ∈ x.rg, b.toNat < 128
theorem xlow_len (l : LB) : (Lib.toLowerA l).length = l.length := by unfold Lib.toLowerA; simp
theorem xpair_len (k v : LB) : (pairL k v).length = 2 + k.length + v.length := by unfold pairL; simp [hyL]; omega
/-- What is gathered, step by step: the pairs' text behind each key. -/
def acc1 (b : Bool) (x : LL) : LB := if b then [] else pairL rgK (Lib.toLowerA x.rg ++ zzL)
def acc2 (b : Bool) (t : LB) (x : LL) : LB := if b then t else t ++ pairL msK x.ms
def acc3 (b : Bool) (t : LB) (x : LL) : LB := if b then t else t ++ pairL muK x.mu
set_option maxHeartbeats 4000000 in
theorem write_h {x : LL} {w : World} (hx : SL x) : Calls Tryd.prog 15 #[locV x] w (StrX w (bsL (writeL x))) := by
  obtain ⟨hl, hr, hg, hs, hm, ha⟩ := hx
  obtain ⟨b1, hb1⟩ : ∃ b, decide (x.reg = []) = b := ⟨_, rfl⟩
  obtain ⟨b2, hb2⟩ : ∃ b, decide (x.rg = []) = b := ⟨_, rfl⟩
  obtain ⟨b3, hb3⟩ : ∃ b, decide (x.ms = []) = b := ⟨_, rfl⟩
  obtain ⟨b4, hb4⟩ : ∃ b, decide (x.mu = []) = b := ⟨_, rfl⟩
  obtain ⟨hd, hhd⟩ : ∃ t : LB, t = if b1 then x.lang else x.lang ++ (hyL ++ x.reg) := ⟨_, rfl⟩
  obtain ⟨t1, ht1⟩ : ∃ t : LB, t = acc1 b2 x := ⟨_, rfl⟩
  obtain ⟨t2, ht2⟩ : ∃ t : LB, t = acc2 b3 t1 x := ⟨_, rfl⟩
  obtain ⟨t3, ht3⟩ : ∃ t : LB, t = acc3 b4 t2 x := ⟨_, rfl⟩
  obtain ⟨b5, hb5⟩ : ∃ b, decide (t3 = []) = b := ⟨_, rfl⟩
  have l1 : t1.length ≤ 400 := by
    rw [ht1]; unfold acc1
    split
    · simp
    · rw [xpair_len, List.length_append, xlow_len]; simp [rgK, zzL]; omega
  have l2 : t2.length ≤ 1500 := by
    rw [ht2]; unfold acc2
    split
    · omega
    · rw [List.length_append, xpair_len]; simp [msK]; omega
  have l3 : t3.length ≤ 2600 := by
    rw [ht3]; unfold acc3
    split
    · omega
    · rw [List.length_append, xpair_len]; simp [muK]; omega
  have l4 : hd.length ≤ 2001 := by
    rw [hhd]
    split
    · omega
    · rw [List.length_append, List.length_append]; simp [hyL]; omega
  have HV : Hid (writeL x = if b5 then hd else hd ++ ([45, 117] ++ t3)) := by
    have e1 : headP x = hd := by
      rw [hhd, ← hb1]; unfold headP
      by_cases h : x.reg = []
      · rw [if_pos h, decide_eq_true h]; rfl
      · rw [if_neg h, decide_eq_false h]; rfl
    have e2 : pairsP x = t3 := by
      rw [ht3, ht2, ht1, ← hb2, ← hb3, ← hb4]
      unfold pairsP rgP msP muP acc3 acc2 acc1
      by_cases h1 : x.rg = [] <;> by_cases h2 : x.ms = [] <;> by_cases h3 : x.mu = [] <;> simp [h1, h2, h3]
    unfold Hid writeL
    rw [e1, e2, ← hb5]
    by_cases h : t3 = []
    · rw [if_pos h, decide_eq_true h]; rfl
    · rw [if_neg h, decide_eq_false h]; rfl
  have e1 := xemp x.reg
  have e2 := xemp x.rg
  have e3 := xemp x.ms
  have e4 := xemp x.mu
  have e5 := xemp t3
  have f1 := xemp' x.reg
  have f2 := xemp' x.rg
  have f3 := xemp' x.ms
  have f4 := xemp' x.mu
  have f5 := xemp' t3
  rw [hb1] at e1 f1
  rw [hb2] at e2 f2
  rw [hb3] at e3 f3
  rw [hb4] at e4 f4
  rw [hb5] at e5 f5
  have q1 : ∀ W : World, (Op.stringOp .add ⟨#[45]⟩ (bsL x.reg)).run Tryd.prog W = .ok (.string (bsL (hyL ++ x.reg))) W := xcat (a := hyL) (by simp [hyL]; omega)
  have q2 : ∀ W : World, (Op.stringOp .add (bsL x.lang) (bsL (hyL ++ x.reg))).run Tryd.prog W = .ok (.string (bsL (x.lang ++ (hyL ++ x.reg)))) W := xcat (by simp [hyL]; omega)
  have q3 : ∀ W : World, (Op.stringOp .add (bsL (Lib.toLowerA x.rg)) ⟨#[122, 122, 122, 122]⟩).run Tryd.prog W = .ok (.string (bsL (Lib.toLowerA x.rg ++ zzL))) W := xcat (b := zzL) (by rw [xlow_len]; simp [zzL]; omega)
  have q4 : ∀ W : World, (Op.stringOp .add ⟨#[]⟩ (bsL (pairL rgK (Lib.toLowerA x.rg ++ zzL)))).run Tryd.prog W = .ok (.string (bsL (pairL rgK (Lib.toLowerA x.rg ++ zzL)))) W := xcat (a := []) (by rw [xpair_len, List.length_append, xlow_len]; simp [rgK, zzL]; omega)
  have q5 : ∀ W : World, (Op.stringOp .add (bsL t1) (bsL (pairL msK x.ms))).run Tryd.prog W = .ok (.string (bsL (t1 ++ pairL msK x.ms))) W := xcat (by rw [xpair_len]; simp [msK]; omega)
  have q6 : ∀ W : World, (Op.stringOp .add (bsL t2) (bsL (pairL muK x.mu))).run Tryd.prog W = .ok (.string (bsL (t2 ++ pairL muK x.mu))) W := xcat (by rw [xpair_len]; simp [muK]; omega)
  have q7 : ∀ W : World, (Op.stringOp .add ⟨#[45, 117]⟩ (bsL t3)).run Tryd.prog W = .ok (.string (bsL ([45, 117] ++ t3))) W := xcat (a := [45, 117]) (by simp; omega)
  have q8 : ∀ W : World, (Op.stringOp .add (bsL hd) (bsL ([45, 117] ++ t3))).run Tryd.prog W = .ok (.string (bsL (hd ++ ([45, 117] ++ t3)))) W := xcat (by simp; omega)
  have CL : Hid (∀ W : World, Calls Tryd.prog 24 #[.string (bsL x.rg)] W (StrX W (bsL (Lib.toLowerA x.rg)))) := fun W =>
    Tryd.strings_ToLower_ascii (bsL x.rg) W (by rw [bsL_size]; omega) (fun j b hj => ha b (List.mem_of_getElem? hj))
  have C1 : Hid (∀ W : World, Calls Tryd.prog 23 #[.string ⟨#[114, 103]⟩, .string (bsL (Lib.toLowerA x.rg ++ zzL))] W fun e w' => e = .returned (.string (bsL (pairL rgK (Lib.toLowerA x.rg ++ zzL)))) ∧ W = w') := fun W => pair_h (k := rgK) (by decide) (by rw [List.length_append, xlow_len]; simp [zzL]; omega) W
  have C2 : Hid (∀ W : World, Calls Tryd.prog 23 #[.string ⟨#[109, 115]⟩, .string (bsL x.ms)] W fun e w' => e = .returned (.string (bsL (pairL msK x.ms))) ∧ W = w') := fun W => pair_h (k := msK) (by decide) hs W
  have C3 : Hid (∀ W : World, Calls Tryd.prog 23 #[.string ⟨#[109, 117]⟩, .string (bsL x.mu)] W fun e w' => e = .returned (.string (bsL (pairL muK x.mu))) ∧ W = w') := fun W => pair_h (k := muK) (by decide) hm W
  obtain ⟨Q, hQ⟩ : ∃ Q, StrX w (bsL (writeL x)) = Q := ⟨_, rfl⟩
  have HE1 : Hid (b5 = true → ∀ w', Bel w w' → Q (.returned (.string (bsL hd))) w') := fun h0 w' h => by
    rw [← hQ]; unfold StrX; rw [HV.out, if_pos h0]; exact ⟨rfl, h⟩
  have HE2 : Hid (b5 = false → ∀ w', Bel w w' → Q (.returned (.string (bsL (hd ++ ([45, 117] ++ t3))))) w') := fun h0 w' h => by
    rw [← hQ]; unfold StrX; rw [HV.out, if_neg (by rw [h0]; decide)]; exact ⟨rfl, h⟩
  rw [hQ]
  have HHD : Hid (bsL hd = if b1 then bsL x.lang else bsL (x.lang ++ (hyL ++ x.reg))) := by unfold Hid; rw [hhd]; split <;> rfl
  have HT1 : Hid (bsL t1 = if b2 then ⟨#[]⟩ else bsL (pairL rgK (Lib.toLowerA x.rg ++ zzL))) := by unfold Hid; rw [ht1]; unfold acc1; split <;> rfl
  have HT2 : Hid (bsL t2 = if b3 then bsL t1 else bsL (t1 ++ pairL msK x.ms)) := by unfold Hid; rw [ht2]; unfold acc2; split <;> rfl
  have HT3 : Hid (bsL t3 = if b4 then bsL t2 else bsL (t2 ++ pairL muK x.mu)) := by unfold Hid; rw [ht3]; unfold acc3; split <;> rfl
  unfold locV
  have HB := Bel.refl w
  clear hb1 hb2 hb3 hb4 hb5 hhd ht1 ht2 ht3 l1 l2 l3 l4 hQ HV hl hr hg hs hm ha
  generalize bsL x.lang = L at *
  generalize bsL x.reg = R at *
  generalize bsL x.rg = G at *
  generalize bsL x.ms = S at *
  generalize bsL x.mu = M at *
  generalize bsL (hyL ++ x.reg) = HR at *
  generalize bsL (x.lang ++ (hyL ++ x.reg)) = LR at *
  generalize bsL hd = HD at *
  generalize bsL (Lib.toLowerA x.rg) = LO at *
  generalize bsL (Lib.toLowerA x.rg ++ zzL) = LZ at *
  generalize bsL (pairL rgK (Lib.toLowerA x.rg ++ zzL)) = P1 at *
  generalize bsL (pairL msK x.ms) = P2 at *
  generalize bsL (pairL muK x.mu) = P3 at *
  generalize bsL t1 = T1 at *
  generalize bsL t2 = T2 at *
  generalize bsL t3 = T3 at *
  generalize bsL (t1 ++ pairL msK x.ms) = A2 at *
  generalize bsL (t2 ++ pairL muK x.mu) = A3 at *
  generalize bsL ([45, 117] ++ t3) = UT at *
  generalize bsL (hd ++ ([45, 117] ++ t3)) = FN at *
  obtain ⟨W1, hW1⟩ : ∃ X, X = w.alloc (.cells #[.string L, .string R, .string G, .string S, .string M] 25) := ⟨_, rfl⟩
  have HA : At W1 w.heap.size [.string L, .string R, .string G, .string S, .string M] := by rw [hW1]; exact at_new0 _ _ _
  replace HB : Bel w W1 := by rw [hW1]; exact HB.al _
  have HW := xhide hW1
  clear hW1
  cases b1 <;> cases b2 <;> cases b3 <;> cases b4 <;> cases b5
  all_goals
    have k_ := HHD.out; simp only [if_true, if_false, Bool.false_eq_true] at k_; subst k_
    have k_ := HT1.out; simp only [if_true, if_false, Bool.false_eq_true] at k_; subst k_
    have k_ := HT2.out; simp only [if_true, if_false, Bool.false_eq_true] at k_; subst k_
    have k_ := HT3.out; simp only [if_true, if_false, Bool.false_eq_true] at k_; subst k_
    first
      | (exact absurd e5 (by rw [Lib.toList_data]; decide))
      | (clear HHD HT1 HT2 HT3
         go_enter Tryd.func15, Tryd.ntmps15
         go_upto_region 1 with fail
         rw [← HW.out]
         obtain ⟨q, hq⟩ : ∃ p, p = w.heap.size := ⟨_, rfl⟩
         rw [← hq] at HA ⊢
         clear HW hq
         have a_0 := HA.c0; have a_1 := HA.c1; have a_2 := HA.c2; have a_3 := xc3 HA; have a_4 := xc4 HA; have a_l := HA.lt
         go_wp2_with (first
           | (go_at_call 23; (first | (with_reducible refine (C1.out _).mono ?_) | (with_reducible refine (C2.out _).mono ?_) | (with_reducible refine (C3.out _).mono ?_)); rintro e w1 ⟨rfl, rfl⟩)
           | (go_at_call 24; (with_reducible refine (CL.out _).mono ?_); rintro e w1 ⟨rfl, hb⟩; (replace HB := HB.up hb.hid); (replace HA := HA.up hb.hid); clear hb a_0 a_1 a_2 a_3 a_4 a_l; have a_0 := HA.c0; have a_1 := HA.c1; have a_2 := HA.c2; have a_3 := xc3 HA; have a_4 := xc4 HA; have a_l := HA.lt)
           | fail)
         first
           | exact HE1.out (by trivial) _ HB
           | exact HE2.out (by trivial) _ HB)
end Go.Proofs.YtogekaakpfdhdaaDoor.X
