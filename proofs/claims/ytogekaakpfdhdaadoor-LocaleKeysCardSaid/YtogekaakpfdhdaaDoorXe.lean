/- Package locale: setOnce, setPair. Conditions: texts that fit. -/
import Derived.Test.YtogekaakpfdhdaaDoorXd
import Derived.Deep.CutRange
import Derived.BigQuiet
open Go.RowKit
set_option maxRecDepth 100000
namespace Go.Proofs.YtogekaakpfdhdaaDoor.X
section
variable {W W' : World} {p : Nat} {u v x y z : Value} {vs : List Value}
theorem xc3 (h : At W p (x :: y :: u :: v :: vs)) : W.cell? ⟨p, 3, none⟩ = some v := (h.all 3 v rfl).1
theorem xc4 (h : At W p (z :: x :: y :: u :: v :: vs)) : W.cell? ⟨p, 4, none⟩ = some v := (h.all 4 v rfl).1
theorem xf3 (h : At W p (x :: y :: u :: v :: vs)) : W.frozen? ⟨p, 3, none⟩ = false := (h.all 3 v rfl).2
theorem xf4 (h : At W p (z :: x :: y :: u :: v :: vs)) : W.frozen? ⟨p, 4, none⟩ = false := (h.all 4 v rfl).2
end
/-- The cells of a locale. -/
def cellsX (x : LL) : List Value := [.string (bsL x.lang), .string (bsL x.reg), .string (bsL x.rg), .string (bsL x.ms), .string (bsL x.mu)]
theorem xlist (l : LB) : (bsL l).toList = l := by rw [Lib.toList_data]; rfl
theorem xne (l : LB) : (!((bsL l).toList == [])) = !decide (l = []) := by
  rw [xlist]
  by_cases h : l = []
  · subst h; rfl
  · rw [decide_eq_false h, beq_eq_false_iff_ne.2 h]
theorem xemp (l : LB) : ((bsL l).toList == []) = decide (l = []) := by
  rw [xlist]
  by_cases h : l = []
  · subst h; rfl
  · rw [decide_eq_false h, beq_eq_false_iff_ne.2 h]
theorem xemp' (l : LB) : (bsL l).toList.isEmpty = decide (l = []) := by
  rw [xlist]
  cases l <;> simp
/-- A field that is set once: what the call hands back and leaves. -/
def onceW (W : World) (q i : Nat) (l v : LB) : World := if l = [] then W.setCell ⟨q, i, none⟩ (.string (bsL v)) else W
def OnceR (W : World) (q i : Nat) (l v : LB) (e : Ending) (w' : World) : Prop := e = .returned (.bool (decide (l = []))) ∧ w' = onceW W q i l v
theorem once_h {q i : Nat} {l v : LB} {W : World} (hc : W.cell? ⟨q, i, none⟩ = some (.string (bsL l))) (hf : W.frozen? ⟨q, i, none⟩ = false) :
    Calls Tryd.prog 28 #[.pointer (some ⟨q, i, none⟩), .string (bsL v)] W (OnceR W q i l v) := by
  obtain ⟨V, hV⟩ : ∃ V, bsL v = V := ⟨_, rfl⟩
  obtain ⟨Q, hQ⟩ : ∃ Q, OnceR W q i l v = Q := ⟨_, rfl⟩
  rw [hQ]
  by_cases h : l = []
  · have d1 : (bsL l).toList.isEmpty = true := by rw [xemp', decide_eq_true h]
    have d2 : ((bsL l).toList == []) = true := by rw [xemp, decide_eq_true h]
    have HV : Hid (Q (.returned (.bool true)) (W.setCell ⟨q, i, none⟩ (.string V))) := by
      unfold Hid; rw [← hQ, ← hV]; exact ⟨by rw [decide_eq_true h], (if_pos h).symm⟩
    obtain ⟨s, hs⟩ : ∃ s, bsL l = s := ⟨_, rfl⟩
    rw [hs] at hc d1 d2
    rw [hV]
    clear h hs hQ hV
    go_enter Tryd.func28, Tryd.ntmps28
    go_wp2_with fail
    exact HV.out
  · have d1 : (bsL l).toList.isEmpty = false := by rw [xemp', decide_eq_false h]
    have d2 : ((bsL l).toList == []) = false := by rw [xemp, decide_eq_false h]
    have HV : Hid (Q (.returned (.bool false)) W) := by
      unfold Hid; rw [← hQ]; exact ⟨by rw [decide_eq_false h], (if_neg h).symm⟩
    obtain ⟨s, hs⟩ : ∃ s, bsL l = s := ⟨_, rfl⟩
    rw [hs] at hc d1 d2
    rw [hV]
    clear h hs hQ hV
    go_enter Tryd.func28, Tryd.ntmps28
    go_wp2_with fail
    exact HV.out
/-- What setPair hands back and leaves: the box that holds the locale. -/
def SetR (W0 : World) (q : Nat) (x : LL) (r : Option LL) (e : Ending) (w' : World) : Prop := e = .returned (.bool r.isSome) ∧ At w' q (cellsX (r.getD x)) ∧ Bel W0 w'
theorem SetR.mk {W0 w' : World} {q : Nat} {x : LL} {r : Option LL} {b : Bool} (h : b = r.isSome) (h1 : At w' q (cellsX (r.getD x))) (h2 : Bel W0 w') : SetR W0 q x r (.returned (.bool b)) w' := by subst h; exact ⟨rfl, h1, h2⟩
theorem xsuf_len (v : LB) : (Lib.trimSuffix v zzL).length ≤ v.length := by unfold Lib.trimSuffix; split <;> simp
theorem once_at {W : World} {q i : Nat} {l v : LB} {vs : List Value} (h : At W q vs) (hi : vs[i]? = some (.string (bsL l))) : At (onceW W q i l v) q (if l = [] then vs.set i (.string (bsL v)) else vs) := by
  unfold onceW
  split
  · exact h.put (List.getElem?_eq_some_iff.1 hi).1 _
  · exact h
theorem once_bel {W0 W : World} {q i : Nat} {l v : LB} (h : Bel W0 W) (hq : W0.heap.size ≤ q) : Bel W0 (onceW W q i l v) := by
  unfold onceW
  split
  · exact Below.setCell h hq _
  · exact h
set_option maxHeartbeats 4000000 in
theorem pair_ms {q : Nat} {x : LL} {v : LB} {W0 W : World} (h : At W q (cellsX x)) (hb : Bel W0 W) (hq : W0.heap.size ≤ q) :
    Calls Tryd.prog 22 #[.pointer (some ⟨q, 0, none⟩), .string (bsL msK), .string (bsL v)] W (SetR W0 q x (setMs x v)) := by
  obtain ⟨a, ha⟩ : ∃ a, isSysB v = a := ⟨_, rfl⟩
  have CS : Hid (∀ W : World, Calls Tryd.prog 30 #[.string (bsL v)] W fun e w' => e = .returned (.bool a) ∧ W = w') := fun W => ha ▸ isSys_h v W
  have CO : Hid (Calls Tryd.prog 28 #[.pointer (some ⟨q, 3, none⟩), .string (bsL v)] W (OnceR W q 3 x.ms v)) := once_h (xc3 h) (xf3 h)
  obtain ⟨Q, hQ⟩ : ∃ Q, SetR W0 q x (setMs x v) = Q := ⟨_, rfl⟩
  have HO : Hid (a = true → Q (.returned (.bool (decide (x.ms = [])))) (onceW W q 3 x.ms v)) := fun h1 => by
    rw [← hQ]
    have h2 := once_at (v := v) h (i := 3) (l := x.ms) rfl
    have h3 := once_bel (i := 3) (l := x.ms) (v := v) hb hq
    by_cases h0 : x.ms = []
    · have e : setMs x v = some ⟨x.lang, x.reg, x.rg, v, x.mu⟩ := if_pos ⟨ha.trans h1, h0⟩
      rw [if_pos h0] at h2
      rw [e]
      exact SetR.mk (by rw [decide_eq_true h0]; rfl) h2 h3
    · have e : setMs x v = none := if_neg (fun hh => h0 hh.2)
      rw [if_neg h0] at h2
      rw [e]
      exact SetR.mk (by rw [decide_eq_false h0]; rfl) h2 h3
  have HN : Hid (a = false → Q (.returned (.bool false)) W) := fun h1 => by
    rw [← hQ]
    have e : setMs x v = none := if_neg (fun hh => by rw [ha, h1] at hh; cases hh.1)
    rw [e]
    exact SetR.mk rfl h hb
  rw [hQ]
  obtain ⟨V, hV⟩ : ∃ V, bsL v = V := ⟨_, rfl⟩
  rw [hV] at CS CO ⊢
  obtain ⟨o, ho⟩ : ∃ o, decide (x.ms = []) = o := ⟨_, rfl⟩
  rw [ho] at HO
  unfold OnceR at CO
  rw [ho] at CO
  have e1 : bsL msK = ⟨#[109, 115]⟩ := rfl
  rw [e1]
  clear ha hQ hV ho h hb e1
  cases a
  · go_enter Tryd.func22, Tryd.ntmps22
    go_wp2_with (first | (go_at_call 30; (with_reducible refine (CS.out _).mono ?_); rintro e w1 ⟨rfl, rfl⟩) | fail)
    exact HN.out (by trivial)
  · go_enter Tryd.func22, Tryd.ntmps22
    go_wp2_with (first
      | (go_at_call 30; (with_reducible refine (CS.out _).mono ?_); rintro e w1 ⟨rfl, rfl⟩)
      | (go_at_call 28; (with_reducible refine CO.out.mono ?_); rintro e w1 ⟨rfl, rfl⟩) | fail)
    exact HO.out (by trivial)
set_option maxHeartbeats 4000000 in
theorem pair_mu {q : Nat} {x : LL} {v : LB} {W0 W : World} (h : At W q (cellsX x)) (hb : Bel W0 W) (hq : W0.heap.size ≤ q) :
    Calls Tryd.prog 22 #[.pointer (some ⟨q, 0, none⟩), .string (bsL muK), .string (bsL v)] W (SetR W0 q x (setMu x v)) := by
  obtain ⟨a, ha⟩ : ∃ a, isUniB v = a := ⟨_, rfl⟩
  have CS : Hid (∀ W : World, Calls Tryd.prog 31 #[.string (bsL v)] W fun e w' => e = .returned (.bool a) ∧ W = w') := fun W => ha ▸ isUni_h v W
  have CO : Hid (Calls Tryd.prog 28 #[.pointer (some ⟨q, 4, none⟩), .string (bsL v)] W (OnceR W q 4 x.mu v)) := once_h (xc4 h) (xf4 h)
  obtain ⟨Q, hQ⟩ : ∃ Q, SetR W0 q x (setMu x v) = Q := ⟨_, rfl⟩
  have HO : Hid (a = true → Q (.returned (.bool (decide (x.mu = [])))) (onceW W q 4 x.mu v)) := fun h1 => by
    rw [← hQ]
    have h2 := once_at (v := v) h (i := 4) (l := x.mu) rfl
    have h3 := once_bel (i := 4) (l := x.mu) (v := v) hb hq
    by_cases h0 : x.mu = []
    · have e : setMu x v = some ⟨x.lang, x.reg, x.rg, x.ms, v⟩ := if_pos ⟨ha.trans h1, h0⟩
      rw [if_pos h0] at h2
      rw [e]
      exact SetR.mk (by rw [decide_eq_true h0]; rfl) h2 h3
    · have e : setMu x v = none := if_neg (fun hh => h0 hh.2)
      rw [if_neg h0] at h2
      rw [e]
      exact SetR.mk (by rw [decide_eq_false h0]; rfl) h2 h3
  have HN : Hid (a = false → Q (.returned (.bool false)) W) := fun h1 => by
    rw [← hQ]
    have e : setMu x v = none := if_neg (fun hh => by rw [ha, h1] at hh; cases hh.1)
    rw [e]
    exact SetR.mk rfl h hb
  rw [hQ]
  obtain ⟨V, hV⟩ : ∃ V, bsL v = V := ⟨_, rfl⟩
  rw [hV] at CS CO ⊢
  obtain ⟨o, ho⟩ : ∃ o, decide (x.mu = []) = o := ⟨_, rfl⟩
  rw [ho] at HO
  unfold OnceR at CO
  rw [ho] at CO
  have e1 : bsL muK = ⟨#[109, 117]⟩ := rfl
  rw [e1]
  clear ha hQ hV ho h hb e1
  cases a
  · go_enter Tryd.func22, Tryd.ntmps22
    go_wp2_with (first | (go_at_call 31; (with_reducible refine (CS.out _).mono ?_); rintro e w1 ⟨rfl, rfl⟩) | fail)
    exact HN.out (by trivial)
  · go_enter Tryd.func22, Tryd.ntmps22
    go_wp2_with (first
      | (go_at_call 31; (with_reducible refine (CS.out _).mono ?_); rintro e w1 ⟨rfl, rfl⟩)
      | (go_at_call 28; (with_reducible refine CO.out.mono ?_); rintro e w1 ⟨rfl, rfl⟩) | fail)
    exact HO.out (by trivial)
theorem low_ascii {l : LB} (h : isLowB l = true) : ∀ (j : Nat) (b : UInt8), l[j]? = some b → b.toNat < 128 := by
  intro j b hj
  have hb := List.mem_of_getElem? hj
  unfold isLowB consN at h
  simp only [Bool.or_eq_true, Bool.and_eq_true, decide_eq_true_eq, List.all_eq_true] at h
  rcases h with h | h
  · have := h.2 b hb
    simp only [isLo, Bool.and_eq_true, decide_eq_true_eq, UInt8.le_iff_toNat_le] at this
    have h9 : (122 : UInt8).toNat = 122 := rfl
    omega
  · have := h.2 b hb
    simp only [isDg, Bool.and_eq_true, decide_eq_true_eq, UInt8.le_iff_toNat_le] at this
    have h9 : (57 : UInt8).toNat = 57 := rfl
    omega
def SufR (W : World) (t : ByteArray) (b : Bool) (e : Ending) (w' : World) : Prop := e = .returned (.tuple #[.string t, .bool b]) ∧ w' = W
def StrX (W : World) (t : ByteArray) (e : Ending) (w' : World) : Prop := e = .returned (.string t) ∧ Bel W w'
set_option maxHeartbeats 4000000 in
theorem pair_rg {q : Nat} {x : LL} {v : LB} {W0 W : World} (h : At W q (cellsX x)) (hb : Bel W0 W) (hq : W0.heap.size ≤ q) (hv : v.length ≤ 1000) :
    Calls Tryd.prog 22 #[.pointer (some ⟨q, 0, none⟩), .string (bsL rgK), .string (bsL v)] W (SetR W0 q x (setRg x v)) := by
  obtain ⟨a, ha⟩ : ∃ a, Lib.hasSuffix v zzL = a := ⟨_, rfl⟩
  obtain ⟨t, ht⟩ : ∃ a, Lib.trimSuffix v zzL = a := ⟨_, rfl⟩
  obtain ⟨c, hc⟩ : ∃ a, isLowB t = a := ⟨_, rfl⟩
  have CC : Hid (∀ W : World, Calls Tryd.prog 26 #[.string (bsL v), .string ⟨#[122, 122, 122, 122]⟩] W (SufR W (bsL t) a)) := fun W => by
    rw [← ha, ← ht]; exact Tryd.strings_CutSuffix (bsL v) ⟨#[122, 122, 122, 122]⟩ W (by rw [bsL_size]; omega)
  have CL : Hid (∀ W : World, Calls Tryd.prog 27 #[.string (bsL t)] W fun e w' => e = .returned (.bool c) ∧ W = w') := fun W => hc ▸ isLow_h t W
  have htl : t.length ≤ 1000 := by rw [← ht]; exact Nat.le_trans (xsuf_len v) hv
  have CU : Hid (c = true → ∀ W : World, Calls Tryd.prog 29 #[.string (bsL t)] W (StrX W (bsL (Lib.toUpperA t)))) := fun h1 W =>
    Tryd.strings_ToUpper_ascii (bsL t) W (by rw [bsL_size]; omega) (low_ascii (hc.trans h1))
  have CO : Hid (∀ W', Bel W W' → Calls Tryd.prog 28 #[.pointer (some ⟨q, 2, none⟩), .string (bsL (Lib.toUpperA t))] W' (OnceR W' q 2 x.rg (Lib.toUpperA t))) := fun W' hb => once_h (h.up hb.hid).c2 (h.up hb.hid).f2
  obtain ⟨Q, hQ⟩ : ∃ Q, SetR W0 q x (setRg x v) = Q := ⟨_, rfl⟩
  have HO : Hid (a = true → c = true → ∀ W', Bel W W' → Q (.returned (.bool (decide (x.rg = [])))) (onceW W' q 2 x.rg (Lib.toUpperA t))) := fun h1 h4 W' hw => by
    rw [← hQ]
    have h2 := once_at (v := Lib.toUpperA t) (h.up hw.hid) (i := 2) (l := x.rg) rfl
    have h3 := once_bel (i := 2) (l := x.rg) (v := Lib.toUpperA t) (hb.up hw.hid) hq
    by_cases h0 : x.rg = []
    · have e : setRg x v = some ⟨x.lang, x.reg, Lib.toUpperA t, x.ms, x.mu⟩ := by rw [← ht]; exact if_pos ⟨ha.trans h1, by rw [ht]; exact hc.trans h4, h0⟩
      rw [if_pos h0] at h2
      rw [e]
      exact SetR.mk (by rw [decide_eq_true h0]; rfl) h2 h3
    · have e : setRg x v = none := if_neg (fun hh => h0 hh.2.2)
      rw [if_neg h0] at h2
      rw [e]
      exact SetR.mk (by rw [decide_eq_false h0]; rfl) h2 h3
  have HN : Hid ((a && c) = false → ∀ W', Bel W W' → Q (.returned (.bool false)) W') := fun h1 W' hw => by
    rw [← hQ]
    have e : setRg x v = none := if_neg (fun hh => by rw [ha, ht, hc] at hh; rw [hh.1, hh.2.1] at h1; cases h1)
    rw [e]
    exact SetR.mk rfl (h.up hw.hid) (hb.up hw.hid)
  rw [hQ]
  obtain ⟨V, hV⟩ : ∃ V, bsL v = V := ⟨_, rfl⟩
  obtain ⟨T, hT⟩ : ∃ V, bsL t = V := ⟨_, rfl⟩
  obtain ⟨U, hU⟩ : ∃ V, Lib.toUpperA t = V := ⟨_, rfl⟩
  rw [hV, hT] at CC
  rw [hU] at CU CO HO
  rw [hT] at CL CU
  rw [hV]
  obtain ⟨o, ho⟩ : ∃ o, decide (x.rg = []) = o := ⟨_, rfl⟩
  rw [ho] at HO
  unfold OnceR at CO
  rw [ho] at CO
  obtain ⟨S, hS⟩ : ∃ V, bsL U = V := ⟨_, rfl⟩
  rw [hS] at CU CO
  have e1 : bsL rgK = ⟨#[114, 103]⟩ := rfl
  rw [e1]
  have HW := Bel.refl W
  clear ha hc ht hQ hV hT hU hS ho h hb e1 hv htl
  cases a
  · go_enter Tryd.func22, Tryd.ntmps22
    go_wp2_with (first | (go_at_call 26; (with_reducible refine (CC.out _).mono ?_); rintro e w1 ⟨rfl, rfl⟩) | fail)
    all_goals go_quiet (fail)
    all_goals go_wp2_with fail
    exact HN.out rfl _ (xdn HW _)
  · cases c
    · go_enter Tryd.func22, Tryd.ntmps22
      go_wp2_with (first | (go_at_call 26; (with_reducible refine (CC.out _).mono ?_); rintro e w1 ⟨rfl, rfl⟩) | fail)
      have CL2 : Hid (∀ W : World, Calls Tryd.prog 27 #[.string T] W fun e w' => e = .returned (.bool false) ∧ w' = W) := fun W => (CL.out W).mono fun e w' h => ⟨h.1, h.2.symm⟩
      go_quiet (exact Calls.quiet_of_same (CL2.out _))
      all_goals go_wp2_with fail
      exact HN.out rfl _ (xdn HW _)
    · go_enter Tryd.func22, Tryd.ntmps22
      go_wp2_with (first | (go_at_call 26; (with_reducible refine (CC.out _).mono ?_); rintro e w1 ⟨rfl, rfl⟩) | fail)
      go_region_with (first
        | (go_at_call 27; (with_reducible refine (CL.out _).mono ?_); rintro e w1 ⟨rfl, rfl⟩)
        | (go_at_call 29; (with_reducible refine (CU.out (by trivial) _).mono ?_); rintro e w1 ⟨rfl, hb⟩; (replace HW := HW.dr.up hb.hid); clear hb)
        | (go_at_call 28; (with_reducible refine (CO.out _ HW).mono ?_); rintro e w1 ⟨rfl, rfl⟩)
        | fail)
      all_goals go_wp2_with fail
      all_goals (first | exact HO.out (by trivial) (by trivial) _ HW | (go_ret; exact HO.out (by trivial) (by trivial) _ HW))
end Go.Proofs.YtogekaakpfdhdaaDoor.X
