/- Package num: Cmp. Conditions: at most 100000 words. -/
import Derived.Test.YtlmfkeicmldcnaaDoorZd
open Go.RowKit
set_option maxRecDepth 100000
namespace Go.Proofs.YtlmfkeicmldcnaaDoor
def cmpZ (a b : Int) : Int := if a < b then -1 else if b < a then 1 else 0
theorem al2 (W : World) (o1 o2 : Obj) : Below W.heap.size W ((W.alloc o1).alloc o2) := ((Below.refl _ _).alloc (Nat.le_refl _) _).alloc (by simp) _
section
variable {W : World} {b b' : Bool} {A A' : Option Addr} {n n' c c' : Nat} {z z' : Int}
set_option maxHeartbeats 4000000 in
theorem zcmp_h {v : Int} (h : ZA W b A n c z) (h' : ZA W b' A' n' c' z') (hv : cmpZ z z' = v) : Calls Tryd.prog 43 #[.agg #[.bool b, .slice A n c], .agg #[.bool b', .slice A' n' c']] W (IntPost W v) := by
  obtain ⟨s, hs⟩ : ∃ s, z.sign = s := ⟨_, rfl⟩
  obtain ⟨s', hs'⟩ : ∃ s, z'.sign = s := ⟨_, rfl⟩
  have hsb : -1 ≤ s ∧ s ≤ 1 ∧ (s < 0 ↔ z < 0) ∧ (0 < s ↔ 0 < z) := by
    subst hs
    rcases Int.lt_trichotomy z 0 with h | h | h
    · rw [Int.sign_eq_neg_one_of_neg h]; omega
    · subst h; decide
    · rw [Int.sign_eq_one_of_pos h]; omega
  have hsb' : -1 ≤ s' ∧ s' ≤ 1 ∧ (s' < 0 ↔ z' < 0) ∧ (0 < s' ↔ 0 < z') := by
    subst hs'
    rcases Int.lt_trichotomy z' 0 with h | h | h
    · rw [Int.sign_eq_neg_one_of_neg h]; omega
    · subst h; decide
    · rw [Int.sign_eq_one_of_pos h]; omega
  have CA : Hid (∀ W', Below W.heap.size W W' → Calls Tryd.prog 42 #[.agg #[.bool b, .slice A n c]] W' (IntPost W' s)) := fun W' hb => sign_h (h.up hb) hs
  have CB : Hid (∀ W', Below W.heap.size W W' → Calls Tryd.prog 42 #[.agg #[.bool b', .slice A' n' c']] W' (IntPost W' s')) := fun W' hb => sign_h (h'.up hb) hs'
  have CC : Hid (∀ W', Below W.heap.size W W' → Calls Tryd.prog 26 #[.agg #[.slice A n c], .agg #[.slice A' n' c']] W' (IntPost W' (cmpI z.natAbs z'.natAbs))) := fun W' hb => cmp_h (h.up hb).1 (h'.up hb).1 rfl
  have CD : Hid (∀ W', Below W.heap.size W W' → Calls Tryd.prog 26 #[.agg #[.slice A' n' c'], .agg #[.slice A n c]] W' (IntPost W' (cmpI z'.natAbs z.natAbs))) := fun W' hb => cmp_h (h'.up hb).1 (h.up hb).1 rfl
  have ways : (s < s' ∧ v = -1) ∨ (¬ s < s' ∧ s' < s ∧ v = 1) ∨ (¬ s < s' ∧ ¬ s' < s ∧ s < 0 ∧ v = cmpI z'.natAbs z.natAbs) ∨ (¬ s < s' ∧ ¬ s' < s ∧ ¬ s < 0 ∧ v = cmpI z.natAbs z'.natAbs) := by
    unfold cmpZ at hv
    unfold cmpI
    by_cases h1 : s < s'
    · left; rw [if_pos (by omega)] at hv; exact ⟨h1, hv.symm⟩
    · by_cases h2 : s' < s
      · right; left; rw [if_neg (by omega), if_pos (by omega)] at hv; exact ⟨h1, h2, hv.symm⟩
      · by_cases h3 : s < 0
        · right; right; left
          refine ⟨h1, h2, h3, ?_⟩
          rw [← hv]
          split <;> split <;> (try split) <;> omega
        · right; right; right
          refine ⟨h1, h2, h3, ?_⟩
          rw [← hv]
          split <;> split <;> (try split) <;> omega
  clear h h' hv hs hs' hsb hsb'
  rcases ways with ⟨h1, hv⟩ | ⟨h1, h2, hv⟩ | ⟨h1, h2, h3, hv⟩ | ⟨h1, h2, h3, hv⟩
  all_goals
    have HV := hide hv
    clear hv
    go_enter Tryd.func43, Tryd.ntmps43
    go_wp2_with fail
    obtain ⟨W0, hW0⟩ : ∃ W0, W0 = ((W.alloc (.cells #[.bool b, .slice A n c] 55)).alloc (.cells #[.bool b', .slice A' n' c'] 55)) := ⟨_, rfl⟩
    rw [← hW0]
    have HA : Hid (Zcell W0.drew W.heap.size b A n c) := by rw [hW0]; exact Zcell.dr ((zc_new _ _ _ _ _ _).al _)
    have HA' : Hid (Zcell W0.drew (W.heap.size + 1) b' A' n' c') := by rw [hW0]; exact Zcell.dr (zc_new1 _ _ _ _ _ _ _)
    have HW : Hid (Below W.heap.size W W0.drew) := by rw [hW0]; exact Below.drew (al2 _ _ _)
    clear hW0
    go_region_held3 (fun w' => w'.cell? ⟨W.heap.size, 0, none⟩ = some (.bool b) ∧ w'.cell? ⟨W.heap.size, 1, none⟩ = some (.slice A n c) ∧ w'.cell? ⟨W.heap.size + 1, 0, none⟩ = some (.bool b') ∧ w'.cell? ⟨W.heap.size + 1, 1, none⟩ = some (.slice A' n' c')) (first | exact ⟨HA.out.c0, HA.out.c1, HA'.out.c0, HA'.out.c1⟩) (first | (go_at_call 42; (with_reducible refine (CA.out _ HW.out).mono ?_); rintro e w1 ⟨rfl, hbk⟩; replace HA := hide (HA.out.up hbk); replace HA' := hide (HA'.out.up hbk); replace HW := chain HW hbk.out) | (go_at_call 42; (with_reducible refine (CB.out _ HW.out).mono ?_); rintro e w2 ⟨rfl, hbk⟩; replace HA := hide (HA.out.up hbk); replace HA' := hide (HA'.out.up hbk); replace HW := chain HW hbk.out) | fail)
  · go_wp2_with fail
    go_ret
    exact ⟨by rw [HV.out]; rfl, HW.out⟩
  · go_wp2_with fail
    replace HA := hide HA.out.dr
    replace HA' := hide HA'.out.dr
    replace HW := hide (Below.drew HW.out)
    go_region_held3 (fun w' => w'.cell? ⟨W.heap.size, 0, none⟩ = some (.bool b) ∧ w'.cell? ⟨W.heap.size, 1, none⟩ = some (.slice A n c) ∧ w'.cell? ⟨W.heap.size + 1, 0, none⟩ = some (.bool b') ∧ w'.cell? ⟨W.heap.size + 1, 1, none⟩ = some (.slice A' n' c')) (first | exact ⟨HA.out.c0, HA.out.c1, HA'.out.c0, HA'.out.c1⟩) (first | (go_at_call 42; (with_reducible refine (CA.out _ HW.out).mono ?_); rintro e w1 ⟨rfl, hbk⟩; replace HA := hide (HA.out.up hbk); replace HA' := hide (HA'.out.up hbk); replace HW := chain HW hbk.out) | (go_at_call 42; (with_reducible refine (CB.out _ HW.out).mono ?_); rintro e w2 ⟨rfl, hbk⟩; replace HA := hide (HA.out.up hbk); replace HA' := hide (HA'.out.up hbk); replace HW := chain HW hbk.out) | fail)
    go_wp2_with fail
    go_ret
    exact ⟨by rw [HV.out]; rfl, HW.out⟩
  · go_wp2_with fail
    replace HA := hide HA.out.dr
    replace HA' := hide HA'.out.dr
    replace HW := hide (Below.drew HW.out)
    go_region_held3 (fun w' => w'.cell? ⟨W.heap.size, 0, none⟩ = some (.bool b) ∧ w'.cell? ⟨W.heap.size, 1, none⟩ = some (.slice A n c) ∧ w'.cell? ⟨W.heap.size + 1, 0, none⟩ = some (.bool b') ∧ w'.cell? ⟨W.heap.size + 1, 1, none⟩ = some (.slice A' n' c')) (first | exact ⟨HA.out.c0, HA.out.c1, HA'.out.c0, HA'.out.c1⟩) (first | (go_at_call 42; (with_reducible refine (CA.out _ HW.out).mono ?_); rintro e w1 ⟨rfl, hbk⟩; replace HA := hide (HA.out.up hbk); replace HA' := hide (HA'.out.up hbk); replace HW := chain HW hbk.out) | (go_at_call 42; (with_reducible refine (CB.out _ HW.out).mono ?_); rintro e w2 ⟨rfl, hbk⟩; replace HA := hide (HA.out.up hbk); replace HA' := hide (HA'.out.up hbk); replace HW := chain HW hbk.out) | fail)
    have a0 := HA.out.c0
    have a1 := HA.out.c1
    have x0 := HA'.out.c0
    have x1 := HA'.out.c1
    go_wp2_with (first | (go_at_call 42; (with_reducible refine (CA.out _ HW.out).mono ?_); rintro e w3 ⟨rfl, hbk⟩; replace HA := hide (HA.out.up hbk); replace HA' := hide (HA'.out.up hbk); replace HW := chain HW hbk.out; clear a0 a1 x0 x1; have a0 := HA.out.c0; have a1 := HA.out.c1; have x0 := HA'.out.c0; have x1 := HA'.out.c1) | (go_at_call 26; (with_reducible refine (CD.out _ HW.out).mono ?_); rintro e w4 ⟨rfl, hbk⟩) | fail)
    go_ret
    exact ⟨by rw [HV.out]; rfl, chain HW hbk.out⟩
  · go_wp2_with fail
    replace HA := hide HA.out.dr
    replace HA' := hide HA'.out.dr
    replace HW := hide (Below.drew HW.out)
    go_region_held3 (fun w' => w'.cell? ⟨W.heap.size, 0, none⟩ = some (.bool b) ∧ w'.cell? ⟨W.heap.size, 1, none⟩ = some (.slice A n c) ∧ w'.cell? ⟨W.heap.size + 1, 0, none⟩ = some (.bool b') ∧ w'.cell? ⟨W.heap.size + 1, 1, none⟩ = some (.slice A' n' c')) (first | exact ⟨HA.out.c0, HA.out.c1, HA'.out.c0, HA'.out.c1⟩) (first | (go_at_call 42; (with_reducible refine (CA.out _ HW.out).mono ?_); rintro e w1 ⟨rfl, hbk⟩; replace HA := hide (HA.out.up hbk); replace HA' := hide (HA'.out.up hbk); replace HW := chain HW hbk.out) | (go_at_call 42; (with_reducible refine (CB.out _ HW.out).mono ?_); rintro e w2 ⟨rfl, hbk⟩; replace HA := hide (HA.out.up hbk); replace HA' := hide (HA'.out.up hbk); replace HW := chain HW hbk.out) | fail)
    have a0 := HA.out.c0
    have a1 := HA.out.c1
    have x0 := HA'.out.c0
    have x1 := HA'.out.c1
    go_wp2_with (first | (go_at_call 42; (with_reducible refine (CA.out _ HW.out).mono ?_); rintro e w3 ⟨rfl, hbk⟩; replace HA := hide (HA.out.up hbk); replace HA' := hide (HA'.out.up hbk); replace HW := chain HW hbk.out; clear a0 a1 x0 x1; have a0 := HA.out.c0; have a1 := HA.out.c1; have x0 := HA'.out.c0; have x1 := HA'.out.c1) | (go_at_call 26; (with_reducible refine (CC.out _ HW.out).mono ?_); rintro e w4 ⟨rfl, hbk⟩) | fail)
    go_ret
    exact ⟨by rw [HV.out]; rfl, chain HW hbk.out⟩
end
end Go.Proofs.YtlmfkeicmldcnaaDoor
