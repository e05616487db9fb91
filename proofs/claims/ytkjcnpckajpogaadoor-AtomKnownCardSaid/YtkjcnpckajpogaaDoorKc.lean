/- Package atom: powerWord, leadingPower. Conditions: a power from 2 to 15. -/
import Derived.Test.YtkjcnpckajpogaaDoorKb
import Derived.Test.YtkjcnpckajpogaaDoorKym
open Go.RowKit
set_option maxRecDepth 100000
namespace Go.Proofs.YtkjcnpckajpogaaDoor
theorem khide {p : Prop} (h : p) : Hid p := h
theorem numB_size (n : Nat) : (numB n).size ≤ 2 := by unfold numB; split <;> exact of_decide_eq_true rfl
theorem powerWord_any {n : Nat} (h2 : 2 ≤ n) (h15 : n < 16) (w : World) : Calls Tryd.prog 23 #[.int .i64 (n : Int)] w fun e w' => e = .returned (.string (pwB n)) ∧ w = w' := by
  by_cases e2 : n = 2
  · subst e2
    go_enter Tryd.func23, Tryd.ntmps23
    go_wp2
    go_ret
    exact ⟨rfl, rfl⟩
  by_cases e3 : n = 3
  · subst e3
    go_enter Tryd.func23, Tryd.ntmps23
    go_wp2
    go_ret
    exact ⟨rfl, rfl⟩
  · have d2 : ((n : Int) == 2) = false := by rw [beq_eq_false_iff_ne]; omega
    have d3 : ((n : Int) == 3) = false := by rw [beq_eq_false_iff_ne]; omega
    obtain ⟨t, ht⟩ : ∃ t, t = numB n := ⟨_, rfl⟩
    have CI : Hid (∀ W : World, Calls Tryd.prog 36 #[.int .i64 (n : Int)] W fun e w' => e = .returned (.string t) ∧ W = w') := fun W => (Tryd.strconv_Itoa_small n (by omega) W).mono fun e w' ⟨h1, h3⟩ => ⟨by rw [h1, decDigits_num (by omega), ht], h3.symm⟩
    have hs : t.size ≤ 2 := by rw [ht]; exact numB_size n
    have HV : Hid (pwB n = powB ++ t) := by unfold Hid pwB; rw [if_neg e2, if_neg e3, ht]
    clear ht e2 e3 h2 h15
    go_enter Tryd.func23, Tryd.ntmps23
    go_wp2_with (first | (go_at_call 36; (with_reducible refine (CI.out _).mono ?_); rintro e w1 ⟨rfl, rfl⟩) | fail)
    go_ret
    exact ⟨by rw [HV.out]; rfl, rfl⟩
def RetII (W : World) (a b : Int) (e : Ending) (w' : World) : Prop := e = .returned (.tuple #[.int .i64 a, .int .i64 b]) ∧ Bel W w'
def leadP : List ByteArray → Nat × Nat
  | [] => (1, 0)
  | s :: _ => if powOf s = 0 then (1, 0) else (powOf s, 1)
theorem bel_drewN {w W : World} {q : Nat} (h : Hid (W = w.drewN q)) : Bel w W := by rw [h.out]; exact ybelow_drewN (Below.refl _ _) q
set_option maxHeartbeats 2000000 in
theorem lead_any {A : Option Addr} {n c : Nat} {xs : List ByteArray} {w : World} (h : Ss w A xs) (hn : n = xs.length) : Calls Tryd.prog 19 #[.slice A n c] w (RetII w ((leadP xs).1 : Int) ((leadP xs).2 : Int)) := by
  have CP : Hid (∀ (n : Nat) (W : World), 2 ≤ n → n < 16 → Calls Tryd.prog 23 #[.int .i64 (n : Int)] W fun e w' => e = .returned (.string (pwB n)) ∧ W = w') := fun n W h2 h15 => powerWord_any h2 h15 W
  cases xs with
  | nil =>
    subst hn
    clear h
    go_enter Tryd.func19, Tryd.ntmps19
    go_wp2
    go_ret2
    exact ⟨rfl, Bel.refl _⟩
  | cons s ys =>
    obtain ⟨ad, rfl, hb, hcell0⟩ := h.out.at_ (k := 0) (by simp)
    rw [show (s :: ys)[0] = s from rfl, show ad.add 0 = ad by simp [Addr.add]] at hcell0
    have hn0 : 0 < n := by rw [hn]; simp
    have d1 : ((n : Int) == 0) = false := by rw [beq_eq_false_iff_ne]; omega
    have d2 : (0 : Int) < (n : Int) := by omega
    clear hn h
    go_enter Tryd.func19, Tryd.ntmps19
    go_wp2
    go_loopw [4] (fun iv wr => ∃ k q : Nat, 2 ≤ k ∧ k ≤ 16 ∧ iv = .int .i64 (k : Int) ∧ Hid (wr = w.drewN q) ∧ Hid (∀ m, m < k → 2 ≤ m → s ≠ pwB m)) (fun iv _ => 16 - (intOf iv).toNat)
    case atStart => exact ⟨2, 0, by omega, by omega, rfl, rfl, fun m h1 h2 => by omega⟩
    case round =>
      obtain ⟨k, q, hk2, hk, rfl, HQ, HM⟩ := hrel
      by_cases hlt : k < 16
      · have hcell : wr.cell? ad = some (.string s) := by rw [HQ.out]; exact hcell0
        have d3 : decide ((k : Int) ≤ 15) = true := decide_eq_true (by omega)
        obtain ⟨t, ht⟩ : ∃ t, t = pwB k := ⟨_, rfl⟩
        have CQ : Hid (∀ W : World, Calls Tryd.prog 23 #[.int .i64 (k : Int)] W fun e w' => e = .returned (.string t) ∧ w' = W) := fun W => (ht ▸ CP.out k W hk2 hlt).mono fun e w' ⟨h1, h3⟩ => ⟨h1, h3.symm⟩
        have HT := khide ht
        clear ht
        by_cases he : s = t
        · have HE : Hid (powOf s = k) := by unfold Hid; rw [he, HT.out]; exact powOf_pw k hlt hk2
          have e2 : (s.toList == t.toList) = true := by rw [he]; simp
          have HK2 := khide hk2
          clear he
          go_wp2_with fail
          go_quiet (first | (go_at_call 23; exact Calls.quiet_of_same (CQ.out _)) | fail)
          go_wp2
          go_ret2
          obtain ⟨q2, hq2⟩ := ydrew_more HQ
          refine ⟨?_, bel_drewN hq2⟩
          have hne : ¬ powOf s = 0 := by rw [HE.out]; have := HK2.out; omega
          simp only [leadP]
          rw [if_neg hne, HE.out]; rfl
        · have e2 : (s.toList == t.toList) = false := by
            rw [beq_eq_false_iff_ne]; intro e3; rw [Lib.toList_data, Lib.toList_data] at e3
            exact he (ByteArray.ext (Array.ext' e3))
          have HE := khide he
          clear he
          go_wp2_with fail
          go_quiet (first | (go_at_call 23; exact Calls.quiet_of_same (CQ.out _)) | fail)
          go_wp2
          go_roundw
          case rel =>
            obtain ⟨q2, hq2⟩ := ydrew_more HQ
            refine ⟨k + 1, q2, by omega, by omega, by go_num, hq2, fun m h1 h2 => ?_⟩
            rcases Nat.lt_or_ge m k with h3 | h3
            · exact HM.out m h3 h2
            · obtain rfl : m = k := by omega
              rw [← HT.out]; exact HE.out
          case measure => simp [intOf]; omega
      · obtain rfl : k = 16 := by omega
        go_wp2
        go_ret2
        refine ⟨?_, bel_drewN HQ⟩
        simp only [leadP]
        rw [if_pos (powOf_no HM.out)]; rfl
end Go.Proofs.YtkjcnpckajpogaaDoor
