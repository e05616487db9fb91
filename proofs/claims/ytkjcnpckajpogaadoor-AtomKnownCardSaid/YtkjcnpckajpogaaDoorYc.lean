/- Words: isDigit, isLetterOrDigit, consists, Good, Number. No conditions. -/
import Derived.Test.YtkjcnpckajpogaaDoorYb
import Derived.Test.YtkjcnpckajpogaaDoorProg
import Derived.WalkSpells
import Derived.Lib.Strings
open Go.RowKit
set_option maxRecDepth 100000
namespace Go.Proofs.YtkjcnpckajpogaaDoor
theorem yhide {p : Prop} (h : p) : Hid p := h
theorem ybool {a b : Bool} (h : a = b) : Ending.returned (.bool a) = .returned (.bool b) := by rw [h]
theorem u8le (a b : UInt8) : (a ≤ b) ↔ a.toNat ≤ b.toNat := UInt8.le_iff_toNat_le
theorem isDigit_any (c : UInt8) (w : World) : Calls Tryd.prog 55 #[.int .u8 (c.toNat : Int)] w fun e w' => e = .returned (.bool (wdig c)) ∧ w = w' := by
  by_cases h1 : (48 : Int) ≤ (c.toNat : Int)
  · by_cases h2 : (c.toNat : Int) ≤ 57
    · have d1 : decide ((48 : Int) ≤ (c.toNat : Int)) = true := decide_eq_true h1
      have d2 : decide ((c.toNat : Int) ≤ 57) = true := decide_eq_true h2
      go_enter Tryd.func55, Tryd.ntmps55
      go_wp2
      go_ret
      exact ⟨ybool (by unfold wdig; simp only [u8le]; simp; omega), rfl⟩
    · have d1 : decide ((48 : Int) ≤ (c.toNat : Int)) = true := decide_eq_true h1
      have d2 : decide ((c.toNat : Int) ≤ 57) = false := decide_eq_false h2
      go_enter Tryd.func55, Tryd.ntmps55
      go_wp2
      go_ret
      exact ⟨ybool (by unfold wdig; simp only [u8le]; simp; omega), rfl⟩
  · have d1 : decide ((48 : Int) ≤ (c.toNat : Int)) = false := decide_eq_false h1
    go_enter Tryd.func55, Tryd.ntmps55
    go_wp2
    go_ret
    exact ⟨ybool (by unfold wdig; simp only [u8le]; simp; omega), rfl⟩
theorem isLetter_any (c : UInt8) (w : World) : Calls Tryd.prog 45 #[.int .u8 (c.toNat : Int)] w fun e w' => e = .returned (.bool (wchar c)) ∧ w = w' := by
  obtain ⟨d, hd⟩ : ∃ d, wdig c = d := ⟨_, rfl⟩
  have CD := yhide (fun W => isDigit_any c W)
  rw [hd] at CD
  have HD := yhide hd
  clear hd
  by_cases h1 : (97 : Int) ≤ (c.toNat : Int)
  · by_cases h2 : (c.toNat : Int) ≤ 122
    · have d1 : decide ((97 : Int) ≤ (c.toNat : Int)) = true := decide_eq_true h1
      have d2 : decide ((c.toNat : Int) ≤ 122) = true := decide_eq_true h2
      go_enter Tryd.func45, Tryd.ntmps45
      go_wp2_with (first | (go_at_call 55; (with_reducible refine (CD.out _).mono ?_); rintro e w1 ⟨rfl, rfl⟩) | fail)
      go_ret
      exact ⟨ybool (by unfold wchar; rw [HD.out]; simp only [u8le]; simp; omega), rfl⟩
    · have d1 : decide ((97 : Int) ≤ (c.toNat : Int)) = true := decide_eq_true h1
      have d2 : decide ((c.toNat : Int) ≤ 122) = false := decide_eq_false h2
      go_enter Tryd.func45, Tryd.ntmps45
      go_wp2_with (first | (go_at_call 55; (with_reducible refine (CD.out _).mono ?_); rintro e w1 ⟨rfl, rfl⟩) | fail)
      go_ret
      exact ⟨ybool (by unfold wchar; rw [HD.out]; simp only [u8le]; simp; omega), rfl⟩
  · have d1 : decide ((97 : Int) ≤ (c.toNat : Int)) = false := decide_eq_false h1
    go_enter Tryd.func45, Tryd.ntmps45
    go_wp2_with (first | (go_at_call 55; (with_reducible refine (CD.out _).mono ?_); rintro e w1 ⟨rfl, rfl⟩) | fail)
    go_ret
    exact ⟨ybool (by unfold wchar; rw [HD.out]; simp only [u8le]; simp; omega), rfl⟩
/-- As long as a word, and of bytes of one kind only. -/
def consB (p : UInt8 → Bool) (l : List UInt8) : Bool := decide (1 ≤ l.length) && (decide (l.length ≤ 20) && l.all p)
theorem all_take {p : UInt8 → Bool} {s : ByteArray} {k : Nat} (h : k < s.size) : (s.data.toList.take (k + 1)).all p = ((s.data.toList.take k).all p && p s[k]) := by
  have e : s.data.toList.take (k + 1) = s.data.toList.take k ++ [s[k]] := by
    rw [List.take_succ_eq_append_getElem (by simpa using h)]; rfl
  rw [e, List.all_append]; simp
theorem all_false {p : UInt8 → Bool} {s : ByteArray} {k : Nat} (h : k < s.size) (hp : p s[k] = false) : s.data.toList.all p = false := by
  rw [List.all_eq_false]
  refine ⟨s[k], ?_, by rw [hp]; simp⟩
  exact List.getElem_mem (l := s.data.toList) (n := k) (by simpa using h)
set_option maxHeartbeats 400000 in
theorem consists_any {p : UInt8 → Bool} {g : Nat} (hk : ∀ (c : UInt8) (W : World), Calls Tryd.prog g #[.int .u8 (c.toNat : Int)] W fun e w' => e = .returned (.bool (p c)) ∧ W = w')
    (hg : ∀ args W, (callFunc g args).run Tryd.prog W = .ok (.enter g args) W) (s : ByteArray) (w : World) :
    Calls Tryd.prog 44 #[.string s, .func (.func g) #[] #[]] w fun e w' => e = .returned (.bool (consB p s.data.toList)) ∧ w = w' := by
  have CK := yhide hk
  clear hk
  by_cases h0 : s.size = 0
  · have hl : s.toList = [] := by rw [Lib.toList_data]; exact List.eq_nil_of_length_eq_zero h0
    have HL : Hid (s.data.toList = []) := List.eq_nil_of_length_eq_zero h0
    clear h0
    go_enter Tryd.func44, Tryd.ntmps44
    go_wp2
    go_ret
    exact ⟨ybool (by rw [HL.out]; rfl), rfl⟩
  · have hl : s.toList.isEmpty = false := by
      rw [Lib.toList_data]
      cases h : s.data.toList with
      | nil => exact absurd (show s.size = 0 by rw [Lib.size_eq, h]; rfl) h0
      | cons a l => rfl
    by_cases h2 : 20 < s.size
    · clear h0
      have d2 : decide ((20 : Int) < (s.size : Int)) = true := decide_eq_true (by omega)
      have HB : Hid (20 < s.size) := h2
      go_enter Tryd.func44, Tryd.ntmps44
      go_wp2
      go_ret
      refine ⟨ybool ?_, rfl⟩
      have := HB.out
      rw [Lib.size_eq] at this
      unfold consB
      rw [decide_eq_false (show ¬ s.data.toList.length ≤ 20 by omega)]
      simp
    · have d2 : decide ((20 : Int) < (s.size : Int)) = false := decide_eq_false (by omega)
      have hs : s.size ≤ 20 := by omega
      have hs1 : 1 ≤ s.size := by omega
      clear h0 h2
      go_enter Tryd.func44, Tryd.ntmps44
      go_wp2
      go_loop [15] (fun iv => ∃ k : Nat, k ≤ s.size ∧ iv = .int .i64 (k : Int) ∧ Hid ((s.data.toList.take k).all p = true)) (fun iv => s.size - (intOf iv).toNat)
      case atStart => exact ⟨0, Nat.zero_le _, rfl, rfl⟩
      case round =>
        obtain ⟨k, hk, rfl, hall⟩ := hrel
        by_cases hlt : k < s.size
        · obtain ⟨b, hb⟩ : ∃ b, p s[k] = b := ⟨_, rfl⟩
          have HP := yhide hb
          clear hb
          have CC : Hid (∀ W : World, Calls Tryd.prog g #[.int .u8 (s[k].toNat : Int)] W fun e w' => e = .returned (.bool b) ∧ W = w') := fun W => by
            have := CK.out s[k] W
            rwa [HP.out] at this
          cases b
          · go_wp2_with (first | ((with_reducible refine (CC.out _).mono ?_); rintro e w1 ⟨rfl, rfl⟩) | fail)
            go_ret
            exact ⟨ybool (by unfold consB; rw [all_false hlt HP.out]; simp), rfl⟩
          · go_wp2_with (first | ((with_reducible refine (CC.out _).mono ?_); rintro e w1 ⟨rfl, rfl⟩) | fail)
            go_round
            case rel => exact ⟨k + 1, by omega, by go_num, by unfold Hid; rw [all_take hlt, hall.out, HP.out]; rfl⟩
            case measure => simp [intOf]; omega
        · obtain rfl : k = s.size := by omega
          go_wp2
          go_ret
          refine ⟨ybool ?_, rfl⟩
          have h3 := hall.out
          rw [List.take_of_length_le (by rw [Lib.size_eq]; exact Nat.le_refl _)] at h3
          rw [Lib.size_eq] at hs hs1
          unfold consB
          rw [h3, decide_eq_true hs, decide_eq_true hs1]; rfl
end Go.Proofs.YtkjcnpckajpogaaDoor
