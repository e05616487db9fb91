/- The document's own GoodWord, figures, Number. Conditions: at most 2000000 bytes. -/
import Derived.Test.YtkjcnpckajpogaaDoorYd
open Go.RowKit
set_option maxRecDepth 100000
namespace Go.Proofs.YtkjcnpckajpogaaDoor
theorem wdig_bool (c : UInt8) : wdig c = !(decide ((c.toNat : Int) < 48) || decide ((57 : Int) < (c.toNat : Int))) := by
  unfold wdig
  rw [Bool.eq_iff_iff]
  simp only [u8le]
  simp; omega
theorem wchar_bool (c : UInt8) : wchar c = !((decide ((c.toNat : Int) < 97) || decide ((122 : Int) < (c.toNat : Int))) && (decide ((c.toNat : Int) < 48) || decide ((57 : Int) < (c.toNat : Int)))) := by
  unfold wchar wdig
  rw [Bool.eq_iff_iff]
  simp only [u8le]
  simp; omega
theorem all_step {p : UInt8 → Bool} {s : ByteArray} {k : Nat} {b : Bool} (h : k < s.size) (hall : (s.data.toList.take k).all p = true) (hb : p s[k] = b) : (s.data.toList.take (k + 1)).all p = b := by
  rw [all_take h, hall, hb]; rfl
set_option maxHeartbeats 2000000 in
theorem rgood_any {s : ByteArray} (hs : s.size ≤ 2000000) (w : World) : Calls Tryd.prog 52 #[.string s] w fun e w' => e = .returned (.bool (goodW s.data.toList)) ∧ w = w' := by
  go_enter Tryd.func52, Tryd.ntmps52
  go_wp2
  go_loop [3] (fun iv => ∃ k : Nat, k ≤ s.size ∧ iv = .int .i64 (k : Int) ∧ Hid ((s.data.toList.take k).all wchar = true)) (fun iv => s.size - (intOf iv).toNat)
  case atStart => exact ⟨0, Nat.zero_le _, rfl, rfl⟩
  case round =>
    obtain ⟨k, hk, rfl, hall⟩ := hrel
    by_cases hlt : k < s.size
    · have HW := yhide (wchar_bool s[k])
      obtain ⟨b1, d1⟩ : ∃ b, decide ((s[k].toNat : Int) < 97) = b := ⟨_, rfl⟩
      obtain ⟨b2, d2⟩ : ∃ b, decide ((122 : Int) < (s[k].toNat : Int)) = b := ⟨_, rfl⟩
      obtain ⟨b3, d3⟩ : ∃ b, decide ((s[k].toNat : Int) < 48) = b := ⟨_, rfl⟩
      obtain ⟨b4, d4⟩ : ∃ b, decide ((57 : Int) < (s[k].toNat : Int)) = b := ⟨_, rfl⟩
      rw [d1, d2, d3, d4] at HW
      cases b1 <;> cases b2 <;> cases b3 <;> cases b4
      all_goals first
        | (exfalso; simp at d1 d2 d3 d4; omega)
        | (have HA : Hid (wchar s[k] = true) := HW.out
           go_wp2
           go_round
           case rel => exact ⟨k + 1, by omega, by go_num, all_step hlt hall.out HA.out⟩
           case measure => simp [intOf]; omega)
        | (have HA : Hid (wchar s[k] = false) := HW.out
           go_wp2
           go_ret
           exact ⟨ybool (by unfold goodW; rw [all_false hlt HA.out]; simp), rfl⟩)
        | fail "no way"
    · obtain rfl : k = s.size := by omega
      have HAL : Hid (s.data.toList.all wchar = true) := by
        have h3 := hall.out
        rwa [List.take_of_length_le (by rw [Lib.size_eq]; exact Nat.le_refl _)] at h3
      have HG : Hid (goodW s.data.toList = (decide (1 ≤ s.size) && decide (s.size ≤ 20))) := by
        unfold Hid goodW; rw [HAL.out, Bool.and_true, Lib.size_eq]
      clear hall hk hlt
      by_cases h1 : 1 ≤ s.size
      · by_cases h2 : s.size ≤ 20
        · have d1 : decide ((1 : Int) ≤ (s.size : Int)) = true := decide_eq_true (by omega)
          have d2 : decide ((s.size : Int) ≤ 20) = true := decide_eq_true (by omega)
          rw [decide_eq_true h1, decide_eq_true h2] at HG
          clear h2
          go_wp2
          go_ret
          exact ⟨ybool HG.out.symm, rfl⟩
        · have d1 : decide ((1 : Int) ≤ (s.size : Int)) = true := decide_eq_true (by omega)
          have d2 : decide ((s.size : Int) ≤ 20) = false := decide_eq_false (by omega)
          rw [decide_eq_true h1, decide_eq_false h2] at HG
          clear h2
          go_wp2
          go_ret
          exact ⟨ybool HG.out.symm, rfl⟩
      · have d1 : decide ((1 : Int) ≤ (s.size : Int)) = false := decide_eq_false (by omega)
        rw [decide_eq_false h1] at HG
        clear h1
        go_wp2
        go_ret
        exact ⟨ybool HG.out.symm, rfl⟩
def figW (l : List UInt8) : Bool := !l.isEmpty && l.all wdig
theorem figures_any {s : ByteArray} (hs : s.size ≤ 2000000) (w : World) : Calls Tryd.prog 53 #[.string s] w fun e w' => e = .returned (.bool (figW s.data.toList)) ∧ w = w' := by
  obtain ⟨b0, hb0⟩ : ∃ b, s.toList.isEmpty = b := ⟨_, rfl⟩
  have HE : Hid (s.data.toList.isEmpty = b0) := by rw [← hb0, Lib.toList_data]; rfl
  have hz : b0 = true → s.toList = [] := fun h => by rw [h] at hb0; exact List.isEmpty_iff.1 hb0
  have hne : b0 = false → s.toList ≠ [] := fun h e => by rw [h, e] at hb0; cases hb0
  have HZ := yhide hz
  have HNE := yhide hne
  clear hz hne
  go_enter Tryd.func53, Tryd.ntmps53
  go_wp2
  go_loop [3] (fun iv => ∃ k : Nat, k ≤ s.size ∧ iv = .int .i64 (k : Int) ∧ Hid ((s.data.toList.take k).all wdig = true)) (fun iv => s.size - (intOf iv).toNat)
  case atStart => exact ⟨0, Nat.zero_le _, rfl, rfl⟩
  case round =>
    obtain ⟨k, hk, rfl, hall⟩ := hrel
    by_cases hlt : k < s.size
    · have HW := yhide (wdig_bool s[k])
      obtain ⟨b3, d3⟩ : ∃ b, decide ((s[k].toNat : Int) < 48) = b := ⟨_, rfl⟩
      obtain ⟨b4, d4⟩ : ∃ b, decide ((57 : Int) < (s[k].toNat : Int)) = b := ⟨_, rfl⟩
      rw [d3, d4] at HW
      cases b3 <;> cases b4
      all_goals first
        | (exfalso; simp at d3 d4; omega)
        | (have HA : Hid (wdig s[k] = true) := HW.out
           go_wp2
           go_round
           case rel => exact ⟨k + 1, by omega, by go_num, all_step hlt hall.out HA.out⟩
           case measure => simp [intOf]; omega)
        | (have HA : Hid (wdig s[k] = false) := HW.out
           go_wp2
           go_ret
           exact ⟨ybool (by unfold figW; rw [all_false hlt HA.out]; simp), rfl⟩)
        | fail "no way"
    · obtain rfl : k = s.size := by omega
      have HAL : Hid (s.data.toList.all wdig = true) := by
        have h3 := hall.out
        rwa [List.take_of_length_le (by rw [Lib.size_eq]; exact Nat.le_refl _)] at h3
      cases b0
      · go_wp2
        go_ret
        exact ⟨ybool (by unfold figW; rw [HAL.out, HE.out]; rfl), rfl⟩
      · have hz0 := HZ.out rfl
        go_wp2
        go_ret
        exact ⟨ybool (by unfold figW; rw [HE.out]; rfl), rfl⟩
end Go.Proofs.YtkjcnpckajpogaaDoor
