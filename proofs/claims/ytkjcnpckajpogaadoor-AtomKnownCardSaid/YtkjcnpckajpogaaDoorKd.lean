/- Package atom: isDigits, isReserved. Conditions: a text that fits. -/
import Derived.Test.YtkjcnpckajpogaaDoorKc
open Go.RowKit
set_option maxRecDepth 100000
namespace Go.Proofs.YtkjcnpckajpogaaDoor
theorem toList_inj {a b : ByteArray} (h : a.toList = b.toList) : a = b := by
  rw [Lib.toList_data, Lib.toList_data] at h
  exact ByteArray.ext (Array.ext' h)
theorem str_ne {a b : ByteArray} (h : a ≠ b) : (a.toList == b.toList) = false := by
  rw [beq_eq_false_iff_ne]; exact fun e => h (toList_inj e)
theorem str_lit {a b : ByteArray} {l : List UInt8} (h : a ≠ b) (hl : b.data.toList = l) : (a.toList == l) = false := by
  rw [← hl, ← Lib.toList_data]; exact str_ne h
theorem trim_h {s : ByteArray} (hs : s.size ≤ 9223372036854775807) (w : World) : Calls Tryd.prog 57 #[.string s, .string ⟨#[48, 49, 50, 51, 52, 53, 54, 55, 56, 57]⟩] w fun e w' => e = .returned (.string ⟨(Lib.trimS s.data.toList digitSet).toArray⟩) ∧ Bel w w' :=
  Any.strings_Trim_ascii Tryd.lays160 (fun w => by kernel_rfl) (by kernel_rfl) s ⟨#[48, 49, 50, 51, 52, 53, 54, 55, 56, 57]⟩ w hs (by decide) (fun j b hb => by
    have hm := List.mem_of_getElem? hb
    have : ∀ b ∈ digitSet, b.toNat < 128 := by decide
    exact this b hm)
theorem isDigits_h {s : ByteArray} {r : Bool} (hs : s.size ≤ 9223372036854775807) (hr : digitsB s.data.toList = r) (w : World) : Calls Tryd.prog 47 #[.string s] w (RetB w r) := by
  cases he : s.toList.isEmpty with
  | true =>
    have HV : Hid (false = r) := by
      unfold Hid; rw [← hr]; unfold digitsB
      rw [Lib.toList_data] at he
      rw [he]; rfl
    clear hr hs
    go_enter Tryd.func47, Tryd.ntmps47
    go_wp2
    go_ret
    exact ⟨ybool HV.out, Bel.refl _⟩
  | false =>
    obtain ⟨t, ht⟩ : ∃ t : ByteArray, t = ⟨(Lib.trimS s.data.toList digitSet).toArray⟩ := ⟨_, rfl⟩
    have CT : Hid (∀ W : World, Calls Tryd.prog 57 #[.string s, .string ⟨#[48, 49, 50, 51, 52, 53, 54, 55, 56, 57]⟩] W fun e w' => e = .returned (.string t) ∧ Bel W w') := fun W => ht ▸ trim_h hs W
    have hb : t.toList.isEmpty = r := by
      rw [ht, Lib.toList_data]
      show (Lib.trimS s.data.toList digitSet).isEmpty = r
      rw [trim_digits, ← hr]; unfold digitsB
      rw [Lib.toList_data] at he
      rw [he]; rfl
    clear ht hs hr
    go_enter Tryd.func47, Tryd.ntmps47
    go_wp2_with (first | (go_at_call 57; (with_reducible refine (CT.out _).mono ?_); rintro e w1 ⟨rfl, HB⟩) | fail)
    go_ret
    exact ⟨rfl, HB⟩
theorem resB_lit {s : ByteArray} (h : s = perB ∨ s = andB ∨ s = sqB ∨ s = cuB) : resB s = true := by
  rcases h with rfl | rfl | rfl | rfl <;> decide +kernel
set_option maxHeartbeats 2000000 in
theorem isReserved_h {s : ByteArray} {r : Bool} (hs : s.size ≤ 9223372036854775807) (hr : resB s = r) (w : World) : Calls Tryd.prog 34 #[.string s] w (RetB w r) := by
  by_cases h1 : s = perB ∨ s = andB ∨ s = sqB ∨ s = cuB
  · rw [resB_lit h1] at hr
    subst hr
    clear hs
    rcases h1 with rfl | rfl | rfl | rfl
    all_goals
      (first | unfold perB | unfold andB | unfold sqB | unfold cuB)
      go_enter Tryd.func34, Tryd.ntmps34
      go_wp2
      go_ret
      exact ⟨rfl, Bel.refl _⟩
  · have n1 : s ≠ perB := fun h => h1 (.inl h)
    have n2 : s ≠ andB := fun h => h1 (.inr (.inl h))
    have n3 : s ≠ sqB := fun h => h1 (.inr (.inr (.inl h)))
    have n4 : s ≠ cuB := fun h => h1 (.inr (.inr (.inr h)))
    have d1 : (s.toList == [112, 101, 114]) = false := str_lit n1 rfl
    have d2 : (s.toList == [97, 110, 100]) = false := str_lit n2 rfl
    have d3 : (s.toList == [115, 113, 117, 97, 114, 101]) = false := str_lit n3 rfl
    have d4 : (s.toList == [99, 117, 98, 105, 99]) = false := str_lit n4 rfl
    obtain ⟨b1, hb1⟩ : ∃ b, digitsB s.data.toList = b := ⟨_, rfl⟩
    obtain ⟨b2, hb2⟩ : ∃ b, Lib.hasPrefix s.data.toList powB.data.toList = b := ⟨_, rfl⟩
    obtain ⟨t, ht⟩ : ∃ t : ByteArray, t = ⟨(Lib.trimPrefix s.data.toList powB.data.toList).toArray⟩ := ⟨_, rfl⟩
    obtain ⟨b3, hb3⟩ : ∃ b, digitsB t.data.toList = b := ⟨_, rfl⟩
    have hts : t.size ≤ 9223372036854775807 := by
      rw [ht, Lib.size_eq]
      show (Lib.trimPrefix s.data.toList powB.data.toList).length ≤ _
      rw [Lib.size_eq] at hs
      unfold Lib.trimPrefix
      split
      · rw [List.length_drop]; omega
      · exact hs
    have HV : Hid ((b1 || (b2 && b3)) = r) := by
      unfold Hid; rw [← hr]; unfold resB
      rw [decide_eq_false n1, decide_eq_false n2, decide_eq_false n3, decide_eq_false n4, hb1, hb2]
      cases b2 with
      | false => rfl
      | true =>
        have e : t.data.toList = s.data.toList.drop 3 := by
          rw [ht]
          show Lib.trimPrefix s.data.toList powB.data.toList = _
          unfold Lib.trimPrefix
          rw [hb2]; rfl
        rw [← e, hb3]; rfl
    have CC : Hid (∀ W : World, Calls Tryd.prog 46 #[.string s, .string ⟨#[112, 111, 119]⟩] W fun e w' => e = .returned (.tuple #[.string t, .bool b2]) ∧ W = w') := fun W => (Tryd.strings_CutPrefix s powB W).mono fun e w' ⟨h1, h3⟩ => ⟨by rw [h1, ht, hb2], h3.symm⟩
    have CD1 : Hid (∀ W : World, Calls Tryd.prog 47 #[.string s] W (RetB W b1)) := fun W => isDigits_h hs hb1 W
    have CD2 : Hid (∀ W : World, Calls Tryd.prog 47 #[.string t] W (RetB W b3)) := fun W => isDigits_h hts hb3 W
    clear hb1 hb2 hb3 ht hts hs hr n1 n2 n3 n4 h1
    cases b1 <;> cases b2
    all_goals
      go_enter Tryd.func34, Tryd.ntmps34
      go_wp2_with (first | (go_at_call 46; (with_reducible refine (CC.out _).mono ?_); rintro e w1 ⟨rfl, rfl⟩) | (go_at_call 47; (with_reducible refine (CD1.out _).mono ?_); rintro e w2 ⟨rfl, HB⟩) | (go_at_call 47; (with_reducible refine (CD2.out _).mono ?_); rintro e w3 ⟨rfl, HB2⟩; replace HB := HB.up HB2.hid) | fail)
      go_ret
      exact ⟨ybool HV.out, HB⟩
end Go.Proofs.YtkjcnpckajpogaaDoor
