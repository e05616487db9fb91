/- strings.TrimRight at noughts; package dec: Short. Conditions: numbers of at most 99999 words. -/
import Derived.Test.YtphnmccpcjecnaaGreatDoorGDsbc25
open Go.RowKit
set_option maxRecDepth 100000
namespace Go.Proofs.YtphnmccpcjecnaaGreatDoor
theorem strip_yes {l : List UInt8} : strip (l ++ [48]) = strip l := by
  unfold strip
  rw [List.reverse_append, List.reverse_singleton, List.singleton_append, List.dropWhile_cons, if_pos (by rfl)]
theorem strip_no {l : List UInt8} {d : UInt8} (h : d ≠ 48) : strip (l ++ [d]) = l ++ [d] := by
  unfold strip
  rw [List.reverse_append, List.reverse_singleton, List.singleton_append, List.dropWhile_cons, if_neg (by simpa using h), List.reverse_cons, List.reverse_reverse]
def StripPost (l : List UInt8) (w : World) (e : Ending) (w' : World) : Prop := ∃ t : ByteArray, e = .returned (.string t) ∧ Hid (t.data.toList = strip l) ∧ w = w'
theorem cut_last {t : ByteArray} {k : Nat} (hk : t.size = k + 1) (h : k < t.size) : t.data.toList = (t.extract 0 k).data.toList ++ [t[k]] := by
  rw [extract_list, List.drop_zero, ← take_snoc h, ← hk, List.take_of_length_le (show t.data.toList.length ≤ t.size from Nat.le_refl _)]
set_option maxHeartbeats 1000000 in
theorem trimR_any (s : ByteArray) (w : World) (hs : s.size ≤ 100000) :
    Calls Tryz.prog 112 #[.string s, .int .u8 48] w (StripPost s.data.toList w) := by
  go_enter Tryz.func112, Tryz.ntmps112
  go_wp2
  go_loop [0] (fun sv => ∃ t : ByteArray, sv = .string t ∧ Hid (strip s.data.toList = strip t.data.toList) ∧ t.size ≤ s.size) (fun sv => match sv with | .string t => t.size | _ => 0)
  case atStart => exact ⟨s, rfl, rfl, Nat.le_refl _⟩
  case round =>
    obtain ⟨t, rfl, ht, hts⟩ := hrel
    by_cases h0 : t.size = 0
    · have HZ := hide h0
      have h1 : ¬ 0 < t.size := by omega
      clear h0
      go_wp2
      go_ret
      exact ⟨t, rfl, by unfold Hid; rw [ht.out, List.eq_nil_of_length_eq_zero (show t.data.toList.length = 0 from HZ.out)]; rfl, rfl⟩
    · obtain ⟨k, hk⟩ : ∃ k, t.size = k + 1 := ⟨t.size - 1, by omega⟩
      have h1 : 0 < t.size := by omega
      have h2 : k < t.size := by omega
      have hw : IntKind.i64.wrap ((t.size : Int) - 1) = (k : Int) := by rw [IntWalk.i64_in _ (by omega)]; omega
      have q0 : (0 : Int) ≤ (k : Int) := by omega
      have q1 : (k : Int) < (t.size : Int) := by omega
      have q2 : (k : Int) ≤ (t.size : Int) := by omega
      have HK := hide hk
      have HT := hide (cut_last hk h2)
      by_cases hx : t[k] = 48
      · have HX := hide hx
        have hxt : ((t[k].toNat : Int) == 48) = true := by rw [hx]; rfl
        clear hx hk h0
        go_wp2
        go_round
        case rel => exact ⟨_, rfl, by unfold Hid; rw [ht.out, HT.out, HX.out, strip_yes], by simp; omega⟩
        case measure => simp; omega
      · have HX := hide hx
        have hxt : ((t[k].toNat : Int) == 48) = false := by
          rw [beq_eq_false_iff_ne]
          intro e
          exact hx (UInt8.toNat_inj.1 (by simpa using (show t[k].toNat = 48 by omega)))
        clear hx hk h0
        go_wp2
        go_ret
        exact ⟨t, rfl, by unfold Hid; rw [ht.out, HT.out, strip_no HX.out], rfl⟩
theorem TrimRight_any (s : ByteArray) (w : World) (hs : s.size ≤ 100000) :
    Calls Tryz.prog 66 #[.string s, .string ⟨#[48]⟩] w (StripPost s.data.toList w) := by
  have CT := hide (fun W => trimR_any s W hs)
  by_cases h0 : s.size = 0
  · have hl : s.toList = [] := by rw [Lib.toList_data]; exact List.eq_nil_of_length_eq_zero h0
    have HL : Hid (s.data.toList = []) := List.eq_nil_of_length_eq_zero h0
    clear h0 hs
    go_enter Tryz.func66, Tryz.ntmps66
    go_wp2
    go_ret
    exact ⟨s, rfl, by unfold Hid; rw [HL.out]; rfl, rfl⟩
  · have hl : s.toList.isEmpty = false := by
      rw [Lib.toList_data]
      cases h : s.data.toList with
      | nil => exact absurd (show s.size = 0 by rw [size_list, h]; rfl) h0
      | cons a l => rfl
    clear h0 hs
    go_enter Tryz.func66, Tryz.ntmps66
    go_wp2_with (first | (go_at_call 112; (refine (CT.out _).mono ?_); rintro e w' ⟨t, rfl, ht, rfl⟩) | fail)
    go_ret
    exact ⟨t, rfl, ht, rfl⟩
end Go.Proofs.YtphnmccpcjecnaaGreatDoor
