/- strings.Cut at a slash. Conditions: a string of at most 100000 bytes. -/
import Derived.Test.YtphnmccpcjecnaaGreatDoorGDsbc13
import Derived.Lib.Bytealg
import Derived.Lib.IndexLaws
open Go.RowKit
set_option maxRecDepth 100000
namespace Go.Proofs.YtphnmccpcjecnaaGreatDoor
theorem ixbyte_any (s : ByteArray) (w : World) : Calls Tryz.prog 154 #[.string s, .int .u8 47] w fun e w' => e = .returned (.int .i64 (Lib.indexByte s.data.toList 47)) ∧ w = w' := by
  go_enter Tryz.func154, Tryz.ntmps154
  go_wp2_with fail
  rw [run_callFunc_extern Tryz.func167 (by kernel_rfl) (by kernel_rfl) (by kernel_rfl) (e := Extern.BytealgIndexByte.indexByte) (by kernel_rfl), Lib.run_indexByteString]
  simp only [Result.andThen]
  rw [Oper.upon_value]
  go_wp2
  go_ret
  exact ⟨rfl, rfl⟩
theorem index_any (s : ByteArray) (w : World) {v : Int} (hv : Lib.indexByte s.data.toList 47 = v) : Calls Tryz.prog 133 #[.string s, .string ⟨#[47]⟩] w fun e w' => e = .returned (.int .i64 v) ∧ w = w' := by
  subst hv
  have CI := hide (fun W => ixbyte_any s W)
  cases hb : ([47] == s.toList)
  · go_enter Tryz.func133, Tryz.ntmps133
    go_wp2_with (first | (go_at_call 154; (refine (CI.out _).mono ?_); rintro e w1 ⟨rfl, rfl⟩) | fail)
    go_ret
    exact ⟨rfl, rfl⟩
  · have HV : Hid (Lib.indexByte s.data.toList 47 = 0) := by
      have h1 : [47] = s.toList := beq_iff_eq.1 hb
      unfold Hid
      rw [← toList_data, ← h1]; rfl
    go_enter Tryz.func133, Tryz.ntmps133
    go_wp2_with (first | (go_at_call 154; (refine (CI.out _).mono ?_); rintro e w1 ⟨rfl, rfl⟩) | fail)
    go_ret
    exact ⟨by rw [HV.out]; rfl, rfl⟩
/-- What Cut leaves: what is ahead of the first slash and behind it. -/
def SlashR (w : World) (s : ByteArray) (e : Ending) (w' : World) : Prop :=
  ∃ (t u : ByteArray) (b : Bool), e = .returned (.tuple #[.string t, .string u, .bool b]) ∧ Hid ((b = true → s.data.toList = t.data.toList ++ 47 :: u.data.toList) ∧ (b = false → t = s) ∧ ¬ (47 : UInt8) ∈ t.data.toList) ∧ Hid (Below w.heap.size w w')
theorem cutl_any (s : ByteArray) (w : World) (hs : s.size ≤ 100000) : Calls Tryz.prog 90 #[.string s, .string ⟨#[47]⟩] w (SlashR w s) := by
  obtain ⟨v, hv⟩ : ∃ v, Lib.indexByte s.data.toList 47 = v := ⟨_, rfl⟩
  have CI := hide (fun W => index_any s W hv)
  have hge := Lib.indexByte_ge s.data.toList 47
  rw [hv] at hge
  by_cases hm : v = -1
  · subst hm
    have HN := hide (Lib.indexByte_none hv)
    clear hv hge
    go_enter Tryz.func90, Tryz.ntmps90
    go_wp2_with (first | (go_at_call 133; (with_reducible refine (CI.out _).mono ?_); rintro e w1 ⟨rfl, rfl⟩) | fail)
    refine bodyPost_ret (v := .tuple #[.string s, .string ⟨#[]⟩, .bool false]) (by simp [results, Tryz.results90, go_sem]) rfl ?_
    refine ⟨s, _, false, rfl, ⟨(fun h => by cases h), (fun _ => rfl), fun h => ?_⟩, Below.refl _ _⟩
    obtain ⟨k, hk⟩ := List.mem_iff_getElem?.1 h
    exact HN.out k hk
  · obtain ⟨i, rfl⟩ : ∃ i : Nat, v = (i : Int) := ⟨v.toNat, by omega⟩
    obtain ⟨h1, h2⟩ := Lib.indexByte_some hv
    have hi : i < s.data.toList.length := by
      rcases Nat.lt_or_ge i s.data.toList.length with h | h
      · exact h
      · rw [List.getElem?_eq_none h] at h1; cases h1
    have hsz := size_list s
    have H1 := hide h1
    have H2 := hide h2
    have hi2 : i < s.size := by omega
    have hi3 : i + 1 ≤ s.size := by omega
    have q0 : (0 : Int) ≤ (i : Int) := by omega
    have q1 : (i : Int) ≤ (s.size : Int) := by omega
    have q2 : (0 : Int) ≤ (i : Int) + 1 := by omega
    have q3 : (i : Int) + 1 ≤ (s.size : Int) := by omega
    have HE : Hid (IntKind.i64.wrap ((i : Int) + 1) = (i : Int) + 1) := IntWalk.i64_in _ (by omega)
    have HT : Hid (((i : Int) + 1).toNat = i + 1) := by unfold Hid; omega
    have HSZ := hide hsz
    clear hv hge hm h1 h2 hi hsz
    go_enter Tryz.func90, Tryz.ntmps90
    go_wp2_with (first | (go_at_call 133; (with_reducible refine (CI.out _).mono ?_); rintro e w1 ⟨rfl, rfl⟩) | fail)
    have e1 := HE.out
    have e2 := HT.out
    go_quiet (fail)
    clear e1 e2
    go_wp2
    refine bodyPost_ret (v := .tuple #[.string (s.extract 0 i), .string (s.extract (i + 1) s.size), .bool true]) (by simp [results, Tryz.results90, go_sem]) rfl ?_
    refine ⟨_, _, true, rfl, ⟨fun _ => ?_, (fun h => by cases h), fun h => ?_⟩, below_drewN (Below.refl _ _) _⟩
    · have h1 := H1.out
      have hl : i < s.data.toList.length := by rw [← HSZ.out]; exact hi2
      rw [List.getElem?_eq_getElem hl] at h1
      injection h1 with h1
      rw [extract_list, extract_list, List.drop_zero, List.take_of_length_le (Nat.le_of_eq HSZ.out.symm), ← h1, ← List.drop_eq_getElem_cons hl, List.take_append_drop]
    · rw [extract_list, List.drop_zero] at h
      obtain ⟨k, hk⟩ := List.mem_iff_getElem?.1 h
      rw [List.getElem?_take] at hk
      split at hk
      · exact H2.out k (by assumption) hk
      · cases hk
theorem slash_any (s : ByteArray) (w : World) (hs : s.size ≤ 100000) : Calls Tryz.prog 44 #[.string s, .string ⟨#[47]⟩] w (SlashR w s) := by
  have CH := hide (fun W => cutl_any s W hs)
  go_enter Tryz.func44, Tryz.ntmps44
  go_wp2_with (first | (go_at_call 90; (with_reducible refine (CH.out _).mono ?_); rintro e w1 ⟨t, u, b, rfl, ht, hbk⟩) | fail)
  exact bodyPost_ret (v := .tuple #[.string t, .string u, .bool b]) (by simp [results, Tryz.results44, go_sem]) rfl ⟨t, u, b, rfl, ht, hbk⟩
end Go.Proofs.YtphnmccpcjecnaaGreatDoor
