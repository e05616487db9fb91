/- The document's own Parse. Conditions: at most 100000 letters. -/
import Derived.Test.YtcidclajfbnfoaaDoorRfb
import Derived.Test.YtcidclajfbnfoaaDoorPar
open Go.RowKit
set_option maxRecDepth 100000
namespace Go.Proofs.YtcidclajfbnfoaaDoor
def RefParse (w : World) (l : List UInt8) (e : Ending) (w' : World) : Prop :=
  if l.all isDig = true then ∃ A c, e = .returned (.tuple #[.slice A (dq (numL l)) c, .bool (!l.isEmpty)]) ∧ Hid (RN w' w'.heap.size A c (numL l)) ∧ Hid (Below w.heap.size w w')
  else e = .returned (.tuple #[.slice none 0 0, .bool false]) ∧ w = w'
theorem chunk_snoc {s : ByteArray} {i f : Nat} (h : i < s.size) (hf : f ≤ i) : (s.data.toList.take (i + 1)).drop f = (s.data.toList.take i).drop f ++ [s[i]] := by
  rw [take_snoc h, List.drop_append_of_le_length]
  rw [List.length_take, ← size_list]; omega
theorem chunk_lt {l : List UInt8} {i f : Nat} (h : l.all isDig = true) (hi : i - f ≤ 4) : numL ((l.take i).drop f) ≤ 9999 := by
  have h1 := numL_lt ((l.take i).drop f) (by rw [List.all_eq_true]; exact fun c hc => List.all_eq_true.1 h c (List.mem_of_mem_take (List.mem_of_mem_drop hc)))
  have h2 : 10 ^ ((l.take i).drop f).length ≤ 10 ^ 4 := Nat.pow_le_pow_right (by omega) (by rw [List.length_drop, List.length_take]; omega)
  omega
theorem good4_snoc {l : List Nat} {x : Nat} (h : Good4 l) (hx : x < D4) : Good4 (l ++ [x]) := by
  intro y hy
  rcases List.mem_append.1 hy with hy | hy
  · exact h y hy
  · simp at hy; subst hy; exact hx
set_option maxHeartbeats 4000000 in
theorem rParse_yes (s : ByteArray) (w : World) (hs : s.size ≤ 100000) (hall : s.data.toList.all isDig = true) :
    Calls Tryd.prog 36 #[.string s] w (RefParse w s.data.toList) := by
  have HA := hide hall
  obtain ⟨i0, hi0, hz0, hz1, hz2⟩ := info_parts Tryd.infoInt
  have I0 := hide hi0
  have Z0 := hide hz0
  have Z1 := hide hz1
  have Z2 := hide hz2
  clear hi0 hz0 hz1 hz2 hall
  go_enter Tryd.func36, Tryd.ntmps36
  go_wp2
  go_loop [5] (fun iv => ∃ k : Nat, k ≤ s.size ∧ iv = .int .i64 (k : Int)) (fun iv => s.size - (intOf iv).toNat)
  case atStart => exact ⟨0, Nat.zero_le _, rfl⟩
  case round =>
    obtain ⟨k, hk, rfl⟩ := hrel
    by_cases hlt : k < s.size
    · obtain ⟨hd1, hd2⟩ := (dig_iff s[k]).1 (List.all_eq_true.1 HA.out _ (List.getElem_mem (l := s.data.toList) hlt))
      go_wp2
      go_round
      case rel => exact ⟨k + 1, by omega, by go_num⟩
      case measure => simp [intOf]; omega
    · go_wp2_with fail
      go_loopw [4, 6] (fun dv ev wr => ∃ (rem : Nat) (z : Int) (dd : List Nat), rem ≤ s.size ∧ ev = .int .i64 z ∧ (0 < rem → z = rem) ∧ (rem = 0 → z ≤ 0) ∧ -4 ≤ z ∧ dd.length + rem ≤ s.size + 4 ∧ Hid (Good4 dd) ∧ Hid (val D4 dd + D4 ^ dd.length * numL (s.data.toList.take rem) = numL s.data.toList) ∧
          Hid (wr.ownsRow w.heap.size 3 1 dv dd.length (dd.map I64)) ∧ Hid (Below w.heap.size w wr))
        (fun _ ev _ => (intOf ev).toNat)
      case atStart => exact ⟨s.size, (s.size : Int), [], Nat.le_refl _, rfl, fun _ => rfl, fun h => by omega, by omega, by simp, by intro x hx; simp at hx, by unfold Hid; rw [size_list, List.take_length]; simp [val], World.ownsRow_nil _ _ _ _, Below.refl _ _⟩
      case round =>
        obtain ⟨rem, z, dd, hrs, rfl, hz1, hz2, hz3, hlen, hdg, hval, hown, hbel⟩ := hrel
        by_cases h0 : rem = 0
        · have hz0 := hz2 h0
          have HV : Hid (val D4 dd = numL s.data.toList) := by
            have h1 := hval.out
            rw [h0, List.take_zero] at h1
            simpa [Hid, numL] using h1
          obtain ⟨A2, c2, he, hc, hr⟩ := row_rd hown.out
          cases he
          have HR := hide hr
          have hdl2 : dd.length ≤ 300000 := by omega
          clear hz1 hz2 h0
          go_wp2_with (first | (go_at_call 49; go_must (refine (rtrim_post rfl HV.out HR.out hdg.out (by omega) hc).mono ?_); rintro e w2 ⟨rfl, rfl⟩))
          go_ret2
          unfold RefParse
          rw [if_pos HA.out]
          refine ⟨A2, c2, ?_, rn_of rfl HV.out HR.out hdg.out hc, hbel⟩
          rw [← Lib.toList_data]; rfl
        · have hrp : 0 < rem := by omega
          have hzr := hz1 hrp
          subst hzr
          have hf : ∃ f, (f + 4 = rem ∨ (f = 0 ∧ rem < 4)) := by
            rcases Nat.lt_or_ge rem 4 with h | h
            · exact ⟨0, .inr ⟨rfl, h⟩⟩
            · exact ⟨rem - 4, .inl (by omega)⟩
          obtain ⟨f, hf⟩ := hf
          have HF := hide hf
          have hfr : f < rem := by omega
          have HNV : Hid (∀ v, v = numL ((s.data.toList.take rem).drop f) → val D4 (dd ++ [v]) + D4 ^ (dd ++ [v]).length * numL (s.data.toList.take f) = numL s.data.toList) := fun v hv => by
            have h1 := numL_append ((s.data.toList.take rem).take f) ((s.data.toList.take rem).drop f)
            rw [List.take_append_drop, ← hv, List.take_take, Nat.min_eq_left (by omega)] at h1
            have h2 := hval.out
            rw [h1] at h2
            rw [val_snoc, List.length_append, List.length_singleton, Nat.pow_succ, ← h2]
            have h3 : numL (s.data.toList.take f) * 10 ^ ((s.data.toList.take rem).drop f).length = D4 * numL (s.data.toList.take f) := by
              rcases HF.out with h | ⟨h, _⟩
              · have : ((s.data.toList.take rem).drop f).length = 4 := by rw [List.length_drop, List.length_take, ← size_list]; omega
                rw [this, Nat.mul_comm]; rfl
              · rw [h, List.take_zero]; simp [numL]
            rw [h3]
            generalize D4 ^ dd.length = P
            rw [Nat.mul_add, Nat.mul_assoc]; omega
          have HB : Hid (∀ (W : World) (u : Value), Below w.heap.size w W → w.heap.size ≤ (W.alloc (.cells #[u] 3)).heap.size) := fun W u hb => by have := hb.size; simp; omega
          have H63 : Hid (dd.length + 1 ≤ maxLen) := by simp only [maxLen, Hid]; omega
          have hdl2 : dd.length ≤ 300000 := by omega
          clear h0 hz1 hz2
          rcases hf with hfa | ⟨rfl, hfa⟩
          · subst hfa
            go_wp2_with fail
            go_loopw [7, 9] (fun nv iv wr2 => ∃ i v : Nat, f ≤ i ∧ i ≤ f + 4 ∧ nv = .int .i64 (v : Int) ∧ iv = .int .i64 (i : Int) ∧ v ≤ 9999 ∧ Hid (v = numL ((s.data.toList.take i).drop f)) ∧ wr2 = wr)
              (fun _ iv _ => f + 4 - (intOf iv).toNat)
            case atStart => exact ⟨f, 0, Nat.le_refl _, by omega, rfl, by first | rfl | go_num, by omega, by unfold Hid; rw [List.drop_of_length_le (by rw [List.length_take]; omega)]; rfl, rfl⟩
            case round =>
              obtain ⟨i, v, hfi, hie, rfl, rfl, hv9, hv, rfl⟩ := hrel
              by_cases hlt2 : i < f + 4
              · have his : i < s.size := by omega
                have hdi := List.all_eq_true.1 HA.out _ (List.getElem_mem (l := s.data.toList) his)
                obtain ⟨hd1, hd2⟩ := (dig_iff s[i]).1 hdi
                have HSN : Hid (numL ((s.data.toList.take (i + 1)).drop f) = v * 10 + (s[i].toNat - 48)) := by
                  unfold Hid
                  rw [chunk_snoc his hfi, numL_snoc, ← hv.out]
                have H99 : Hid (v * 10 + (s[i].toNat - 48) ≤ 9999) := by
                  unfold Hid
                  rw [← HSN.out]
                  exact chunk_lt HA.out (by omega)
                clear hdi
                go_wp2
                go_roundw
                case rel => exact ⟨i + 1, v * 10 + (s[i].toNat - 48), by omega, by omega, congrArg (Value.int .i64) (show _ = (((v * 10 + (s[i].toNat - 48) : Nat)) : Int) by omega), by go_num, H99.out, HSN.out.symm, by first | rfl | trivial⟩
                case measure => simp [intOf]; omega
              · obtain rfl : i = f + 4 := by omega
                have HN := hide (HNV.out v hv.out)
                have HB2 := hide (HB.out wr (.int .i64 (v : Int)) hbel.out)
                go_wp2_with (first | (at_builtin; go_must (refine wpList_append_own _ rfl (.tmp 50) (.tmp 52) 39 rfl w.heap.size 3 i0 (.int .i64 0) 1 8 Tryd.underlying39 I0.out Z0.out Z1.out Z2.out rfl (by decide) _ _ _ rfl (hown.out.alloc _) ⟨wr.heap.size, 0, none⟩ 1 1 [.int .i64 (v : Int)] rfl rfl (cell_one_new _ _ _) (by intro u hu; simp at hu; subst hu; rfl) H63.out (by omega) HB2.out ?_; intro v2 w3 hown' hgrow hnil)))
                go_roundw
                case rel =>
                  refine ⟨f, _, dd ++ [v], by omega, rfl, by omega, by omega, by omega, by rw [List.length_append, List.length_singleton]; omega, ?_, HN, ?_, app_below hown.out hbel.out (Nat.le_refl _) hgrow⟩
                  · exact good4_snoc hdg.out (by rw [D4_eq]; omega)
                  · unfold Hid; rw [List.length_append, List.map_append]; exact hown'
                case measure => simp [intOf]; omega
          · have hrem := hfa
            go_wp2_with fail
            go_loopw [7, 9] (fun nv iv wr2 => ∃ i v : Nat, 0 ≤ i ∧ i ≤ rem ∧ nv = .int .i64 (v : Int) ∧ iv = .int .i64 (i : Int) ∧ v ≤ 9999 ∧ Hid (v = numL ((s.data.toList.take i).drop 0)) ∧ wr2 = wr)
              (fun _ iv _ => rem - (intOf iv).toNat)
            case atStart => exact ⟨0, 0, Nat.le_refl _, by omega, rfl, by first | rfl | go_num, by omega, by unfold Hid; rw [List.drop_of_length_le (by rw [List.length_take]; omega)]; rfl, rfl⟩
            case round =>
              obtain ⟨i, v, hfi, hie, rfl, rfl, hv9, hv, rfl⟩ := hrel
              by_cases hlt2 : i < rem
              · have his : i < s.size := by omega
                have hdi := List.all_eq_true.1 HA.out _ (List.getElem_mem (l := s.data.toList) his)
                obtain ⟨hd1, hd2⟩ := (dig_iff s[i]).1 hdi
                have HSN : Hid (numL ((s.data.toList.take (i + 1)).drop 0) = v * 10 + (s[i].toNat - 48)) := by
                  unfold Hid
                  rw [chunk_snoc his hfi, numL_snoc, ← hv.out]
                have H99 : Hid (v * 10 + (s[i].toNat - 48) ≤ 9999) := by
                  unfold Hid
                  rw [← HSN.out]
                  exact chunk_lt HA.out (by omega)
                clear hdi
                go_wp2
                go_roundw
                case rel => exact ⟨i + 1, v * 10 + (s[i].toNat - 48), by omega, by omega, congrArg (Value.int .i64) (show _ = (((v * 10 + (s[i].toNat - 48) : Nat)) : Int) by omega), by go_num, H99.out, HSN.out.symm, by first | rfl | trivial⟩
                case measure => simp [intOf]; omega
              · obtain rfl : i = rem := by omega
                have HN := hide (HNV.out v hv.out)
                have HB2 := hide (HB.out wr (.int .i64 (v : Int)) hbel.out)
                go_wp2_with (first | (at_builtin; go_must (refine wpList_append_own _ rfl (.tmp 50) (.tmp 52) 39 rfl w.heap.size 3 i0 (.int .i64 0) 1 8 Tryd.underlying39 I0.out Z0.out Z1.out Z2.out rfl (by decide) _ _ _ rfl (hown.out.alloc _) ⟨wr.heap.size, 0, none⟩ 1 1 [.int .i64 (v : Int)] rfl rfl (cell_one_new _ _ _) (by intro u hu; simp at hu; subst hu; rfl) H63.out (by omega) HB2.out ?_; intro v2 w3 hown' hgrow hnil)))
                go_roundw
                case rel =>
                  refine ⟨0, _, dd ++ [v], by omega, rfl, by omega, by omega, by omega, by rw [List.length_append, List.length_singleton]; omega, ?_, HN, ?_, app_below hown.out hbel.out (Nat.le_refl _) hgrow⟩
                  · exact good4_snoc hdg.out (by rw [D4_eq]; omega)
                  · unfold Hid; rw [List.length_append, List.map_append]; exact hown'
                case measure => simp [intOf]; omega
set_option maxHeartbeats 1000000 in
theorem rParse_no (s : ByteArray) (w : World) (hs : s.size ≤ 100000) (hno : ¬ s.data.toList.all isDig = true) :
    Calls Tryd.prog 36 #[.string s] w (RefParse w s.data.toList) := by
  have HA := hide hno
  clear hno
  go_enter Tryd.func36, Tryd.ntmps36
  go_wp2
  go_loop [5] (fun iv => ∃ k : Nat, k ≤ s.size ∧ iv = .int .i64 (k : Int) ∧ Hid ((s.data.toList.take k).all isDig = true)) (fun iv => s.size - (intOf iv).toNat)
  case atStart => exact ⟨0, Nat.zero_le _, rfl, rfl⟩
  case round =>
    obtain ⟨k, hk, rfl, hall⟩ := hrel
    by_cases hlt : k < s.size
    · have HT := hide (take_snoc hlt)
      by_cases hd : isDig s[k] = true
      · obtain ⟨hd1, hd2⟩ := (dig_iff _).1 hd
        have HD := hide hd
        clear hd
        go_wp2
        go_round
        case rel => exact ⟨k + 1, by omega, by go_num, by unfold Hid; rw [HT.out, List.all_append, hall.out]; simp [HD.out]⟩
        case measure => simp [intOf]; omega
      · have hd' : ¬ (48 ≤ (s[k].toNat : Int) ∧ (s[k].toNat : Int) ≤ 57) := fun h => hd ((dig_iff _).2 h)
        clear hd
        by_cases h48 : 48 ≤ (s[k].toNat : Int)
        · have h57 : ¬ (s[k].toNat : Int) ≤ 57 := fun h => hd' ⟨h48, h⟩
          clear hd'
          go_wp2
          go_ret2
          unfold RefParse
          rw [if_neg HA.out]
          exact ⟨rfl, rfl⟩
        · clear hd'
          go_wp2
          go_ret2
          unfold RefParse
          rw [if_neg HA.out]
          exact ⟨rfl, rfl⟩
    · exact absurd (by have h := hall.out; rwa [List.take_of_length_le (by rw [← size_list]; omega)] at h) HA.out
theorem rParse_any (s : ByteArray) (w : World) (hs : s.size ≤ 100000) : Calls Tryd.prog 36 #[.string s] w (RefParse w s.data.toList) := by
  by_cases h : s.data.toList.all isDig = true
  · exact rParse_yes s w hs h
  · exact rParse_no s w hs h
end Go.Proofs.YtcidclajfbnfoaaDoor
