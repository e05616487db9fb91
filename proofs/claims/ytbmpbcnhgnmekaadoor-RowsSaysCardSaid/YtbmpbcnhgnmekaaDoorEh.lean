/- strings.Replace of one byte by another; rows.Blank. Conditions: texts of at most 1000000 bytes. -/
import Derived.Test.YtbmpbcnhgnmekaaDoorEd
open Go.RowKit
set_option maxRecDepth 100000
namespace Go.Proofs.YtbmpbcnhgnmekaaDoor
/-- A space for an underscore. -/
def bl (c : UInt8) : UInt8 := if c = 95 then 32 else c
def blankL (l : List UInt8) : List UInt8 := l.map bl
def blankB (s : ByteArray) : ByteArray := ⟨(blankL s.data.toList).toArray⟩
section
variable {l : List UInt8} {j start : Nat}
theorem blank_none (h : ¬ (95 : UInt8) ∈ l) : blankL l = l := by
  unfold blankL
  conv => rhs; rw [← List.map_id l]
  refine List.map_congr_left fun c hc => ?_
  unfold bl
  have hne : c ≠ 95 := fun e => h (by rw [← e]; exact hc)
  rw [if_neg hne]; rfl
theorem cnt_pos {l : List UInt8} (h : 0 < l.count 95) : ∃ j : Nat, Lib.indexByte l 95 = (j : Int) := by
  have h1 := Lib.indexByte_ge l 95
  have h2 : Lib.indexByte l 95 ≠ -1 := fun e => by
    obtain ⟨k, hk, e2⟩ := List.getElem_of_mem (List.count_pos_iff.1 h)
    exact Lib.indexByte_none e k (by rw [List.getElem?_eq_getElem hk, e2])
  exact ⟨(Lib.indexByte l 95).toNat, by omega⟩
theorem idx_split {l : List UInt8} (h : Lib.indexByte l 95 = (j : Int)) : j < l.length ∧ l = l.take j ++ 95 :: l.drop (j + 1) ∧ ¬ (95 : UInt8) ∈ l.take j := by
  obtain ⟨h1, h2⟩ := Lib.indexByte_some h
  obtain ⟨hi, h3⟩ := List.getElem?_eq_some_iff.1 h1
  refine ⟨hi, ?_, fun hm => ?_⟩
  · conv => lhs; rw [← List.take_append_drop j l]
    rw [List.drop_eq_getElem_cons hi, h3]
  · obtain ⟨k, hk, e⟩ := List.getElem_of_mem hm
    rw [List.length_take] at hk
    rw [List.getElem_take] at e
    exact h2 k (by omega) (by rw [List.getElem?_eq_getElem (by omega), e])
/-- One underscore more. -/
theorem blank_step (h : Lib.indexByte (l.drop start) 95 = (j : Int)) : start + j < l.length ∧ blankL (l.take start) ++ (l.drop start).take j ++ [32] = blankL (l.take (start + j + 1)) ∧ (l.drop (start + j + 1)).count 95 + 1 = (l.drop start).count 95 := by
  obtain ⟨h1, h2, h3⟩ := idx_split h
  rw [List.length_drop] at h1
  refine ⟨by omega, ?_, ?_⟩
  · have e1 : l.take (start + j + 1) = l.take start ++ ((l.drop start).take j ++ [95]) := by
      rw [show start + j + 1 = start + (j + 1) by omega, List.take_add]
      congr 1
      rw [List.take_succ_eq_append_getElem (by rw [List.length_drop]; omega)]
      congr 1
      have h4 := (Lib.indexByte_some h).1
      rw [(List.getElem?_eq_some_iff.1 h4).2]
    rw [e1]
    have e2 := blank_none h3
    unfold blankL at e2 ⊢
    rw [List.map_append, List.map_append, e2, List.append_assoc]
    rfl
  · conv => rhs; rw [h2]
    rw [List.count_append, List.count_cons_self, List.count_eq_zero.2 h3, List.drop_drop]
    rw [show start + (j + 1) = start + j + 1 by omega]; omega
theorem blank_end (h : (l.drop start).count 95 = 0) : blankL (l.take start) ++ l.drop start = blankL l := by
  have e := blank_none (List.count_eq_zero.1 h)
  unfold blankL at e ⊢
  conv => rhs; rw [← List.take_append_drop start l, List.map_append, e]
end
set_option maxHeartbeats 8000000 in
theorem replace_any {s : ByteArray} (hs : s.size ≤ 1000000) (w : World) : Calls Tryd.prog 28 #[.string s, .string ⟨#[95]⟩, .string ⟨#[32]⟩, .int .i64 (-1)] w fun e w' => e = .returned (.string (blankB s)) ∧ Hid (Below w.heap.size w w') := by
  obtain ⟨l, hl⟩ : ∃ l, l = s.data.toList := ⟨_, rfl⟩
  obtain ⟨K, hK⟩ : ∃ K : Nat, l.count 95 = K := ⟨_, rfl⟩
  have hKs : K ≤ 1000000 := by
    have h1 := List.count_le_length (a := (95 : UInt8)) (l := l)
    rw [hl, ← Lib.size_eq, ← hl] at h1; omega
  have CC : Hid (∀ V, Calls Tryd.prog 32 #[.string s, .string ⟨#[95]⟩] V fun e w' => e = .returned (.int .i64 (K : Int)) ∧ w' = V) := fun V => by
    have h1 := Tryd.strings_Count_one s 95 V
    rw [← hl, show Lib.countByte l 95 = l.count 95 from rfl, hK] at h1
    exact h1
  have HL := ehide hl
  by_cases hk0 : K = 0
  · have HE : Hid (s = blankB s) := bytes_eq (by
      show s.data.toList = blankL s.data.toList
      rw [← hl]
      exact (blank_none (List.count_eq_zero.1 (by rw [hK, hk0]))).symm)
    subst hk0
    clear hK hl
    go_enter Tryd.func28, Tryd.ntmps28
    go_wp2_with (first | (go_at_call 32; (with_reducible refine (CC.out _).mono ?_); rintro e w1 ⟨rfl, hw⟩; rw [hw]; clear hw) | fail)
    go_ret
    exact ⟨by show Ending.returned (.string s) = _; rw [← HE.out], Below.refl _ _⟩
  · have hkz : ((K : Int) == 0) = false := by rw [beq_eq_false_iff_ne]; omega
    have HK := ehide hK
    have HK0 := ehide hk0
    clear hK hl hk0
    go_enter Tryd.func28, Tryd.ntmps28
    go_wp2_with (first | (go_at_call 32; (with_reducible refine (CC.out _).mono ?_); rintro e w1 ⟨rfl, hw⟩; rw [hw]; clear hw) | fail)
    refine (Tryd.Builder_Grow_fresh w.heap.size w.heap.size s.size _ (Nat.le_refl _) (World.alloc_heap_new w _) (by simp) (by omega)).mono ?_
    rintro e w1 ⟨rfl, hb0, hb1⟩
    have H1 : Hid (Lib.IsBuilder 50 5 w.heap.size w.heap.size (Lib.byteCells (blankL (l.take 0))) w1) := Or.inr hb0
    have Hb1 : Hid (Below w.heap.size w w1) := ((Below.refl w.heap.size w).alloc (Nat.le_refl _) _).trans hb1
    clear hb0 hb1 CC
    have HS : Hid (l.length = s.size) := by rw [HL.out]; exact (Lib.size_eq s).symm
    go_wp2_with fail
    go_loopw [11, 53] (fun s11 s53 wx => ∃ i start : Nat, s53 = .int .i64 (i : Int) ∧ s11 = .int .i64 (start : Int) ∧ i ≤ K ∧ start ≤ s.size ∧ Hid ((l.drop start).count 95 + i = K) ∧
      Hid (Lib.IsBuilder 50 5 w.heap.size w.heap.size (Lib.byteCells (blankL (l.take start))) wx) ∧ Hid (Below w.heap.size w wx)) (fun _ s53 _ => K - (intOf s53).toNat)
    case atStart => exact ⟨0, 0, rfl, rfl, Nat.zero_le _, Nat.zero_le _, by unfold Hid; rw [List.drop_zero, HK.out]; rfl, H1, Hb1⟩
    case round =>
      obtain ⟨i, start, rfl, rfl, hi, hst, hcn, HB, HW⟩ := hrel
      have hBw : w.heap.size ≤ wr.heap.size := HW.out.size
      have HBW := ehide hBw
      have c1 : (0 : Int) ≤ (start : Int) := by omega
      have c2 : (start : Int) ≤ (s.size : Int) := by omega
      by_cases hlt : i < K
      · obtain ⟨j, hj⟩ := cnt_pos (l := l.drop start) (by have := hcn.out; omega)
        obtain ⟨j1, j2, j3⟩ := blank_step hj
        rw [HS.out] at j1
        have CI : Hid (∀ V, Calls Tryd.prog 33 #[.string (s.extract start s.size), .string ⟨#[95]⟩] V fun e w' => e = .returned (.int .i64 (j : Int)) ∧ w' = V) := fun V => by
          have h1 := Tryd.strings_Index_one (s.extract start s.size) 95 V
          rw [Lib.extract_to_end, ← HL.out, hj] at h1
          exact h1
        have J2 := ehide j2
        have J3 := ehide j3
        have HT : Hid ((blankL (l.take start)).length = start) := by unfold Hid blankL; rw [List.length_map, List.length_take, HS.out]; omega
        have HTJ : Hid (Lib.strCells (s.extract start (start + j)) = Lib.byteCells ((l.drop start).take j)) := by
          unfold Hid
          rw [Lib.strCells_eq, Lib.extract_data, Nat.add_sub_cancel_left, HL.out]
        have HEX : Hid ((s.extract start (start + j)).size = j) := by unfold Hid; rw [ByteArray.size_extract]; omega
        have c3 : (start : Int) ≤ (start : Int) + (j : Int) := by omega
        have c4 : (start : Int) + (j : Int) ≤ (s.size : Int) := by omega
        have w1' : IntKind.i64.wrap ((start : Int) + (j : Int)) = (start : Int) + (j : Int) := IntWalk.i64_in _ (by omega)
        have w2' : IntKind.i64.wrap ((start : Int) + (j : Int) + 1) = (start : Int) + (j : Int) + 1 := IntWalk.i64_in _ (by omega)
        clear hj j2 j3 hBw
        go_wp2_with (first | (go_at_call 33; (with_reducible refine (CI.out _).mono ?_); rintro e w2 ⟨rfl, hw⟩; rw [hw]; clear hw) | fail)
        refine (Tryd.writeString w.heap.size w.heap.size _ (s.extract start (start + j)) wr HB.out (by rw [Lib.byteCells_length, HT.out, HEX.out]; omega) HBW.out).mono ?_
        rintro e w3 ⟨rfl, h3, hb3⟩
        have HZ3 := ehide (Nat.le_trans HBW.out hb3.size)
        have H3 := ehide h3
        have Hb3 := ehide (HW.out.trans hb3)
        clear h3 hb3
        go_wp2_with fail
        refine (Tryd.writeString w.heap.size w.heap.size _ ⟨#[32]⟩ w3 (Or.inr H3.out) (by rw [List.length_append, Lib.byteCells_length, HT.out, Lib.strCells_length, HEX.out]; show start + j + 1 ≤ 140737488355328; omega) HZ3.out).mono ?_
        rintro e w4 ⟨rfl, h4, hb4⟩
        have H4 : Hid (Lib.IsBuilder 50 5 w.heap.size w.heap.size (Lib.byteCells (blankL (l.take (start + j + 1)))) w4) := by
          rw [HTJ.out, Lib.strCells_eq, ← Lib.byteCells_append, ← Lib.byteCells_append] at h4
          rw [← J2.out]
          exact Or.inr h4
        have Hb4 := ehide (Hb3.out.trans hb4)
        clear h4 hb4
        go_wp2
        go_roundw
        case rel => exact ⟨i + 1, start + j + 1, by go_num, by go_num, by omega, by omega, by have := J3.out; have := hcn.out; unfold Hid; omega, H4, Hb4⟩
        case measure => simp [intOf]; omega
      · obtain rfl : i = K := by omega
        have HF := ehide (blank_end (l := l) (start := start) (by have := hcn.out; omega))
        have HT : Hid ((blankL (l.take start)).length = start) := by unfold Hid blankL; rw [List.length_map, List.length_take, HS.out]; omega
        clear hBw
        go_wp2_with fail
        refine (Tryd.writeString w.heap.size w.heap.size _ (s.extract start s.size) wr HB.out (by rw [Lib.byteCells_length, HT.out, ByteArray.size_extract]; omega) HBW.out).mono ?_
        rintro e w3 ⟨rfl, h3, hb3⟩
        have H3 : Hid (Lib.IsBuilder 50 5 w.heap.size w.heap.size (Lib.byteCells (blankL l)) w3) := by
          rw [Lib.strCells_eq, Lib.extract_to_end, ← Lib.byteCells_append, ← HL.out, HF.out] at h3
          exact Or.inr h3
        have Hb3 := ehide (HW.out.trans hb3)
        have HZ3 := ehide (Nat.le_trans HBW.out hb3.size)
        clear h3 hb3
        go_wp2_with fail
        refine (Tryd.Builder_String_any w.heap.size w.heap.size _ w3 H3.out HZ3.out).mono ?_
        rintro e w5 ⟨rfl, hb5⟩
        have Hb5 := ehide (Hb3.out.trans hb5)
        clear hb5
        go_wp2
        go_ret
        refine ⟨?_, Hb5⟩
        show Ending.returned (.string ⟨(blankL l).toArray⟩) = _
        rw [HL.out]; rfl
theorem blank_any {s t : ByteArray} (hs : s.size ≤ 1000000) (ht : blankB s = t) (w : World) : Calls Tryd.prog 13 #[.string s] w fun e w' => e = .returned (.string t) ∧ Hid (Below w.heap.size w w') := by
  have CR : Hid (∀ V, Calls Tryd.prog 28 #[.string s, .string ⟨#[95]⟩, .string ⟨#[32]⟩, .int .i64 (-1)] V fun e w' => e = .returned (.string t) ∧ Hid (Below V.heap.size V w')) := fun V => by rw [← ht]; exact replace_any hs V
  have CA : Hid (∀ V, Calls Tryd.prog 21 #[.string s, .string ⟨#[95]⟩, .string ⟨#[32]⟩] V fun e w' => e = .returned (.string t) ∧ Hid (Below V.heap.size V w')) := fun V => by
    go_enter Tryd.func21, Tryd.ntmps21
    go_wp2_with (first | (go_at_call 28; (with_reducible refine (CR.out _).mono ?_); rintro e w1 ⟨rfl, hb⟩) | fail)
    go_ret
    exact ⟨rfl, hb⟩
  go_enter Tryd.func13, Tryd.ntmps13
  go_wp2_with (first | (go_at_call 21; (with_reducible refine (CA.out _).mono ?_); rintro e w1 ⟨rfl, hb⟩) | fail)
  go_ret
  exact ⟨rfl, hb⟩
end Go.Proofs.YtbmpbcnhgnmekaaDoor
