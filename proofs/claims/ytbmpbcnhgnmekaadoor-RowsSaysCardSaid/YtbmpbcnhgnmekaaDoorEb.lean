/- strings.SplitSeq at one byte: the function it hands out, as an iterator over the pieces. No conditions. -/
import Derived.Test.YtbmpbcnhgnmekaaDoorEa
import Derived.Test.YtbmpbcnhgnmekaaDoorEsh
import Derived.Test.YtbmpbcnhgnmekaaDoorYb
import Derived.Lib.IndexLaws
open Go.RowKit Go.Shelf
set_option maxRecDepth 100000
namespace Go.Proofs.YtbmpbcnhgnmekaaDoor
attribute [local go_sem] Oper.semAt_some
theorem ehide {p : Prop} (h : p) : Hid p := h
/-- Three boxes: the text that is left, the byte between, nought. -/
structure Box3 (W : World) (P : Nat) (c : UInt8) (s : ByteArray) : Prop where
  text : Boxed W P 9 (.string s)
  sep : Boxed W (P + 1) 9 (.string ⟨#[c]⟩)
  save : Boxed W (P + 2) 3 (.int .i64 0)
/-- What a round has to keep: these three blocks. -/
def Keep3 (P : Nat) (V V' : World) : Prop := ∀ i, i < 3 → V'.heap[P + i]? = V.heap[P + i]?
section
variable {V V' V'' W : World} {P : Nat} {c : UInt8} {s t : ByteArray}
theorem Keep3.trans (h : Keep3 P V V') (h' : Keep3 P V' V'') : Keep3 P V V'' := fun i hi => (h' i hi).trans (h i hi)
theorem Box3.keep (h : Box3 V P c s) (hk : Keep3 P V V') : Box3 V' P c s := ⟨(hk 0 (by omega)).trans h.text, (hk 1 (by omega)).trans h.sep, (hk 2 (by omega)).trans h.save⟩
theorem Box3.set (h : Box3 V P c s) (t : ByteArray) : Box3 (V.setCell ⟨P, 0, none⟩ (.string t)) P c t :=
  ⟨h.text.set _, h.sep.kept (grownBy_setCell' V P _) (by simp), h.save.kept (grownBy_setCell' V P _) (by simp)⟩
/-- How much is left, read off the world. -/
def left3 (P : Nat) (W : World) : Nat := match W.cell? ⟨P, 0, none⟩ with
  | some (.string s) => s.size
  | _ => 0
theorem Box3.left (h : Box3 V P c s) : left3 P V = s.size := by unfold left3; rw [h.text.cell]
end
/-- The pieces of a text between the bytes c. -/
def pieces (c : UInt8) (s : ByteArray) : List ByteArray := (cutBy c s.data.toList).map fun l => ⟨l.toArray⟩
section
variable {c : UInt8} {s : ByteArray} {i : Nat}
theorem pieces_data : (pieces c s).map (·.data.toList) = cutBy c s.data.toList := by
  unfold pieces
  rw [List.map_map]
  conv => rhs; rw [← List.map_id (cutBy c s.data.toList)]
  exact List.map_congr_left fun l _ => by simp
theorem bytes_eq {s t : ByteArray} (h : s.data.toList = t.data.toList) : s = t := ByteArray.ext (Array.ext' h)
theorem pieces_last (h : Lib.indexByte s.data.toList c = -1) : pieces c s = [s] := by
  have hn : c ∉ s.data.toList := fun hm => by
    obtain ⟨k, hk, e⟩ := List.getElem_of_mem hm
    exact Lib.indexByte_none h k (by rw [List.getElem?_eq_getElem hk, e])
  unfold pieces
  rw [cutBy_plain hn]
  rfl
theorem pieces_more (h : Lib.indexByte s.data.toList c = (i : Int)) : i < s.size ∧ pieces c s = s.extract 0 i :: pieces c (s.extract (i + 1) s.size) := by
  obtain ⟨h1, h2⟩ := Lib.indexByte_some h
  obtain ⟨hi, h3⟩ := List.getElem?_eq_some_iff.1 h1
  have hs : i < s.size := by rw [Lib.size_eq]; exact hi
  refine ⟨hs, ?_⟩
  have e0 : (s.extract 0 i).data.toList = s.data.toList.take i := by rw [Lib.extract_data, List.drop_zero, Nat.sub_zero]
  have e1 : (s.extract (i + 1) s.size).data.toList = s.data.toList.drop (i + 1) := by
    rw [Lib.extract_data, List.take_of_length_le (by rw [List.length_drop, ← Lib.size_eq]; omega)]
  have hn : c ∉ s.data.toList.take i := fun hm => by
    obtain ⟨k, hk, e⟩ := List.getElem_of_mem hm
    rw [List.length_take] at hk
    rw [List.getElem_take] at e
    exact h2 k (by omega) (by rw [List.getElem?_eq_getElem (by omega), e])
  have e2 : s.data.toList = s.data.toList.take i ++ c :: s.data.toList.drop (i + 1) := by
    conv => lhs; rw [← List.take_append_drop i s.data.toList]
    rw [List.drop_eq_getElem_cons hi, h3]
  unfold pieces
  rw [e1]
  conv => lhs; rw [e2]
  rw [cutBy_lead hn, List.map_cons, ← e0]
theorem pieces_len : (pieces c s).length ≤ s.size + 1 := by
  unfold pieces
  rw [List.length_map, Lib.size_eq]
  exact cutBy_le _
end
set_option maxHeartbeats 4000000 in
/-- The function that SplitSeq hands out. -/
theorem seq_at {n P : Nat} {c : UInt8} {s : ByteArray} {w : World} (hB : Box3 w P c s) (hs : s.size ≤ 140737488355328) :
    SeqAt Fence.wide n Tryd.prog 42 #[.pointer (some ⟨P + 1, 0, none⟩), .pointer (some ⟨P, 0, none⟩), .pointer (some ⟨P + 2, 0, none⟩)] P (Keep3 P) (pieces c s) w := by
  intro l J Jx W hW hJB hY h0
  have CI : Hid (∀ (x : ByteArray) (V : World), CallsIn Fence.wide (n - 1) Tryd.prog 33 #[.string x, .string ⟨#[c]⟩] V fun e w' => e = .returned (.int .i64 (Lib.indexByte x.data.toList c)) ∧ w' = V) := fun x V => callsIn_wide.2 (Tryd.strings_Index_one x c V)
  obtain ⟨N, hN⟩ : ∃ N, N = (pieces c s).length := ⟨_, rfl⟩
  have hB1 := hB.keep hW
  have HY := ehide hY
  have HJ := ehide hJB
  have hc1 := hB1.text.cell
  have hc2 := hB1.sep.cell
  refine callsIn_of_wp Tryd.func42 rfl trivial ?_ rfl
  simp only [Tryd.ntmps42, List.size_toArray, List.length_cons, List.length_nil, Nat.reduceAdd, Nat.reduceSub, Array.replicate_succ, Array.replicate_zero, List.push_toArray, List.append_toArray, List.nil_append, List.cons_append]
  gi_wp2
  gi_loopw [7, 8] (fun _ _ wr => ∃ (k : Nat) (r : ByteArray), J k wr ∧ Box3 wr P c r ∧ Hid ((pieces c s).drop k = pieces c r) ∧ r.size ≤ s.size) (fun _ _ wr => left3 P wr)
  case atStart => exact ⟨0, s, h0, hB1, rfl, Nat.le_refl _⟩
  case round =>
    obtain ⟨k, r, hj, hb, hp, hr⟩ := hrel
    have hr1 := hb.text.cell
    have hr2 := hb.sep.cell
    have hr3 := hb.save.cell
    by_cases hi : Lib.indexByte r.data.toList c = -1
    · have CJ : Hid (∀ (V : World), CallsIn Fence.wide (n - 1) Tryd.prog 33 #[.string r, .string ⟨#[c]⟩] V fun e w' => e = .returned (.int .i64 (-1)) ∧ w' = V) := fun V => by
        have h1 := CI.out r V
        rwa [hi] at h1
      have HL : Hid (N = k + 1) := by
        have h1 := congrArg List.length hp.out
        rw [pieces_last hi, List.length_drop, List.length_singleton] at h1
        rw [hN]; unfold Hid; omega
      have hx : (pieces c s)[k]? = some r := by
        have h1 := congrArg (fun l => l[0]?) hp.out
        rw [pieces_last hi] at h1
        simpa using h1
      obtain ⟨fn, tmps, assign, body, hy, hR⟩ := HY.out k r wr hj hx
      clear hi hx hp
      gi_wp2_with (refine ⟨trivial, fun h => (by cases h), ?_⟩; gi_at_call 33; refine (CJ.out _).mono ?_; rintro e w' ⟨rfl, rfl⟩)
      refine ⟨fun h => (by cases h), hR.mono ?_⟩
      rintro e W3 (⟨rfl, hJ3, hk3⟩ | ⟨rfl, hJx3⟩)
      · gi_wp2
        go_end0
        exact ⟨⟨_, rfl⟩, .inl (by rw [← hN, HL.out]; exact hJ3)⟩
      · gi_wp2
        go_end0
        exact ⟨⟨_, rfl⟩, .inr ⟨k + 1, by rw [← hN, HL.out]; exact Nat.le_refl _, hJx3⟩⟩
    · obtain ⟨i, hi2⟩ : ∃ i : Nat, Lib.indexByte r.data.toList c = (i : Int) := ⟨(Lib.indexByte r.data.toList c).toNat, by have := Lib.indexByte_ge r.data.toList c; omega⟩
      obtain ⟨hlt, hpc⟩ := pieces_more hi2
      have CJ : Hid (∀ (V : World), CallsIn Fence.wide (n - 1) Tryd.prog 33 #[.string r, .string ⟨#[c]⟩] V fun e w' => e = .returned (.int .i64 (i : Int)) ∧ w' = V) := fun V => by
        have h1 := CI.out r V
        rwa [hi2] at h1
      have hx : (pieces c s)[k]? = some (r.extract 0 i) := by
        have h1 := congrArg (fun l => l[0]?) hp.out
        rw [hpc] at h1
        simpa using h1
      have HP2 : Hid ((pieces c s).drop (k + 1) = pieces c (r.extract (i + 1) r.size)) := by
        have h1 := congrArg (fun l => l.drop 1) hp.out
        rw [hpc] at h1
        unfold Hid
        simpa [List.drop_drop, Nat.add_comm] using h1
      have HKL : Hid (k + 1 ≤ N) := by
        have := (List.getElem?_eq_some_iff.1 hx).1
        rw [hN]; unfold Hid; omega
      obtain ⟨fn, tmps, assign, body, hy, hR⟩ := HY.out k _ wr hj hx
      have hsz : (r.extract (i + 1) r.size).size ≤ s.size := by rw [Lib.size_eq, Lib.extract_data, List.length_take]; omega
      have hle : left3 P wr = r.size := hb.left
      have d0 : decide ((i : Int) < 0) = false := decide_eq_false (by omega)
      clear hi hi2 hx hp hpc
      gi_wp2_with (refine ⟨trivial, fun h => (by cases h), ?_⟩; gi_at_call 33; refine (CJ.out _).mono ?_; rintro e w' ⟨rfl, rfl⟩)
      refine ⟨fun h => (by cases h), hR.mono ?_⟩
      rintro e W3 (⟨rfl, hJ3, hk3⟩ | ⟨rfl, hJx3⟩)
      · have hb3 := hb.keep hk3
        have ht1 := hb3.text.cell
        have ht2 := hb3.sep.cell
        have hf1 := hb3.text.frozen
        have w1 : IntKind.i64.wrap ((i : Int) + 1) = (i : Int) + 1 := IntWalk.i64_in _ (by omega)
        gi_wp2
        go_roundw
        case rel =>
          refine ⟨k + 1, _, HJ.out _ _ _ hJ3, hb3.set _, ?_, hsz⟩
          exact HP2
        case measure =>
          rw [hle, (hb3.set _).left, Lib.size_eq, Lib.extract_data, List.length_take, List.length_drop, ← Lib.size_eq]
          omega
      · gi_wp2
        refine bodyPost_ret (results_none rfl _ _ _) rfl ?_
        exact ⟨⟨_, rfl⟩, .inr ⟨k + 1, by rw [← hN]; exact HKL.out, hJx3⟩⟩
end Go.Proofs.YtbmpbcnhgnmekaaDoor
