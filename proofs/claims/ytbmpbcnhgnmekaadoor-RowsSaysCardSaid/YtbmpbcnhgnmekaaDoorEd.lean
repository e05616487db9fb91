/- strings.Split at one byte; rows.isPlain. Conditions: texts of at most 1000000 bytes. -/
import Derived.Test.YtbmpbcnhgnmekaaDoorEc
import Derived.Lib.IndexBytes
import Derived.Shelf.Strings.PiecesUse
import Derived.Deep.Draws
open Go.RowKit Go.Shelf
set_option maxRecDepth 100000
namespace Go.Proofs.YtbmpbcnhgnmekaaDoor
theorem map_data_inj {xs ys : List ByteArray} (h : xs.map (·.data.toList) = ys.map (·.data.toList)) : xs = ys := by
  induction xs generalizing ys with
  | nil => cases ys with
    | nil => rfl
    | cons y ys => simp at h
  | cons x xs ih => cases ys with
    | nil => simp at h
    | cons y ys =>
      simp only [List.map_cons, List.cons.injEq] at h
      rw [ih h.2, ByteArray.ext (Array.ext' h.1)]
theorem splitB_pieces (c : UInt8) (s : ByteArray) : Lib.splitB ⟨#[c]⟩ 0 (Lib.countB s ⟨#[c]⟩) s = pieces c s := by
  refine map_data_inj ?_
  rw [pieces_data, Lib.splitB_data]
  exact split_cut c s.data.toList
theorem pieces_count (c : UInt8) (s : ByteArray) : (pieces c s).length = Lib.countB s ⟨#[c]⟩ + 1 := by
  rw [← splitB_pieces]
  exact Lib.splitB_all ⟨#[c]⟩ (Nat.le_refl 1) 0 _ s rfl
/-- What a call leaves that returns the strings xs. -/
def StrsR (W : World) (xs : List ByteArray) (e : Ending) (w' : World) : Prop := ∃ ad c, e = .returned (.slice (some ad) xs.length c) ∧ xs.length ≤ c ∧ Ss w' (some ad) xs ∧ Hid (Below W.heap.size W w')
theorem gensplit_c (c : UInt8) (s : ByteArray) (w : World) (hs : s.size ≤ 1000000) : Calls Tryd.prog 25 #[.string s, .string ⟨#[c]⟩, .int .i64 0, .int .i64 (-1)] w fun e w' =>
    e = .returned (.slice (some ⟨w.heap.size, 0, none⟩) (pieces c s).length (pieces c s).length) ∧ w' = w.alloc (.cells ((pieces c s).map Value.string).toArray 9) := by
  have hle := Lib.countB_le ⟨#[c]⟩ (show 1 ≤ (⟨#[c]⟩ : ByteArray).size from Nat.le_refl 1) s.size s (Nat.le_refl _)
  have hlen := pieces_count c s
  have hsp := splitB_pieces c s
  have c1 := Any.strings_genSplit_core Tryd.lays221 (by kernel_rfl) s ⟨#[c]⟩ 0 (-1) (Lib.countB s ⟨#[c]⟩ + 1) w (by omega) (Nat.le_refl 1) (Nat.zero_le _)
    (fun x cs hx => (Tryd.strings_Index_one x c _).mono fun e w' ⟨he, hw⟩ => ⟨by rw [he, ← Lib.index_one], hw⟩)
    ((Tryd.strings_Count_one s c w).mono fun e w' ⟨he, hw⟩ => ⟨by rw [he, show Lib.countB s ⟨#[c]⟩ = Lib.countByte s.data.toList c from Lib.count_one c s.data.toList], hw⟩)
    (by decide) (by decide) (by rw [if_pos (by decide)]; omega)
  rw [Nat.add_sub_cancel, hsp, ← hlen] at c1
  rw [Lib.cellsOf_full] at c1
  exact c1
theorem pieces_ss (w : World) (xs : List ByteArray) (t : TypeId) : Ss (w.alloc (.cells (xs.map Value.string).toArray t)) (some ⟨w.heap.size, 0, none⟩) xs := fun _ => by
  refine ⟨_, rfl, by simp, fun j x hx => ?_⟩
  have h := Lib.pieces_cell_at w xs t j x hx
  have e : (⟨w.heap.size, 0, none⟩ : Addr).add j = ⟨w.heap.size, j, none⟩ := by unfold Addr.add; split <;> simp_all
  rw [e]; exact h
theorem ssplit_c {c : UInt8} {s : ByteArray} {xs : List ByteArray} (hx : pieces c s = xs) (w : World) (hs : s.size ≤ 1000000) : Calls Tryd.prog 16 #[.string s, .string ⟨#[c]⟩] w (StrsR w xs) := by
  have CH : Hid (∀ W, Calls Tryd.prog 25 #[.string s, .string ⟨#[c]⟩, .int .i64 0, .int .i64 (-1)] W fun e w' => e = .returned (.slice (some ⟨W.heap.size, 0, none⟩) xs.length xs.length) ∧ w' = W.alloc (.cells (xs.map Value.string).toArray 9)) := fun W => by
    rw [← hx]; exact gensplit_c c s W hs
  have HX : Hid (StrsR w xs (.returned (.slice (some ⟨w.heap.size, 0, none⟩) xs.length xs.length)) (w.alloc (.cells (xs.map Value.string).toArray 9))) :=
    ⟨_, _, rfl, Nat.le_refl _, pieces_ss _ _ _, (Below.refl _ _).alloc (Nat.le_refl _) _⟩
  clear hs hx
  go_enter Tryd.func16, Tryd.ntmps16
  go_wp2_with (first | (go_at_call 25; (with_reducible refine (CH.out _).mono ?_); rintro e w1 ⟨rfl, hw1⟩; rw [hw1]) | fail)
  go_ret
  exact HX.out
theorem ybool {a b : Bool} (h : a = b) : Ending.returned (.bool a) = .returned (.bool b) := by rw [h]
/-- May this byte be in a table? -/
def plainC (c : UInt8) : Bool := decide (32 ≤ c.toNat) && decide (c.toNat ≤ 126)
def plainB (s : ByteArray) : Bool := s.data.toList.all plainC
theorem pl_take {s : ByteArray} {k : Nat} (h : k < s.size) : (s.data.toList.take (k + 1)).all plainC = ((s.data.toList.take k).all plainC && plainC s[k]) := by
  have e : s.data.toList.take (k + 1) = s.data.toList.take k ++ [s[k]] := by
    rw [List.take_succ_eq_append_getElem (by simpa using h)]; rfl
  rw [e, List.all_append]; simp
theorem pl_false {s : ByteArray} {k : Nat} (h : k < s.size) (hp : plainC s[k] = false) : plainB s = false := by
  unfold plainB
  rw [List.all_eq_false]
  refine ⟨s[k], ?_, by rw [hp]; simp⟩
  exact List.getElem_mem (l := s.data.toList) (n := k) (by simpa using h)
set_option maxHeartbeats 1000000 in
theorem isPlain_any {s : ByteArray} {b : Bool} (hb : plainB s = b) (hs : s.size ≤ 1000000) (w : World) : Calls Tryd.prog 18 #[.string s] w fun e w' => e = .returned (.bool b) ∧ w = w' := by
  have HB := ehide hb
  clear hb
  go_enter Tryd.func18, Tryd.ntmps18
  go_wp2
  go_loop [6] (fun iv => ∃ k : Nat, k ≤ s.size ∧ iv = .int .i64 (k : Int) ∧ Hid ((s.data.toList.take k).all plainC = true)) (fun iv => s.size - (intOf iv).toNat)
  case atStart => exact ⟨0, Nat.zero_le _, rfl, rfl⟩
  case round =>
    obtain ⟨k, hk, rfl, hall⟩ := hrel
    by_cases hlt : k < s.size
    · have HT := ehide (pl_take hlt)
      have HF := ehide (pl_false hlt)
      by_cases h1 : s[k].toNat < 32
      · have d1 : decide ((s[k].toNat : Int) < 32) = true := decide_eq_true (by omega)
        have HP : Hid (plainC s[k] = false) := by unfold plainC Hid; rw [decide_eq_false (by omega)]; rfl
        clear h1
        go_wp2
        go_ret
        exact ⟨ybool (by rw [← HB.out, HF.out HP.out]), rfl⟩
      · have d1 : decide ((s[k].toNat : Int) < 32) = false := decide_eq_false (by omega)
        by_cases h2 : 126 < s[k].toNat
        · have d2 : decide ((126 : Int) < (s[k].toNat : Int)) = true := decide_eq_true (by omega)
          have HP : Hid (plainC s[k] = false) := by unfold plainC Hid; rw [decide_eq_false (show ¬ s[k].toNat ≤ 126 by omega)]; simp
          clear h1 h2
          go_wp2
          go_ret
          exact ⟨ybool (by rw [← HB.out, HF.out HP.out]), rfl⟩
        · have d2 : decide ((126 : Int) < (s[k].toNat : Int)) = false := decide_eq_false (by omega)
          have HP : Hid (plainC s[k] = true) := by unfold plainC Hid; rw [decide_eq_true (show s[k].toNat ≤ 126 by omega), decide_eq_true (show 32 ≤ s[k].toNat by omega)]; rfl
          clear h1 h2
          go_wp2
          go_round
          case rel => exact ⟨k + 1, by omega, by go_num, by unfold Hid; rw [HT.out, hall.out, HP.out]; rfl⟩
          case measure => simp [intOf]; omega
    · obtain rfl : k = s.size := by omega
      have HE : Hid (plainB s = true) := by
        have h3 := hall.out
        rwa [List.take_of_length_le (by rw [Lib.size_eq]; exact Nat.le_refl _)] at h3
      go_wp2
      go_ret
      exact ⟨ybool (by rw [← HB.out, HE.out]), rfl⟩
end Go.Proofs.YtbmpbcnhgnmekaaDoor
