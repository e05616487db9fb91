/- Words: strings.Split at the hyphen; Split. Conditions: none. -/
import Derived.Test.YteahcbeohopdlaaDoorYd
import Derived.Test.YteahcbeohopdlaaDoorShf
import Derived.Lib.IndexBytes
import Derived.Shelf.Strings.PiecesUse
open Go.RowKit
set_option maxRecDepth 100000
namespace Go.Proofs.YteahcbeohopdlaaDoor
/-- The pieces between the hyphens, as texts. -/
def pcs (s : ByteArray) : List ByteArray := Lib.splitB ⟨#[45]⟩ 0 (Lib.countB s ⟨#[45]⟩) s
theorem pcs_parts (s : ByteArray) : (pcs s).map (·.data.toList) = parts s.data.toList := by
  unfold pcs
  rw [Lib.splitB_data]
  exact split_cut 45 s.data.toList
theorem pcs_len (s : ByteArray) : (pcs s).length = Lib.countB s ⟨#[45]⟩ + 1 := Lib.splitB_all ⟨#[45]⟩ (by decide) 0 _ s rfl
theorem pcs_le (s : ByteArray) : (pcs s).length ≤ s.size + 1 := by
  rw [pcs_len]
  have := Lib.countB_le ⟨#[45]⟩ (by decide) s.size s (Nat.le_refl _)
  omega
def PiecesR (w : World) (s : ByteArray) (e : Ending) (w' : World) : Prop :=
  e = .returned (.slice (some ⟨w.heap.size, 0, none⟩) (pcs s).length (pcs s).length) ∧ w' = w.alloc (.cells ((pcs s).map Value.string).toArray 9)
theorem gensplit_any (s : ByteArray) (w : World) (hs : s.size ≤ 1000000) : Calls Tryd.prog 127 #[.string s, .string ⟨#[45]⟩, .int .i64 0, .int .i64 (-1)] w (PiecesR w s) := by
  have hle := Lib.countB_le ⟨#[45]⟩ (by decide) s.size s (Nat.le_refl _)
  have hlen := pcs_len s
  unfold pcs at hlen
  have c := Any.strings_genSplit_core Tryd.lays221 (by kernel_rfl) s ⟨#[45]⟩ 0 (-1) (Lib.countB s ⟨#[45]⟩ + 1) w (by omega) (by decide) (Nat.zero_le _)
    (fun x cs hx => (Tryd.strings_Index_one x 45 _).mono fun e w' ⟨he, hw⟩ => ⟨by rw [he, ← Lib.index_one], hw⟩)
    ((Tryd.strings_Count_one s 45 w).mono fun e w' ⟨he, hw⟩ => ⟨by rw [he, show Lib.countB s ⟨#[45]⟩ = Lib.countByte s.data.toList 45 from Lib.count_one 45 s.data.toList], hw⟩)
    (by decide) (by decide) (by rw [if_pos (by decide)]; omega)
  rw [Nat.add_sub_cancel, hlen] at c
  have e2 : Lib.cellsOf (Lib.splitB ⟨#[45]⟩ 0 (Lib.countB s ⟨#[45]⟩) s) (Lib.countB s ⟨#[45]⟩ + 1) = ((Lib.splitB ⟨#[45]⟩ 0 (Lib.countB s ⟨#[45]⟩) s).map Value.string).toArray := by rw [← hlen]; exact Lib.cellsOf_full _
  rw [e2] at c
  refine c.mono fun e w' ⟨he, hw⟩ => ⟨?_, ?_⟩
  · rw [he, pcs_len]
  · rw [hw]; rfl
/-- What a call leaves that returns the strings xs. -/
def StrsR (W : World) (xs : List ByteArray) (e : Ending) (w' : World) : Prop := ∃ ad c, e = .returned (.slice (some ad) xs.length c) ∧ xs.length ≤ c ∧ Ss w' (some ad) xs ∧ Hid (Below W.heap.size W w')
theorem pieces_ss (w : World) (xs : List ByteArray) (t : TypeId) : Ss (w.alloc (.cells (xs.map Value.string).toArray t)) (some ⟨w.heap.size, 0, none⟩) xs := fun _ => by
  refine ⟨_, rfl, by simp, fun j x hx => ?_⟩
  have h := Lib.pieces_cell_at w xs t j x hx
  have e : (⟨w.heap.size, 0, none⟩ : Addr).add j = ⟨w.heap.size, j, none⟩ := by unfold Addr.add; split <;> simp_all
  rw [e]; exact h
theorem ssplit_any (s : ByteArray) (w : World) (hs : s.size ≤ 1000000) : Calls Tryd.prog 99 #[.string s, .string ⟨#[45]⟩] w (StrsR w (pcs s)) := by
  have CG := yhide (fun W => gensplit_any s W hs)
  clear hs
  have HR : Hid (∀ o : List ByteArray, o = pcs s → StrsR w o (.returned (.slice (some ⟨w.heap.size, 0, none⟩) o.length o.length)) (w.alloc (.cells (o.map Value.string).toArray 9))) :=
    fun o _ => ⟨_, _, rfl, Nat.le_refl _, pieces_ss _ _ _, (Below.refl _ _).alloc (Nat.le_refl _) _⟩
  obtain ⟨xs, hx⟩ : ∃ xs, xs = pcs s := ⟨_, rfl⟩
  have CH : Hid (∀ W, Calls Tryd.prog 127 #[.string s, .string ⟨#[45]⟩, .int .i64 0, .int .i64 (-1)] W fun e w' => e = .returned (.slice (some ⟨W.heap.size, 0, none⟩) xs.length xs.length) ∧ w' = W.alloc (.cells (xs.map Value.string).toArray 9)) := fun W => by
    rw [hx]; exact CG.out W
  have HX := yhide (HR.out xs hx)
  rw [← hx]
  clear CG HR hx
  go_enter Tryd.func99, Tryd.ntmps99
  go_wp2_with (first | (go_at_call 127; (with_reducible refine (CH.out _).mono ?_); rintro e w1 ⟨rfl, hw1⟩; rw [hw1]) | fail)
  go_ret
  exact HX.out
def SplitNo (W : World) (v : Int) (e : Ending) (w' : World) : Prop := e = .returned (.tuple #[.slice none 0 0, .int .i64 v]) ∧ Hid (Below W.heap.size W w')
def SplitOk (W : World) (xs : List ByteArray) (e : Ending) (w' : World) : Prop := ∃ ad c, e = .returned (.tuple #[.slice (some ad) xs.length c, .int .i64 0]) ∧ xs.length ≤ c ∧ Ss w' (some ad) xs ∧ Hid (Below W.heap.size W w')
theorem wsplit_long {s : ByteArray} (hs : 256 < s.size) (w : World) : Calls Tryd.prog 50 #[.string s] w (SplitNo w 11) := by
  have d : decide ((256 : Int) < (s.size : Int)) = true := decide_eq_true (by omega)
  clear hs
  go_enter Tryd.func50, Tryd.ntmps50
  go_wp2
  go_ret2
  exact ⟨rfl, Below.refl _ _⟩
/-- Is every one of these a word? -/
def goodAll (xs : List ByteArray) : Bool := xs.all (fun x => goodW x.data.toList)
theorem goodAll_take {xs : List ByteArray} {k : Nat} (h : k < xs.length) : goodAll (xs.take (k + 1)) = (goodAll (xs.take k) && goodW xs[k].data.toList) := by
  unfold goodAll
  rw [List.take_succ_eq_append_getElem h, List.all_append]; simp
theorem goodAll_false {xs : List ByteArray} {k : Nat} (h : k < xs.length) (hp : goodW xs[k].data.toList = false) : goodAll xs = false := by
  unfold goodAll
  rw [List.all_eq_false]
  exact ⟨xs[k], List.getElem_mem h, by rw [hp]; simp⟩
set_option maxHeartbeats 1000000 in
theorem wsplit_any {s : ByteArray} (hs : s.size ≤ 256) (w : World) : Calls Tryd.prog 50 #[.string s] w (if goodAll (pcs s) then SplitOk w (pcs s) else SplitNo w 2) := by
  have d : decide ((256 : Int) < (s.size : Int)) = false := decide_eq_false (by omega)
  have CS := yhide (fun W => ssplit_any s W (by omega))
  have HL := yhide (pcs_le s)
  have HSZ := yhide hs
  obtain ⟨xs, hx⟩ : ∃ xs, xs = pcs s := ⟨_, rfl⟩
  rw [← hx] at CS HL ⊢
  obtain ⟨n, hn⟩ : ∃ n, n = xs.length := ⟨_, rfl⟩
  have hn2 : n ≤ 1000000 := by have := HL.out; omega
  have HN := yhide hn
  clear hx hn hs
  have HS : Hid (∀ ad c W, xs.length ≤ c → goodAll xs = true → Ss W (some ad) xs → Hid (Below w.heap.size w W) → (if goodAll xs then SplitOk w xs else SplitNo w 2) (.returned (.tuple #[.slice (some ad) n c, .int .i64 0])) W) := fun ad c W h1 h2 h3 h4 => by
    rw [if_pos h2, HN.out]; exact ⟨ad, c, rfl, h1, h3, h4⟩
  have HB : Hid (∀ W, goodAll xs = false → Hid (Below w.heap.size w W) → (if goodAll xs then SplitOk w xs else SplitNo w 2) (.returned (.tuple #[.slice none 0 0, .int .i64 2])) W) := fun W h2 h4 => by
    rw [if_neg (by rw [h2]; simp)]; exact ⟨rfl, h4⟩
  obtain ⟨Q, hQ⟩ : ∃ Q, Q = (if goodAll xs then SplitOk w xs else SplitNo w 2) := ⟨_, rfl⟩
  rw [← hQ] at HS HB ⊢
  clear hQ
  go_enter Tryd.func50, Tryd.ntmps50
  go_wp2_with (first | (go_at_call 99; (with_reducible refine (CS.out _).mono ?_); rintro e w1 ⟨ad, c, rfl, hc, hss, hbk⟩; rw [← HN.out]; have HC := yhide hc; clear hc) | fail)
  go_loop [14] (fun iv => ∃ k : Nat, k ≤ n ∧ iv = .int .i64 (k : Int) ∧ Hid (goodAll (xs.take k) = true)) (fun iv => n - (intOf iv).toNat)
  case atStart => exact ⟨0, Nat.zero_le _, rfl, rfl⟩
  case round =>
    obtain ⟨k, hk, rfl, hall⟩ := hrel
    by_cases hlt : k < n
    · have hx : k < xs.length := by rw [← HN.out]; exact hlt
      obtain ⟨ad2, e2, hb, hcell⟩ := hss.out.at_ hx
      obtain rfl : ad = ad2 := by injection e2
      obtain ⟨x, hxe⟩ : ∃ x, x = xs[k] := ⟨_, rfl⟩
      obtain ⟨b, hbe⟩ : ∃ b, b = goodW x.data.toList := ⟨_, rfl⟩
      have HG1 : Hid (goodAll (xs.take (k + 1)) = (goodAll (xs.take k) && b)) := by rw [hbe, hxe]; exact goodAll_take hx
      have HG2 : Hid (b = false → goodAll xs = false) := fun h => goodAll_false hx (by rw [← hxe, ← hbe, h])
      rw [← hxe] at hcell
      have CG : Hid (∀ W, Calls Tryd.prog 54 #[.string x] W fun e w' => e = .returned (.bool b) ∧ W = w') := fun W => by rw [hbe]; exact wgood_any x W
      clear hxe hbe hx e2
      cases b
      · go_wp2_with (first | (go_at_call 54; (with_reducible refine (CG.out _).mono ?_); rintro e w2 ⟨rfl, rfl⟩) | fail)
        exact HB.out _ (HG2.out (by first | rfl | trivial)) hbk
      · go_wp2_with (first | (go_at_call 54; (with_reducible refine (CG.out _).mono ?_); rintro e w2 ⟨rfl, rfl⟩) | fail)
        go_round
        case rel => exact ⟨k + 1, by omega, by go_num, by unfold Hid; rw [HG1.out, hall.out]; rfl⟩
        case measure => simp [intOf]; omega
    · obtain rfl : k = n := by omega
      have HG : Hid (goodAll xs = true) := by
        have := hall.out
        rwa [List.take_of_length_le (by rw [← HN.out]; exact Nat.le_refl _)] at this
      go_wp2
      exact HS.out _ _ _ HC.out HG.out hss hbk
end Go.Proofs.YteahcbeohopdlaaDoor
