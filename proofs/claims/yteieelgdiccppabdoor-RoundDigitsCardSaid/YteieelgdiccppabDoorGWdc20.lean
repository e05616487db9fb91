/- Several texts in one, each with its own sentence and conditions. -/
import Derived.Test.YteieelgdiccppabDoorGWdc7
import Derived.Test.YteieelgdiccppabDoorGWdc8
import Derived.Test.YteieelgdiccppabDoorZd
import Derived.Lib.Bytealg
import Derived.Lib.IndexLaws
import Derived.Test.YteieelgdiccppabDoorGWdc14
section
/- A number's letters, read again. No conditions. -/
open Go.RowKit
set_option maxRecDepth 100000
namespace Go.Proofs.YteieelgdiccppabDoor
theorem dig_letter {d : Nat} (h : d < 10) : isDig (letter d) = true := by unfold isDig; rw [letter_toNat h]; simp; omega
theorem dvs_letters (l : List Nat) (h : ∀ d ∈ l, d < 10) : dvs (l.reverse.map letter) = l := by
  unfold dvs
  rw [← List.map_reverse, List.reverse_reverse, List.map_map]
  have : ∀ m : List Nat, (∀ d ∈ m, d < 10) → m.map ((fun c : UInt8 => c.toNat - 48) ∘ letter) = m := by
    intro m
    induction m with
    | nil => intro _; rfl
    | cons d m ih =>
      intro hm
      rw [List.map_cons, ih fun x hx => hm x (List.mem_cons_of_mem _ hx)]
      have := letter_toNat (hm d (List.mem_cons_self ..))
      simp only [Function.comp_apply, this]
      congr 1; omega
  exact this l h
theorem numL_decL (m : Nat) : numL (decL m) = m ∧ digB (decL m) = true := by
  unfold decL
  by_cases h0 : m = 0
  · rw [if_pos h0, h0]; exact ⟨rfl, by decide⟩
  · rw [if_neg h0]
    have hlt := digs_lt (b := 10) (by omega) m
    refine ⟨?_, ?_⟩
    · show numL ((digs 10 m).reverse.map letter) = m
      rw [numL_val, dvs_letters _ hlt, val_digs (by omega)]
    · unfold digB
      rw [Bool.and_eq_true]
      refine ⟨?_, ?_⟩
      · rw [digs_pos (by omega) (by omega)]; simp
      · rw [List.all_eq_true]
        intro c hc
        obtain ⟨d, hd, rfl⟩ := List.mem_map.1 hc
        exact dig_letter (hlt d (List.mem_reverse.1 hd))
theorem dt_le {m k : Nat} (h : m < 10 ^ k) (hk : 1 ≤ k) : (decL m).length ≤ k := by
  unfold decL
  by_cases h0 : m = 0
  · rw [if_pos h0]; exact hk
  · rw [if_neg h0, List.length_map, List.length_reverse]
    have h1 := pow_le_of_digs (b := 10) (n := m) (by decide) (by omega)
    have h2 : 10 ^ ((digs 10 m).length - 1) < 10 ^ k := Nat.lt_of_le_of_lt h1 h
    have h3 := (Nat.pow_lt_pow_iff_right (a := 10) (by decide)).1 h2
    omega
end Go.Proofs.YteieelgdiccppabDoor
end

section
/- strings.CutPrefix at a minus. Conditions: a string of at most 100000 bytes. -/
open Go.RowKit
set_option maxRecDepth 100000
namespace Go.Proofs.YteieelgdiccppabDoor
def minusS : ByteArray := ⟨#[45]⟩
theorem toList_loop (bs : ByteArray) (k : Nat) : ∀ i r, bs.size - i = k → ByteArray.toList.loop bs i r = r.reverse ++ bs.data.toList.drop i := by
  induction k with
  | zero =>
    intro i r h
    unfold ByteArray.toList.loop
    rw [if_neg (by omega), List.drop_of_length_le (by show bs.data.size ≤ i; have : bs.data.size = bs.size := rfl; omega), List.append_nil]
  | succ k ih =>
    intro i r h
    have hi : i < bs.data.toList.length := by show i < bs.data.size; have : bs.data.size = bs.size := rfl; omega
    unfold ByteArray.toList.loop
    rw [if_pos (by omega), ih (i + 1) _ (by omega), List.drop_eq_getElem_cons hi, List.reverse_cons, List.append_assoc]
    congr 2
    show bs.get! i :: _ = _
    have : bs.get! i = bs.data.toList[i] := by
      show bs.data[i]! = _
      rw [getElem!_pos bs.data i hi]; rfl
    rw [this]; rfl
theorem toList_data (bs : ByteArray) : bs.toList = bs.data.toList := by
  unfold ByteArray.toList
  rw [toList_loop bs _ 0 [] rfl]; rfl
theorem extract_list (s : ByteArray) (i j : Nat) : (s.extract i j).data.toList = (s.data.toList.take j).drop i := by
  simp [ByteArray.data_extract, List.extract_eq_drop_take', Array.toList_extract]
theorem minus_head (s : ByteArray) : ((s.extract 0 1).toList == [45]) = (s.data.toList.head? == some 45) := by
  rw [toList_data, extract_list]
  cases s.data.toList with
  | nil => rfl
  | cons x xs => simp
/-- What CutPrefix leaves. -/
def CutR (w : World) (s : ByteArray) (e : Ending) (w' : World) : Prop := ∃ t : ByteArray, ∃ b : Bool, e = .returned (.tuple #[.string t, .bool b]) ∧ Hid (s.data.toList = (if b then [45] else []) ++ t.data.toList ∧ (b = false → s.data.toList.head? ≠ some 45)) ∧ w = w'
def CutS (w : World) (l : List UInt8) (b : Bool) (e : Ending) (w' : World) : Prop := ∃ t : ByteArray, e = .returned (.tuple #[.string t, .bool b]) ∧ Hid (t.data.toList = l) ∧ w = w'
/-- What Parse leaves of an integer. -/
def ZPR (W : World) (z : Int) (e : Ending) (w' : World) : Prop :=
  ∃ A c, e = .returned (.tuple #[.agg #[.bool (decide (z < 0)), .slice A (dl z.natAbs) c], .bool true]) ∧ ZA w' (decide (z < 0)) A (dl z.natAbs) c z ∧ Hid (Below W.heap.size W w')
def ZPN (W : World) (e : Ending) (w' : World) : Prop := e = .returned (.tuple #[.agg #[.bool false, .slice none 0 0], .bool false]) ∧ Hid (Below W.heap.size W w')
def PsR (W : World) (v : Nat) (e : Ending) (w' : World) : Prop := ∃ A c, e = .returned (.tuple #[.agg #[.slice A (dl v) c], .bool true]) ∧ Nm w' A (dl v) c v ∧ Hid (Below W.heap.size W w')
def PsN (W : World) (e : Ending) (w' : World) : Prop := e = .returned (.tuple #[.agg #[.slice none 0 0], .bool false]) ∧ Hid (Below W.heap.size W w')
theorem numL_dl {l : List UInt8} (hd : digB l = true) (h : l.length ≤ 99999) : dl (numL l) ≤ 100000 := by
  have h1 := numL_lt l (by unfold digB at hd; rw [Bool.and_eq_true] at hd; exact hd.2)
  refine Nat.le_trans (dl_le (k := l.length + 1) (Nat.lt_of_lt_of_le h1 ?_)) (by omega)
  rw [Nat.pow_succ]
  exact Nat.le_trans (Nat.pow_le_pow_left (show 10 ≤ W32 by decide) _) (Nat.le_mul_of_pos_right _ (by decide))
theorem alc1 {w : World} {o : Obj} {p i : Nat} {v : Value} (h : w.cell? ⟨p, i, none⟩ = some v) : (w.alloc o).cell? ⟨p, i, none⟩ = some v := (World.cell?_alloc_some _ _ _ (by rw [h]; rfl)).trans h
theorem set2b {w : World} {p : Nat} {s : Bool} {A : Option Addr} {n c : Nat} {x y : Value} (h : Zcell w p s A n c) :
    ((w.setCell ⟨p, 0, none⟩ x).setCell ⟨p, 1, none⟩ y).cell? ⟨p, 0, none⟩ = some x ∧ ((w.setCell ⟨p, 0, none⟩ x).setCell ⟨p, 1, none⟩ y).cell? ⟨p, 1, none⟩ = some y :=
  ⟨(World.cell?_setCell_other _ _ _ _ (by intro e; cases e)).trans (World.cell?_setCell_same _ _ _ h.c0), World.cell?_setCell_same _ _ _ ((World.cell?_setCell_other _ _ _ _ (by intro e; cases e)).trans h.c1)⟩
section
variable {W : World} {s : ByteArray} {b : Bool} {l : List UInt8}
/-- Good of a valid integer. -/
theorem zgood_h {A : Option Addr} {c : Nat} {z : Int} (h : ZA W (decide (z < 0)) A (dl z.natAbs) c z) : Calls Tryd.prog 30 #[.agg #[.bool (decide (z < 0)), .slice A (dl z.natAbs) c]] W (BoolR W true) := by
  have CG : Hid (∀ o, Calls Tryd.prog 31 #[.agg #[.slice A (dl z.natAbs) c]] (W.alloc o) (BoolR (W.alloc o) true)) := fun o => good_h (h.al o).1
  by_cases hn : z < 0
  · have CZ : Hid (∀ W', Below W.heap.size W W' → Calls Tryd.prog 56 #[.agg #[.slice A (dl z.natAbs) c]] W' (BoolR W' false)) := fun W' hb => za_some (h.up hb) (by omega)
    rw [decide_eq_true hn]
    clear h hn
    go_enter Tryd.func30, Tryd.ntmps30
    go_wp2_with (first | (go_at_call 31; (with_reducible refine (CG.out _).mono ?_); rintro e w1 ⟨rfl, hbk⟩; obtain ⟨e0, e1, hsz, hbx⟩ := bz1 hbk) | (go_at_call 56; (with_reducible refine (CZ.out _ hbx.out).mono ?_); rintro e w2 ⟨rfl, hbk2⟩) | fail)
    go_ret
    exact ⟨rfl, chain hbx hbk2.out⟩
  · rw [decide_eq_false hn]
    clear h hn
    go_enter Tryd.func30, Tryd.ntmps30
    go_wp2_with (first | (go_at_call 31; (with_reducible refine (CG.out _).mono ?_); rintro e w1 ⟨rfl, hbk⟩; obtain ⟨e0, e1, hsz, hbx⟩ := bz1 hbk) | fail)
    go_ret
    exact ⟨rfl, hbx⟩
end
end Go.Proofs.YteieelgdiccppabDoor
end

section
/- strings.Cut at a slash. Conditions: a string of at most 100000 bytes. -/
open Go.RowKit
set_option maxRecDepth 100000
namespace Go.Proofs.YteieelgdiccppabDoor
theorem ixbyte_any (s : ByteArray) (w : World) : Calls Tryd.prog 92 #[.string s, .int .u8 47] w fun e w' => e = .returned (.int .i64 (Lib.indexByte s.data.toList 47)) ∧ w = w' := by
  go_enter Tryd.func92, Tryd.ntmps92
  go_wp2_with fail
  rw [run_callFunc_extern Tryd.func93 (by kernel_rfl) (by kernel_rfl) (by kernel_rfl) (e := Extern.BytealgIndexByte.indexByte) (by kernel_rfl), Lib.run_indexByteString]
  simp only [Result.andThen]
  rw [Oper.upon_value]
  go_wp2
  go_ret
  exact ⟨rfl, rfl⟩
/-- What Cut leaves: what is ahead of the first slash and behind it. -/
def SlashR (w : World) (s : ByteArray) (e : Ending) (w' : World) : Prop :=
  ∃ (t u : ByteArray) (b : Bool), e = .returned (.tuple #[.string t, .string u, .bool b]) ∧ Hid ((b = true → s.data.toList = t.data.toList ++ 47 :: u.data.toList) ∧ (b = false → t = s) ∧ ¬ (47 : UInt8) ∈ t.data.toList) ∧ Hid (Below w.heap.size w w')
end Go.Proofs.YteieelgdiccppabDoor
end

section
/- Package num: Text, Good of a valid number. Conditions: at most 100000 words. -/
open Go.RowKit
set_option maxRecDepth 100000
namespace Go.Proofs.YteieelgdiccppabDoor
/-- An integer's letters. -/
def decZ (z : Int) : List UInt8 := if z < 0 then 45 :: decL z.natAbs else decL z.natAbs
def TxR (W : World) (l : List UInt8) (e : Ending) (w' : World) : Prop := ∃ t : ByteArray, e = .returned (.string t) ∧ Hid (t.data.toList = l) ∧ Hid (Below W.heap.size W w')
section
variable {W : World} {b : Bool} {A : Option Addr} {n c : Nat} {z : Int}
theorem text_h {m : Nat} (h : Nm W A n c m) : Calls Tryd.prog 16 #[.agg #[.slice A n c]] W (TxR W (decL m)) := (Text_any h.out).mono fun _ _ h => h
theorem decL_len {W : World} {A : Option Addr} {n c m : Nat} (h : Nm W A n c m) : (decL m).length ≤ 1000001 := by
  have h1 : m < 10 ^ (10 * dl m + 1) := by
    have h2 : m < W32 ^ dl m := lt_pow_digs (b := W32) (by decide) m
    have h3 : W32 ^ dl m ≤ (10 ^ 10) ^ dl m := Nat.pow_le_pow_left (by decide) _
    rw [← Nat.pow_mul] at h3
    exact Nat.lt_of_lt_of_le h2 (Nat.le_trans h3 (Nat.pow_le_pow_right (by decide) (by omega)))
  have := dt_le h1 (by omega)
  have := h.dl
  omega
end
end Go.Proofs.YteieelgdiccppabDoor
end
