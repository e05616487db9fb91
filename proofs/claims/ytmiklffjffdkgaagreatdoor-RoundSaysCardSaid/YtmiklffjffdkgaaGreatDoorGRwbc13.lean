/- Several texts in one, each with its own sentence and conditions. -/
import Derived.Test.YtmiklffjffdkgaaGreatDoorGRwbc8
import Derived.Test.YtmiklffjffdkgaaGreatDoorZd
import Derived.Test.YtmiklffjffdkgaaGreatDoorGRwbc1
import Derived.Test.YtmiklffjffdkgaaGreatDoorGRwbc9
import Derived.Below
import Derived.WalkKit
import Derived.Deep.RegionHeld
import Derived.Deep.RegionHeld3
import Derived.Laws.BytesArg
import Derived.Deep.LoopGhost
section
/- A number's letters, read again. No conditions. -/
open Go.RowKit
set_option maxRecDepth 100000
namespace Go.Proofs.YtmiklffjffdkgaaGreatDoor
theorem dig_letter {d : Nat} (h : d < 10) : isDig (letter d) = true := by unfold isDig; rw [letter_toNat h]; simp; omega
theorem dvs_letters (l : List Nat) (h : ∀ d ∈ l, d < 10) : dvs (l.reverse.map letter) = l := by
  unfold dvs
  rw [← List.map_reverse, List.reverse_reverse, List.map_map]
  have : ∀ m : List Nat, (∀ d ∈ m, d < 10) → m.map ((fun c : UInt8 => c.toNat - 48) ∘ letter) = m := by
    intro m
    induction m with
    | nil => intro _; rfl
    | cons d m ih =>
      intro hm
      rw [List.map_cons, ih fun x hx => hm x (List.mem_cons_of_mem _ hx)]
      have := letter_toNat (hm d (List.mem_cons_self ..))
      simp only [Function.comp_apply, this]
      congr 1; omega
  exact this l h
theorem numL_decL (m : Nat) : numL (decL m) = m ∧ digB (decL m) = true := by
  unfold decL
  by_cases h0 : m = 0
  · rw [if_pos h0, h0]; exact ⟨rfl, by decide⟩
  · rw [if_neg h0]
    have hlt := digs_lt (b := 10) (by omega) m
    refine ⟨?_, ?_⟩
    · show numL ((digs 10 m).reverse.map letter) = m
      rw [numL_val, dvs_letters _ hlt, val_digs (by omega)]
    · unfold digB
      rw [Bool.and_eq_true]
      refine ⟨?_, ?_⟩
      · rw [digs_pos (by omega) (by omega)]; simp
      · rw [List.all_eq_true]
        intro c hc
        obtain ⟨d, hd, rfl⟩ := List.mem_map.1 hc
        exact dig_letter (hlt d (List.mem_reverse.1 hd))
theorem dt_le {m k : Nat} (h : m < 10 ^ k) (hk : 1 ≤ k) : (decL m).length ≤ k := by
  unfold decL
  by_cases h0 : m = 0
  · rw [if_pos h0]; exact hk
  · rw [if_neg h0, List.length_map, List.length_reverse]
    have h1 := pow_le_of_digs (b := 10) (n := m) (by decide) (by omega)
    have h2 : 10 ^ ((digs 10 m).length - 1) < 10 ^ k := Nat.lt_of_le_of_lt h1 h
    have h3 := (Nat.pow_lt_pow_iff_right (a := 10) (by decide)).1 h2
    omega
end Go.Proofs.YtmiklffjffdkgaaGreatDoor
end

section
/- strings.CutPrefix at a minus. Conditions: a string of at most 100000 bytes. -/
open Go.RowKit
set_option maxRecDepth 100000
namespace Go.Proofs.YtmiklffjffdkgaaGreatDoor
def minusS : ByteArray := ⟨#[45]⟩
theorem toList_loop (bs : ByteArray) (k : Nat) : ∀ i r, bs.size - i = k → ByteArray.toList.loop bs i r = r.reverse ++ bs.data.toList.drop i := by
  induction k with
  | zero =>
    intro i r h
    unfold ByteArray.toList.loop
    rw [if_neg (by omega), List.drop_of_length_le (by show bs.data.size ≤ i; have : bs.data.size = bs.size := rfl; omega), List.append_nil]
  | succ k ih =>
    intro i r h
    have hi : i < bs.data.toList.length := by show i < bs.data.size; have : bs.data.size = bs.size := rfl; omega
    unfold ByteArray.toList.loop
    rw [if_pos (by omega), ih (i + 1) _ (by omega), List.drop_eq_getElem_cons hi, List.reverse_cons, List.append_assoc]
    congr 2
    show bs.get! i :: _ = _
    have : bs.get! i = bs.data.toList[i] := by
      show bs.data[i]! = _
      rw [getElem!_pos bs.data i hi]; rfl
    rw [this]; rfl
theorem toList_data (bs : ByteArray) : bs.toList = bs.data.toList := by
  unfold ByteArray.toList
  rw [toList_loop bs _ 0 [] rfl]; rfl
theorem extract_list (s : ByteArray) (i j : Nat) : (s.extract i j).data.toList = (s.data.toList.take j).drop i := by
  simp [ByteArray.data_extract, List.extract_eq_drop_take', Array.toList_extract]
theorem minus_head (s : ByteArray) : ((s.extract 0 1).toList == [45]) = (s.data.toList.head? == some 45) := by
  rw [toList_data, extract_list]
  cases s.data.toList with
  | nil => rfl
  | cons x xs => simp
/-- What CutPrefix leaves. -/
def CutR (w : World) (s : ByteArray) (e : Ending) (w' : World) : Prop := ∃ t : ByteArray, ∃ b : Bool, e = .returned (.tuple #[.string t, .bool b]) ∧ Hid (s.data.toList = (if b then [45] else []) ++ t.data.toList ∧ (b = false → s.data.toList.head? ≠ some 45)) ∧ w = w'
def CutS (w : World) (l : List UInt8) (b : Bool) (e : Ending) (w' : World) : Prop := ∃ t : ByteArray, e = .returned (.tuple #[.string t, .bool b]) ∧ Hid (t.data.toList = l) ∧ w = w'
/-- What Parse leaves of an integer. -/
def ZPR (W : World) (z : Int) (e : Ending) (w' : World) : Prop :=
  ∃ A c, e = .returned (.tuple #[.agg #[.bool (decide (z < 0)), .slice A (dl z.natAbs) c], .bool true]) ∧ ZA w' (decide (z < 0)) A (dl z.natAbs) c z ∧ Hid (Below W.heap.size W w')
def ZPN (W : World) (e : Ending) (w' : World) : Prop := e = .returned (.tuple #[.agg #[.bool false, .slice none 0 0], .bool false]) ∧ Hid (Below W.heap.size W w')
def PsR (W : World) (v : Nat) (e : Ending) (w' : World) : Prop := ∃ A c, e = .returned (.tuple #[.agg #[.slice A (dl v) c], .bool true]) ∧ Nm w' A (dl v) c v ∧ Hid (Below W.heap.size W w')
def PsN (W : World) (e : Ending) (w' : World) : Prop := e = .returned (.tuple #[.agg #[.slice none 0 0], .bool false]) ∧ Hid (Below W.heap.size W w')
theorem numL_dl {l : List UInt8} (hd : digB l = true) (h : l.length ≤ 99999) : dl (numL l) ≤ 100000 := by
  have h1 := numL_lt l (by unfold digB at hd; rw [Bool.and_eq_true] at hd; exact hd.2)
  refine Nat.le_trans (dl_le (k := l.length + 1) (Nat.lt_of_lt_of_le h1 ?_)) (by omega)
  rw [Nat.pow_succ]
  exact Nat.le_trans (Nat.pow_le_pow_left (show 10 ≤ W32 by decide) _) (Nat.le_mul_of_pos_right _ (by decide))
theorem alc1 {w : World} {o : Obj} {p i : Nat} {v : Value} (h : w.cell? ⟨p, i, none⟩ = some v) : (w.alloc o).cell? ⟨p, i, none⟩ = some v := (World.cell?_alloc_some _ _ _ (by rw [h]; rfl)).trans h
theorem set2b {w : World} {p : Nat} {s : Bool} {A : Option Addr} {n c : Nat} {x y : Value} (h : Zcell w p s A n c) :
    ((w.setCell ⟨p, 0, none⟩ x).setCell ⟨p, 1, none⟩ y).cell? ⟨p, 0, none⟩ = some x ∧ ((w.setCell ⟨p, 0, none⟩ x).setCell ⟨p, 1, none⟩ y).cell? ⟨p, 1, none⟩ = some y :=
  ⟨(World.cell?_setCell_other _ _ _ _ (by intro e; cases e)).trans (World.cell?_setCell_same _ _ _ h.c0), World.cell?_setCell_same _ _ _ ((World.cell?_setCell_other _ _ _ _ (by intro e; cases e)).trans h.c1)⟩
section
variable {W : World} {s : ByteArray} {b : Bool} {l : List UInt8}
/-- Good of a valid integer. -/
theorem zgood_h {A : Option Addr} {c : Nat} {z : Int} (h : ZA W (decide (z < 0)) A (dl z.natAbs) c z) : Calls Tryz.prog 32 #[.agg #[.bool (decide (z < 0)), .slice A (dl z.natAbs) c]] W (BoolR W true) := by
  have CG : Hid (∀ o, Calls Tryz.prog 50 #[.agg #[.slice A (dl z.natAbs) c]] (W.alloc o) (BoolR (W.alloc o) true)) := fun o => good_h (h.al o).1
  by_cases hn : z < 0
  · have CZ : Hid (∀ W', Below W.heap.size W W' → Calls Tryz.prog 76 #[.agg #[.slice A (dl z.natAbs) c]] W' (BoolR W' false)) := fun W' hb => za_some (h.up hb) (by omega)
    rw [decide_eq_true hn]
    clear h hn
    go_enter Tryz.func32, Tryz.ntmps32
    go_wp2_with (first | (go_at_call 50; (with_reducible refine (CG.out _).mono ?_); rintro e w1 ⟨rfl, hbk⟩; obtain ⟨e0, e1, hsz, hbx⟩ := bz1 hbk) | (go_at_call 76; (with_reducible refine (CZ.out _ hbx.out).mono ?_); rintro e w2 ⟨rfl, hbk2⟩) | fail)
    go_ret
    exact ⟨rfl, chain hbx hbk2.out⟩
  · rw [decide_eq_false hn]
    clear h hn
    go_enter Tryz.func32, Tryz.ntmps32
    go_wp2_with (first | (go_at_call 50; (with_reducible refine (CG.out _).mono ?_); rintro e w1 ⟨rfl, hbk⟩; obtain ⟨e0, e1, hsz, hbx⟩ := bz1 hbk) | fail)
    go_ret
    exact ⟨rfl, hbx⟩
end
end Go.Proofs.YtmiklffjffdkgaaGreatDoor
end

section
/- Package num: Cmp. Conditions: at most 100000 words. -/
open Go.RowKit
set_option maxRecDepth 100000
namespace Go.Proofs.YtmiklffjffdkgaaGreatDoor
def cmpZ (a b : Int) : Int := if a < b then -1 else if b < a then 1 else 0
theorem al2 (W : World) (o1 o2 : Obj) : Below W.heap.size W ((W.alloc o1).alloc o2) := ((Below.refl _ _).alloc (Nat.le_refl _) _).alloc (by simp) _
section
variable {W : World} {b b' : Bool} {A A' : Option Addr} {n n' c c' : Nat} {z z' : Int}
set_option maxHeartbeats 4000000 in
theorem zcmp_h {v : Int} (h : ZA W b A n c z) (h' : ZA W b' A' n' c' z') (hv : cmpZ z z' = v) : Calls Tryz.prog 102 #[.agg #[.bool b, .slice A n c], .agg #[.bool b', .slice A' n' c']] W (IntPost W v) := by
  obtain ⟨s, hs⟩ : ∃ s, z.sign = s := ⟨_, rfl⟩
  obtain ⟨s', hs'⟩ : ∃ s, z'.sign = s := ⟨_, rfl⟩
  have hsb : -1 ≤ s ∧ s ≤ 1 ∧ (s < 0 ↔ z < 0) ∧ (0 < s ↔ 0 < z) := by
    subst hs
    rcases Int.lt_trichotomy z 0 with h | h | h
    · rw [Int.sign_eq_neg_one_of_neg h]; omega
    · subst h; decide
    · rw [Int.sign_eq_one_of_pos h]; omega
  have hsb' : -1 ≤ s' ∧ s' ≤ 1 ∧ (s' < 0 ↔ z' < 0) ∧ (0 < s' ↔ 0 < z') := by
    subst hs'
    rcases Int.lt_trichotomy z' 0 with h | h | h
    · rw [Int.sign_eq_neg_one_of_neg h]; omega
    · subst h; decide
    · rw [Int.sign_eq_one_of_pos h]; omega
  have CA : Hid (∀ W', Below W.heap.size W W' → Calls Tryz.prog 63 #[.agg #[.bool b, .slice A n c]] W' (IntPost W' s)) := fun W' hb => sign_h (h.up hb) hs
  have CB : Hid (∀ W', Below W.heap.size W W' → Calls Tryz.prog 63 #[.agg #[.bool b', .slice A' n' c']] W' (IntPost W' s')) := fun W' hb => sign_h (h'.up hb) hs'
  have CC : Hid (∀ W', Below W.heap.size W W' → Calls Tryz.prog 31 #[.agg #[.slice A n c], .agg #[.slice A' n' c']] W' (IntPost W' (cmpI z.natAbs z'.natAbs))) := fun W' hb => cmp_h (h.up hb).1 (h'.up hb).1 rfl
  have CD : Hid (∀ W', Below W.heap.size W W' → Calls Tryz.prog 31 #[.agg #[.slice A' n' c'], .agg #[.slice A n c]] W' (IntPost W' (cmpI z'.natAbs z.natAbs))) := fun W' hb => cmp_h (h'.up hb).1 (h.up hb).1 rfl
  have ways : (s < s' ∧ v = -1) ∨ (¬ s < s' ∧ s' < s ∧ v = 1) ∨ (¬ s < s' ∧ ¬ s' < s ∧ s < 0 ∧ v = cmpI z'.natAbs z.natAbs) ∨ (¬ s < s' ∧ ¬ s' < s ∧ ¬ s < 0 ∧ v = cmpI z.natAbs z'.natAbs) := by
    unfold cmpZ at hv
    unfold cmpI
    by_cases h1 : s < s'
    · left; rw [if_pos (by omega)] at hv; exact ⟨h1, hv.symm⟩
    · by_cases h2 : s' < s
      · right; left; rw [if_neg (by omega), if_pos (by omega)] at hv; exact ⟨h1, h2, hv.symm⟩
      · by_cases h3 : s < 0
        · right; right; left
          refine ⟨h1, h2, h3, ?_⟩
          rw [← hv]
          split <;> split <;> (try split) <;> omega
        · right; right; right
          refine ⟨h1, h2, h3, ?_⟩
          rw [← hv]
          split <;> split <;> (try split) <;> omega
  clear h h' hv hs hs' hsb hsb'
  rcases ways with ⟨h1, hv⟩ | ⟨h1, h2, hv⟩ | ⟨h1, h2, h3, hv⟩ | ⟨h1, h2, h3, hv⟩
  all_goals
    have HV := hide hv
    clear hv
    go_enter Tryz.func102, Tryz.ntmps102
    go_wp2_with fail
    obtain ⟨W0, hW0⟩ : ∃ W0, W0 = ((W.alloc (.cells #[.bool b, .slice A n c] 26)).alloc (.cells #[.bool b', .slice A' n' c'] 26)) := ⟨_, rfl⟩
    rw [← hW0]
    have HA : Hid (Zcell W0.drew W.heap.size b A n c) := by rw [hW0]; exact Zcell.dr ((zc_new _ _ _ _ _ _).al _)
    have HA' : Hid (Zcell W0.drew (W.heap.size + 1) b' A' n' c') := by rw [hW0]; exact Zcell.dr (zc_new1 _ _ _ _ _ _ _)
    have HW : Hid (Below W.heap.size W W0.drew) := by rw [hW0]; exact Below.drew (al2 _ _ _)
    clear hW0
    go_region_held3 (fun w' => w'.cell? ⟨W.heap.size, 0, none⟩ = some (.bool b) ∧ w'.cell? ⟨W.heap.size, 1, none⟩ = some (.slice A n c) ∧ w'.cell? ⟨W.heap.size + 1, 0, none⟩ = some (.bool b') ∧ w'.cell? ⟨W.heap.size + 1, 1, none⟩ = some (.slice A' n' c')) (first | exact ⟨HA.out.c0, HA.out.c1, HA'.out.c0, HA'.out.c1⟩) (first | (go_at_call 63; (with_reducible refine (CA.out _ HW.out).mono ?_); rintro e w1 ⟨rfl, hbk⟩; replace HA := hide (HA.out.up hbk); replace HA' := hide (HA'.out.up hbk); replace HW := chain HW hbk.out) | (go_at_call 63; (with_reducible refine (CB.out _ HW.out).mono ?_); rintro e w2 ⟨rfl, hbk⟩; replace HA := hide (HA.out.up hbk); replace HA' := hide (HA'.out.up hbk); replace HW := chain HW hbk.out) | fail)
  · go_wp2_with fail
    go_ret
    exact ⟨by rw [HV.out]; rfl, HW.out⟩
  · go_wp2_with fail
    replace HA := hide HA.out.dr
    replace HA' := hide HA'.out.dr
    replace HW := hide (Below.drew HW.out)
    go_region_held3 (fun w' => w'.cell? ⟨W.heap.size, 0, none⟩ = some (.bool b) ∧ w'.cell? ⟨W.heap.size, 1, none⟩ = some (.slice A n c) ∧ w'.cell? ⟨W.heap.size + 1, 0, none⟩ = some (.bool b') ∧ w'.cell? ⟨W.heap.size + 1, 1, none⟩ = some (.slice A' n' c')) (first | exact ⟨HA.out.c0, HA.out.c1, HA'.out.c0, HA'.out.c1⟩) (first | (go_at_call 63; (with_reducible refine (CA.out _ HW.out).mono ?_); rintro e w1 ⟨rfl, hbk⟩; replace HA := hide (HA.out.up hbk); replace HA' := hide (HA'.out.up hbk); replace HW := chain HW hbk.out) | (go_at_call 63; (with_reducible refine (CB.out _ HW.out).mono ?_); rintro e w2 ⟨rfl, hbk⟩; replace HA := hide (HA.out.up hbk); replace HA' := hide (HA'.out.up hbk); replace HW := chain HW hbk.out) | fail)
    go_wp2_with fail
    go_ret
    exact ⟨by rw [HV.out]; rfl, HW.out⟩
  · go_wp2_with fail
    replace HA := hide HA.out.dr
    replace HA' := hide HA'.out.dr
    replace HW := hide (Below.drew HW.out)
    go_region_held3 (fun w' => w'.cell? ⟨W.heap.size, 0, none⟩ = some (.bool b) ∧ w'.cell? ⟨W.heap.size, 1, none⟩ = some (.slice A n c) ∧ w'.cell? ⟨W.heap.size + 1, 0, none⟩ = some (.bool b') ∧ w'.cell? ⟨W.heap.size + 1, 1, none⟩ = some (.slice A' n' c')) (first | exact ⟨HA.out.c0, HA.out.c1, HA'.out.c0, HA'.out.c1⟩) (first | (go_at_call 63; (with_reducible refine (CA.out _ HW.out).mono ?_); rintro e w1 ⟨rfl, hbk⟩; replace HA := hide (HA.out.up hbk); replace HA' := hide (HA'.out.up hbk); replace HW := chain HW hbk.out) | (go_at_call 63; (with_reducible refine (CB.out _ HW.out).mono ?_); rintro e w2 ⟨rfl, hbk⟩; replace HA := hide (HA.out.up hbk); replace HA' := hide (HA'.out.up hbk); replace HW := chain HW hbk.out) | fail)
    have a0 := HA.out.c0
    have a1 := HA.out.c1
    have x0 := HA'.out.c0
    have x1 := HA'.out.c1
    go_wp2_with (first | (go_at_call 63; (with_reducible refine (CA.out _ HW.out).mono ?_); rintro e w3 ⟨rfl, hbk⟩; replace HA := hide (HA.out.up hbk); replace HA' := hide (HA'.out.up hbk); replace HW := chain HW hbk.out; clear a0 a1 x0 x1; have a0 := HA.out.c0; have a1 := HA.out.c1; have x0 := HA'.out.c0; have x1 := HA'.out.c1) | (go_at_call 31; (with_reducible refine (CD.out _ HW.out).mono ?_); rintro e w4 ⟨rfl, hbk⟩) | fail)
    go_ret
    exact ⟨by rw [HV.out]; rfl, chain HW hbk.out⟩
  · go_wp2_with fail
    replace HA := hide HA.out.dr
    replace HA' := hide HA'.out.dr
    replace HW := hide (Below.drew HW.out)
    go_region_held3 (fun w' => w'.cell? ⟨W.heap.size, 0, none⟩ = some (.bool b) ∧ w'.cell? ⟨W.heap.size, 1, none⟩ = some (.slice A n c) ∧ w'.cell? ⟨W.heap.size + 1, 0, none⟩ = some (.bool b') ∧ w'.cell? ⟨W.heap.size + 1, 1, none⟩ = some (.slice A' n' c')) (first | exact ⟨HA.out.c0, HA.out.c1, HA'.out.c0, HA'.out.c1⟩) (first | (go_at_call 63; (with_reducible refine (CA.out _ HW.out).mono ?_); rintro e w1 ⟨rfl, hbk⟩; replace HA := hide (HA.out.up hbk); replace HA' := hide (HA'.out.up hbk); replace HW := chain HW hbk.out) | (go_at_call 63; (with_reducible refine (CB.out _ HW.out).mono ?_); rintro e w2 ⟨rfl, hbk⟩; replace HA := hide (HA.out.up hbk); replace HA' := hide (HA'.out.up hbk); replace HW := chain HW hbk.out) | fail)
    have a0 := HA.out.c0
    have a1 := HA.out.c1
    have x0 := HA'.out.c0
    have x1 := HA'.out.c1
    go_wp2_with (first | (go_at_call 63; (with_reducible refine (CA.out _ HW.out).mono ?_); rintro e w3 ⟨rfl, hbk⟩; replace HA := hide (HA.out.up hbk); replace HA' := hide (HA'.out.up hbk); replace HW := chain HW hbk.out; clear a0 a1 x0 x1; have a0 := HA.out.c0; have a1 := HA.out.c1; have x0 := HA'.out.c0; have x1 := HA'.out.c1) | (go_at_call 31; (with_reducible refine (CC.out _ HW.out).mono ?_); rintro e w4 ⟨rfl, hbk⟩) | fail)
    go_ret
    exact ⟨by rw [HV.out]; rfl, chain HW hbk.out⟩
end
end Go.Proofs.YtmiklffjffdkgaaGreatDoor
end

section
/- Package num: Text, Good of a valid number. Conditions: at most 100000 words. -/
open Go.RowKit
set_option maxRecDepth 100000
namespace Go.Proofs.YtmiklffjffdkgaaGreatDoor
/-- An integer's letters. -/
def decZ (z : Int) : List UInt8 := if z < 0 then 45 :: decL z.natAbs else decL z.natAbs
def TxR (W : World) (l : List UInt8) (e : Ending) (w' : World) : Prop := ∃ t : ByteArray, e = .returned (.string t) ∧ Hid (t.data.toList = l) ∧ Hid (Below W.heap.size W w')
section
variable {W : World} {b : Bool} {A : Option Addr} {n c : Nat} {z : Int}
theorem text_h {m : Nat} (h : Nm W A n c m) : Calls Tryz.prog 58 #[.agg #[.slice A n c]] W (TxR W (decL m)) := (Text_any h.out).mono fun _ _ h => h
theorem decL_len {W : World} {A : Option Addr} {n c m : Nat} (h : Nm W A n c m) : (decL m).length ≤ 1000001 := by
  have h1 : m < 10 ^ (10 * dl m + 1) := by
    have h2 : m < W32 ^ dl m := lt_pow_digs (b := W32) (by decide) m
    have h3 : W32 ^ dl m ≤ (10 ^ 10) ^ dl m := Nat.pow_le_pow_left (by decide) _
    rw [← Nat.pow_mul] at h3
    exact Nat.lt_of_lt_of_le h2 (Nat.le_trans h3 (Nat.pow_le_pow_right (by decide) (by omega)))
  have := dt_le h1 (by omega)
  have := h.dl
  omega
end
end Go.Proofs.YtmiklffjffdkgaaGreatDoor
end

section
/- The document's own integers. No conditions. -/
open Go.RowKit
set_option maxRecDepth 100000
namespace Go.Proofs.YtmiklffjffdkgaaGreatDoor
/-- What a call of the document's own leaves that returns an integer. -/
def RZ (W : World) (z : Int) (e : Ending) (w' : World) : Prop := ∃ A c, e = .returned (.agg #[.bool (decide (z < 0)), .slice A (dq z.natAbs) c]) ∧ Hid (RN w' w'.heap.size A c z.natAbs) ∧ Hid (Below W.heap.size W w')
theorem RN.setn {W : World} {B : Nat} {A : Option Addr} {c m : Nat} (h : RN W B A c m) {p : Addr} {v : Value} (hc : W.cell? p = some v) (hv : ∀ x : Nat, v ≠ I64 x) (u : Value) : RN (W.setCell p u) B A c m := by
  refine ⟨h.1, fun hn => ?_⟩
  obtain ⟨ad, e, hb, hx⟩ := h.2 hn
  refine ⟨ad, e, hb, fun j x hj => ?_⟩
  have h6 := hx j x hj
  rw [World.cell?_setCell_other W p _ u (by intro e; rw [← e, hc] at h6; injection h6 with h6; exact hv x h6)]
  exact h6
theorem rn_z2 {W : World} {A : Option Addr} {c m g : Nat} {v0 : Bool} {a : Option Addr} {l k : Nat} {x y : Value} (h : Hid (RN W W.heap.size A c m)) (e0 : W.cell? ⟨g, 0, none⟩ = some (.bool v0)) (e1 : W.cell? ⟨g, 1, none⟩ = some (.slice a l k)) :
    Hid (RN ((W.setCell ⟨g, 0, none⟩ x).setCell ⟨g, 1, none⟩ y) ((W.setCell ⟨g, 0, none⟩ x).setCell ⟨g, 1, none⟩ y).heap.size A c m) := by
  have h1 := (h.out.setn e0 (by intro x hx; cases hx) x).setn (p := ⟨g, 1, none⟩) ((World.cell?_setCell_other _ _ _ _ (by intro e; cases e)).trans e1) (by intro x hx; cases hx) y
  have : ((W.setCell ⟨g, 0, none⟩ x).setCell ⟨g, 1, none⟩ y).heap.size = W.heap.size := by simp [World.setCell]
  unfold Hid
  rw [this]; exact h1
section
variable {W : World} {z : Int}
set_option maxHeartbeats 2000000 in
theorem zint_h (h1 : -9223372036854775808 ≤ z) (h2 : z ≤ 9223372036854775807) : Calls Tryz.prog 37 #[.int .i64 z] W (RZ W z) := by
  by_cases hn : z < 0
  · have e : -(z + 1) = ((z.natAbs - 1 : Nat) : Int) := by omega
    have CS1 : Hid (∀ W', Calls Tryz.prog 41 #[.int .u64 (-(z + 1))] W' (RefPost W' (z.natAbs - 1))) := fun W' => by rw [e]; exact Small_any (by omega)
    have CS2 : Hid (∀ W', Calls Tryz.prog 41 #[.int .u64 1] W' (RefPost W' 1)) := fun W' => Small_any (n := 1) (by omega)
    have CA : Hid (∀ W' B d B' d', Hid (RN W' W'.heap.size B d (z.natAbs - 1)) → Hid (RN W' W'.heap.size B' d' 1) → Calls Tryz.prog 53 #[.slice B (dq (z.natAbs - 1)) d, .slice B' (dq 1) d'] W' (RefPost W' z.natAbs)) := fun W' B d B' d' h h' => by
      have h3 := rAdd_any h.out h'.out (Nat.le_trans (dq_u64 (by omega)) (by omega)) (Nat.le_trans (dq_u64 (by omega)) (by omega))
      rwa [show z.natAbs - 1 + 1 = z.natAbs by omega] at h3
    have HZ : Hid (decide (z < 0) = true) := decide_eq_true hn
    clear e
    go_enter Tryz.func37, Tryz.ntmps37
    go_wp2_with (first | (go_at_call 41; (with_reducible refine (CS1.out _).mono ?_); rintro e w1 ⟨B, d, rfl, hn1, hbk⟩; have HR := hide ((zc_new _ _ _ _ _ _).up hbk); have HW : Hid (Below W.heap.size W w1) := (bz1 hbk).2.2.2) | (go_at_call 41; (with_reducible refine (CS2.out _).mono ?_); rintro e w2 ⟨B2, d2, rfl, hn2, hbk2⟩; replace HR := hide (HR.out.up hbk2); replace HW := chain HW hbk2.out; replace hn1 := hide ((hn1.out.below hbk2.out).more hbk2.out.size)) | (go_at_call 53; (with_reducible refine (CA.out _ _ _ _ _ hn1 hn2).mono ?_); rintro e w3 ⟨B3, d3, rfl, hn3, hbk3⟩; replace HR := hide (HR.out.up hbk3); replace HW := chain HW hbk3.out; have r0 := HR.out.c0; have r1 := HR.out.c1; have f0 := HR.out.f0; have f1 := HR.out.f1) | fail)
    refine bodyPost_ret (v := .agg #[.bool true, .slice B3 (dq z.natAbs) d3]) (by simp [results, Tryz.results37, go_sem, r0, r1]) rfl ?_
    exact ⟨B3, d3, by rw [HZ.out], rn_z2 hn3 r0 r1, (HW.out.setCell (by simp) _).setCell (by simp) _⟩
  · have e : IntKind.u64.wrap z = ((z.natAbs : Nat) : Int) := by rw [IntKind.wrap_u64]; omega
    have CS1 : Hid (∀ W', Calls Tryz.prog 41 #[.int .u64 (IntKind.u64.wrap z)] W' (RefPost W' z.natAbs)) := fun W' => by rw [e]; exact Small_any (by omega)
    have CS2 : Hid (∀ W', Calls Tryz.prog 41 #[.int .u64 z] W' (RefPost W' z.natAbs)) := fun W' => by rw [show z = ((z.natAbs : Nat) : Int) by omega]; exact Small_any (by omega)
    have HZ : Hid (decide (z < 0) = false) := decide_eq_false hn
    have hn' : 0 ≤ z := by omega
    clear e
    go_enter Tryz.func37, Tryz.ntmps37
    go_wp2_with (first | (go_at_call 41; (with_reducible refine (CS1.out _).mono ?_); rintro e w3 ⟨B3, d3, rfl, hn3, hbk⟩; have HR := hide ((zc_new _ _ _ _ _ _).up hbk); have HW : Hid (Below W.heap.size W w3) := (bz1 hbk).2.2.2; have r0 := HR.out.c0; have r1 := HR.out.c1; have f0 := HR.out.f0; have f1 := HR.out.f1) | (go_at_call 41; (with_reducible refine (CS2.out _).mono ?_); rintro e w3 ⟨B3, d3, rfl, hn3, hbk⟩; have HR := hide ((zc_new _ _ _ _ _ _).up hbk); have HW : Hid (Below W.heap.size W w3) := (bz1 hbk).2.2.2; have r0 := HR.out.c0; have r1 := HR.out.c1; have f0 := HR.out.f0; have f1 := HR.out.f1) | fail)
    refine bodyPost_ret (v := .agg #[.bool false, .slice B3 (dq z.natAbs) d3]) (by simp [results, Tryz.results37, go_sem, r0, r1]) rfl ?_
    exact ⟨B3, d3, by rw [HZ.out], rn_z2 hn3 r0 r1, (HW.out.setCell (by simp) _).setCell (by simp) _⟩
end
end Go.Proofs.YtmiklffjffdkgaaGreatDoor
end

section
/- Fractions: the reckoning. No conditions. -/
open Go.RowKit
set_option maxRecDepth 100000
namespace Go.Proofs.YtmiklffjffdkgaaGreatDoor
/-- How two fractions stand to each other. -/
def cmpR (a b : Rat) : Int := if a < b then -1 else if b < a then 1 else 0
theorem mk_cross {z : Int} {d : Nat} (hd : 0 < d) : (mkRat z d).num * (d : Int) = z * ((mkRat z d).den : Int) := by
  have h := (Rat.mkRat_eq_iff (n₁ := (mkRat z d).num) (d₁ := (mkRat z d).den) (n₂ := z) (d₂ := d) (mkRat z d).den_nz (by omega)).1 (Rat.mkRat_self _)
  exact h
theorem mul_lt_iff {a b c : Int} (hc : 0 < c) : a * c < b * c ↔ a < b := ⟨fun h => Int.lt_of_mul_lt_mul_right h (by omega), fun h => Int.mul_lt_mul_of_pos_right h hc⟩
theorem mk_lt {z z' : Int} {d d' : Nat} (hd : 0 < d) (hd' : 0 < d') : mkRat z d < mkRat z' d' ↔ z * (d' : Int) < z' * (d : Int) := by
  have e := mk_cross (z := z) hd
  have e' := mk_cross (z := z') hd'
  rw [Rat.lt_iff]
  obtain ⟨a, ha⟩ : ∃ a, a = (mkRat z d).num := ⟨_, rfl⟩
  obtain ⟨b, hb⟩ : ∃ b, b = (mkRat z' d').num := ⟨_, rfl⟩
  obtain ⟨x, hx⟩ : ∃ x : Int, x = ((mkRat z d).den : Int) := ⟨_, rfl⟩
  obtain ⟨y, hy⟩ : ∃ y : Int, y = ((mkRat z' d').den : Int) := ⟨_, rfl⟩
  have hx0 : 0 < x := by rw [hx]; exact Int.natCast_pos.2 (mkRat z d).den_pos
  have hy0 : 0 < y := by rw [hy]; exact Int.natCast_pos.2 (mkRat z' d').den_pos
  rw [← ha, ← hb, ← hx, ← hy]
  rw [← ha, ← hx] at e
  rw [← hb, ← hy] at e'
  have hD : (0 : Int) < (d : Int) * (d' : Int) := Int.mul_pos (by omega) (by omega)
  have hX : (0 : Int) < x * y := Int.mul_pos hx0 hy0
  rw [← mul_lt_iff hD, ← mul_lt_iff (a := z * (d' : Int)) hX]
  have e1 : a * y * ((d : Int) * (d' : Int)) = (a * (d : Int)) * (d' : Int) * y := by ac_rfl
  have e2 : b * x * ((d : Int) * (d' : Int)) = (b * (d' : Int)) * (d : Int) * x := by ac_rfl
  have e3 : z * (d' : Int) * (x * y) = (z * x) * (d' : Int) * y := by ac_rfl
  have e4 : z' * (d : Int) * (x * y) = (z' * y) * (d : Int) * x := by ac_rfl
  rw [e1, e2, e3, e4, e, e']
theorem cmp_mk {z z' : Int} {d d' : Nat} (hd : 0 < d) (hd' : 0 < d') : cmpR (mkRat z d) (mkRat z' d') = (if z * (d' : Int) < z' * (d : Int) then -1 else if z' * (d : Int) < z * (d' : Int) then 1 else 0) := by
  unfold cmpR
  by_cases h1 : z * (d' : Int) < z' * (d : Int)
  · rw [if_pos h1, if_pos ((mk_lt hd hd').2 h1)]
  · rw [if_neg h1, if_neg (fun h => h1 ((mk_lt hd hd').1 h))]
    by_cases h2 : z' * (d : Int) < z * (d' : Int)
    · rw [if_pos h2, if_pos ((mk_lt hd' hd).2 h2)]
    · rw [if_neg h2, if_neg (fun h => h2 ((mk_lt hd' hd).1 h))]
theorem sign_mk {z : Int} {d : Nat} (hd : 0 < d) : (mkRat z d).num.sign = z.sign := by
  have e := mk_cross (z := z) hd
  have h := congrArg Int.sign e
  rw [Int.sign_mul, Int.sign_mul, Int.sign_eq_one_of_pos (a := (d : Int)) (by omega), Int.sign_eq_one_of_pos (a := ((mkRat z d).den : Int)) (Int.natCast_pos.2 (mkRat z d).den_pos), Int.mul_one, Int.mul_one] at h
  exact h
/-- In lowest terms: over and under the line. -/
theorem low_terms {z : Int} {d g : Nat} (hd : 0 < d) (hg : g = Nat.gcd z.natAbs d) : 0 < g ∧ (mkRat z d).num.natAbs = z.natAbs / g ∧ (mkRat z d).den = d / g ∧ z.natAbs % g = 0 ∧ d % g = 0 ∧ decide ((mkRat z d).num < 0) = decide (z < 0) := by
  have hg0 : 0 < g := by rw [hg]; exact Nat.gcd_pos_of_pos_right _ hd
  have h1 : g ∣ z.natAbs := by rw [hg]; exact Nat.gcd_dvd_left _ _
  have h2 : g ∣ d := by rw [hg]; exact Nat.gcd_dvd_right _ _
  have hc : Nat.gcd d z.natAbs = g := by rw [hg, Nat.gcd_comm]
  have hz : ((g : Nat) : Int) ∣ z := Int.ofNat_dvd_left.2 h1
  refine ⟨hg0, ?_, ?_, Nat.mod_eq_zero_of_dvd h1, Nat.mod_eq_zero_of_dvd h2, ?_⟩
  · rw [Rat.num_mkRat, if_neg (by omega), hc, Int.natAbs_ediv_of_dvd hz, Int.natAbs_natCast]
  · rw [Rat.den_mkRat, if_neg (by omega), hc]
  · have h := sign_mk (z := z) hd
    by_cases hn : z < 0
    · rw [decide_eq_true hn]
      rw [Int.sign_eq_neg_one_of_neg hn] at h
      exact decide_eq_true (Int.sign_eq_neg_one_iff_neg.1 h)
    · rw [decide_eq_false hn]
      refine decide_eq_false fun h2 => ?_
      rw [Int.sign_eq_neg_one_iff_neg.2 h2] at h
      exact hn (Int.sign_eq_neg_one_iff_neg.1 h.symm)
theorem add_mk {z z' : Int} {d d' : Nat} (hd : 0 < d) (hd' : 0 < d') : mkRat z d + mkRat z' d' = mkRat (z * d' + z' * d) (d * d') := Rat.mkRat_add_mkRat z z' (by omega) (by omega)
theorem mul_mk {z z' : Int} {d d' : Nat} : mkRat z d * mkRat z' d' = mkRat (z * z') (d * d') := Rat.mkRat_mul_mkRat z z' d d'
theorem neg_mk {z : Int} {d : Nat} : -mkRat z d = mkRat (-z) d := Rat.neg_mkRat z d
/-- What is turned about. -/
theorem inv_mk {z : Int} {d : Nat} (hz : z ≠ 0) (hd : 0 < d) : (mkRat z d)⁻¹ = mkRat (if z < 0 then -(d : Int) else (d : Int)) z.natAbs := by
  rw [← Rat.divInt_ofNat, Rat.inv_divInt]
  by_cases hn : z < 0
  · rw [if_pos hn, ← Rat.divInt_ofNat, ← Rat.neg_divInt_neg]
    congr 1; omega
  · rw [if_neg hn, ← Rat.divInt_ofNat]
    congr 1; omega
theorem floor_mk {z : Int} {d : Nat} (hd : 0 < d) : (mkRat z d).floor = z / (d : Int) := by
  have e := mk_cross (z := z) hd
  have hx0 : 0 < ((mkRat z d).den : Int) := Int.natCast_pos.2 (mkRat z d).den_pos
  rw [Rat.floor_def, ← Int.mul_ediv_mul_of_pos_left z (d : Int) hx0, ← e, Int.mul_comm (d : Int), Int.mul_ediv_mul_of_pos_left _ _ (by omega)]
end Go.Proofs.YtmiklffjffdkgaaGreatDoor
end

section
/- Facts that go on through calls: a box known whole, a world above another. No conditions. -/
open Go.RowKit
set_option maxRecDepth 100000
namespace Go.Proofs.YtmiklffjffdkgaaGreatDoor
/-- Block p holds the values, and may be written. -/
structure At (W : World) (p : Nat) (vs : List Value) : Prop where
  lt : p < W.heap.size
  all : ∀ i v, vs[i]? = some v → W.cell? ⟨p, i, none⟩ = some v ∧ W.frozen? ⟨p, i, none⟩ = false
def Bel (w W : World) : Prop := Below w.heap.size w W
theorem Bel.refl (w : World) : Bel w w := Below.refl _ _
theorem Bel.up {w W W' : World} (h : Bel w W) (hb : Hid (Below W.heap.size W W')) : Bel w W' := Below.trans h (hb.out.mono (Below.size h))
theorem Bel.al {w W : World} (h : Bel w W) (o : Obj) : Bel w (W.alloc o) := Below.alloc h (Below.size h) o
theorem Bel.dr {w W : World} (h : Bel w W) : Bel w W.drew := Below.drew h
theorem Bel.hid {w W : World} (h : Bel w W) : Hid (Below w.heap.size w W) := h
theorem Bel.of {w W : World} (h : Hid (Below w.heap.size w W)) : Bel w W := h
section
variable {W W' : World} {p : Nat} {u v x : Value} {vs : List Value}
theorem At.up (h : At W p vs) (hb : Hid (Below W.heap.size W W')) : At W' p vs :=
  ⟨Nat.lt_of_lt_of_le h.lt hb.out.size, fun i v hv => ⟨(hb.out.cell h.lt).trans (h.all i v hv).1, (hb.out.frozen h.lt).trans (h.all i v hv).2⟩⟩
theorem At.al (h : At W p vs) (o : Obj) : At (W.alloc o) p vs := h.up ((Below.refl _ _).alloc (Nat.le_refl _) o)
theorem At.dr (h : At W p vs) : At W.drew p vs := ⟨h.lt, h.all⟩
theorem At.c0 (h : At W p (v :: vs)) : W.cell? ⟨p, 0, none⟩ = some v := (h.all 0 v rfl).1
theorem At.c1 (h : At W p (u :: v :: vs)) : W.cell? ⟨p, 1, none⟩ = some v := (h.all 1 v rfl).1
theorem At.c2 (h : At W p (x :: u :: v :: vs)) : W.cell? ⟨p, 2, none⟩ = some v := (h.all 2 v rfl).1
theorem At.f0 (h : At W p (v :: vs)) : W.frozen? ⟨p, 0, none⟩ = false := (h.all 0 v rfl).2
theorem At.f1 (h : At W p (u :: v :: vs)) : W.frozen? ⟨p, 1, none⟩ = false := (h.all 1 v rfl).2
theorem At.f2 (h : At W p (x :: u :: v :: vs)) : W.frozen? ⟨p, 2, none⟩ = false := (h.all 2 v rfl).2
theorem at_new0 (W : World) (vs : List Value) (t : TypeId) : At (W.alloc (.cells vs.toArray t)) W.heap.size vs := by
  have h : (W.alloc (.cells vs.toArray t)).heap[W.heap.size]? = some (.cells vs.toArray t (0, 0)) := heap_alloc_new W _
  refine ⟨by simp, fun i v hv => ⟨?_, by unfold World.frozen?; rw [h]; simp⟩⟩
  rw [cell_of_row _ _ i _ t (0, 0) h]
  simpa using hv
theorem at_size {W X : World} {p : Nat} {vs : List Value} (h : At X W.heap.size vs) (e : W.heap.size = p) : At X p vs := e ▸ h
theorem at_new1 (W : World) (o : Obj) (vs : List Value) (t : TypeId) : At ((W.alloc o).alloc (.cells vs.toArray t)) (W.heap.size + 1) vs := at_size (at_new0 (W.alloc o) vs t) (by simp)
theorem at_new2 (W : World) (o o1 : Obj) (vs : List Value) (t : TypeId) : At (((W.alloc o).alloc o1).alloc (.cells vs.toArray t)) (W.heap.size + 1 + 1) vs := at_size (at_new0 ((W.alloc o).alloc o1) vs t) (by simp)
theorem at_new3 (W : World) (o o1 o2 : Obj) (vs : List Value) (t : TypeId) : At ((((W.alloc o).alloc o1).alloc o2).alloc (.cells vs.toArray t)) (W.heap.size + 1 + 1 + 1) vs := at_size (at_new0 (((W.alloc o).alloc o1).alloc o2) vs t) (by simp)
theorem at_new4 (W : World) (o o1 o2 o3 : Obj) (vs : List Value) (t : TypeId) : At (((((W.alloc o).alloc o1).alloc o2).alloc o3).alloc (.cells vs.toArray t)) (W.heap.size + 1 + 1 + 1 + 1) vs := at_size (at_new0 ((((W.alloc o).alloc o1).alloc o2).alloc o3) vs t) (by simp)
/-- A write into another block. -/
theorem At.far {q i : Nat} (h : At W p vs) (hq : q ≠ p) (u : Value) : At (W.setCell ⟨q, i, none⟩ u) p vs :=
  ⟨by have := h.lt; simpa [World.setCell] using this, fun j v hv => ⟨(World.cell?_setCell_far _ _ _ _ hq).trans (h.all j v hv).1, by rw [World.frozen?_setCell]; exact (h.all j v hv).2⟩⟩
/-- A write into this one. -/
theorem At.put {i : Nat} (h : At W p vs) (hi : i < vs.length) (u : Value) : At (W.setCell ⟨p, i, none⟩ u) p (vs.set i u) := by
  refine ⟨by have := h.lt; simpa [World.setCell] using this, fun j v hv => ?_⟩
  by_cases e : i = j
  · subst e
    rw [List.getElem?_set_self hi] at hv
    injection hv with hv
    obtain ⟨h1, h2⟩ := h.all i _ (List.getElem?_eq_getElem hi)
    exact ⟨by rw [← hv]; exact World.cell?_setCell_same _ _ _ h1, by rw [World.frozen?_setCell]; exact h2⟩
  · rw [List.getElem?_set_ne e] at hv
    exact ⟨(World.cell?_setCell_other _ _ _ _ (by intro h3; injection h3 with _ h4; exact e h4)).trans (h.all j v hv).1, by rw [World.frozen?_setCell]; exact (h.all j v hv).2⟩
theorem At.ci (h : At W p vs) {i : Nat} (hi : vs[i]? = some v) : W.cell? ⟨p, i, none⟩ = some v := (h.all i v hi).1
theorem At.fi (h : At W p vs) {i : Nat} (hi : vs[i]? = some v) : W.frozen? ⟨p, i, none⟩ = false := (h.all i v hi).2
end
def RetB (W : World) (b : Bool) (e : Ending) (w' : World) : Prop := e = .returned (.bool b) ∧ Bel W w'
end Go.Proofs.YtmiklffjffdkgaaGreatDoor
end

section
/- Facts that go on through calls: a box known whole, a world above another; package rat: isZero, isOne, times. Conditions: at most 100000 words. -/
open Go.RowKit
set_option maxRecDepth 100000
namespace Go.Proofs.YtmiklffjffdkgaaGreatDoor
section
variable {W W' : World} {p : Nat} {u v x : Value} {vs : List Value}
/-- No word stands in a box of flags and slices. -/
def NoW (vs : List Value) : Prop := ∀ v ∈ vs, ∀ x : Nat, v ≠ U32 x
theorem Nm.put {A : Option Addr} {n c m i : Nat} (h : Nm W A n c m) (hp : At W p vs) (hi : i < vs.length) (hw : NoW vs) (u : Value) : Nm (W.setCell ⟨p, i, none⟩ u) A n c m :=
  h.setn (hp.all i _ (List.getElem?_eq_getElem hi)).1 (hw _ (List.getElem_mem hi)) u
end
end Go.Proofs.YtmiklffjffdkgaaGreatDoor
end

section
/- Package rat: isZero, isOne, times, terms. Conditions: at most 100000 words. -/
open Go.RowKit
set_option maxRecDepth 100000
namespace Go.Proofs.YtmiklffjffdkgaaGreatDoor
theorem cmp_u {W : World} {A A' : Option Addr} {n n' c c' m m' : Nat} (h : Nm W A n c m) (h' : Nm W A' n' c' m') : Calls Tryz.prog 31 #[.agg #[.slice A n c], .agg #[.slice A' n' c']] W (IntPost W (cmpI m m')) := cmp_h h h' rfl
section
variable {W : World} {b b' : Bool} {A A' : Option Addr} {n n' c c' m m' : Nat} {z z' : Int}
theorem rzero_h (h : Nm W A n c m) : Calls Tryz.prog 87 #[.agg #[.slice A n c]] W (RetB W (decide (m = 0))) := by
  obtain ⟨u, hu⟩ : ∃ u, u = cmpI m 0 := ⟨_, rfl⟩
  have CC : Hid (∀ o, Calls Tryz.prog 31 #[.agg #[.slice A n c], .agg #[.slice none 0 0]] (W.alloc o) (IntPost (W.alloc o) u)) := fun o => by rw [hu]; exact cmp_u (h.al o) (nm_nil _ none 0)
  have HU : Hid ((u == 0) = decide (m = 0)) := by rw [hu]; exact cmpI_beq m 0
  clear h hu
  go_enter Tryz.func87, Tryz.ntmps87
  go_wp2_with (go_at_call 31; (with_reducible refine (CC.out _).mono ?_); rintro e w1 ⟨rfl, hbk⟩)
  go_ret
  exact ⟨bool_ret (by first | exact HU.out | (have := HU.out; simpa using this)), (bx1 hbk).2.2⟩
/-- What a call leaves that returns an integer: as ZR, with a sign of its own name. -/
theorem ret_z {w2 : World} {B : Option Addr} {d p : Nat} {v : Int} {v0 v1 : Value} (hW : Bel W w2) (hp : W.heap.size ≤ p) (hR : At w2 p [v0, v1]) (hw : NoW [v0, v1]) (hn : ZA w2 (decide (v < 0)) B (dl v.natAbs) d v) :
    ZR W v (.returned (.agg #[.bool (decide (v < 0)), .slice B (dl v.natAbs) d])) ((w2.setCell ⟨p, 0, none⟩ (.bool (decide (v < 0)))).setCell ⟨p, 1, none⟩ (.slice B (dl v.natAbs) d)) := by
  refine ⟨B, d, rfl, ⟨?_, hn.2⟩, (Below.setCell hW hp _).setCell hp _⟩
  exact (hn.1.put (i := 0) hR (by simp) hw _).put (i := 1) (hR.put (i := 0) (by simp) _) (by simp) (by
    intro u hu x
    simp at hu
    rcases hu with rfl | rfl
    · intro e; cases e
    · exact hw _ (by simp) x) _
theorem now2 {b : Bool} {A : Option Addr} {n c : Nat} : NoW [.bool b, .slice A n c] := by
  intro u hu x
  simp at hu
  rcases hu with rfl | rfl <;> (intro e; cases e)
theorem now1 {A : Option Addr} {n c : Nat} : NoW [.slice A n c] := by
  intro u hu x
  simp at hu
  subst hu
  intro e; cases e
theorem now3 {b : Bool} {A A' : Option Addr} {n c n' c' : Nat} : NoW [.bool b, .slice A n c, .slice A' n' c'] := by
  intro u hu x
  simp at hu
  rcases hu with rfl | rfl | rfl <;> (intro e; cases e)
set_option maxHeartbeats 1000000 in
theorem times_h {v : Int} (h : ZA W b A n c z) (h' : Nm W A' n' c' m) (hv : z * (m : Int) = v) (hd : dl v.natAbs ≤ 100000) : Calls Tryz.prog 103 #[.agg #[.bool b, .slice A n c], .agg #[.slice A' n' c']] W (ZR W v) := by
  have CM : Hid (∀ W', Bel W W' → Calls Tryz.prog 66 #[.agg #[.bool b, .slice A n c], .agg #[.bool false, .slice A' n' c']] W' (ZR W' v)) := fun W' hb => zmul_h (h.up hb) (za_of (b := false) (h'.up hb)) hv hd
  clear h h' hv hd
  go_enter Tryz.func103, Tryz.ntmps103
  have HB := Bel.refl W
  go_wp2_with (first | (go_at_call 66; (with_reducible refine (CM.out _ (((HB.al _).al _).al _)).mono ?_); rintro e w1 ⟨B, d, rfl, hn, hbk⟩; have HR := At.up (at_new2 _ _ _ _ _) hbk; replace HB := (((HB.al _).al _).al _).up hbk; have r0 := HR.c0; have r1 := HR.c1; have f0 := HR.f0; have f1 := HR.f1) | fail)
  refine bodyPost_ret (v := .agg #[.bool (decide (v < 0)), .slice B (dl v.natAbs) d]) (by simp [results, Tryz.results103, go_sem, r0, r1]) rfl ?_
  exact ret_z HB (by omega) HR now2 hn

/-- In world W the sign and the two slices tell the fraction r; the terms have at most K words. -/
def QA (W : World) (b : Bool) (A : Option Addr) (n c : Nat) (A' : Option Addr) (n' c' : Nat) (r : Rat) (K : Nat) : Prop :=
  ∃ (z : Int) (d : Nat), ZA W b A n c z ∧ Nm W A' n' c' d ∧ Hid (mkRat z d = r ∧ z.natAbs < W32 ^ K ∧ d < W32 ^ K)
theorem QA.up {W W' : World} {b : Bool} {A A' : Option Addr} {n c n' c' K : Nat} {r : Rat} (h : QA W b A n c A' n' c' r K) (hb : Hid (Below W.heap.size W W')) : QA W' b A n c A' n' c' r K := by
  obtain ⟨z, d, h1, h2, h3⟩ := h
  exact ⟨z, d, h1.up hb, h2.up hb, h3⟩
theorem QA.al {W : World} {b : Bool} {A A' : Option Addr} {n c n' c' K : Nat} {r : Rat} (h : QA W b A n c A' n' c' r K) (o : Obj) : QA (W.alloc o) b A n c A' n' c' r K := h.up ((Below.refl _ _).alloc (Nat.le_refl _) o)
theorem QA.dr {W : World} {b : Bool} {A A' : Option Addr} {n c n' c' K : Nat} {r : Rat} (h : QA W b A n c A' n' c' r K) : QA W.drew b A n c A' n' c' r K := h
/-- What terms leaves: over and under the line. -/
def TermsR (W : World) (r : Rat) (K : Nat) (e : Ending) (w' : World) : Prop :=
  ∃ b A n c A' n' c' z d, e = .returned (.tuple #[.agg #[.bool b, .slice A n c], .agg #[.slice A' n' c']]) ∧ ZA w' b A n c z ∧ Nm w' A' n' c' d ∧ Hid (0 < d ∧ mkRat z d = r ∧ z.natAbs < W32 ^ K ∧ d < W32 ^ K) ∧ Hid (Below W.heap.size W w')
theorem dl_one : dl 1 = 1 := by unfold dl; rw [digs_pos (by decide) (by decide)]; rw [show 1 / W32 = 0 from rfl, digs_zero]; rfl
set_option maxHeartbeats 2000000 in
theorem terms_h {r : Rat} {K : Nat} (h : QA W b A n c A' n' c' r K) (hK : 0 < K) : Calls Tryz.prog 69 #[.agg #[.bool b, .slice A n c, .slice A' n' c']] W (TermsR W r K) := by
  obtain ⟨z, d, hz, hd, hr⟩ := h
  have CZ : Hid (∀ W', Bel W W' → Calls Tryz.prog 87 #[.agg #[.slice A' n' c']] W' (RetB W' (decide (d = 0)))) := fun W' hb => rzero_h (hd.up hb)
  have HB := Bel.refl W
  by_cases h0 : d = 0
  · have HP : Hid (0 < 1 ∧ mkRat 0 1 = r ∧ (0 : Int).natAbs < W32 ^ K ∧ 1 < W32 ^ K) := by
      refine ⟨by decide, ?_, ?_, Nat.one_lt_pow (by omega) (by decide)⟩
      · rw [← hr.out.1, h0]; simp
      · exact Nat.pow_pos (by decide)
    rw [decide_eq_true h0] at CZ
    have CO : Hid (∀ W', Calls Tryz.prog 56 #[.int .u64 1] W' (NumR W' 1)) := fun W' => of_h (v := 1) (by omega)
    clear h0 hr hz hd
    go_enter Tryz.func69, Tryz.ntmps69
    go_wp2_with (first | (go_at_call 87; (with_reducible refine (CZ.out _ (((HB.al _).al _).al _)).mono ?_); rintro e w1 ⟨rfl, hbk⟩; have HQ := At.up (((at_new0 _ _ _).al _).al _) hbk; have HP0 := At.up ((at_new1 _ _ _ _).al _) hbk; have HP1 := At.up (at_new2 _ _ _ _ _) hbk; replace HB := (((HB.al _).al _).al _).up hbk) | (go_at_call 56; (with_reducible refine (CO.out _).mono ?_); rintro e w2 ⟨B, e2, rfl, hn, hbk⟩; replace HB := HB.up hbk; replace HQ := HQ.up hbk; replace HP0 := HP0.up hbk; replace HP1 := HP1.up hbk; have r0 := HP0.c0; have r1 := HP0.c1; have f0 := HP0.f0; have f1 := HP0.f1; have r2 := HP1.c0; have f2 := HP1.f0) | fail)
    refine bodyPost_ret (v := .tuple #[.agg #[.bool false, .slice none 0 0], .agg #[.slice B (dl 1) e2]]) (by simp [results, Tryz.results69, go_sem, r0, r1, r2]) rfl ?_
    have P0 := HP0.put (i := 0) (by simp) (.bool false)
    have P1 := P0.put (i := 1) (by simp) (.slice none 0 0)
    have Q1 := (HP1.far (i := 0) (show W.heap.size + 1 ≠ W.heap.size + 1 + 1 by omega) (.bool false)).far (i := 1) (show W.heap.size + 1 ≠ W.heap.size + 1 + 1 by omega) (.slice none 0 0)
    refine ⟨false, none, 0, 0, B, dl 1, e2, 0, 1, rfl, ⟨nm_nil _ _ _, rfl⟩, ?_, HP, ?_⟩
    · exact ((hn.put HP0 (by simp) now2 _).put P0 (by simp) now2 _).put Q1 (by simp) now1 _
    · exact (((Below.setCell HB (by simp) _).setCell (by simp) _).setCell (by simp; omega) _)
  · have HP : Hid (0 < d ∧ mkRat z d = r ∧ z.natAbs < W32 ^ K ∧ d < W32 ^ K) := ⟨by omega, hr.out⟩
    rw [decide_eq_false h0] at CZ
    clear h0 hr
    go_enter Tryz.func69, Tryz.ntmps69
    go_wp2_with (first | (go_at_call 87; (with_reducible refine (CZ.out _ (((HB.al _).al _).al _)).mono ?_); rintro e w1 ⟨rfl, hbk⟩; have HQ := At.up (((at_new0 _ _ _).al _).al _) hbk; have HP0 := At.up ((at_new1 _ _ _ _).al _) hbk; have HP1 := At.up (at_new2 _ _ _ _ _) hbk; replace HB := (((HB.al _).al _).al _).up hbk; replace hz := (((hz.al _).al _).al _).up hbk; replace hd := (((hd.al _).al _).al _).up hbk; have r0 := HP0.c0; have r1 := HP0.c1; have f0 := HP0.f0; have f1 := HP0.f1; have r2 := HP1.c0; have f2 := HP1.f0; have q0 := HQ.c0; have q1 := HQ.c1; have q2 := HQ.c2) | fail)
    go_region_with (fail)
    all_goals
      go_wp2_with fail
      refine bodyPost_ret (v := .tuple #[.agg #[.bool b, .slice A n c], .agg #[.slice A' n' c']]) (by simp [results, Tryz.results69, go_sem, r0, r1, r2]) rfl ?_
      have P0 := HP0.put (i := 0) (by simp) (.bool b)
      have P1 := P0.put (i := 1) (by simp) (.slice A n c)
      have Q1 := (HP1.far (i := 0) (show W.heap.size + 1 ≠ W.heap.size + 1 + 1 by omega) (.bool b)).far (i := 1) (show W.heap.size + 1 ≠ W.heap.size + 1 + 1 by omega) (.slice A n c)
      refine ⟨b, A, n, c, A', n', c', z, d, rfl, ⟨?_, hz.2⟩, ?_, HP, ?_⟩
      · exact ((hz.1.put HP0 (by simp) now2 _).put P0 (by simp) now2 _).put Q1 (by simp) now1 _
      · exact ((hd.put HP0 (by simp) now2 _).put P0 (by simp) now2 _).put Q1 (by simp) now1 _
      · exact (((Below.setCell HB (by simp) _).setCell (by simp) _).setCell (by simp; omega) _).drew
end
end Go.Proofs.YtmiklffjffdkgaaGreatDoor
end

section
/- Package rat: lowest, Of, Int. Conditions: less than 100000 words. -/
open Go.RowKit
set_option maxRecDepth 100000
namespace Go.Proofs.YtmiklffjffdkgaaGreatDoor
def DivV (W : World) (q r : Nat) (e : Ending) (w' : World) : Prop :=
  ∃ A c A' c', e = .returned (.tuple #[.agg #[.slice A (dl q) c], .agg #[.slice A' (dl r) c'], .bool true]) ∧ Nm w' A (dl q) c q ∧ Nm w' A' (dl r) c' r ∧ Hid (Below W.heap.size W w')
/-- What a call leaves that returns a fraction: valid. -/
def QR (W : World) (r : Rat) (e : Ending) (w' : World) : Prop :=
  ∃ A c A' c', e = .returned (.agg #[.bool (decide (r.num < 0)), .slice A (dl r.num.natAbs) c, .slice A' (dl r.den) c']) ∧ ZA w' (decide (r.num < 0)) A (dl r.num.natAbs) c r.num ∧ Nm w' A' (dl r.den) c' r.den ∧ Hid (Below W.heap.size W w')
theorem below3 {W w2 : World} {p : Nat} (h : Bel W w2) (hp : W.heap.size ≤ p) (x y z : Value) : Bel W (((w2.setCell ⟨p, 0, none⟩ x).setCell ⟨p, 1, none⟩ y).setCell ⟨p, 2, none⟩ z) :=
  ((Below.setCell h hp _).setCell hp _).setCell hp _
theorem Nm.put3 {W : World} {p : Nat} {v0 v1 v2 : Value} {A : Option Addr} {n c m : Nat} (h : Nm W A n c m) (hp : At W p [v0, v1, v2]) (hw : NoW [v0, v1, v2]) {b : Bool} {B B' : Option Addr} {k d k' d' : Nat} :
    Nm (((W.setCell ⟨p, 0, none⟩ (.bool b)).setCell ⟨p, 1, none⟩ (.slice B k d)).setCell ⟨p, 2, none⟩ (.slice B' k' d')) A n c m := by
  have h1 := hp.put (i := 0) (by simp) (.bool b)
  have h2 := h1.put (i := 1) (by simp) (.slice B k d)
  have w1 : NoW [.bool b, v1, v2] := by
    intro u hu x; simp at hu
    rcases hu with rfl | rfl | rfl
    · intro e; cases e
    · exact hw _ (by simp) x
    · exact hw _ (by simp) x
  have w2 : NoW [.bool b, .slice B k d, v2] := by
    intro u hu x; simp at hu
    rcases hu with rfl | rfl | rfl
    · intro e; cases e
    · intro e; cases e
    · exact hw _ (by simp) x
  exact ((h.put hp (by simp) hw _).put h1 (by simp) w1 _).put h2 (by simp) w2 _
section
variable {W : World} {b b' : Bool} {A A' : Option Addr} {n n' c c' m m' : Nat} {z z' : Int}
theorem div_v {q r : Nat} (h : Nm W A n c m) (h' : Nm W A' n' c' m') (h0 : 0 < m') (hd : dl m ≤ 99999) (hq : m / m' = q) (hr : m % m' = r) : Calls Tryz.prog 73 #[.agg #[.slice A n c], .agg #[.slice A' n' c']] W (DivV W q r) := by
  subst hq; subst hr
  exact div_h h h' h0 hd
set_option maxHeartbeats 4000000 in
theorem lowest_h {r : Rat} {d : Nat} (hz : ZA W b A n c z) (hd : Nm W A' n' c' d) (h0 : 0 < d) (hr : mkRat z d = r) (bz : dl z.natAbs ≤ 99999) (bd : dl d ≤ 99999) :
    Calls Tryz.prog 88 #[.agg #[.bool b, .slice A n c], .agg #[.slice A' n' c']] W (QR W r) := by
  obtain ⟨g, hg⟩ : ∃ g, g = Nat.gcd z.natAbs d := ⟨_, rfl⟩
  obtain ⟨hg0, e1, e2, e3, e4, e5⟩ := low_terms (z := z) h0 hg
  rw [hr] at e1 e2 e5
  obtain ⟨v, hv⟩ : ∃ v, v = r.num.natAbs := ⟨_, rfl⟩
  obtain ⟨u, hu⟩ : ∃ u, u = r.den := ⟨_, rfl⟩
  obtain ⟨s, hs⟩ : ∃ s, s = z.sign := ⟨_, rfl⟩
  have CG : Hid (∀ W', Bel W W' → Calls Tryz.prog 107 #[.agg #[.slice A n c], .agg #[.slice A' n' c']] W' (NumR W' g)) := fun W' hb => gcd_h (hz.up hb).1 (hd.up hb) hg.symm bz bd
  have CD : Hid (∀ W' B e, Bel W W' → Nm W' B (dl g) e g → Calls Tryz.prog 73 #[.agg #[.slice A n c], .agg #[.slice B (dl g) e]] W' (DivV W' v 0)) := fun W' B e hb hn => div_v (hz.up hb).1 hn hg0 bz (by rw [hv, e1]) e3
  have CE : Hid (∀ W' B e, Bel W W' → Nm W' B (dl g) e g → Calls Tryz.prog 73 #[.agg #[.slice A' n' c'], .agg #[.slice B (dl g) e]] W' (DivV W' u 0)) := fun W' B e hb hn => div_v (hd.up hb) hn hg0 bd (by rw [hu, e2]) e4
  have CS : Hid (∀ W', Bel W W' → Calls Tryz.prog 63 #[.agg #[.bool b, .slice A n c]] W' (IntPost W' s)) := fun W' hb => sign_h (hz.up hb) hs.symm
  have HS : Hid (decide (s < 0) = decide (r.num < 0)) := by
    unfold Hid
    rw [e5, hs]
    by_cases h : z < 0
    · rw [Int.sign_eq_neg_one_of_neg h, decide_eq_true h]; rfl
    · rw [decide_eq_false h]
      refine decide_eq_false fun h2 => h ?_
      exact Int.sign_neg_iff.1 h2
  have HV := hide hv
  have HU := hide hu
  clear hz hd h0 hr bz bd hg hg0 e1 e2 e3 e4 e5 hv hu hs
  have HB := Bel.refl W
  go_enter Tryz.func88, Tryz.ntmps88
  go_wp2_with (first | (go_at_call 107; (with_reducible refine (CG.out _ (((HB.al _).al _).al _)).mono ?_); rintro e w1 ⟨Ag, cg, rfl, ng, hbk⟩; have HP := At.up (((at_new0 _ _ _).al _).al _) hbk; have HN := At.up ((at_new1 _ _ _ _).al _) hbk; have HR := At.up (at_new2 _ _ _ _ _) hbk; replace HB := (((HB.al _).al _).al _).up hbk; have hp_0 := HP.c0; have hp_1 := HP.c1; have hp_l := HP.lt; have hn_0 := HN.c0; have hn_l := HN.lt) | (go_at_call 73; (with_reducible refine (CD.out _ _ _ (HB.al _) (ng.al _)).mono ?_); rintro e w2 ⟨Ao, co, Ax, cx, rfl, no, nx, hbk⟩; have HG := At.up (at_new0 _ _ _) hbk; replace HB := (HB.al _).up hbk; replace HP := (HP.al _).up hbk; replace HN := (HN.al _).up hbk; replace HR := (HR.al _).up hbk; replace ng := (ng.al _).up hbk; clear hp_0 hp_1 hp_l hn_0 hn_l; have hp_0 := HP.c0; have hp_1 := HP.c1; have hp_l := HP.lt; have hn_0 := HN.c0; have hn_l := HN.lt; have hg_0 := HG.c0; have hg_l := HG.lt; have hL2 := HR.lt) | (go_at_call 73; (with_reducible refine (CE.out _ _ _ ((HB.al _).al _) ((ng.al _).al _)).mono ?_); rintro e w3 ⟨Au, cu, Ay, cy, rfl, nu, ny, hbk⟩; have HO := At.up ((at_new0 _ _ _).al _) hbk; have HX := At.up (at_new1 _ _ _ _) hbk; replace HB := ((HB.al _).al _).up hbk; replace HP := ((HP.al _).al _).up hbk; replace HN := ((HN.al _).al _).up hbk; replace HR := ((HR.al _).al _).up hbk; replace no := ((no.al _).al _).up hbk; clear hp_0 hp_1 hp_l hn_0 hn_l hg_0 hg_l; have hL3 := HR.lt) | fail)
  have HQ := ((at_new0 w3 [.slice Au (dl u) cu] 24).al (.cells #[.slice Ay (dl 0) cy] 24)).dr
  replace HB := ((HB.al (.cells #[.slice Au (dl u) cu] 24)).al (.cells #[.slice Ay (dl 0) cy] 24)).dr
  replace HP := ((HP.al (.cells #[.slice Au (dl u) cu] 24)).al (.cells #[.slice Ay (dl 0) cy] 24)).dr
  replace HO := ((HO.al (.cells #[.slice Au (dl u) cu] 24)).al (.cells #[.slice Ay (dl 0) cy] 24)).dr
  replace HR := ((HR.al (.cells #[.slice Au (dl u) cu] 24)).al (.cells #[.slice Ay (dl 0) cy] 24)).dr
  have no2 := ((no.al (.cells #[.slice Au (dl u) cu] 24)).al (.cells #[.slice Ay (dl 0) cy] 24)).dr
  have nu2 := ((nu.al (.cells #[.slice Au (dl u) cu] 24)).al (.cells #[.slice Ay (dl 0) cy] 24)).dr
  go_region_held3 (fun w' => w'.cell? ⟨W.heap.size, 0, none⟩ = some (.bool b) ∧ w'.cell? ⟨W.heap.size, 1, none⟩ = some (.slice A n c) ∧ w'.cell? ⟨w2.heap.size, 0, none⟩ = some (.slice Ao (dl v) co) ∧ w'.cell? ⟨w3.heap.size, 0, none⟩ = some (.slice Au (dl u) cu))
    (first | exact ⟨HP.c0, HP.c1, HO.c0, HQ.c0⟩ | exact ⟨(((HP.far (by omega) _).far (by omega) _).far (by omega) _).c0, (((HP.far (by omega) _).far (by omega) _).far (by omega) _).c1, (((HO.far (by omega) _).far (by omega) _).far (by omega) _).c0, (((HQ.far (by omega) _).far (by omega) _).far (by omega) _).c0⟩)
    (first | (go_at_call 63; (with_reducible refine (CS.out _ HB).mono ?_); rintro e w4 ⟨rfl, hbk⟩; replace HB := HB.up hbk; replace HP := HP.up hbk; replace HO := HO.up hbk; replace HQ := HQ.up hbk; replace HR := HR.up hbk; replace no2 := no2.up hbk; replace nu2 := nu2.up hbk; have hr_0 := HR.c0; have hr_1 := HR.c1; have hr_2 := HR.c2; have hr_l := HR.lt; have hr_f0 := HR.f0; have hr_f1 := HR.f1; have hr_f2 := HR.f2) | fail)
  go_wp2_with fail
  refine bodyPost_ret (v := .agg #[.bool (decide (s < 0)), .slice Ao (dl v) co, .slice Au (dl u) cu]) (by simp [results, Tryz.results88, go_sem, hr_0, hr_1, hr_2]) rfl ?_
  have hv := HV.out
  have hu := HU.out
  subst hv
  subst hu
  rw [HS.out]
  exact ⟨Ao, co, Au, cu, rfl, zr_of (no2.put3 HR now3), nu2.put3 HR now3, below3 HB (by omega) _ _ _⟩
end
end Go.Proofs.YtmiklffjffdkgaaGreatDoor
end

section
/- The document's own integers and fractions: ZOf, QOf. Conditions: less than 100000 fours of digits. -/
open Go.RowKit
set_option maxRecDepth 100000
namespace Go.Proofs.YtmiklffjffdkgaaGreatDoor
/-- No number stands in a box of flags and slices. -/
def NoI (vs : List Value) : Prop := ∀ v ∈ vs, ∀ x : Nat, v ≠ I64 x
theorem RN.putn {W : World} {B p i : Nat} {vs : List Value} {A : Option Addr} {c m : Nat} (h : RN W B A c m) (hp : At W p vs) (hi : i < vs.length) (hw : NoI vs) (u : Value) : RN (W.setCell ⟨p, i, none⟩ u) B A c m :=
  h.setn (hp.all i _ (List.getElem?_eq_getElem hi)).1 (hw _ (List.getElem_mem hi)) u
/-- In world W the document's own number stands there. -/
def Rn (W : World) (A : Option Addr) (c m : Nat) : Prop := RN W W.heap.size A c m
theorem Rn.up {W W' : World} {A : Option Addr} {c m : Nat} (h : Rn W A c m) (hb : Hid (Below W.heap.size W W')) : Rn W' A c m := (RN.below h hb.out).more hb.out.size
theorem Rn.al {W : World} {A : Option Addr} {c m : Nat} (h : Rn W A c m) (o : Obj) : Rn (W.alloc o) A c m := h.up ((Below.refl _ _).alloc (Nat.le_refl _) o)
theorem Rn.dr {W : World} {A : Option Addr} {c m : Nat} (h : Rn W A c m) : Rn W.drew A c m := h
theorem Rn.of {W : World} {A : Option Addr} {c m : Nat} (h : Hid (RN W W.heap.size A c m)) : Rn W A c m := h
theorem Rn.put {W : World} {p i : Nat} {vs : List Value} {A : Option Addr} {c m : Nat} (h : Rn W A c m) (hp : At W p vs) (hi : i < vs.length) (hw : NoI vs) (u : Value) : Rn (W.setCell ⟨p, i, none⟩ u) A c m := by
  have h1 := RN.putn h hp hi hw u
  have e : (W.setCell ⟨p, i, none⟩ u).heap.size = W.heap.size := by simp [World.setCell]
  unfold Rn
  rw [e]; exact h1
theorem noi2 {b : Bool} {A : Option Addr} {n c : Nat} : NoI [.bool b, .slice A n c] := by
  intro u hu x
  simp at hu
  rcases hu with rfl | rfl <;> (intro e; cases e)
theorem noi3 {b : Bool} {A A' : Option Addr} {n c n' c' : Nat} : NoI [.bool b, .slice A n c, .slice A' n' c'] := by
  intro u hu x
  simp at hu
  rcases hu with rfl | rfl | rfl <;> (intro e; cases e)
theorem Rn.put2 {W : World} {p : Nat} {b0 : Bool} {B0 : Option Addr} {k0 d0 : Nat} {A : Option Addr} {c m : Nat} (h : Rn W A c m) (hp : At W p [.bool b0, .slice B0 k0 d0]) {b : Bool} {B : Option Addr} {k d : Nat} :
    Rn ((W.setCell ⟨p, 0, none⟩ (.bool b)).setCell ⟨p, 1, none⟩ (.slice B k d)) A c m :=
  (h.put hp (by simp) noi2 _).put (hp.put (i := 0) (by simp) (.bool b)) (by simp) noi2 _
theorem Rn.put3 {W : World} {p : Nat} {b0 : Bool} {B0 B1 : Option Addr} {k0 d0 k1 d1 : Nat} {A : Option Addr} {c m : Nat} (h : Rn W A c m) (hp : At W p [.bool b0, .slice B0 k0 d0, .slice B1 k1 d1]) {b : Bool} {B B' : Option Addr} {k d k' d' : Nat} :
    Rn (((W.setCell ⟨p, 0, none⟩ (.bool b)).setCell ⟨p, 1, none⟩ (.slice B k d)).setCell ⟨p, 2, none⟩ (.slice B' k' d')) A c m :=
  ((h.put hp (by simp) noi3 _).put (hp.put (i := 0) (by simp) (.bool b)) (by simp) noi3 _).put ((hp.put (i := 0) (by simp) (.bool b)).put (i := 1) (by simp) (.slice B k d)) (by simp) noi3 _
/-- What a call of the document's own leaves that returns a fraction. -/
def RQ (W : World) (r : Rat) (e : Ending) (w' : World) : Prop := ∃ A c A' c', e = .returned (.agg #[.bool (decide (r.num < 0)), .slice A (dq r.num.natAbs) c, .slice A' (dq r.den) c']) ∧ Rn w' A c r.num.natAbs ∧ Rn w' A' c' r.den ∧ Hid (Below W.heap.size W w')
def RZb (W : World) (b : Bool) (A : Option Addr) (n c m : Nat) (e : Ending) (w' : World) : Prop := e = .returned (.agg #[.bool b, .slice A n c]) ∧ Rn w' A c m ∧ Hid (Below W.heap.size W w')
theorem rn_two {W w0 : World} {p : Nat} {b0 : Bool} {B0 : Option Addr} {k0 d0 : Nat} {A : Option Addr} {c m : Nat} (hp : At W p [.bool b0, .slice B0 k0 d0]) (h : Rn W A c m) (hb : Bel w0 W) (hq : w0.heap.size ≤ p) (b : Bool) (n : Nat) :
    RZb w0 b A n c m (.returned (.agg #[.bool b, .slice A n c])) ((W.setCell ⟨p, 0, none⟩ (.bool b)).setCell ⟨p, 1, none⟩ (.slice A n c)) :=
  ⟨rfl, h.put2 hp, (Below.setCell hb hq _).setCell hq _⟩
section
variable {W : World} {A A' : Option Addr} {c c' m : Nat} {z : Int}
set_option maxHeartbeats 1000000 in
theorem rzof_h {b s : Bool} (h : Rn W A c m) (hs : s = (b && decide (0 < m))) : Calls Tryz.prog 24 #[.bool b, .slice A (dq m) c] W (RZb W s A (dq m) c m) := by
  have HE : Hid (∀ o, Rn (W.alloc o) A c m) := fun o => h.al o
  by_cases h0 : 0 < m
  · have h1 : 0 < dq m := dq_pos.2 h0
    have HS : Hid (s = b) := by unfold Hid; rw [hs, decide_eq_true h0, Bool.and_true]
    clear hs h h0
    cases b
    · go_enter Tryz.func24, Tryz.ntmps24
      go_wp2
      exact bodyPost_ret (v := .agg #[.bool false, .slice A (dq m) c]) (by simp [results, Tryz.results24, go_sem]) rfl ⟨by rw [HS.out], HE.out _, ((Bel.refl W).al _).hid⟩
    · go_enter Tryz.func24, Tryz.ntmps24
      go_wp2
      exact bodyPost_ret (v := .agg #[.bool true, .slice A (dq m) c]) (by simp [results, Tryz.results24, go_sem]) rfl ⟨by rw [HS.out], HE.out _, ((Bel.refl W).al _).hid⟩
  · have h1 : dq m = 0 := by have := dq_pos (n := m); omega
    have HS : Hid (s = false) := by unfold Hid; rw [hs, decide_eq_false h0, Bool.and_false]
    have HZ := hide h1
    clear hs h h0
    cases b
    all_goals
      go_enter Tryz.func24, Tryz.ntmps24
      go_wp2
      exact bodyPost_ret (v := .agg #[.bool false, .slice A 0 c]) (by simp [results, Tryz.results24, go_sem]) rfl ⟨by rw [HS.out, HZ.out], HE.out _, ((Bel.refl W).al _).hid⟩

theorem dq_mono {a b : Nat} (h : a ≤ b) : dq a ≤ dq b := digs_len_mono (b := D4) (by decide) h
theorem rz_of {s : Bool} {A : Option Addr} {c : Nat} {z : Int} {w' : World} {e : Ending} (h : RZb W s A (dq z.natAbs) c z.natAbs e w') (hs : s = decide (z < 0)) : RZ W z e w' := ⟨A, c, by rw [h.1, hs], h.2.1, h.2.2⟩
theorem zsig {b : Bool} {z : Int} (h : z = zi b z.natAbs) : decide (z < 0) = (b && decide (0 < z.natAbs)) := by
  cases b
  · rw [zi_false] at h; rw [Bool.false_and]; exact decide_eq_false (by omega)
  · rw [zi_true] at h
    by_cases h0 : 0 < z.natAbs
    · rw [decide_eq_true h0, Bool.true_and]; exact decide_eq_true (by omega)
    · rw [decide_eq_false h0, Bool.and_false]; exact decide_eq_false (by omega)
end
end Go.Proofs.YtmiklffjffdkgaaGreatDoor
end

section
/- Parted from Rgd: by function. -/
open Go.RowKit
set_option maxRecDepth 100000
namespace Go.Proofs.YtmiklffjffdkgaaGreatDoor
section
variable {W : World} {A A' : Option Addr} {c c' m : Nat} {z : Int}
set_option maxHeartbeats 2000000 in
theorem rqof_h {b : Bool} {d : Nat} {r : Rat} (h : Rn W A c z.natAbs) (h' : Rn W A' c' d) (hz : z = zi b z.natAbs) (h0 : 0 < d) (hr : mkRat z d = r) (hl : dq z.natAbs ≤ 99999) (hl' : dq d ≤ 99999) :
    Calls Tryz.prog 23 #[.agg #[.bool b, .slice A (dq z.natAbs) c], .slice A' (dq d) c'] W (RQ W r) := by
  obtain ⟨g, hg⟩ : ∃ g, g = Nat.gcd z.natAbs d := ⟨_, rfl⟩
  obtain ⟨hg0, e1, e2, e3, e4, e5⟩ := low_terms (z := z) h0 hg
  rw [hr] at e1 e2 e5
  obtain ⟨v, hv⟩ : ∃ v, v = r.num.natAbs := ⟨_, rfl⟩
  obtain ⟨u, hu⟩ : ∃ u, u = r.den := ⟨_, rfl⟩
  obtain ⟨m, hm⟩ : ∃ m, m = z.natAbs := ⟨_, rfl⟩
  rw [← hm] at h hl hg e1 e3 ⊢
  obtain ⟨s, hs⟩ : ∃ s, s = decide (r.num < 0) := ⟨_, rfl⟩
  have hgl : g ≤ d := Nat.le_of_dvd h0 (by rw [hg]; exact Nat.gcd_dvd_right _ _)
  have hgd : dq g ≤ 99999 := Nat.le_trans (dq_mono hgl) hl'
  have CG : Hid (∀ W', Bel W W' → Calls Tryz.prog 61 #[.slice A (dq m) c, .slice A' (dq d) c'] W' (RefPost W' g)) := fun W' hb => by
    have h1 := rGcd_any (h.up hb) (h'.up hb) hl hl'
    rw [← hg] at h1
    exact h1
  have CD : Hid (∀ W' B e, Bel W W' → Rn W' B e g → Calls Tryz.prog 42 #[.slice A (dq m) c, .slice B (dq g) e] W' (RDivR W' v 0)) := fun W' B e hb hn => by
    have h1 := rDiv_any (h.up hb) hn hl hgd hg0
    rw [e3, ← e1, ← hv] at h1
    exact h1
  have CE : Hid (∀ W' B e, Bel W W' → Rn W' B e g → Calls Tryz.prog 42 #[.slice A' (dq d) c', .slice B (dq g) e] W' (RDivR W' u 0)) := fun W' B e hb hn => by
    have h1 := rDiv_any (h'.up hb) hn hl' hgd hg0
    rw [e4, ← e2, ← hu] at h1
    exact h1
  have CZ : Hid (∀ W' B e, Rn W' B e v → Calls Tryz.prog 24 #[.bool b, .slice B (dq v) e] W' (RZb W' s B (dq v) e v)) := fun W' B e hn => rzof_h hn (by
    rw [hs, e5, zsig hz, ← hm]
    congr 1
    refine decide_eq_decide.2 ⟨fun h => ?_, fun h => ?_⟩
    · rw [hv, e1]; exact Nat.div_pos (Nat.le_of_dvd h (Nat.dvd_of_mod_eq_zero e3)) hg0
    · rcases Nat.eq_zero_or_pos m with hm0 | hm0
      · rw [hv, e1, hm0, Nat.zero_div] at h; exact absurd h (Nat.lt_irrefl 0)
      · exact hm0)
  have HV := hide hv
  have HU := hide hu
  have HS := hide hs
  clear h h' hz h0 hr hl hl' hg hg0 e1 e2 e3 e4 e5 hv hu hm hs hgd hgl
  have HB := Bel.refl W
  go_enter Tryz.func23, Tryz.ntmps23
  go_wp2_with (first | (go_at_call 61; (with_reducible refine (CG.out _ ((HB.al _).al _)).mono ?_); rintro e w1 ⟨Ag, cg, rfl, ng, hbk⟩; have HP := At.up ((at_new0 _ _ _).al _) hbk; have HR := At.up (at_new1 _ _ _ _) hbk; replace HB := ((HB.al _).al _).up hbk; have hp_0 := HP.c0; have hp_1 := HP.c1; have hp_l := HP.lt; replace ng := Rn.of ng) | (go_at_call 42; (with_reducible refine (CD.out _ _ _ HB ng).mono ?_); rintro e w2 ⟨Ao, co, Ax, cx, rfl, no, nx, hbk⟩; replace HB := HB.up hbk; replace HP := HP.up hbk; replace HR := HR.up hbk; replace ng := ng.up hbk; clear hp_0 hp_1 hp_l; have hp_0 := HP.c0; have hp_1 := HP.c1; have hp_l := HP.lt; replace no := Rn.of no) | (go_at_call 42; (with_reducible refine (CE.out _ _ _ HB ng).mono ?_); rintro e w3 ⟨Au, cu, Ay, cy, rfl, nu, ny, hbk⟩; replace HB := HB.up hbk; replace HP := HP.up hbk; replace HR := HR.up hbk; replace no := no.up hbk; clear hp_0 hp_1 hp_l; have hp_0 := HP.c0; have hp_1 := HP.c1; have hp_l := HP.lt; replace nu := Rn.of nu) | (go_at_call 24; (with_reducible refine (CZ.out _ _ _ no).mono ?_); rintro e w4 ⟨rfl, nz, hbk⟩; replace HB := HB.up hbk; replace HR := HR.up hbk; replace nu := nu.up hbk; clear hp_0 hp_1 hp_l; have hr_0 := HR.c0; have hr_1 := HR.c1; have hr_2 := HR.c2; have hr_l := HR.lt; have hr_f0 := HR.f0; have hr_f1 := HR.f1; have hr_f2 := HR.f2) | fail)
  refine bodyPost_ret (v := .agg #[.bool s, .slice Ao (dq v) co, .slice Au (dq u) cu]) (by simp [results, Tryz.results23, go_sem, hr_0, hr_1, hr_2]) rfl ?_
  have hv := HV.out
  have hu := HU.out
  have hs := HS.out
  subst hv
  subst hu
  subst hs
  exact ⟨Ao, co, Au, cu, rfl, nz.put3 HR, nu.put3 HR, below3 HB (by omega) _ _ _⟩
end
end Go.Proofs.YtmiklffjffdkgaaGreatDoor
end

section
/- The document's own numbers: Pow. Conditions: every power up to the last has at most 100000 fours of digits. -/
open Go.RowKit
set_option maxRecDepth 100000
namespace Go.Proofs.YtmiklffjffdkgaaGreatDoor
set_option maxHeartbeats 1000000 in
theorem rPow_any {A : Option Addr} {c m k : Nat} {w : World} (h : RN w w.heap.size A c m) (hk : k ≤ 1000000) (hb : ∀ i, i ≤ k → dq (m ^ i) ≤ 100000) (hm : dq m ≤ 100000) :
    Calls Tryz.prog 85 #[.slice A (dq m) c, .int .i64 (k : Int)] w (RefPost w (m ^ k)) := by
  have H := hide h
  have HB := hide hb
  have CO : Hid (∀ W, Calls Tryz.prog 41 #[.int .u64 1] W (RefPost W 1)) := fun W => Small_any (n := 1) (w := W) (by decide)
  clear h hb
  go_enter Tryz.func85, Tryz.ntmps85
  go_wp2_with (first | (go_at_call 41; go_must (refine (CO.out _).mono ?_); rintro e w1 ⟨A1, c1, rfl, hr1, hb1⟩))
  go_loopw [5, 6] (fun rv iv wr => ∃ (i : Nat) (B : Option Addr) (d : Nat), i ≤ k ∧ iv = .int .i64 (i : Int) ∧ rv = .slice B (dq (m ^ i)) d ∧ Hid (RN wr wr.heap.size B d (m ^ i)) ∧ Hid (Below w.heap.size w wr))
    (fun _ iv _ => k - (intOf iv).toNat)
  case atStart => exact ⟨0, A1, c1, Nat.zero_le _, rfl, by rw [Nat.pow_zero], by rw [Nat.pow_zero]; exact hr1, hb1⟩
  case round =>
    obtain ⟨i, B, d, hi, rfl, rfl, hr, hbel⟩ := hrel
    by_cases hlt : i < k
    · have CM : Hid (Calls Tryz.prog 49 #[.slice B (dq (m ^ i)) d, .slice A (dq m) c] wr (RefPost wr (m ^ (i + 1)))) := by
        unfold Hid
        rw [Nat.pow_succ]
        exact rMul_any hr.out ((H.out.below hbel.out).more hbel.out.size) (HB.out i hi) hm
      go_wp2_with (first | (go_at_call 49; go_must (refine CM.out.mono ?_); rintro e w2 ⟨B2, d2, rfl, hr2, hb2⟩))
      go_roundw
      case rel => exact ⟨i + 1, B2, d2, by omega, by go_num, rfl, hr2, hbel.out.trans (hb2.out.mono hbel.out.size)⟩
      case measure => simp [intOf]; omega
    · obtain rfl : i = k := by omega
      go_wp2
      go_ret
      exact ⟨B, d, rfl, hr, hbel⟩
set_option maxHeartbeats 1000000 in
/-- Of a power below 1: 1. -/
theorem rPow_low {A : Option Addr} {n c : Nat} {k : Int} {w : World} (hk : k ≤ 0) (hk2 : -9223372036854775808 ≤ k) : Calls Tryz.prog 85 #[.slice A n c, .int .i64 k] w (RefPost w 1) := by
  have CO : Hid (∀ W, Calls Tryz.prog 41 #[.int .u64 1] W (RefPost W 1)) := fun W => Small_any (n := 1) (w := W) (by decide)
  go_enter Tryz.func85, Tryz.ntmps85
  go_wp2_with (first | (go_at_call 41; go_must (refine (CO.out _).mono ?_); rintro e w1 ⟨A1, c1, rfl, hr1, hb1⟩))
  refine wp_loop_rounds 1 ?_; rw [rounds_succ]
  go_wp2
  go_ret
  exact ⟨A1, c1, rfl, hr1, hb1⟩
end Go.Proofs.YtmiklffjffdkgaaGreatDoor
end

section
/- The document's own Ten: a power of ten of at most 400000 digits. -/
open Go.RowKit
set_option maxRecDepth 100000
namespace Go.Proofs.YtmiklffjffdkgaaGreatDoor
theorem ten_lt (k : Nat) : 10 ^ k < D4 ^ (k + 1) := by
  have : 10 ^ k ≤ D4 ^ k := Nat.pow_le_pow_left (by decide) k
  have h2 : D4 ^ k < D4 ^ (k + 1) := Nat.pow_lt_pow_right (by decide) (by omega)
  omega
theorem rTen_any {k : Nat} {w : World} (hk : k ≤ 90000) :
    Calls Tryz.prog 46 #[.int .i64 (k : Int)] w (RefPost w (10 ^ k)) := by
  have HK := hide hk
  clear hk
  have CO : Hid (∀ W, Calls Tryz.prog 41 #[.int .u64 10] W (RefPost W 10)) := fun W => Small_any (n := 10) (w := W) (by decide)
  have CP : Hid (∀ (W : World) (A : Option Addr) (c : Nat), RN W W.heap.size A c 10 → Calls Tryz.prog 85 #[.slice A (dq 10) c, .int .i64 (k : Int)] W (RefPost W (10 ^ k))) := fun W A c h => rPow_any h (by have := HK.out; omega) (fun i hi => by have := HK.out; exact Nat.le_trans (dq_le (ten_lt i)) (by omega)) (Nat.le_trans (dq_le (show 10 < D4 ^ 1 by decide)) (by decide))
  go_enter Tryz.func46, Tryz.ntmps46
  go_wp2_with (first | (go_at_call 41; go_must (refine (CO.out _).mono ?_); rintro e w1 ⟨A1, c1, rfl, hr1, hb1⟩) | (go_at_call 85; go_must (refine (CP.out _ _ _ hr1.out).mono ?_); rintro e w2 ⟨A2, c2, rfl, hr2, hb2⟩))
  go_ret
  exact ⟨A2, c2, rfl, hr2, hb1.out.trans (hb2.out.mono hb1.out.size)⟩
end Go.Proofs.YtmiklffjffdkgaaGreatDoor
end

section
/- The document's own numbers: Text. Conditions: at most 100000 fours of digits. -/
open Go.RowKit
set_option maxRecDepth 100000
namespace Go.Proofs.YtmiklffjffdkgaaGreatDoor
def DigR (w : World) (n least : Nat) (e : Ending) (w' : World) : Prop :=
  ∃ (t : ByteArray) (D : List Nat), e = .returned (.string t) ∧ Hid (t.data.toList = (D.map letter).reverse) ∧ Hid (∀ d ∈ D, d < 10) ∧ Hid (val 10 D = n) ∧ Hid (least ≤ D.length ∧ D.length ≤ 4) ∧ Hid (least < D.length → ∀ x, D.getLast? = some x → x ≠ 0) ∧ Hid (Below w.heap.size w w')
theorem one_conv (W : World) {d : Nat} (h : d < 10) : (convert 127 9 (.slice (some ⟨W.heap.size, 0, none⟩) 1 1)).run Tryz.prog (W.alloc (.cells #[.int .u8 (48 + (d : Int))] 5)) = .ok (.string ⟨#[letter d]⟩) (W.alloc (.cells #[.int .u8 (48 + (d : Int))] 5)) := by
  have h1 := run_convert_bytes_back (P := Tryz.prog) (W.alloc (.cells #[.int .u8 (48 + (d : Int))] 5)) 127 9 5 ⟨W.heap.size, 0, none⟩ 1 [letter d] Tryz.underlying127 Tryz.underlying5 Tryz.underlying9 (fun j hj => by
    have hj' : j = 0 := by simpa using hj
    subst hj'
    have e : (⟨W.heap.size, 0, none⟩ : Addr).add 0 = ⟨W.heap.size, 0, none⟩ := by unfold Addr.add; simp
    rw [e, (one_cell (heap_alloc_new W (.cells #[.int .u8 (48 + (d : Int))] 5))).1]
    simp [letter_toNat h])
  exact h1
theorem pow10_le {k v n : Nat} {V : Nat} (h : V + 10 ^ k * v = n) (hn : n ≤ 9999) (hv : 0 < v) : k ≤ 3 := by
  rcases Nat.lt_or_ge 3 k with h1 | h1
  · have h2 : 10 ^ 4 ≤ 10 ^ k := Nat.pow_le_pow_right (by decide) h1
    have h3 : 10 ^ k ≤ 10 ^ k * v := Nat.le_mul_of_pos_right _ hv
    omega
  · exact h1
set_option maxHeartbeats 2000000 in
theorem digits_any {n least : Nat} {w : World} (hn : n ≤ 9999) (hl : least ≤ 4) : Calls Tryz.prog 79 #[.int .i64 (n : Int), .int .i64 (least : Int)] w (DigR w n least) := by
  have CV := hide (fun (W : World) (d : Nat) (h : d < 10) => one_conv W h)
  have HN := hide hn
  go_enter Tryz.func79, Tryz.ntmps79
  go_wp2
  go_loopw [0, 5] (fun nv sv wr => ∃ (v : Nat) (D : List Nat) (s : ByteArray), nv = .int .i64 (v : Int) ∧ sv = .string s ∧ v ≤ 9999 ∧ D.length ≤ 4 ∧ Hid (s.size = D.length) ∧ Hid (s.data.toList = (D.map letter).reverse) ∧ Hid (∀ d ∈ D, d < 10) ∧ Hid (val 10 D + 10 ^ D.length * v = n) ∧ Hid (least < D.length → v = 0 → ∀ x, D.getLast? = some x → x ≠ 0) ∧ Hid (Below w.heap.size w wr))
    (fun nv sv _ => (intOf nv).toNat + (match sv with | .string s => 4 - s.size | _ => 0))
  case atStart => exact ⟨n, [], ⟨#[]⟩, rfl, rfl, HN.out, by simp, rfl, rfl, by intro d hd; simp at hd, by simp [Hid, val], by intro h; simp at h, Below.refl _ _⟩
  case round =>
    obtain ⟨v, D, s, rfl, rfl, hv9, hD, hsz, hsl, hD10, hval, hlast, hbel⟩ := hrel
    by_cases hgo : 0 < v ∨ D.length < least
    · have hD3 : D.length ≤ 3 := by
        rcases hgo with h | h
        · exact pow10_le hval.out HN.out h
        · omega
      obtain ⟨d, hd⟩ : ∃ d, d = v % 10 := ⟨_, rfl⟩
      obtain ⟨u, hu⟩ : ∃ u, u = v / 10 := ⟨_, rfl⟩
      have hd10 : d < 10 := by omega
      have hdb : d ≤ 9 := by omega
      have e1 : (v : Int) % 10 = (d : Int) := by omega
      have e2 : (v : Int).tmod 10 = (d : Int) := by rw [Int.tmod_eq_emod_of_nonneg (by omega)]; exact e1
      have e3 : IntKind.u8.wrap (48 + (d : Int)) = 48 + (d : Int) := by rw [IntKind.wrap_u8]; omega
      have f1 : (v : Int) / 10 = (u : Int) := by omega
      have f2 : (v : Int).tdiv 10 = (u : Int) := by rw [Int.tdiv_eq_ediv_of_nonneg (by omega)]; exact f1
      have hc := CV.out wr d hd10
      have hs1 : s.size ≤ 4 := by rw [hsz.out]; exact hD
      have g1 : ¬ 9223372036854775807 < 1 + s.size := by omega
      have g2 : 1 + s.size ≤ 9223372036854775807 := by omega
      have RN : Hid (v = 10 * u + d) := by unfold Hid; omega
      have HS : Hid (s.size < least ↔ D.length < least) := by unfold Hid; rw [hsz.out]
      have hub : u ≤ 9999 := by omega
      have hways : 0 < v ∨ (¬ 0 < v ∧ s.size < least) := by rw [hsz.out]; omega
      clear hgo hd hu
      have FIN : Hid (D.length + 1 ≤ 4 ∧ (∀ x ∈ D ++ [d], x < 10) ∧ val 10 (D ++ [d]) + 10 ^ (D ++ [d]).length * u = n ∧ (least < (D ++ [d]).length → u = 0 → ∀ x, (D ++ [d]).getLast? = some x → x ≠ 0)) := by
        refine ⟨by omega, ?_, ?_, ?_⟩
        · intro x hx
          rcases List.mem_append.1 hx with hx | hx
          · exact hD10.out x hx
          · simp at hx; omega
        · rw [val_snoc, List.length_append, List.length_singleton, Nat.pow_succ, ← hval.out, RN.out, Nat.mul_add, Nat.mul_assoc]; omega
        · intro h1 h2 x hx
          rw [List.getLast?_append] at hx
          simp at hx
          rw [List.length_append, List.length_singleton] at h1
          have h3 := RN.out
          have h4 : 0 < v := by
            rcases hways with h | ⟨h, h5⟩
            · exact h
            · have := HS.out.1 h5; omega
          omega
      rcases hways with hw | ⟨hw, hw2⟩
      all_goals
        go_wp2
        go_roundw
        case rel =>
          refine ⟨u, D ++ [d], _, rfl, rfl, hub, by rw [List.length_append, List.length_singleton]; exact FIN.out.1, ?_, ?_, FIN.out.2.1, FIN.out.2.2.1, FIN.out.2.2.2, hbel.out.alloc hbel.out.size _⟩
          · unfold Hid; rw [ByteArray.size_append, List.length_append, hsz.out, Nat.add_comm]; rfl
          · unfold Hid; rw [List.map_append, List.reverse_append, ← hsl.out]; simp
        case measure =>
          have h1 := RN.out
          have h2 := hsz.out
          have h3 : (⟨#[letter d]⟩ : ByteArray).size = 1 := rfl
          simp [intOf]
          omega
    · have hv0 : v = 0 := by omega
      subst hv0
      have hl1 : ¬ s.size < least := by rw [hsz.out]; omega
      have HL := hide (show least ≤ D.length by omega)
      clear hgo
      go_wp2
      go_ret
      exact ⟨s, D, rfl, hsl, hD10, by have := hval.out; unfold Hid; omega, ⟨HL.out, hD⟩, fun h => hlast.out h (by first | rfl | trivial), hbel⟩
/-- A four of digits ahead of others. -/
theorem digs_ahead {D : List Nat} {M : Nat} (hD : ∀ d ∈ D, d < 10) (hM : 0 < M) : digs 10 (val 10 D + 10 ^ D.length * M) = D ++ digs 10 M := by
  have h1 : val 10 (D ++ digs 10 M) = val 10 D + 10 ^ D.length * M := by rw [val_append, val_digs (by decide)]
  rw [← h1]
  refine digs_val (by decide) _ ?_ ?_
  · intro x hx
    rcases List.mem_append.1 hx with hx | hx
    · exact hD x hx
    · exact digs_lt (by decide) M x hx
  · intro x hx
    have hne : digs 10 M ≠ [] := fun e => by
      have := (digs_len_pos (b := 10) (n := M) (by decide)).1 (by rw [e]; rfl)
      omega
    rw [List.getLast?_append] at hx
    cases hg : (digs 10 M).getLast? with
    | none => exact absurd (List.getLast?_eq_none_iff.1 hg) hne
    | some y =>
      rw [hg] at hx
      simp at hx
      subst hx
      exact digs_last (by decide) M y hg
theorem decL_ahead {D : List Nat} {M : Nat} (hD : ∀ d ∈ D, d < 10) (hl : D.length = 4) (hM : 0 < M) : decL (val 10 D + D4 * M) = decL M ++ (D.map letter).reverse := by
  have e : D4 = 10 ^ D.length := by rw [hl]; rfl
  unfold decL
  rw [if_neg (by have : 0 < D4 * M := Nat.mul_pos (by decide) hM; omega), if_neg (by omega), e, digs_ahead hD hM, List.reverse_append, List.map_append, List.map_reverse, List.map_reverse]
  rfl
theorem decL_top {D : List Nat} {n : Nat} (hD : ∀ d ∈ D, d < 10) (hv : val 10 D = n) (h1 : 1 ≤ D.length) (hl : 1 < D.length → ∀ x, D.getLast? = some x → x ≠ 0) (hn : 0 < n) : decL n = (D.map letter).reverse := by
  have h2 : digs 10 n = D := by
    rw [← hv]
    refine digs_val (by decide) D hD fun x hx => ?_
    rcases Nat.lt_or_ge 1 D.length with h | h
    · exact hl h x hx
    · match D, h1, h with
      | [d], _, _ =>
        simp at hx
        subst hx
        simp [val] at hv
        omega
  unfold decL
  rw [if_neg (by omega), h2, List.map_reverse]
  rfl
theorem dec_four {m : Nat} : (decL m).length ≤ 4 * dq m + 1 := by
  have h1 : m < D4 ^ dq m := lt_pow_digs (b := D4) (by decide) m
  have h2 : D4 ^ dq m = 10 ^ (4 * dq m) := by rw [Nat.pow_mul]; rfl
  rw [h2] at h1
  exact dt_le (Nat.lt_of_lt_of_le h1 (Nat.pow_le_pow_right (by decide) (by omega))) (by omega)
set_option maxHeartbeats 2000000 in
theorem rText_any {A : Option Addr} {c m : Nat} {w : World} (h : RN w w.heap.size A c m) (hl : dq m ≤ 100000) : Calls Tryz.prog 35 #[.slice A (dq m) c] w (TxR w (decL m)) := by
  rcases Nat.eq_zero_or_pos m with h0 | h0
  · subst h0
    have hq : dq 0 = 0 := dq_zero
    clear h
    go_enter Tryz.func35, Tryz.ntmps35
    go_wp2
    refine bodyPost_ret (v := .string ⟨#[48]⟩) (by simp [results, Tryz.results35, go_sem]) rfl ⟨_, rfl, rfl, Below.refl _ _⟩
  · obtain ⟨k, hk⟩ : ∃ k, dq m = k + 1 := by
      rcases Nat.eq_zero_or_pos (dq m) with h1 | h1
      · have := (digs_len_pos (b := D4) (n := m) (by decide)).1 h1; omega
      · exact ⟨dq m - 1, by omega⟩
    have hkl : k < (digs D4 m).length := by have : (digs D4 m).length = dq m := rfl; omega
    obtain ⟨ad, rfl, hab, hcell⟩ := h.2.at_ hkl
    obtain ⟨x, hx⟩ : ∃ x, x = (digs D4 m)[k] := ⟨_, rfl⟩
    rw [← hx] at hcell
    unfold I64 at hcell
    have hx9 : x ≤ 9999 := by rw [hx]; have h4 : D4 = 10000 := rfl; have := good4_digs m _ (List.getElem_mem hkl); omega
    have hdrop : (digs D4 m).drop k = [x] := by
      rw [List.drop_eq_getElem_cons hkl, ← hx, List.drop_of_length_le (by have : (digs D4 m).length = dq m := rfl; omega)]
    have hx0 : 0 < x := by
      have h1 := digs_last (b := D4) (by decide) m x (by
        rw [List.getLast?_eq_getElem?, show (digs D4 m).length - 1 = k by have : (digs D4 m).length = dq m := rfl; omega, List.getElem?_eq_getElem hkl, ← hx])
      omega
    have HX := hide h
    have CT : Hid (∀ (W : World), Calls Tryz.prog 79 #[.int .i64 (x : Int), .int .i64 1] W (DigR W x 1)) := fun W => digits_any (n := x) (least := 1) (w := W) hx9 (by decide)
    have CF : Hid (∀ (W : World) (n : Nat), n ≤ 9999 → Calls Tryz.prog 79 #[.int .i64 (n : Int), .int .i64 4] W (DigR W n 4)) := fun W n hn => digits_any (n := n) (least := 4) (w := W) hn (by decide)
    have HDR := hide hdrop
    have HK := hide hk
    have HL := hide hl
    have hkb : k ≤ 100000 := by omega
    have hkd : k < dq m := by omega
    have e1 : (dq m : Int) - 1 = (k : Int) := by omega
    have e2 : (dq m : Int) - 2 = (k : Int) - 1 := by omega
    have e3 : ¬ dq m = 0 := by omega
    have HB0 : Hid (∀ j, (decL (val D4 ((digs D4 m).drop j))).length ≤ 400001) := fun j => Nat.le_trans dec_four (by
      have h1 : dq (val D4 ((digs D4 m).drop j)) ≤ ((digs D4 m).drop j).length := digs_len_le (by decide) _ (fun x hx => good4_digs m x (List.mem_of_mem_drop hx))
      rw [List.length_drop] at h1
      have : (digs D4 m).length = dq m := rfl
      omega)
    clear h hx hk hdrop hl hkl
    go_enter Tryz.func35, Tryz.ntmps35
    go_wp2_with (first | (go_at_call 79; (with_reducible refine (CT.out _).mono ?_); rintro e w1 ⟨t, D, rfl, ht, hD, hv, hlen, hlast, hbk⟩) | fail)
    go_loopw [3, 4] (fun sv iv wr => ∃ (j : Nat) (s : ByteArray), j ≤ k ∧ sv = .string s ∧ iv = .int .i64 ((j : Int) - 1) ∧ Hid (s.data.toList = decL (val D4 ((digs D4 m).drop j))) ∧ Hid (0 < val D4 ((digs D4 m).drop j)) ∧ Hid (Below w.heap.size w wr)) (fun _ iv _ => (intOf iv + 1).toNat)
    case atStart =>
      have hvx : val D4 ((digs D4 m).drop k) = x := by rw [HDR.out]; simp [val]
      exact ⟨k, t, Nat.le_refl _, rfl, rfl, by unfold Hid; rw [hvx, ht.out, decL_top hD.out hv.out hlen.out.1 hlast.out hx0], by unfold Hid; rw [hvx]; exact hx0, hbk⟩
    case round =>
      obtain ⟨j, s, hj, rfl, rfl, hs, hpos, hbel⟩ := hrel
      by_cases hj0 : j = 0
      · subst hj0
        have HS : Hid (s.data.toList = decL m) := by
          have h1 := hs.out
          rwa [List.drop_zero, val_digs4] at h1
        go_wp2
        go_ret
        exact ⟨s, rfl, HS, hbel⟩
      · obtain ⟨i, rfl⟩ : ∃ i, j = i + 1 := ⟨j - 1, by omega⟩
        have hi : i < (digs D4 m).length := by have : (digs D4 m).length = dq m := rfl; omega
        obtain ⟨ad2, e, hab2, hcell2⟩ := ((HX.out.below hbel.out).2).at_ hi
        injection e with e
        subst e
        obtain ⟨y, hy⟩ : ∃ y, y = (digs D4 m)[i] := ⟨_, rfl⟩
        rw [← hy] at hcell2
        unfold I64 at hcell2
        have hy9 : y ≤ 9999 := by rw [hy]; have h4 : D4 = 10000 := rfl; have := good4_digs m _ (List.getElem_mem hi); omega
        have HDI : Hid ((digs D4 m).drop i = y :: (digs D4 m).drop (i + 1)) := by unfold Hid; rw [List.drop_eq_getElem_cons hi, ← hy]
        have hid : i < dq m := hi
        have hss : s.size ≤ 400001 := by rw [size_list, hs.out]; exact HB0.out _
        clear hy hi hj0
        go_wp2_with (first | (go_at_call 79; (with_reducible refine (CF.out _ y hy9).mono ?_); rintro e w2 ⟨t2, D2, rfl, ht2, hD2, hv2, hlen2, hlast2, hbk2⟩; have hs2 : t2.size ≤ 4 := (by rw [size_list, ht2.out]; simp; exact hlen2.out.2); have g1 : ¬ 9223372036854775807 < s.size + t2.size := (by omega); have g2 : s.size + t2.size ≤ 9223372036854775807 := (by omega)) | fail)
        go_roundw
        case rel =>
          have hvv : val D4 ((digs D4 m).drop i) = val 10 D2 + D4 * val D4 ((digs D4 m).drop (i + 1)) := by rw [HDI.out, hv2.out]; rfl
          refine ⟨i, _, by omega, rfl, rfl, ?_, ?_, hbel.out.trans (hbk2.out.mono hbel.out.size)⟩
          · unfold Hid
            rw [hvv, decL_ahead hD2.out (by have := hlen2.out; omega) hpos.out, ← hs.out, ← ht2.out]
            simp
          · unfold Hid
            rw [hvv]
            have : 0 < D4 * val D4 ((digs D4 m).drop (i + 1)) := Nat.mul_pos (by decide) hpos.out
            omega
        case measure => simp [intOf]
end Go.Proofs.YtmiklffjffdkgaaGreatDoor
end
