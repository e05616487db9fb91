/- Several texts in one, each with its own sentence and conditions. -/
import Derived.Test.YteahcbeohopdlaaGreatDoorGRqc9
import Derived.Test.YteahcbeohopdlaaGreatDoorZd
import Derived.Lib.Bytealg
import Derived.Lib.IndexLaws
import Derived.Test.YteahcbeohopdlaaGreatDoorGRqc15
section
/- A number's letters, read again. No conditions. -/
open Go.RowKit
set_option maxRecDepth 100000
namespace Go.Proofs.YteahcbeohopdlaaGreatDoor
theorem dig_letter {d : Nat} (h : d < 10) : isDig (letter d) = true := by unfold isDig; rw [letter_toNat h]; simp; omega
theorem dvs_letters (l : List Nat) (h : ∀ d ∈ l, d < 10) : dvs (l.reverse.map letter) = l := by
  unfold dvs
  rw [← List.map_reverse, List.reverse_reverse, List.map_map]
  have : ∀ m : List Nat, (∀ d ∈ m, d < 10) → m.map ((fun c : UInt8 => c.toNat - 48) ∘ letter) = m := by
    intro m
    induction m with
    | nil => intro _; rfl
    | cons d m ih =>
      intro hm
      rw [List.map_cons, ih fun x hx => hm x (List.mem_cons_of_mem _ hx)]
      have := letter_toNat (hm d (List.mem_cons_self ..))
      simp only [Function.comp_apply, this]
      congr 1; omega
  exact this l h
theorem numL_decL (m : Nat) : numL (decL m) = m ∧ digB (decL m) = true := by
  unfold decL
  by_cases h0 : m = 0
  · rw [if_pos h0, h0]; exact ⟨rfl, by decide⟩
  · rw [if_neg h0]
    have hlt := digs_lt (b := 10) (by omega) m
    refine ⟨?_, ?_⟩
    · show numL ((digs 10 m).reverse.map letter) = m
      rw [numL_val, dvs_letters _ hlt, val_digs (by omega)]
    · unfold digB
      rw [Bool.and_eq_true]
      refine ⟨?_, ?_⟩
      · rw [digs_pos (by omega) (by omega)]; simp
      · rw [List.all_eq_true]
        intro c hc
        obtain ⟨d, hd, rfl⟩ := List.mem_map.1 hc
        exact dig_letter (hlt d (List.mem_reverse.1 hd))
theorem dt_le {m k : Nat} (h : m < 10 ^ k) (hk : 1 ≤ k) : (decL m).length ≤ k := by
  unfold decL
  by_cases h0 : m = 0
  · rw [if_pos h0]; exact hk
  · rw [if_neg h0, List.length_map, List.length_reverse]
    have h1 := pow_le_of_digs (b := 10) (n := m) (by decide) (by omega)
    have h2 : 10 ^ ((digs 10 m).length - 1) < 10 ^ k := Nat.lt_of_le_of_lt h1 h
    have h3 := (Nat.pow_lt_pow_iff_right (a := 10) (by decide)).1 h2
    omega
end Go.Proofs.YteahcbeohopdlaaGreatDoor
end

section
/- strings.CutPrefix at a minus. Conditions: a string of at most 100000 bytes. -/
open Go.RowKit
set_option maxRecDepth 100000
namespace Go.Proofs.YteahcbeohopdlaaGreatDoor
def minusS : ByteArray := ⟨#[45]⟩
theorem toList_loop (bs : ByteArray) (k : Nat) : ∀ i r, bs.size - i = k → ByteArray.toList.loop bs i r = r.reverse ++ bs.data.toList.drop i := by
  induction k with
  | zero =>
    intro i r h
    unfold ByteArray.toList.loop
    rw [if_neg (by omega), List.drop_of_length_le (by show bs.data.size ≤ i; have : bs.data.size = bs.size := rfl; omega), List.append_nil]
  | succ k ih =>
    intro i r h
    have hi : i < bs.data.toList.length := by show i < bs.data.size; have : bs.data.size = bs.size := rfl; omega
    unfold ByteArray.toList.loop
    rw [if_pos (by omega), ih (i + 1) _ (by omega), List.drop_eq_getElem_cons hi, List.reverse_cons, List.append_assoc]
    congr 2
    show bs.get! i :: _ = _
    have : bs.get! i = bs.data.toList[i] := by
      show bs.data[i]! = _
      rw [getElem!_pos bs.data i hi]; rfl
    rw [this]; rfl
theorem toList_data (bs : ByteArray) : bs.toList = bs.data.toList := by
  unfold ByteArray.toList
  rw [toList_loop bs _ 0 [] rfl]; rfl
theorem extract_list (s : ByteArray) (i j : Nat) : (s.extract i j).data.toList = (s.data.toList.take j).drop i := by
  simp [ByteArray.data_extract, List.extract_eq_drop_take', Array.toList_extract]
theorem minus_head (s : ByteArray) : ((s.extract 0 1).toList == [45]) = (s.data.toList.head? == some 45) := by
  rw [toList_data, extract_list]
  cases s.data.toList with
  | nil => rfl
  | cons x xs => simp
theorem HasPrefix_any (s : ByteArray) (w : World) (hs : s.size ≤ 100000) :
    Calls Tryz.prog 166 #[.string s, .string ⟨#[45]⟩] w fun e w' => e = .returned (.bool (s.data.toList.head? == some 45)) ∧ w = w' := by
  by_cases h0 : s.size = 0
  · have HE : Hid ((s.data.toList.head? == some 45) = false) := by
      have : s.data.toList = [] := List.eq_nil_of_length_eq_zero (by rw [← size_list]; exact h0)
      unfold Hid; rw [this]; rfl
    go_enter Tryz.func166, Tryz.ntmps166
    go_wp2
    go_ret
    exact ⟨by rw [HE.out]; rfl, rfl⟩
  · have h1 : 1 ≤ s.size := by omega
    have HE := hide (minus_head s)
    go_enter Tryz.func166, Tryz.ntmps166
    go_wp2
    go_ret
    exact ⟨by rw [← HE.out]; rfl, rfl⟩
/-- What CutPrefix leaves. -/
def CutR (w : World) (s : ByteArray) (e : Ending) (w' : World) : Prop := ∃ t : ByteArray, ∃ b : Bool, e = .returned (.tuple #[.string t, .bool b]) ∧ Hid (s.data.toList = (if b then [45] else []) ++ t.data.toList ∧ (b = false → s.data.toList.head? ≠ some 45)) ∧ w = w'
theorem cutp_any (s : ByteArray) (w : World) (hs : s.size ≤ 100000) : Calls Tryz.prog 152 #[.string s, .string ⟨#[45]⟩] w (CutR w s) := by
  have CH := hide (fun W => HasPrefix_any s W hs)
  by_cases hh : s.data.toList.head? = some 45
  · have hb : (s.data.toList.head? == some 45) = true := by rw [hh]; rfl
    rw [hb] at CH
    obtain ⟨m, hm⟩ : ∃ m, s.data.toList = 45 :: m := by
      cases hl : s.data.toList with
      | nil => rw [hl] at hh; cases hh
      | cons x xs => rw [hl] at hh; injection hh with hh; exact ⟨xs, by rw [hh]⟩
    have h1 : 1 ≤ s.size := by rw [size_list, hm]; simp
    have HM := hide hm
    clear hh hb hm
    go_enter Tryz.func152, Tryz.ntmps152
    go_wp2_with (first | (go_at_call 166; (with_reducible refine (CH.out _).mono ?_); rintro e w1 ⟨rfl, rfl⟩) | fail)
    refine bodyPost_ret (v := .tuple #[.string (s.extract 1 s.size), .bool true]) (by simp [results, Tryz.results152, go_sem]) rfl ⟨_, true, rfl, ⟨?_, fun h => by cases h⟩, rfl⟩
    rw [extract_list, List.take_of_length_le (by rw [size_list]; exact Nat.le_refl _), HM.out]
    rfl
  · have hb : (s.data.toList.head? == some 45) = false := by rw [beq_eq_false_iff_ne]; exact hh
    rw [hb] at CH
    have HH := hide hh
    clear hh hb
    go_enter Tryz.func152, Tryz.ntmps152
    go_wp2_with (first | (go_at_call 166; (with_reducible refine (CH.out _).mono ?_); rintro e w1 ⟨rfl, rfl⟩) | fail)
    refine bodyPost_ret (v := .tuple #[.string s, .bool false]) (by simp [results, Tryz.results152, go_sem]) rfl ⟨s, false, rfl, ⟨rfl, fun _ => HH.out⟩, rfl⟩
theorem cut_any (s : ByteArray) (w : World) (hs : s.size ≤ 100000) : Calls Tryz.prog 113 #[.string s, .string ⟨#[45]⟩] w (CutR w s) := by
  have CH := hide (fun W => cutp_any s W hs)
  go_enter Tryz.func113, Tryz.ntmps113
  go_wp2_with (first | (go_at_call 152; (with_reducible refine (CH.out _).mono ?_); rintro e w1 ⟨t, b, rfl, ht, rfl⟩) | fail)
  exact bodyPost_ret (v := .tuple #[.string t, .bool b]) (by simp [results, Tryz.results113, go_sem]) rfl ⟨t, b, rfl, ht, rfl⟩
def CutS (w : World) (l : List UInt8) (b : Bool) (e : Ending) (w' : World) : Prop := ∃ t : ByteArray, e = .returned (.tuple #[.string t, .bool b]) ∧ Hid (t.data.toList = l) ∧ w = w'
theorem cut_h (s : ByteArray) (w : World) (hs : s.size ≤ 100000) {b : Bool} {l : List UInt8} (h : s.data.toList = (if b then [45] else []) ++ l) (hb : b = false → l.head? ≠ some 45) : Calls Tryz.prog 113 #[.string s, .string ⟨#[45]⟩] w (CutS w l b) := by
  refine (cut_any s w hs).mono ?_
  rintro e w' ⟨t, b', rfl, ht, rfl⟩
  obtain ⟨h1, h2⟩ := ht.out
  rw [h] at h1 h2
  cases b <;> cases b'
  · exact ⟨t, rfl, by simpa [Hid] using h1.symm, rfl⟩
  · exfalso; refine hb rfl ?_; rw [show l = 45 :: t.data.toList by simpa using h1]; rfl
  · exfalso; exact h2 rfl rfl
  · exact ⟨t, rfl, by simpa [Hid] using h1.symm, rfl⟩
/-- What Parse leaves of an integer. -/
def ZPR (W : World) (z : Int) (e : Ending) (w' : World) : Prop :=
  ∃ A c, e = .returned (.tuple #[.agg #[.bool (decide (z < 0)), .slice A (dl z.natAbs) c], .bool true]) ∧ ZA w' (decide (z < 0)) A (dl z.natAbs) c z ∧ Hid (Below W.heap.size W w')
def ZPN (W : World) (e : Ending) (w' : World) : Prop := e = .returned (.tuple #[.agg #[.bool false, .slice none 0 0], .bool false]) ∧ Hid (Below W.heap.size W w')
def PsR (W : World) (v : Nat) (e : Ending) (w' : World) : Prop := ∃ A c, e = .returned (.tuple #[.agg #[.slice A (dl v) c], .bool true]) ∧ Nm w' A (dl v) c v ∧ Hid (Below W.heap.size W w')
def PsN (W : World) (e : Ending) (w' : World) : Prop := e = .returned (.tuple #[.agg #[.slice none 0 0], .bool false]) ∧ Hid (Below W.heap.size W w')
theorem numL_dl {l : List UInt8} (hd : digB l = true) (h : l.length ≤ 99999) : dl (numL l) ≤ 100000 := by
  have h1 := numL_lt l (by unfold digB at hd; rw [Bool.and_eq_true] at hd; exact hd.2)
  refine Nat.le_trans (dl_le (k := l.length + 1) (Nat.lt_of_lt_of_le h1 ?_)) (by omega)
  rw [Nat.pow_succ]
  exact Nat.le_trans (Nat.pow_le_pow_left (show 10 ≤ W32 by decide) _) (Nat.le_mul_of_pos_right _ (by decide))
theorem parse_h (s : ByteArray) (w : World) (hs : s.size ≤ 99999) (h : digB s.data.toList = true) {v : Nat} (hv : numL s.data.toList = v) : Calls Tryz.prog 85 #[.string s] w (PsR w v) := by
  subst hv
  refine (Parse_any s w (by omega)).mono fun e w' h1 => ?_
  unfold ParsePost at h1
  rw [if_pos h] at h1
  obtain ⟨A, c, he, hc, hb⟩ := h1
  exact ⟨A, c, he, nm_can hc (numL_dl h (by rw [← size_list]; omega)), hb⟩
theorem parse_n (s : ByteArray) (w : World) (hs : s.size ≤ 99999) (h : ¬ digB s.data.toList = true) : Calls Tryz.prog 85 #[.string s] w (PsN w) := by
  refine (Parse_any s w (by omega)).mono fun e w' h1 => ?_
  unfold ParsePost at h1
  rw [if_neg h] at h1
  exact h1
theorem alc1 {w : World} {o : Obj} {p i : Nat} {v : Value} (h : w.cell? ⟨p, i, none⟩ = some v) : (w.alloc o).cell? ⟨p, i, none⟩ = some v := (World.cell?_alloc_some _ _ _ (by rw [h]; rfl)).trans h
theorem set2b {w : World} {p : Nat} {s : Bool} {A : Option Addr} {n c : Nat} {x y : Value} (h : Zcell w p s A n c) :
    ((w.setCell ⟨p, 0, none⟩ x).setCell ⟨p, 1, none⟩ y).cell? ⟨p, 0, none⟩ = some x ∧ ((w.setCell ⟨p, 0, none⟩ x).setCell ⟨p, 1, none⟩ y).cell? ⟨p, 1, none⟩ = some y :=
  ⟨(World.cell?_setCell_other _ _ _ _ (by intro e; cases e)).trans (World.cell?_setCell_same _ _ _ h.c0), World.cell?_setCell_same _ _ _ ((World.cell?_setCell_other _ _ _ _ (by intro e; cases e)).trans h.c1)⟩
section
variable {W : World} {s : ByteArray} {b : Bool} {l : List UInt8}
set_option maxHeartbeats 1000000 in
theorem zparse_h {v : Int} (hs : s.size ≤ 99999) (h : s.data.toList = (if b then [45] else []) ++ l) (hb : b = false → l.head? ≠ some 45) (hd : digB l = true) (hv : zi b (numL l) = v) : Calls Tryz.prog 84 #[.string s] W (ZPR W v) := by
  have hll : l.length ≤ 99999 := by
    have := congrArg List.length h
    rw [← size_list, List.length_append] at this
    omega
  have CC := hide (fun (W' : World) => cut_h s W' (by omega) h hb)
  have CP : Hid (∀ (W' : World) (t : ByteArray), Hid (t.data.toList = l) → Calls Tryz.prog 85 #[.string t] W' (PsR W' v.natAbs)) := fun W' t ht => parse_h t W' (by rw [size_list, ht.out]; exact hll) (by rw [ht.out]; exact hd) (by rw [ht.out, ← hv, zi_abs])
  have CS : Hid (∀ W' B n d, Nm W' B n d v.natAbs → Calls Tryz.prog 137 #[.bool b, .agg #[.slice B n d]] W' (SgR W' (decide (v < 0)) B n d)) := fun W' B n d hn => signed_z hn (by rw [← hv, zi_abs])
  clear h hb hd hv hs hll
  go_enter Tryz.func84, Tryz.ntmps84
  go_wp2_with (first | (go_at_call 113; (with_reducible refine (CC.out _).mono ?_); rintro e w1 ⟨t, rfl, ht, rfl⟩) | (go_at_call 85; (with_reducible refine (CP.out _ t ht).mono ?_); rintro e w2 ⟨B, d, rfl, hn, hbk⟩; have HR := hide ((zc_new _ _ _ _ _ _).up hbk); have HW : Hid (Below W.heap.size W w2) := (bz1 hbk).2.2.2; have l0 := HR.out.lt; have r0 := HR.out.c0; have r1 := HR.out.c1; have f0 := HR.out.f0; have f1 := HR.out.f1) | (go_at_call 137; (with_reducible refine (CS.out _ _ _ _ (hn.al _)).mono ?_); rintro e w3 ⟨rfl, hbk2⟩; replace HR := hide (HR.out.upA hbk2); replace HW := bel_al HW hbk2; replace hn := nm_upA hn hbk2; clear r0 r1 f0 f1 l0; have l0 := HR.out.lt; have r0 := HR.out.c0; have r1 := HR.out.c1; have f0 := HR.out.f0; have f1 := HR.out.f1) | fail)
  refine bodyPost_ret (v := .tuple #[.agg #[.bool (decide (v < 0)), .slice B (dl v.natAbs) d], .bool true]) (by simp [results, Tryz.results84, go_sem, r0, r1]) rfl ?_
  exact ⟨B, d, rfl, zr_of (nm_z2 hn HR.out.c0 HR.out.c1), (HW.out.setCell (by simp) _).setCell (by simp) _⟩
theorem zparse_n (hs : s.size ≤ 99999) (h : s.data.toList = (if b then [45] else []) ++ l) (hb : b = false → l.head? ≠ some 45) (hd : ¬ digB l = true) : Calls Tryz.prog 84 #[.string s] W (ZPN W) := by
  have hll : l.length ≤ 99999 := by
    have := congrArg List.length h
    rw [← size_list, List.length_append] at this
    omega
  have CC := hide (fun (W' : World) => cut_h s W' (by omega) h hb)
  have CP : Hid (∀ (W' : World) (t : ByteArray), Hid (t.data.toList = l) → Calls Tryz.prog 85 #[.string t] W' (PsN W')) := fun W' t ht => parse_n t W' (by rw [size_list, ht.out]; exact hll) (by rw [ht.out]; exact hd)
  clear h hb hd hs hll
  go_enter Tryz.func84, Tryz.ntmps84
  go_wp2_with (first | (go_at_call 113; (with_reducible refine (CC.out _).mono ?_); rintro e w1 ⟨t, rfl, ht, rfl⟩) | (go_at_call 85; (with_reducible refine (CP.out _ t ht).mono ?_); rintro e w2 ⟨rfl, hbk⟩; have HR := hide ((zc_new _ _ _ _ _ _).up hbk); have HW : Hid (Below W.heap.size W w2) := (bz1 hbk).2.2.2; have l0 := HR.out.lt; have r0 := HR.out.c0; have r1 := HR.out.c1; have f0 := HR.out.f0; have f1 := HR.out.f1) | fail)
  have u0 := fun o => alc1 (o := o) (set2b (x := .bool false) (y := .slice none 0 0) HR.out).1
  have u1 := fun o => alc1 (o := o) (set2b (x := .bool false) (y := .slice none 0 0) HR.out).2
  refine bodyPost_ret (v := .tuple #[.agg #[.bool false, .slice none 0 0], .bool false]) (by simp [results, Tryz.results84, go_sem, u0, u1]) rfl ⟨rfl, ?_⟩
  exact ((HW.out.setCell (by simp) _).setCell (by simp) _).alloc (by have := HW.out.size; simpa [World.setCell] using this) _
/-- Good of a valid integer. -/
theorem zgood_h {A : Option Addr} {c : Nat} {z : Int} (h : ZA W (decide (z < 0)) A (dl z.natAbs) c z) : Calls Tryz.prog 90 #[.agg #[.bool (decide (z < 0)), .slice A (dl z.natAbs) c]] W (BoolR W true) := by
  have CG : Hid (∀ o, Calls Tryz.prog 91 #[.agg #[.slice A (dl z.natAbs) c]] (W.alloc o) (BoolR (W.alloc o) true)) := fun o => good_h (h.al o).1
  by_cases hn : z < 0
  · have CZ : Hid (∀ W', Below W.heap.size W W' → Calls Tryz.prog 145 #[.agg #[.slice A (dl z.natAbs) c]] W' (BoolR W' false)) := fun W' hb => za_some (h.up hb) (by omega)
    rw [decide_eq_true hn]
    clear h hn
    go_enter Tryz.func90, Tryz.ntmps90
    go_wp2_with (first | (go_at_call 91; (with_reducible refine (CG.out _).mono ?_); rintro e w1 ⟨rfl, hbk⟩; obtain ⟨e0, e1, hsz, hbx⟩ := bz1 hbk) | (go_at_call 145; (with_reducible refine (CZ.out _ hbx.out).mono ?_); rintro e w2 ⟨rfl, hbk2⟩) | fail)
    go_ret
    exact ⟨rfl, chain hbx hbk2.out⟩
  · rw [decide_eq_false hn]
    clear h hn
    go_enter Tryz.func90, Tryz.ntmps90
    go_wp2_with (first | (go_at_call 91; (with_reducible refine (CG.out _).mono ?_); rintro e w1 ⟨rfl, hbk⟩; obtain ⟨e0, e1, hsz, hbx⟩ := bz1 hbk) | fail)
    go_ret
    exact ⟨rfl, hbx⟩
end
end Go.Proofs.YteahcbeohopdlaaGreatDoor
end

section
/- strings.Cut at a slash. Conditions: a string of at most 100000 bytes. -/
open Go.RowKit
set_option maxRecDepth 100000
namespace Go.Proofs.YteahcbeohopdlaaGreatDoor
theorem ixbyte_any (s : ByteArray) (w : World) : Calls Tryz.prog 177 #[.string s, .int .u8 47] w fun e w' => e = .returned (.int .i64 (Lib.indexByte s.data.toList 47)) ∧ w = w' := by
  go_enter Tryz.func177, Tryz.ntmps177
  go_wp2_with fail
  rw [run_callFunc_extern Tryz.func190 (by kernel_rfl) (by kernel_rfl) (by kernel_rfl) (e := Extern.BytealgIndexByte.indexByte) (by kernel_rfl), Lib.run_indexByteString]
  simp only [Result.andThen]
  rw [Oper.upon_value]
  go_wp2
  go_ret
  exact ⟨rfl, rfl⟩
theorem index_any (s : ByteArray) (w : World) {v : Int} (hv : Lib.indexByte s.data.toList 47 = v) : Calls Tryz.prog 162 #[.string s, .string ⟨#[47]⟩] w fun e w' => e = .returned (.int .i64 v) ∧ w = w' := by
  subst hv
  have CI := hide (fun W => ixbyte_any s W)
  cases hb : ([47] == s.toList)
  · go_enter Tryz.func162, Tryz.ntmps162
    go_wp2_with (first | (go_at_call 177; (refine (CI.out _).mono ?_); rintro e w1 ⟨rfl, rfl⟩) | fail)
    go_ret
    exact ⟨rfl, rfl⟩
  · have HV : Hid (Lib.indexByte s.data.toList 47 = 0) := by
      have h1 : [47] = s.toList := beq_iff_eq.1 hb
      unfold Hid
      rw [← toList_data, ← h1]; rfl
    go_enter Tryz.func162, Tryz.ntmps162
    go_wp2_with (first | (go_at_call 177; (refine (CI.out _).mono ?_); rintro e w1 ⟨rfl, rfl⟩) | fail)
    go_ret
    exact ⟨by rw [HV.out]; rfl, rfl⟩
/-- What Cut leaves: what is ahead of the first slash and behind it. -/
def SlashR (w : World) (s : ByteArray) (e : Ending) (w' : World) : Prop :=
  ∃ (t u : ByteArray) (b : Bool), e = .returned (.tuple #[.string t, .string u, .bool b]) ∧ Hid ((b = true → s.data.toList = t.data.toList ++ 47 :: u.data.toList) ∧ (b = false → t = s) ∧ ¬ (47 : UInt8) ∈ t.data.toList) ∧ Hid (Below w.heap.size w w')
theorem cutl_any (s : ByteArray) (w : World) (hs : s.size ≤ 100000) : Calls Tryz.prog 136 #[.string s, .string ⟨#[47]⟩] w (SlashR w s) := by
  obtain ⟨v, hv⟩ : ∃ v, Lib.indexByte s.data.toList 47 = v := ⟨_, rfl⟩
  have CI := hide (fun W => index_any s W hv)
  have hge := Lib.indexByte_ge s.data.toList 47
  rw [hv] at hge
  by_cases hm : v = -1
  · subst hm
    have HN := hide (Lib.indexByte_none hv)
    clear hv hge
    go_enter Tryz.func136, Tryz.ntmps136
    go_wp2_with (first | (go_at_call 162; (with_reducible refine (CI.out _).mono ?_); rintro e w1 ⟨rfl, rfl⟩) | fail)
    refine bodyPost_ret (v := .tuple #[.string s, .string ⟨#[]⟩, .bool false]) (by simp [results, Tryz.results136, go_sem]) rfl ?_
    refine ⟨s, _, false, rfl, ⟨(fun h => by cases h), (fun _ => rfl), fun h => ?_⟩, Below.refl _ _⟩
    obtain ⟨k, hk⟩ := List.mem_iff_getElem?.1 h
    exact HN.out k hk
  · obtain ⟨i, rfl⟩ : ∃ i : Nat, v = (i : Int) := ⟨v.toNat, by omega⟩
    obtain ⟨h1, h2⟩ := Lib.indexByte_some hv
    have hi : i < s.data.toList.length := by
      rcases Nat.lt_or_ge i s.data.toList.length with h | h
      · exact h
      · rw [List.getElem?_eq_none h] at h1; cases h1
    have hsz := size_list s
    have H1 := hide h1
    have H2 := hide h2
    have hi2 : i < s.size := by omega
    have hi3 : i + 1 ≤ s.size := by omega
    have q0 : (0 : Int) ≤ (i : Int) := by omega
    have q1 : (i : Int) ≤ (s.size : Int) := by omega
    have q2 : (0 : Int) ≤ (i : Int) + 1 := by omega
    have q3 : (i : Int) + 1 ≤ (s.size : Int) := by omega
    have HE : Hid (IntKind.i64.wrap ((i : Int) + 1) = (i : Int) + 1) := IntWalk.i64_in _ (by omega)
    have HT : Hid (((i : Int) + 1).toNat = i + 1) := by unfold Hid; omega
    have HSZ := hide hsz
    clear hv hge hm h1 h2 hi hsz
    go_enter Tryz.func136, Tryz.ntmps136
    go_wp2_with (first | (go_at_call 162; (with_reducible refine (CI.out _).mono ?_); rintro e w1 ⟨rfl, rfl⟩) | fail)
    have e1 := HE.out
    have e2 := HT.out
    go_quiet (fail)
    clear e1 e2
    go_wp2
    refine bodyPost_ret (v := .tuple #[.string (s.extract 0 i), .string (s.extract (i + 1) s.size), .bool true]) (by simp [results, Tryz.results136, go_sem]) rfl ?_
    refine ⟨_, _, true, rfl, ⟨fun _ => ?_, (fun h => by cases h), fun h => ?_⟩, below_drewN (Below.refl _ _) _⟩
    · have h1 := H1.out
      have hl : i < s.data.toList.length := by rw [← HSZ.out]; exact hi2
      rw [List.getElem?_eq_getElem hl] at h1
      injection h1 with h1
      rw [extract_list, extract_list, List.drop_zero, List.take_of_length_le (Nat.le_of_eq HSZ.out.symm), ← h1, ← List.drop_eq_getElem_cons hl, List.take_append_drop]
    · rw [extract_list, List.drop_zero] at h
      obtain ⟨k, hk⟩ := List.mem_iff_getElem?.1 h
      rw [List.getElem?_take] at hk
      split at hk
      · exact H2.out k (by assumption) hk
      · cases hk
theorem slash_any (s : ByteArray) (w : World) (hs : s.size ≤ 100000) : Calls Tryz.prog 83 #[.string s, .string ⟨#[47]⟩] w (SlashR w s) := by
  have CH := hide (fun W => cutl_any s W hs)
  go_enter Tryz.func83, Tryz.ntmps83
  go_wp2_with (first | (go_at_call 136; (with_reducible refine (CH.out _).mono ?_); rintro e w1 ⟨t, u, b, rfl, ht, hbk⟩) | fail)
  exact bodyPost_ret (v := .tuple #[.string t, .string u, .bool b]) (by simp [results, Tryz.results83, go_sem]) rfl ⟨t, u, b, rfl, ht, hbk⟩
end Go.Proofs.YteahcbeohopdlaaGreatDoor
end

section
/- Package num: Text, Good of a valid number. Conditions: at most 100000 words. -/
open Go.RowKit
set_option maxRecDepth 100000
namespace Go.Proofs.YteahcbeohopdlaaGreatDoor
/-- An integer's letters. -/
def decZ (z : Int) : List UInt8 := if z < 0 then 45 :: decL z.natAbs else decL z.natAbs
def TxR (W : World) (l : List UInt8) (e : Ending) (w' : World) : Prop := ∃ t : ByteArray, e = .returned (.string t) ∧ Hid (t.data.toList = l) ∧ Hid (Below W.heap.size W w')
section
variable {W : World} {b : Bool} {A : Option Addr} {n c : Nat} {z : Int}
theorem text_h {m : Nat} (h : Nm W A n c m) : Calls Tryz.prog 89 #[.agg #[.slice A n c]] W (TxR W (decL m)) := (Text_any h.out).mono fun _ _ h => h
theorem decL_len {W : World} {A : Option Addr} {n c m : Nat} (h : Nm W A n c m) : (decL m).length ≤ 1000001 := by
  have h1 : m < 10 ^ (10 * dl m + 1) := by
    have h2 : m < W32 ^ dl m := lt_pow_digs (b := W32) (by decide) m
    have h3 : W32 ^ dl m ≤ (10 ^ 10) ^ dl m := Nat.pow_le_pow_left (by decide) _
    rw [← Nat.pow_mul] at h3
    exact Nat.lt_of_lt_of_le h2 (Nat.le_trans h3 (Nat.pow_le_pow_right (by decide) (by omega)))
  have := dt_le h1 (by omega)
  have := h.dl
  omega
set_option maxHeartbeats 1000000 in
theorem ztext_h (h : ZA W b A n c z) : Calls Tryz.prog 88 #[.agg #[.bool b, .slice A n c]] W (TxR W (decZ z)) := by
  have CT : Hid (∀ W', Below W.heap.size W W' → Calls Tryz.prog 89 #[.agg #[.slice A n c]] W' (TxR W' (decL z.natAbs))) := fun W' hb => text_h (h.up hb).1
  have HLEN := hide (decL_len h.1)
  by_cases hn : z < 0
  · have CS : Hid (∀ o, Calls Tryz.prog 95 #[.agg #[.bool b, .slice A n c]] (W.alloc o) (IntPost (W.alloc o) (-1))) := fun o => sign_h (h.al o) (Int.sign_eq_neg_one_of_neg hn)
    have HZ : Hid (decZ z = 45 :: decL z.natAbs) := if_pos hn
    clear h hn
    go_enter Tryz.func88, Tryz.ntmps88
    go_wp2_with (first | (go_at_call 95; (with_reducible refine (CS.out _).mono ?_); rintro e w1 ⟨rfl, hbk⟩; obtain ⟨e0, e1, hsz, hbx⟩ := bz1 hbk) | (go_at_call 89; (with_reducible refine (CT.out _ hbx.out).mono ?_); rintro e w2 ⟨t, rfl, ht, hbk2⟩; have hts : t.size ≤ 1000001 := (by rw [size_list, ht.out]; exact HLEN.out)) | fail)
    all_goals first
      | (go_ret
         refine ⟨_, rfl, ?_, chain hbx hbk2.out⟩
         unfold Hid
         rw [HZ.out, ← ht.out]
         simp)
      | (exfalso; omega)
  · by_cases h0 : z = 0
    all_goals
      have CS : Hid (∀ o, ∃ s, 0 ≤ s ∧ Calls Tryz.prog 95 #[.agg #[.bool b, .slice A n c]] (W.alloc o) (IntPost (W.alloc o) s)) := fun o => ⟨_, by first | (subst h0; decide) | (rw [Int.sign_eq_one_of_pos (by omega)]; decide), sign_h (h.al o) rfl⟩
      have HZ : Hid (decZ z = decL z.natAbs) := if_neg hn
      obtain ⟨s, hs0, hs⟩ := CS.out (.cells #[.bool b, .slice A n c] 27)
      have CS2 := hide hs
      clear h hn h0 CS hs
      go_enter Tryz.func88, Tryz.ntmps88
      go_wp2_with (first | (go_at_call 95; (with_reducible refine CS2.out.mono ?_); rintro e w1 ⟨rfl, hbk⟩; obtain ⟨e0, e1, hsz, hbx⟩ := bz1 hbk) | (go_at_call 89; (with_reducible refine (CT.out _ hbx.out).mono ?_); rintro e w2 ⟨t, rfl, ht, hbk2⟩) | fail)
      go_ret
      exact ⟨t, rfl, by unfold Hid; rw [HZ.out]; exact ht.out, chain hbx hbk2.out⟩
end
end Go.Proofs.YteahcbeohopdlaaGreatDoor
end
