/- strings.CutPrefix at a minus. Conditions: a string of at most 100000 bytes. -/
import Derived.Test.YtlmfkeicmldcnaaDoorZd
import Derived.Test.YtlmfkeicmldcnaaDoorTxm
open Go.RowKit
set_option maxRecDepth 100000
namespace Go.Proofs.YtlmfkeicmldcnaaDoor
def minusS : ByteArray := ⟨#[45]⟩
theorem toList_loop (bs : ByteArray) (k : Nat) : ∀ i r, bs.size - i = k → ByteArray.toList.loop bs i r = r.reverse ++ bs.data.toList.drop i := by
  induction k with
  | zero =>
    intro i r h
    unfold ByteArray.toList.loop
    rw [if_neg (by omega), List.drop_of_length_le (by show bs.data.size ≤ i; have : bs.data.size = bs.size := rfl; omega), List.append_nil]
  | succ k ih =>
    intro i r h
    have hi : i < bs.data.toList.length := by show i < bs.data.size; have : bs.data.size = bs.size := rfl; omega
    unfold ByteArray.toList.loop
    rw [if_pos (by omega), ih (i + 1) _ (by omega), List.drop_eq_getElem_cons hi, List.reverse_cons, List.append_assoc]
    congr 2
    show bs.get! i :: _ = _
    have : bs.get! i = bs.data.toList[i] := by
      show bs.data[i]! = _
      rw [getElem!_pos bs.data i hi]; rfl
    rw [this]; rfl
theorem toList_data (bs : ByteArray) : bs.toList = bs.data.toList := by
  unfold ByteArray.toList
  rw [toList_loop bs _ 0 [] rfl]; rfl
theorem extract_list (s : ByteArray) (i j : Nat) : (s.extract i j).data.toList = (s.data.toList.take j).drop i := by
  simp [ByteArray.data_extract, List.extract_eq_drop_take', Array.toList_extract]
theorem minus_head (s : ByteArray) : ((s.extract 0 1).toList == [45]) = (s.data.toList.head? == some 45) := by
  rw [toList_data, extract_list]
  cases s.data.toList with
  | nil => rfl
  | cons x xs => simp
theorem HasPrefix_any (s : ByteArray) (w : World) (hs : s.size ≤ 100000) :
    Calls Tryd.prog 101 #[.string s, .string ⟨#[45]⟩] w fun e w' => e = .returned (.bool (s.data.toList.head? == some 45)) ∧ w = w' := by
  by_cases h0 : s.size = 0
  · have HE : Hid ((s.data.toList.head? == some 45) = false) := by
      have : s.data.toList = [] := List.eq_nil_of_length_eq_zero (by rw [← size_list]; exact h0)
      unfold Hid; rw [this]; rfl
    go_enter Tryd.func101, Tryd.ntmps101
    go_wp2
    go_ret
    exact ⟨by rw [HE.out]; rfl, rfl⟩
  · have h1 : 1 ≤ s.size := by omega
    have HE := hide (minus_head s)
    go_enter Tryd.func101, Tryd.ntmps101
    go_wp2
    go_ret
    exact ⟨by rw [← HE.out]; rfl, rfl⟩
/-- What CutPrefix leaves. -/
def CutR (w : World) (s : ByteArray) (e : Ending) (w' : World) : Prop := ∃ t : ByteArray, ∃ b : Bool, e = .returned (.tuple #[.string t, .bool b]) ∧ Hid (s.data.toList = (if b then [45] else []) ++ t.data.toList ∧ (b = false → s.data.toList.head? ≠ some 45)) ∧ w = w'
theorem cutp_any (s : ByteArray) (w : World) (hs : s.size ≤ 100000) : Calls Tryd.prog 92 #[.string s, .string ⟨#[45]⟩] w (CutR w s) := by
  have CH := hide (fun W => HasPrefix_any s W hs)
  by_cases hh : s.data.toList.head? = some 45
  · have hb : (s.data.toList.head? == some 45) = true := by rw [hh]; rfl
    rw [hb] at CH
    obtain ⟨m, hm⟩ : ∃ m, s.data.toList = 45 :: m := by
      cases hl : s.data.toList with
      | nil => rw [hl] at hh; cases hh
      | cons x xs => rw [hl] at hh; injection hh with hh; exact ⟨xs, by rw [hh]⟩
    have h1 : 1 ≤ s.size := by rw [size_list, hm]; simp
    have HM := hide hm
    clear hh hb hm
    go_enter Tryd.func92, Tryd.ntmps92
    go_wp2_with (first | (go_at_call 101; (with_reducible refine (CH.out _).mono ?_); rintro e w1 ⟨rfl, rfl⟩) | fail)
    refine bodyPost_ret (v := .tuple #[.string (s.extract 1 s.size), .bool true]) (by simp [results, Tryd.results92, go_sem]) rfl ⟨_, true, rfl, ⟨?_, fun h => by cases h⟩, rfl⟩
    rw [extract_list, List.take_of_length_le (by rw [size_list]; exact Nat.le_refl _), HM.out]
    rfl
  · have hb : (s.data.toList.head? == some 45) = false := by rw [beq_eq_false_iff_ne]; exact hh
    rw [hb] at CH
    have HH := hide hh
    clear hh hb
    go_enter Tryd.func92, Tryd.ntmps92
    go_wp2_with (first | (go_at_call 101; (with_reducible refine (CH.out _).mono ?_); rintro e w1 ⟨rfl, rfl⟩) | fail)
    refine bodyPost_ret (v := .tuple #[.string s, .bool false]) (by simp [results, Tryd.results92, go_sem]) rfl ⟨s, false, rfl, ⟨rfl, fun _ => HH.out⟩, rfl⟩
theorem cut_any (s : ByteArray) (w : World) (hs : s.size ≤ 100000) : Calls Tryd.prog 76 #[.string s, .string ⟨#[45]⟩] w (CutR w s) := by
  have CH := hide (fun W => cutp_any s W hs)
  go_enter Tryd.func76, Tryd.ntmps76
  go_wp2_with (first | (go_at_call 92; (with_reducible refine (CH.out _).mono ?_); rintro e w1 ⟨t, b, rfl, ht, rfl⟩) | fail)
  exact bodyPost_ret (v := .tuple #[.string t, .bool b]) (by simp [results, Tryd.results76, go_sem]) rfl ⟨t, b, rfl, ht, rfl⟩
def CutS (w : World) (l : List UInt8) (b : Bool) (e : Ending) (w' : World) : Prop := ∃ t : ByteArray, e = .returned (.tuple #[.string t, .bool b]) ∧ Hid (t.data.toList = l) ∧ w = w'
theorem cut_h (s : ByteArray) (w : World) (hs : s.size ≤ 100000) {b : Bool} {l : List UInt8} (h : s.data.toList = (if b then [45] else []) ++ l) (hb : b = false → l.head? ≠ some 45) : Calls Tryd.prog 76 #[.string s, .string ⟨#[45]⟩] w (CutS w l b) := by
  refine (cut_any s w hs).mono ?_
  rintro e w' ⟨t, b', rfl, ht, rfl⟩
  obtain ⟨h1, h2⟩ := ht.out
  rw [h] at h1 h2
  cases b <;> cases b'
  · exact ⟨t, rfl, by simpa [Hid] using h1.symm, rfl⟩
  · exfalso; refine hb rfl ?_; rw [show l = 45 :: t.data.toList by simpa using h1]; rfl
  · exfalso; exact h2 rfl rfl
  · exact ⟨t, rfl, by simpa [Hid] using h1.symm, rfl⟩
/-- What Parse leaves of an integer. -/
def ZPR (W : World) (z : Int) (e : Ending) (w' : World) : Prop :=
  ∃ A c, e = .returned (.tuple #[.agg #[.bool (decide (z < 0)), .slice A (dl z.natAbs) c], .bool true]) ∧ ZA w' (decide (z < 0)) A (dl z.natAbs) c z ∧ Hid (Below W.heap.size W w')
def ZPN (W : World) (e : Ending) (w' : World) : Prop := e = .returned (.tuple #[.agg #[.bool false, .slice none 0 0], .bool false]) ∧ Hid (Below W.heap.size W w')
def PsR (W : World) (v : Nat) (e : Ending) (w' : World) : Prop := ∃ A c, e = .returned (.tuple #[.agg #[.slice A (dl v) c], .bool true]) ∧ Nm w' A (dl v) c v ∧ Hid (Below W.heap.size W w')
def PsN (W : World) (e : Ending) (w' : World) : Prop := e = .returned (.tuple #[.agg #[.slice none 0 0], .bool false]) ∧ Hid (Below W.heap.size W w')
theorem numL_dl {l : List UInt8} (hd : digB l = true) (h : l.length ≤ 99999) : dl (numL l) ≤ 100000 := by
  have h1 := numL_lt l (by unfold digB at hd; rw [Bool.and_eq_true] at hd; exact hd.2)
  refine Nat.le_trans (dl_le (k := l.length + 1) (Nat.lt_of_lt_of_le h1 ?_)) (by omega)
  rw [Nat.pow_succ]
  exact Nat.le_trans (Nat.pow_le_pow_left (show 10 ≤ W32 by decide) _) (Nat.le_mul_of_pos_right _ (by decide))
theorem parse_h (s : ByteArray) (w : World) (hs : s.size ≤ 99999) (h : digB s.data.toList = true) {v : Nat} (hv : numL s.data.toList = v) : Calls Tryd.prog 18 #[.string s] w (PsR w v) := by
  subst hv
  refine (Parse_any s w (by omega)).mono fun e w' h1 => ?_
  unfold ParsePost at h1
  rw [if_pos h] at h1
  obtain ⟨A, c, he, hc, hb⟩ := h1
  exact ⟨A, c, he, nm_can hc (numL_dl h (by rw [← size_list]; omega)), hb⟩
theorem parse_n (s : ByteArray) (w : World) (hs : s.size ≤ 99999) (h : ¬ digB s.data.toList = true) : Calls Tryd.prog 18 #[.string s] w (PsN w) := by
  refine (Parse_any s w (by omega)).mono fun e w' h1 => ?_
  unfold ParsePost at h1
  rw [if_neg h] at h1
  exact h1
theorem alc1 {w : World} {o : Obj} {p i : Nat} {v : Value} (h : w.cell? ⟨p, i, none⟩ = some v) : (w.alloc o).cell? ⟨p, i, none⟩ = some v := (World.cell?_alloc_some _ _ _ (by rw [h]; rfl)).trans h
theorem set2b {w : World} {p : Nat} {s : Bool} {A : Option Addr} {n c : Nat} {x y : Value} (h : Zcell w p s A n c) :
    ((w.setCell ⟨p, 0, none⟩ x).setCell ⟨p, 1, none⟩ y).cell? ⟨p, 0, none⟩ = some x ∧ ((w.setCell ⟨p, 0, none⟩ x).setCell ⟨p, 1, none⟩ y).cell? ⟨p, 1, none⟩ = some y :=
  ⟨(World.cell?_setCell_other _ _ _ _ (by intro e; cases e)).trans (World.cell?_setCell_same _ _ _ h.c0), World.cell?_setCell_same _ _ _ ((World.cell?_setCell_other _ _ _ _ (by intro e; cases e)).trans h.c1)⟩
section
variable {W : World} {s : ByteArray} {b : Bool} {l : List UInt8}
set_option maxHeartbeats 1000000 in
theorem zparse_h {v : Int} (hs : s.size ≤ 99999) (h : s.data.toList = (if b then [45] else []) ++ l) (hb : b = false → l.head? ≠ some 45) (hd : digB l = true) (hv : zi b (numL l) = v) : Calls Tryd.prog 38 #[.string s] W (ZPR W v) := by
  have hll : l.length ≤ 99999 := by
    have := congrArg List.length h
    rw [← size_list, List.length_append] at this
    omega
  have CC := hide (fun (W' : World) => cut_h s W' (by omega) h hb)
  have CP : Hid (∀ (W' : World) (t : ByteArray), Hid (t.data.toList = l) → Calls Tryd.prog 18 #[.string t] W' (PsR W' v.natAbs)) := fun W' t ht => parse_h t W' (by rw [size_list, ht.out]; exact hll) (by rw [ht.out]; exact hd) (by rw [ht.out, ← hv, zi_abs])
  have CS : Hid (∀ W' B n d, Nm W' B n d v.natAbs → Calls Tryd.prog 77 #[.bool b, .agg #[.slice B n d]] W' (SgR W' (decide (v < 0)) B n d)) := fun W' B n d hn => signed_z hn (by rw [← hv, zi_abs])
  clear h hb hd hv hs hll
  go_enter Tryd.func38, Tryd.ntmps38
  go_wp2_with (first | (go_at_call 76; (with_reducible refine (CC.out _).mono ?_); rintro e w1 ⟨t, rfl, ht, rfl⟩) | (go_at_call 18; (with_reducible refine (CP.out _ t ht).mono ?_); rintro e w2 ⟨B, d, rfl, hn, hbk⟩; have HR := hide ((zc_new _ _ _ _ _ _).up hbk); have HW : Hid (Below W.heap.size W w2) := (bz1 hbk).2.2.2; have l0 := HR.out.lt; have r0 := HR.out.c0; have r1 := HR.out.c1; have f0 := HR.out.f0; have f1 := HR.out.f1) | (go_at_call 77; (with_reducible refine (CS.out _ _ _ _ (hn.al _)).mono ?_); rintro e w3 ⟨rfl, hbk2⟩; replace HR := hide (HR.out.upA hbk2); replace HW := bel_al HW hbk2; replace hn := nm_upA hn hbk2; clear r0 r1 f0 f1 l0; have l0 := HR.out.lt; have r0 := HR.out.c0; have r1 := HR.out.c1; have f0 := HR.out.f0; have f1 := HR.out.f1) | fail)
  refine bodyPost_ret (v := .tuple #[.agg #[.bool (decide (v < 0)), .slice B (dl v.natAbs) d], .bool true]) (by simp [results, Tryd.results38, go_sem, r0, r1]) rfl ?_
  exact ⟨B, d, rfl, zr_of (nm_z2 hn HR.out.c0 HR.out.c1), (HW.out.setCell (by simp) _).setCell (by simp) _⟩
theorem zparse_n (hs : s.size ≤ 99999) (h : s.data.toList = (if b then [45] else []) ++ l) (hb : b = false → l.head? ≠ some 45) (hd : ¬ digB l = true) : Calls Tryd.prog 38 #[.string s] W (ZPN W) := by
  have hll : l.length ≤ 99999 := by
    have := congrArg List.length h
    rw [← size_list, List.length_append] at this
    omega
  have CC := hide (fun (W' : World) => cut_h s W' (by omega) h hb)
  have CP : Hid (∀ (W' : World) (t : ByteArray), Hid (t.data.toList = l) → Calls Tryd.prog 18 #[.string t] W' (PsN W')) := fun W' t ht => parse_n t W' (by rw [size_list, ht.out]; exact hll) (by rw [ht.out]; exact hd)
  clear h hb hd hs hll
  go_enter Tryd.func38, Tryd.ntmps38
  go_wp2_with (first | (go_at_call 76; (with_reducible refine (CC.out _).mono ?_); rintro e w1 ⟨t, rfl, ht, rfl⟩) | (go_at_call 18; (with_reducible refine (CP.out _ t ht).mono ?_); rintro e w2 ⟨rfl, hbk⟩; have HR := hide ((zc_new _ _ _ _ _ _).up hbk); have HW : Hid (Below W.heap.size W w2) := (bz1 hbk).2.2.2; have l0 := HR.out.lt; have r0 := HR.out.c0; have r1 := HR.out.c1; have f0 := HR.out.f0; have f1 := HR.out.f1) | fail)
  have u0 := fun o => alc1 (o := o) (set2b (x := .bool false) (y := .slice none 0 0) HR.out).1
  have u1 := fun o => alc1 (o := o) (set2b (x := .bool false) (y := .slice none 0 0) HR.out).2
  refine bodyPost_ret (v := .tuple #[.agg #[.bool false, .slice none 0 0], .bool false]) (by simp [results, Tryd.results38, go_sem, u0, u1]) rfl ⟨rfl, ?_⟩
  exact ((HW.out.setCell (by simp) _).setCell (by simp) _).alloc (by have := HW.out.size; simpa [World.setCell] using this) _
/-- Good of a valid integer. -/
theorem zgood_h {A : Option Addr} {c : Nat} {z : Int} (h : ZA W (decide (z < 0)) A (dl z.natAbs) c z) : Calls Tryd.prog 41 #[.agg #[.bool (decide (z < 0)), .slice A (dl z.natAbs) c]] W (BoolR W true) := by
  have CG : Hid (∀ o, Calls Tryd.prog 22 #[.agg #[.slice A (dl z.natAbs) c]] (W.alloc o) (BoolR (W.alloc o) true)) := fun o => good_h (h.al o).1
  by_cases hn : z < 0
  · have CZ : Hid (∀ W', Below W.heap.size W W' → Calls Tryd.prog 78 #[.agg #[.slice A (dl z.natAbs) c]] W' (BoolR W' false)) := fun W' hb => za_some (h.up hb) (by omega)
    rw [decide_eq_true hn]
    clear h hn
    go_enter Tryd.func41, Tryd.ntmps41
    go_wp2_with (first | (go_at_call 22; (with_reducible refine (CG.out _).mono ?_); rintro e w1 ⟨rfl, hbk⟩; obtain ⟨e0, e1, hsz, hbx⟩ := bz1 hbk) | (go_at_call 78; (with_reducible refine (CZ.out _ hbx.out).mono ?_); rintro e w2 ⟨rfl, hbk2⟩) | fail)
    go_ret
    exact ⟨rfl, chain hbx hbk2.out⟩
  · rw [decide_eq_false hn]
    clear h hn
    go_enter Tryd.func41, Tryd.ntmps41
    go_wp2_with (first | (go_at_call 22; (with_reducible refine (CG.out _).mono ?_); rintro e w1 ⟨rfl, hbk⟩; obtain ⟨e0, e1, hsz, hbx⟩ := bz1 hbk) | fail)
    go_ret
    exact ⟨rfl, hbx⟩
end
end Go.Proofs.YtlmfkeicmldcnaaDoor
