/- Several texts in one, each with its own sentence and conditions. -/
import Derived.Test.YtfcamfkimnlfgaaGreatDoorGRsmc10
import Derived.Test.YtfcamfkimnlfgaaGreatDoorGRsmc11
import Derived.Test.YtfcamfkimnlfgaaGreatDoorZd
import Derived.Test.YtfcamfkimnlfgaaGreatDoorGRsmc3
import Derived.Test.YtfcamfkimnlfgaaGreatDoorKp
section
/- A number's letters, read again. No conditions. -/
open Go.RowKit
set_option maxRecDepth 100000
namespace Go.Proofs.YtfcamfkimnlfgaaGreatDoor
theorem dig_letter {d : Nat} (h : d < 10) : isDig (letter d) = true := by unfold isDig; rw [letter_toNat h]; simp; omega
theorem dvs_letters (l : List Nat) (h : ∀ d ∈ l, d < 10) : dvs (l.reverse.map letter) = l := by
  unfold dvs
  rw [← List.map_reverse, List.reverse_reverse, List.map_map]
  have : ∀ m : List Nat, (∀ d ∈ m, d < 10) → m.map ((fun c : UInt8 => c.toNat - 48) ∘ letter) = m := by
    intro m
    induction m with
    | nil => intro _; rfl
    | cons d m ih =>
      intro hm
      rw [List.map_cons, ih fun x hx => hm x (List.mem_cons_of_mem _ hx)]
      have := letter_toNat (hm d (List.mem_cons_self ..))
      simp only [Function.comp_apply, this]
      congr 1; omega
  exact this l h
theorem numL_decL (m : Nat) : numL (decL m) = m ∧ digB (decL m) = true := by
  unfold decL
  by_cases h0 : m = 0
  · rw [if_pos h0, h0]; exact ⟨rfl, by decide⟩
  · rw [if_neg h0]
    have hlt := digs_lt (b := 10) (by omega) m
    refine ⟨?_, ?_⟩
    · show numL ((digs 10 m).reverse.map letter) = m
      rw [numL_val, dvs_letters _ hlt, val_digs (by omega)]
    · unfold digB
      rw [Bool.and_eq_true]
      refine ⟨?_, ?_⟩
      · rw [digs_pos (by omega) (by omega)]; simp
      · rw [List.all_eq_true]
        intro c hc
        obtain ⟨d, hd, rfl⟩ := List.mem_map.1 hc
        exact dig_letter (hlt d (List.mem_reverse.1 hd))
theorem dt_le {m k : Nat} (h : m < 10 ^ k) (hk : 1 ≤ k) : (decL m).length ≤ k := by
  unfold decL
  by_cases h0 : m = 0
  · rw [if_pos h0]; exact hk
  · rw [if_neg h0, List.length_map, List.length_reverse]
    have h1 := pow_le_of_digs (b := 10) (n := m) (by decide) (by omega)
    have h2 : 10 ^ ((digs 10 m).length - 1) < 10 ^ k := Nat.lt_of_le_of_lt h1 h
    have h3 := (Nat.pow_lt_pow_iff_right (a := 10) (by decide)).1 h2
    omega
end Go.Proofs.YtfcamfkimnlfgaaGreatDoor
end

section
/- strings.CutPrefix at a minus. Conditions: a string of at most 100000 bytes. -/
open Go.RowKit
set_option maxRecDepth 100000
namespace Go.Proofs.YtfcamfkimnlfgaaGreatDoor
def minusS : ByteArray := ⟨#[45]⟩
theorem toList_loop (bs : ByteArray) (k : Nat) : ∀ i r, bs.size - i = k → ByteArray.toList.loop bs i r = r.reverse ++ bs.data.toList.drop i := by
  induction k with
  | zero =>
    intro i r h
    unfold ByteArray.toList.loop
    rw [if_neg (by omega), List.drop_of_length_le (by show bs.data.size ≤ i; have : bs.data.size = bs.size := rfl; omega), List.append_nil]
  | succ k ih =>
    intro i r h
    have hi : i < bs.data.toList.length := by show i < bs.data.size; have : bs.data.size = bs.size := rfl; omega
    unfold ByteArray.toList.loop
    rw [if_pos (by omega), ih (i + 1) _ (by omega), List.drop_eq_getElem_cons hi, List.reverse_cons, List.append_assoc]
    congr 2
    show bs.get! i :: _ = _
    have : bs.get! i = bs.data.toList[i] := by
      show bs.data[i]! = _
      rw [getElem!_pos bs.data i hi]; rfl
    rw [this]; rfl
theorem toList_data (bs : ByteArray) : bs.toList = bs.data.toList := by
  unfold ByteArray.toList
  rw [toList_loop bs _ 0 [] rfl]; rfl
theorem extract_list (s : ByteArray) (i j : Nat) : (s.extract i j).data.toList = (s.data.toList.take j).drop i := by
  simp [ByteArray.data_extract, List.extract_eq_drop_take', Array.toList_extract]
theorem minus_head (s : ByteArray) : ((s.extract 0 1).toList == [45]) = (s.data.toList.head? == some 45) := by
  rw [toList_data, extract_list]
  cases s.data.toList with
  | nil => rfl
  | cons x xs => simp
theorem HasPrefix_any (s : ByteArray) (w : World) (hs : s.size ≤ 100000) :
    Calls Tryz.prog 164 #[.string s, .string ⟨#[45]⟩] w fun e w' => e = .returned (.bool (s.data.toList.head? == some 45)) ∧ w = w' := by
  by_cases h0 : s.size = 0
  · have HE : Hid ((s.data.toList.head? == some 45) = false) := by
      have : s.data.toList = [] := List.eq_nil_of_length_eq_zero (by rw [← size_list]; exact h0)
      unfold Hid; rw [this]; rfl
    go_enter Tryz.func164, Tryz.ntmps164
    go_wp2
    go_ret
    exact ⟨by rw [HE.out]; rfl, rfl⟩
  · have h1 : 1 ≤ s.size := by omega
    have HE := hide (minus_head s)
    go_enter Tryz.func164, Tryz.ntmps164
    go_wp2
    go_ret
    exact ⟨by rw [← HE.out]; rfl, rfl⟩
/-- What CutPrefix leaves. -/
def CutR (w : World) (s : ByteArray) (e : Ending) (w' : World) : Prop := ∃ t : ByteArray, ∃ b : Bool, e = .returned (.tuple #[.string t, .bool b]) ∧ Hid (s.data.toList = (if b then [45] else []) ++ t.data.toList ∧ (b = false → s.data.toList.head? ≠ some 45)) ∧ w = w'
theorem cutp_any (s : ByteArray) (w : World) (hs : s.size ≤ 100000) : Calls Tryz.prog 148 #[.string s, .string ⟨#[45]⟩] w (CutR w s) := by
  have CH := hide (fun W => HasPrefix_any s W hs)
  by_cases hh : s.data.toList.head? = some 45
  · have hb : (s.data.toList.head? == some 45) = true := by rw [hh]; rfl
    rw [hb] at CH
    obtain ⟨m, hm⟩ : ∃ m, s.data.toList = 45 :: m := by
      cases hl : s.data.toList with
      | nil => rw [hl] at hh; cases hh
      | cons x xs => rw [hl] at hh; injection hh with hh; exact ⟨xs, by rw [hh]⟩
    have h1 : 1 ≤ s.size := by rw [size_list, hm]; simp
    have HM := hide hm
    clear hh hb hm
    go_enter Tryz.func148, Tryz.ntmps148
    go_wp2_with (first | (go_at_call 164; (with_reducible refine (CH.out _).mono ?_); rintro e w1 ⟨rfl, rfl⟩) | fail)
    refine bodyPost_ret (v := .tuple #[.string (s.extract 1 s.size), .bool true]) (by simp [results, Tryz.results148, go_sem]) rfl ⟨_, true, rfl, ⟨?_, fun h => by cases h⟩, rfl⟩
    rw [extract_list, List.take_of_length_le (by rw [size_list]; exact Nat.le_refl _), HM.out]
    rfl
  · have hb : (s.data.toList.head? == some 45) = false := by rw [beq_eq_false_iff_ne]; exact hh
    rw [hb] at CH
    have HH := hide hh
    clear hh hb
    go_enter Tryz.func148, Tryz.ntmps148
    go_wp2_with (first | (go_at_call 164; (with_reducible refine (CH.out _).mono ?_); rintro e w1 ⟨rfl, rfl⟩) | fail)
    refine bodyPost_ret (v := .tuple #[.string s, .bool false]) (by simp [results, Tryz.results148, go_sem]) rfl ⟨s, false, rfl, ⟨rfl, fun _ => HH.out⟩, rfl⟩
theorem cut_any (s : ByteArray) (w : World) (hs : s.size ≤ 100000) : Calls Tryz.prog 106 #[.string s, .string ⟨#[45]⟩] w (CutR w s) := by
  have CH := hide (fun W => cutp_any s W hs)
  go_enter Tryz.func106, Tryz.ntmps106
  go_wp2_with (first | (go_at_call 148; (with_reducible refine (CH.out _).mono ?_); rintro e w1 ⟨t, b, rfl, ht, rfl⟩) | fail)
  exact bodyPost_ret (v := .tuple #[.string t, .bool b]) (by simp [results, Tryz.results106, go_sem]) rfl ⟨t, b, rfl, ht, rfl⟩
def CutS (w : World) (l : List UInt8) (b : Bool) (e : Ending) (w' : World) : Prop := ∃ t : ByteArray, e = .returned (.tuple #[.string t, .bool b]) ∧ Hid (t.data.toList = l) ∧ w = w'
theorem cut_h (s : ByteArray) (w : World) (hs : s.size ≤ 100000) {b : Bool} {l : List UInt8} (h : s.data.toList = (if b then [45] else []) ++ l) (hb : b = false → l.head? ≠ some 45) : Calls Tryz.prog 106 #[.string s, .string ⟨#[45]⟩] w (CutS w l b) := by
  refine (cut_any s w hs).mono ?_
  rintro e w' ⟨t, b', rfl, ht, rfl⟩
  obtain ⟨h1, h2⟩ := ht.out
  rw [h] at h1 h2
  cases b <;> cases b'
  · exact ⟨t, rfl, by simpa [Hid] using h1.symm, rfl⟩
  · exfalso; refine hb rfl ?_; rw [show l = 45 :: t.data.toList by simpa using h1]; rfl
  · exfalso; exact h2 rfl rfl
  · exact ⟨t, rfl, by simpa [Hid] using h1.symm, rfl⟩
/-- What Parse leaves of an integer. -/
def ZPR (W : World) (z : Int) (e : Ending) (w' : World) : Prop :=
  ∃ A c, e = .returned (.tuple #[.agg #[.bool (decide (z < 0)), .slice A (dl z.natAbs) c], .bool true]) ∧ ZA w' (decide (z < 0)) A (dl z.natAbs) c z ∧ Hid (Below W.heap.size W w')
def ZPN (W : World) (e : Ending) (w' : World) : Prop := e = .returned (.tuple #[.agg #[.bool false, .slice none 0 0], .bool false]) ∧ Hid (Below W.heap.size W w')
def PsR (W : World) (v : Nat) (e : Ending) (w' : World) : Prop := ∃ A c, e = .returned (.tuple #[.agg #[.slice A (dl v) c], .bool true]) ∧ Nm w' A (dl v) c v ∧ Hid (Below W.heap.size W w')
def PsN (W : World) (e : Ending) (w' : World) : Prop := e = .returned (.tuple #[.agg #[.slice none 0 0], .bool false]) ∧ Hid (Below W.heap.size W w')
theorem numL_dl {l : List UInt8} (hd : digB l = true) (h : l.length ≤ 99999) : dl (numL l) ≤ 100000 := by
  have h1 := numL_lt l (by unfold digB at hd; rw [Bool.and_eq_true] at hd; exact hd.2)
  refine Nat.le_trans (dl_le (k := l.length + 1) (Nat.lt_of_lt_of_le h1 ?_)) (by omega)
  rw [Nat.pow_succ]
  exact Nat.le_trans (Nat.pow_le_pow_left (show 10 ≤ W32 by decide) _) (Nat.le_mul_of_pos_right _ (by decide))
theorem parse_h (s : ByteArray) (w : World) (hs : s.size ≤ 99999) (h : digB s.data.toList = true) {v : Nat} (hv : numL s.data.toList = v) : Calls Tryz.prog 78 #[.string s] w (PsR w v) := by
  subst hv
  refine (Parse_any s w (by omega)).mono fun e w' h1 => ?_
  unfold ParsePost at h1
  rw [if_pos h] at h1
  obtain ⟨A, c, he, hc, hb⟩ := h1
  exact ⟨A, c, he, nm_can hc (numL_dl h (by rw [← size_list]; omega)), hb⟩
theorem parse_n (s : ByteArray) (w : World) (hs : s.size ≤ 99999) (h : ¬ digB s.data.toList = true) : Calls Tryz.prog 78 #[.string s] w (PsN w) := by
  refine (Parse_any s w (by omega)).mono fun e w' h1 => ?_
  unfold ParsePost at h1
  rw [if_neg h] at h1
  exact h1
theorem alc1 {w : World} {o : Obj} {p i : Nat} {v : Value} (h : w.cell? ⟨p, i, none⟩ = some v) : (w.alloc o).cell? ⟨p, i, none⟩ = some v := (World.cell?_alloc_some _ _ _ (by rw [h]; rfl)).trans h
theorem set2b {w : World} {p : Nat} {s : Bool} {A : Option Addr} {n c : Nat} {x y : Value} (h : Zcell w p s A n c) :
    ((w.setCell ⟨p, 0, none⟩ x).setCell ⟨p, 1, none⟩ y).cell? ⟨p, 0, none⟩ = some x ∧ ((w.setCell ⟨p, 0, none⟩ x).setCell ⟨p, 1, none⟩ y).cell? ⟨p, 1, none⟩ = some y :=
  ⟨(World.cell?_setCell_other _ _ _ _ (by intro e; cases e)).trans (World.cell?_setCell_same _ _ _ h.c0), World.cell?_setCell_same _ _ _ ((World.cell?_setCell_other _ _ _ _ (by intro e; cases e)).trans h.c1)⟩
section
variable {W : World} {s : ByteArray} {b : Bool} {l : List UInt8}
set_option maxHeartbeats 1000000 in
theorem zparse_h {v : Int} (hs : s.size ≤ 99999) (h : s.data.toList = (if b then [45] else []) ++ l) (hb : b = false → l.head? ≠ some 45) (hd : digB l = true) (hv : zi b (numL l) = v) : Calls Tryz.prog 76 #[.string s] W (ZPR W v) := by
  have hll : l.length ≤ 99999 := by
    have := congrArg List.length h
    rw [← size_list, List.length_append] at this
    omega
  have CC := hide (fun (W' : World) => cut_h s W' (by omega) h hb)
  have CP : Hid (∀ (W' : World) (t : ByteArray), Hid (t.data.toList = l) → Calls Tryz.prog 78 #[.string t] W' (PsR W' v.natAbs)) := fun W' t ht => parse_h t W' (by rw [size_list, ht.out]; exact hll) (by rw [ht.out]; exact hd) (by rw [ht.out, ← hv, zi_abs])
  have CS : Hid (∀ W' B n d, Nm W' B n d v.natAbs → Calls Tryz.prog 130 #[.bool b, .agg #[.slice B n d]] W' (SgR W' (decide (v < 0)) B n d)) := fun W' B n d hn => signed_z hn (by rw [← hv, zi_abs])
  clear h hb hd hv hs hll
  go_enter Tryz.func76, Tryz.ntmps76
  go_wp2_with (first | (go_at_call 106; (with_reducible refine (CC.out _).mono ?_); rintro e w1 ⟨t, rfl, ht, rfl⟩) | (go_at_call 78; (with_reducible refine (CP.out _ t ht).mono ?_); rintro e w2 ⟨B, d, rfl, hn, hbk⟩; have HR := hide ((zc_new _ _ _ _ _ _).up hbk); have HW : Hid (Below W.heap.size W w2) := (bz1 hbk).2.2.2; have l0 := HR.out.lt; have r0 := HR.out.c0; have r1 := HR.out.c1; have f0 := HR.out.f0; have f1 := HR.out.f1) | (go_at_call 130; (with_reducible refine (CS.out _ _ _ _ (hn.al _)).mono ?_); rintro e w3 ⟨rfl, hbk2⟩; replace HR := hide (HR.out.upA hbk2); replace HW := bel_al HW hbk2; replace hn := nm_upA hn hbk2; clear r0 r1 f0 f1 l0; have l0 := HR.out.lt; have r0 := HR.out.c0; have r1 := HR.out.c1; have f0 := HR.out.f0; have f1 := HR.out.f1) | fail)
  refine bodyPost_ret (v := .tuple #[.agg #[.bool (decide (v < 0)), .slice B (dl v.natAbs) d], .bool true]) (by simp [results, Tryz.results76, go_sem, r0, r1]) rfl ?_
  exact ⟨B, d, rfl, zr_of (nm_z2 hn HR.out.c0 HR.out.c1), (HW.out.setCell (by simp) _).setCell (by simp) _⟩
theorem zparse_n (hs : s.size ≤ 99999) (h : s.data.toList = (if b then [45] else []) ++ l) (hb : b = false → l.head? ≠ some 45) (hd : ¬ digB l = true) : Calls Tryz.prog 76 #[.string s] W (ZPN W) := by
  have hll : l.length ≤ 99999 := by
    have := congrArg List.length h
    rw [← size_list, List.length_append] at this
    omega
  have CC := hide (fun (W' : World) => cut_h s W' (by omega) h hb)
  have CP : Hid (∀ (W' : World) (t : ByteArray), Hid (t.data.toList = l) → Calls Tryz.prog 78 #[.string t] W' (PsN W')) := fun W' t ht => parse_n t W' (by rw [size_list, ht.out]; exact hll) (by rw [ht.out]; exact hd)
  clear h hb hd hs hll
  go_enter Tryz.func76, Tryz.ntmps76
  go_wp2_with (first | (go_at_call 106; (with_reducible refine (CC.out _).mono ?_); rintro e w1 ⟨t, rfl, ht, rfl⟩) | (go_at_call 78; (with_reducible refine (CP.out _ t ht).mono ?_); rintro e w2 ⟨rfl, hbk⟩; have HR := hide ((zc_new _ _ _ _ _ _).up hbk); have HW : Hid (Below W.heap.size W w2) := (bz1 hbk).2.2.2; have l0 := HR.out.lt; have r0 := HR.out.c0; have r1 := HR.out.c1; have f0 := HR.out.f0; have f1 := HR.out.f1) | fail)
  have u0 := fun o => alc1 (o := o) (set2b (x := .bool false) (y := .slice none 0 0) HR.out).1
  have u1 := fun o => alc1 (o := o) (set2b (x := .bool false) (y := .slice none 0 0) HR.out).2
  refine bodyPost_ret (v := .tuple #[.agg #[.bool false, .slice none 0 0], .bool false]) (by simp [results, Tryz.results76, go_sem, u0, u1]) rfl ⟨rfl, ?_⟩
  exact ((HW.out.setCell (by simp) _).setCell (by simp) _).alloc (by have := HW.out.size; simpa [World.setCell] using this) _
/-- Good of a valid integer. -/
theorem zgood_h {A : Option Addr} {c : Nat} {z : Int} (h : ZA W (decide (z < 0)) A (dl z.natAbs) c z) : Calls Tryz.prog 98 #[.agg #[.bool (decide (z < 0)), .slice A (dl z.natAbs) c]] W (BoolR W true) := by
  have CG : Hid (∀ o, Calls Tryz.prog 114 #[.agg #[.slice A (dl z.natAbs) c]] (W.alloc o) (BoolR (W.alloc o) true)) := fun o => good_h (h.al o).1
  by_cases hn : z < 0
  · have CZ : Hid (∀ W', Below W.heap.size W W' → Calls Tryz.prog 140 #[.agg #[.slice A (dl z.natAbs) c]] W' (BoolR W' false)) := fun W' hb => za_some (h.up hb) (by omega)
    rw [decide_eq_true hn]
    clear h hn
    go_enter Tryz.func98, Tryz.ntmps98
    go_wp2_with (first | (go_at_call 114; (with_reducible refine (CG.out _).mono ?_); rintro e w1 ⟨rfl, hbk⟩; obtain ⟨e0, e1, hsz, hbx⟩ := bz1 hbk) | (go_at_call 140; (with_reducible refine (CZ.out _ hbx.out).mono ?_); rintro e w2 ⟨rfl, hbk2⟩) | fail)
    go_ret
    exact ⟨rfl, chain hbx hbk2.out⟩
  · rw [decide_eq_false hn]
    clear h hn
    go_enter Tryz.func98, Tryz.ntmps98
    go_wp2_with (first | (go_at_call 114; (with_reducible refine (CG.out _).mono ?_); rintro e w1 ⟨rfl, hbk⟩; obtain ⟨e0, e1, hsz, hbx⟩ := bz1 hbk) | fail)
    go_ret
    exact ⟨rfl, hbx⟩
end
end Go.Proofs.YtfcamfkimnlfgaaGreatDoor
end

section
/- Package num: Cmp. Conditions: at most 100000 words. -/
open Go.RowKit
set_option maxRecDepth 100000
namespace Go.Proofs.YtfcamfkimnlfgaaGreatDoor
def cmpZ (a b : Int) : Int := if a < b then -1 else if b < a then 1 else 0
theorem al2 (W : World) (o1 o2 : Obj) : Below W.heap.size W ((W.alloc o1).alloc o2) := ((Below.refl _ _).alloc (Nat.le_refl _) _).alloc (by simp) _
section
variable {W : World} {b b' : Bool} {A A' : Option Addr} {n n' c c' : Nat} {z z' : Int}
set_option maxHeartbeats 4000000 in
theorem zcmp_h {v : Int} (h : ZA W b A n c z) (h' : ZA W b' A' n' c' z') (hv : cmpZ z z' = v) : Calls Tryz.prog 89 #[.agg #[.bool b, .slice A n c], .agg #[.bool b', .slice A' n' c']] W (IntPost W v) := by
  obtain ⟨s, hs⟩ : ∃ s, z.sign = s := ⟨_, rfl⟩
  obtain ⟨s', hs'⟩ : ∃ s, z'.sign = s := ⟨_, rfl⟩
  have hsb : -1 ≤ s ∧ s ≤ 1 ∧ (s < 0 ↔ z < 0) ∧ (0 < s ↔ 0 < z) := by
    subst hs
    rcases Int.lt_trichotomy z 0 with h | h | h
    · rw [Int.sign_eq_neg_one_of_neg h]; omega
    · subst h; decide
    · rw [Int.sign_eq_one_of_pos h]; omega
  have hsb' : -1 ≤ s' ∧ s' ≤ 1 ∧ (s' < 0 ↔ z' < 0) ∧ (0 < s' ↔ 0 < z') := by
    subst hs'
    rcases Int.lt_trichotomy z' 0 with h | h | h
    · rw [Int.sign_eq_neg_one_of_neg h]; omega
    · subst h; decide
    · rw [Int.sign_eq_one_of_pos h]; omega
  have CA : Hid (∀ W', Below W.heap.size W W' → Calls Tryz.prog 88 #[.agg #[.bool b, .slice A n c]] W' (IntPost W' s)) := fun W' hb => sign_h (h.up hb) hs
  have CB : Hid (∀ W', Below W.heap.size W W' → Calls Tryz.prog 88 #[.agg #[.bool b', .slice A' n' c']] W' (IntPost W' s')) := fun W' hb => sign_h (h'.up hb) hs'
  have CC : Hid (∀ W', Below W.heap.size W W' → Calls Tryz.prog 125 #[.agg #[.slice A n c], .agg #[.slice A' n' c']] W' (IntPost W' (cmpI z.natAbs z'.natAbs))) := fun W' hb => cmp_h (h.up hb).1 (h'.up hb).1 rfl
  have CD : Hid (∀ W', Below W.heap.size W W' → Calls Tryz.prog 125 #[.agg #[.slice A' n' c'], .agg #[.slice A n c]] W' (IntPost W' (cmpI z'.natAbs z.natAbs))) := fun W' hb => cmp_h (h'.up hb).1 (h.up hb).1 rfl
  have ways : (s < s' ∧ v = -1) ∨ (¬ s < s' ∧ s' < s ∧ v = 1) ∨ (¬ s < s' ∧ ¬ s' < s ∧ s < 0 ∧ v = cmpI z'.natAbs z.natAbs) ∨ (¬ s < s' ∧ ¬ s' < s ∧ ¬ s < 0 ∧ v = cmpI z.natAbs z'.natAbs) := by
    unfold cmpZ at hv
    unfold cmpI
    by_cases h1 : s < s'
    · left; rw [if_pos (by omega)] at hv; exact ⟨h1, hv.symm⟩
    · by_cases h2 : s' < s
      · right; left; rw [if_neg (by omega), if_pos (by omega)] at hv; exact ⟨h1, h2, hv.symm⟩
      · by_cases h3 : s < 0
        · right; right; left
          refine ⟨h1, h2, h3, ?_⟩
          rw [← hv]
          split <;> split <;> (try split) <;> omega
        · right; right; right
          refine ⟨h1, h2, h3, ?_⟩
          rw [← hv]
          split <;> split <;> (try split) <;> omega
  clear h h' hv hs hs' hsb hsb'
  rcases ways with ⟨h1, hv⟩ | ⟨h1, h2, hv⟩ | ⟨h1, h2, h3, hv⟩ | ⟨h1, h2, h3, hv⟩
  all_goals
    have HV := hide hv
    clear hv
    go_enter Tryz.func89, Tryz.ntmps89
    go_wp2_with fail
    obtain ⟨W0, hW0⟩ : ∃ W0, W0 = ((W.alloc (.cells #[.bool b, .slice A n c] 26)).alloc (.cells #[.bool b', .slice A' n' c'] 26)) := ⟨_, rfl⟩
    rw [← hW0]
    have HA : Hid (Zcell W0.drew W.heap.size b A n c) := by rw [hW0]; exact Zcell.dr ((zc_new _ _ _ _ _ _).al _)
    have HA' : Hid (Zcell W0.drew (W.heap.size + 1) b' A' n' c') := by rw [hW0]; exact Zcell.dr (zc_new1 _ _ _ _ _ _ _)
    have HW : Hid (Below W.heap.size W W0.drew) := by rw [hW0]; exact Below.drew (al2 _ _ _)
    clear hW0
    go_region_held3 (fun w' => w'.cell? ⟨W.heap.size, 0, none⟩ = some (.bool b) ∧ w'.cell? ⟨W.heap.size, 1, none⟩ = some (.slice A n c) ∧ w'.cell? ⟨W.heap.size + 1, 0, none⟩ = some (.bool b') ∧ w'.cell? ⟨W.heap.size + 1, 1, none⟩ = some (.slice A' n' c')) (first | exact ⟨HA.out.c0, HA.out.c1, HA'.out.c0, HA'.out.c1⟩) (first | (go_at_call 88; (with_reducible refine (CA.out _ HW.out).mono ?_); rintro e w1 ⟨rfl, hbk⟩; replace HA := hide (HA.out.up hbk); replace HA' := hide (HA'.out.up hbk); replace HW := chain HW hbk.out) | (go_at_call 88; (with_reducible refine (CB.out _ HW.out).mono ?_); rintro e w2 ⟨rfl, hbk⟩; replace HA := hide (HA.out.up hbk); replace HA' := hide (HA'.out.up hbk); replace HW := chain HW hbk.out) | fail)
  · go_wp2_with fail
    go_ret
    exact ⟨by rw [HV.out]; rfl, HW.out⟩
  · go_wp2_with fail
    replace HA := hide HA.out.dr
    replace HA' := hide HA'.out.dr
    replace HW := hide (Below.drew HW.out)
    go_region_held3 (fun w' => w'.cell? ⟨W.heap.size, 0, none⟩ = some (.bool b) ∧ w'.cell? ⟨W.heap.size, 1, none⟩ = some (.slice A n c) ∧ w'.cell? ⟨W.heap.size + 1, 0, none⟩ = some (.bool b') ∧ w'.cell? ⟨W.heap.size + 1, 1, none⟩ = some (.slice A' n' c')) (first | exact ⟨HA.out.c0, HA.out.c1, HA'.out.c0, HA'.out.c1⟩) (first | (go_at_call 88; (with_reducible refine (CA.out _ HW.out).mono ?_); rintro e w1 ⟨rfl, hbk⟩; replace HA := hide (HA.out.up hbk); replace HA' := hide (HA'.out.up hbk); replace HW := chain HW hbk.out) | (go_at_call 88; (with_reducible refine (CB.out _ HW.out).mono ?_); rintro e w2 ⟨rfl, hbk⟩; replace HA := hide (HA.out.up hbk); replace HA' := hide (HA'.out.up hbk); replace HW := chain HW hbk.out) | fail)
    go_wp2_with fail
    go_ret
    exact ⟨by rw [HV.out]; rfl, HW.out⟩
  · go_wp2_with fail
    replace HA := hide HA.out.dr
    replace HA' := hide HA'.out.dr
    replace HW := hide (Below.drew HW.out)
    go_region_held3 (fun w' => w'.cell? ⟨W.heap.size, 0, none⟩ = some (.bool b) ∧ w'.cell? ⟨W.heap.size, 1, none⟩ = some (.slice A n c) ∧ w'.cell? ⟨W.heap.size + 1, 0, none⟩ = some (.bool b') ∧ w'.cell? ⟨W.heap.size + 1, 1, none⟩ = some (.slice A' n' c')) (first | exact ⟨HA.out.c0, HA.out.c1, HA'.out.c0, HA'.out.c1⟩) (first | (go_at_call 88; (with_reducible refine (CA.out _ HW.out).mono ?_); rintro e w1 ⟨rfl, hbk⟩; replace HA := hide (HA.out.up hbk); replace HA' := hide (HA'.out.up hbk); replace HW := chain HW hbk.out) | (go_at_call 88; (with_reducible refine (CB.out _ HW.out).mono ?_); rintro e w2 ⟨rfl, hbk⟩; replace HA := hide (HA.out.up hbk); replace HA' := hide (HA'.out.up hbk); replace HW := chain HW hbk.out) | fail)
    have a0 := HA.out.c0
    have a1 := HA.out.c1
    have x0 := HA'.out.c0
    have x1 := HA'.out.c1
    go_wp2_with (first | (go_at_call 88; (with_reducible refine (CA.out _ HW.out).mono ?_); rintro e w3 ⟨rfl, hbk⟩; replace HA := hide (HA.out.up hbk); replace HA' := hide (HA'.out.up hbk); replace HW := chain HW hbk.out; clear a0 a1 x0 x1; have a0 := HA.out.c0; have a1 := HA.out.c1; have x0 := HA'.out.c0; have x1 := HA'.out.c1) | (go_at_call 125; (with_reducible refine (CD.out _ HW.out).mono ?_); rintro e w4 ⟨rfl, hbk⟩) | fail)
    go_ret
    exact ⟨by rw [HV.out]; rfl, chain HW hbk.out⟩
  · go_wp2_with fail
    replace HA := hide HA.out.dr
    replace HA' := hide HA'.out.dr
    replace HW := hide (Below.drew HW.out)
    go_region_held3 (fun w' => w'.cell? ⟨W.heap.size, 0, none⟩ = some (.bool b) ∧ w'.cell? ⟨W.heap.size, 1, none⟩ = some (.slice A n c) ∧ w'.cell? ⟨W.heap.size + 1, 0, none⟩ = some (.bool b') ∧ w'.cell? ⟨W.heap.size + 1, 1, none⟩ = some (.slice A' n' c')) (first | exact ⟨HA.out.c0, HA.out.c1, HA'.out.c0, HA'.out.c1⟩) (first | (go_at_call 88; (with_reducible refine (CA.out _ HW.out).mono ?_); rintro e w1 ⟨rfl, hbk⟩; replace HA := hide (HA.out.up hbk); replace HA' := hide (HA'.out.up hbk); replace HW := chain HW hbk.out) | (go_at_call 88; (with_reducible refine (CB.out _ HW.out).mono ?_); rintro e w2 ⟨rfl, hbk⟩; replace HA := hide (HA.out.up hbk); replace HA' := hide (HA'.out.up hbk); replace HW := chain HW hbk.out) | fail)
    have a0 := HA.out.c0
    have a1 := HA.out.c1
    have x0 := HA'.out.c0
    have x1 := HA'.out.c1
    go_wp2_with (first | (go_at_call 88; (with_reducible refine (CA.out _ HW.out).mono ?_); rintro e w3 ⟨rfl, hbk⟩; replace HA := hide (HA.out.up hbk); replace HA' := hide (HA'.out.up hbk); replace HW := chain HW hbk.out; clear a0 a1 x0 x1; have a0 := HA.out.c0; have a1 := HA.out.c1; have x0 := HA'.out.c0; have x1 := HA'.out.c1) | (go_at_call 125; (with_reducible refine (CC.out _ HW.out).mono ?_); rintro e w4 ⟨rfl, hbk⟩) | fail)
    go_ret
    exact ⟨by rw [HV.out]; rfl, chain HW hbk.out⟩
end
end Go.Proofs.YtfcamfkimnlfgaaGreatDoor
end

section
/- Package num: Text, Good of a valid number. Conditions: at most 100000 words. -/
open Go.RowKit
set_option maxRecDepth 100000
namespace Go.Proofs.YtfcamfkimnlfgaaGreatDoor
/-- An integer's letters. -/
def decZ (z : Int) : List UInt8 := if z < 0 then 45 :: decL z.natAbs else decL z.natAbs
def TxR (W : World) (l : List UInt8) (e : Ending) (w' : World) : Prop := ∃ t : ByteArray, e = .returned (.string t) ∧ Hid (t.data.toList = l) ∧ Hid (Below W.heap.size W w')
section
variable {W : World} {b : Bool} {A : Option Addr} {n c : Nat} {z : Int}
theorem text_h {m : Nat} (h : Nm W A n c m) : Calls Tryz.prog 103 #[.agg #[.slice A n c]] W (TxR W (decL m)) := (Text_any h.out).mono fun _ _ h => h
theorem decL_len {W : World} {A : Option Addr} {n c m : Nat} (h : Nm W A n c m) : (decL m).length ≤ 1000001 := by
  have h1 : m < 10 ^ (10 * dl m + 1) := by
    have h2 : m < W32 ^ dl m := lt_pow_digs (b := W32) (by decide) m
    have h3 : W32 ^ dl m ≤ (10 ^ 10) ^ dl m := Nat.pow_le_pow_left (by decide) _
    rw [← Nat.pow_mul] at h3
    exact Nat.lt_of_lt_of_le h2 (Nat.le_trans h3 (Nat.pow_le_pow_right (by decide) (by omega)))
  have := dt_le h1 (by omega)
  have := h.dl
  omega
set_option maxHeartbeats 1000000 in
theorem ztext_h (h : ZA W b A n c z) : Calls Tryz.prog 102 #[.agg #[.bool b, .slice A n c]] W (TxR W (decZ z)) := by
  have CT : Hid (∀ W', Below W.heap.size W W' → Calls Tryz.prog 103 #[.agg #[.slice A n c]] W' (TxR W' (decL z.natAbs))) := fun W' hb => text_h (h.up hb).1
  have HLEN := hide (decL_len h.1)
  by_cases hn : z < 0
  · have CS : Hid (∀ o, Calls Tryz.prog 88 #[.agg #[.bool b, .slice A n c]] (W.alloc o) (IntPost (W.alloc o) (-1))) := fun o => sign_h (h.al o) (Int.sign_eq_neg_one_of_neg hn)
    have HZ : Hid (decZ z = 45 :: decL z.natAbs) := if_pos hn
    clear h hn
    go_enter Tryz.func102, Tryz.ntmps102
    go_wp2_with (first | (go_at_call 88; (with_reducible refine (CS.out _).mono ?_); rintro e w1 ⟨rfl, hbk⟩; obtain ⟨e0, e1, hsz, hbx⟩ := bz1 hbk) | (go_at_call 103; (with_reducible refine (CT.out _ hbx.out).mono ?_); rintro e w2 ⟨t, rfl, ht, hbk2⟩; have hts : t.size ≤ 1000001 := (by rw [size_list, ht.out]; exact HLEN.out)) | fail)
    all_goals first
      | (go_ret
         refine ⟨_, rfl, ?_, chain hbx hbk2.out⟩
         unfold Hid
         rw [HZ.out, ← ht.out]
         simp)
      | (exfalso; omega)
  · by_cases h0 : z = 0
    all_goals
      have CS : Hid (∀ o, ∃ s, 0 ≤ s ∧ Calls Tryz.prog 88 #[.agg #[.bool b, .slice A n c]] (W.alloc o) (IntPost (W.alloc o) s)) := fun o => ⟨_, by first | (subst h0; decide) | (rw [Int.sign_eq_one_of_pos (by omega)]; decide), sign_h (h.al o) rfl⟩
      have HZ : Hid (decZ z = decL z.natAbs) := if_neg hn
      obtain ⟨s, hs0, hs⟩ := CS.out (.cells #[.bool b, .slice A n c] 26)
      have CS2 := hide hs
      clear h hn h0 CS hs
      go_enter Tryz.func102, Tryz.ntmps102
      go_wp2_with (first | (go_at_call 88; (with_reducible refine CS2.out.mono ?_); rintro e w1 ⟨rfl, hbk⟩; obtain ⟨e0, e1, hsz, hbx⟩ := bz1 hbk) | (go_at_call 103; (with_reducible refine (CT.out _ hbx.out).mono ?_); rintro e w2 ⟨t, rfl, ht, hbk2⟩) | fail)
      go_ret
      exact ⟨t, rfl, by unfold Hid; rw [HZ.out]; exact ht.out, chain hbx hbk2.out⟩
end
end Go.Proofs.YtfcamfkimnlfgaaGreatDoor
end

section
/- The document's own integers. No conditions. -/
open Go.RowKit
set_option maxRecDepth 100000
namespace Go.Proofs.YtfcamfkimnlfgaaGreatDoor
/-- What a call of the document's own leaves that returns an integer. -/
def RZ (W : World) (z : Int) (e : Ending) (w' : World) : Prop := ∃ A c, e = .returned (.agg #[.bool (decide (z < 0)), .slice A (dq z.natAbs) c]) ∧ Hid (RN w' w'.heap.size A c z.natAbs) ∧ Hid (Below W.heap.size W w')
theorem RN.setn {W : World} {B : Nat} {A : Option Addr} {c m : Nat} (h : RN W B A c m) {p : Addr} {v : Value} (hc : W.cell? p = some v) (hv : ∀ x : Nat, v ≠ I64 x) (u : Value) : RN (W.setCell p u) B A c m := by
  refine ⟨h.1, fun hn => ?_⟩
  obtain ⟨ad, e, hb, hx⟩ := h.2 hn
  refine ⟨ad, e, hb, fun j x hj => ?_⟩
  have h6 := hx j x hj
  rw [World.cell?_setCell_other W p _ u (by intro e; rw [← e, hc] at h6; injection h6 with h6; exact hv x h6)]
  exact h6
theorem rn_z2 {W : World} {A : Option Addr} {c m g : Nat} {v0 : Bool} {a : Option Addr} {l k : Nat} {x y : Value} (h : Hid (RN W W.heap.size A c m)) (e0 : W.cell? ⟨g, 0, none⟩ = some (.bool v0)) (e1 : W.cell? ⟨g, 1, none⟩ = some (.slice a l k)) :
    Hid (RN ((W.setCell ⟨g, 0, none⟩ x).setCell ⟨g, 1, none⟩ y) ((W.setCell ⟨g, 0, none⟩ x).setCell ⟨g, 1, none⟩ y).heap.size A c m) := by
  have h1 := (h.out.setn e0 (by intro x hx; cases hx) x).setn (p := ⟨g, 1, none⟩) ((World.cell?_setCell_other _ _ _ _ (by intro e; cases e)).trans e1) (by intro x hx; cases hx) y
  have : ((W.setCell ⟨g, 0, none⟩ x).setCell ⟨g, 1, none⟩ y).heap.size = W.heap.size := by simp [World.setCell]
  unfold Hid
  rw [this]; exact h1
section
variable {W : World} {z : Int}
set_option maxHeartbeats 2000000 in
theorem zint_h (h1 : -9223372036854775808 ≤ z) (h2 : z ≤ 9223372036854775807) : Calls Tryz.prog 70 #[.int .i64 z] W (RZ W z) := by
  by_cases hn : z < 0
  · have e : -(z + 1) = ((z.natAbs - 1 : Nat) : Int) := by omega
    have CS1 : Hid (∀ W', Calls Tryz.prog 71 #[.int .u64 (-(z + 1))] W' (RefPost W' (z.natAbs - 1))) := fun W' => by rw [e]; exact Small_any (by omega)
    have CS2 : Hid (∀ W', Calls Tryz.prog 71 #[.int .u64 1] W' (RefPost W' 1)) := fun W' => Small_any (n := 1) (by omega)
    have CA : Hid (∀ W' B d B' d', Hid (RN W' W'.heap.size B d (z.natAbs - 1)) → Hid (RN W' W'.heap.size B' d' 1) → Calls Tryz.prog 86 #[.slice B (dq (z.natAbs - 1)) d, .slice B' (dq 1) d'] W' (RefPost W' z.natAbs)) := fun W' B d B' d' h h' => by
      have h3 := rAdd_any h.out h'.out (Nat.le_trans (dq_u64 (by omega)) (by omega)) (Nat.le_trans (dq_u64 (by omega)) (by omega))
      rwa [show z.natAbs - 1 + 1 = z.natAbs by omega] at h3
    have HZ : Hid (decide (z < 0) = true) := decide_eq_true hn
    clear e
    go_enter Tryz.func70, Tryz.ntmps70
    go_wp2_with (first | (go_at_call 71; (with_reducible refine (CS1.out _).mono ?_); rintro e w1 ⟨B, d, rfl, hn1, hbk⟩; have HR := hide ((zc_new _ _ _ _ _ _).up hbk); have HW : Hid (Below W.heap.size W w1) := (bz1 hbk).2.2.2) | (go_at_call 71; (with_reducible refine (CS2.out _).mono ?_); rintro e w2 ⟨B2, d2, rfl, hn2, hbk2⟩; replace HR := hide (HR.out.up hbk2); replace HW := chain HW hbk2.out; replace hn1 := hide ((hn1.out.below hbk2.out).more hbk2.out.size)) | (go_at_call 86; (with_reducible refine (CA.out _ _ _ _ _ hn1 hn2).mono ?_); rintro e w3 ⟨B3, d3, rfl, hn3, hbk3⟩; replace HR := hide (HR.out.up hbk3); replace HW := chain HW hbk3.out; have r0 := HR.out.c0; have r1 := HR.out.c1; have f0 := HR.out.f0; have f1 := HR.out.f1) | fail)
    refine bodyPost_ret (v := .agg #[.bool true, .slice B3 (dq z.natAbs) d3]) (by simp [results, Tryz.results70, go_sem, r0, r1]) rfl ?_
    exact ⟨B3, d3, by rw [HZ.out], rn_z2 hn3 r0 r1, (HW.out.setCell (by simp) _).setCell (by simp) _⟩
  · have e : IntKind.u64.wrap z = ((z.natAbs : Nat) : Int) := by rw [IntKind.wrap_u64]; omega
    have CS1 : Hid (∀ W', Calls Tryz.prog 71 #[.int .u64 (IntKind.u64.wrap z)] W' (RefPost W' z.natAbs)) := fun W' => by rw [e]; exact Small_any (by omega)
    have CS2 : Hid (∀ W', Calls Tryz.prog 71 #[.int .u64 z] W' (RefPost W' z.natAbs)) := fun W' => by rw [show z = ((z.natAbs : Nat) : Int) by omega]; exact Small_any (by omega)
    have HZ : Hid (decide (z < 0) = false) := decide_eq_false hn
    have hn' : 0 ≤ z := by omega
    clear e
    go_enter Tryz.func70, Tryz.ntmps70
    go_wp2_with (first | (go_at_call 71; (with_reducible refine (CS1.out _).mono ?_); rintro e w3 ⟨B3, d3, rfl, hn3, hbk⟩; have HR := hide ((zc_new _ _ _ _ _ _).up hbk); have HW : Hid (Below W.heap.size W w3) := (bz1 hbk).2.2.2; have r0 := HR.out.c0; have r1 := HR.out.c1; have f0 := HR.out.f0; have f1 := HR.out.f1) | (go_at_call 71; (with_reducible refine (CS2.out _).mono ?_); rintro e w3 ⟨B3, d3, rfl, hn3, hbk⟩; have HR := hide ((zc_new _ _ _ _ _ _).up hbk); have HW : Hid (Below W.heap.size W w3) := (bz1 hbk).2.2.2; have r0 := HR.out.c0; have r1 := HR.out.c1; have f0 := HR.out.f0; have f1 := HR.out.f1) | fail)
    refine bodyPost_ret (v := .agg #[.bool false, .slice B3 (dq z.natAbs) d3]) (by simp [results, Tryz.results70, go_sem, r0, r1]) rfl ?_
    exact ⟨B3, d3, by rw [HZ.out], rn_z2 hn3 r0 r1, (HW.out.setCell (by simp) _).setCell (by simp) _⟩
end
end Go.Proofs.YtfcamfkimnlfgaaGreatDoor
end

section
/- Fractions: the reckoning. No conditions. -/
open Go.RowKit
set_option maxRecDepth 100000
namespace Go.Proofs.YtfcamfkimnlfgaaGreatDoor
/-- How two fractions stand to each other. -/
def cmpR (a b : Rat) : Int := if a < b then -1 else if b < a then 1 else 0
theorem mk_cross {z : Int} {d : Nat} (hd : 0 < d) : (mkRat z d).num * (d : Int) = z * ((mkRat z d).den : Int) := by
  have h := (Rat.mkRat_eq_iff (n₁ := (mkRat z d).num) (d₁ := (mkRat z d).den) (n₂ := z) (d₂ := d) (mkRat z d).den_nz (by omega)).1 (Rat.mkRat_self _)
  exact h
theorem mul_lt_iff {a b c : Int} (hc : 0 < c) : a * c < b * c ↔ a < b := ⟨fun h => Int.lt_of_mul_lt_mul_right h (by omega), fun h => Int.mul_lt_mul_of_pos_right h hc⟩
theorem mk_lt {z z' : Int} {d d' : Nat} (hd : 0 < d) (hd' : 0 < d') : mkRat z d < mkRat z' d' ↔ z * (d' : Int) < z' * (d : Int) := by
  have e := mk_cross (z := z) hd
  have e' := mk_cross (z := z') hd'
  rw [Rat.lt_iff]
  obtain ⟨a, ha⟩ : ∃ a, a = (mkRat z d).num := ⟨_, rfl⟩
  obtain ⟨b, hb⟩ : ∃ b, b = (mkRat z' d').num := ⟨_, rfl⟩
  obtain ⟨x, hx⟩ : ∃ x : Int, x = ((mkRat z d).den : Int) := ⟨_, rfl⟩
  obtain ⟨y, hy⟩ : ∃ y : Int, y = ((mkRat z' d').den : Int) := ⟨_, rfl⟩
  have hx0 : 0 < x := by rw [hx]; exact Int.natCast_pos.2 (mkRat z d).den_pos
  have hy0 : 0 < y := by rw [hy]; exact Int.natCast_pos.2 (mkRat z' d').den_pos
  rw [← ha, ← hb, ← hx, ← hy]
  rw [← ha, ← hx] at e
  rw [← hb, ← hy] at e'
  have hD : (0 : Int) < (d : Int) * (d' : Int) := Int.mul_pos (by omega) (by omega)
  have hX : (0 : Int) < x * y := Int.mul_pos hx0 hy0
  rw [← mul_lt_iff hD, ← mul_lt_iff (a := z * (d' : Int)) hX]
  have e1 : a * y * ((d : Int) * (d' : Int)) = (a * (d : Int)) * (d' : Int) * y := by ac_rfl
  have e2 : b * x * ((d : Int) * (d' : Int)) = (b * (d' : Int)) * (d : Int) * x := by ac_rfl
  have e3 : z * (d' : Int) * (x * y) = (z * x) * (d' : Int) * y := by ac_rfl
  have e4 : z' * (d : Int) * (x * y) = (z' * y) * (d : Int) * x := by ac_rfl
  rw [e1, e2, e3, e4, e, e']
theorem cmp_mk {z z' : Int} {d d' : Nat} (hd : 0 < d) (hd' : 0 < d') : cmpR (mkRat z d) (mkRat z' d') = (if z * (d' : Int) < z' * (d : Int) then -1 else if z' * (d : Int) < z * (d' : Int) then 1 else 0) := by
  unfold cmpR
  by_cases h1 : z * (d' : Int) < z' * (d : Int)
  · rw [if_pos h1, if_pos ((mk_lt hd hd').2 h1)]
  · rw [if_neg h1, if_neg (fun h => h1 ((mk_lt hd hd').1 h))]
    by_cases h2 : z' * (d : Int) < z * (d' : Int)
    · rw [if_pos h2, if_pos ((mk_lt hd' hd).2 h2)]
    · rw [if_neg h2, if_neg (fun h => h2 ((mk_lt hd' hd).1 h))]
theorem sign_mk {z : Int} {d : Nat} (hd : 0 < d) : (mkRat z d).num.sign = z.sign := by
  have e := mk_cross (z := z) hd
  have h := congrArg Int.sign e
  rw [Int.sign_mul, Int.sign_mul, Int.sign_eq_one_of_pos (a := (d : Int)) (by omega), Int.sign_eq_one_of_pos (a := ((mkRat z d).den : Int)) (Int.natCast_pos.2 (mkRat z d).den_pos), Int.mul_one, Int.mul_one] at h
  exact h
/-- In lowest terms: over and under the line. -/
theorem low_terms {z : Int} {d g : Nat} (hd : 0 < d) (hg : g = Nat.gcd z.natAbs d) : 0 < g ∧ (mkRat z d).num.natAbs = z.natAbs / g ∧ (mkRat z d).den = d / g ∧ z.natAbs % g = 0 ∧ d % g = 0 ∧ decide ((mkRat z d).num < 0) = decide (z < 0) := by
  have hg0 : 0 < g := by rw [hg]; exact Nat.gcd_pos_of_pos_right _ hd
  have h1 : g ∣ z.natAbs := by rw [hg]; exact Nat.gcd_dvd_left _ _
  have h2 : g ∣ d := by rw [hg]; exact Nat.gcd_dvd_right _ _
  have hc : Nat.gcd d z.natAbs = g := by rw [hg, Nat.gcd_comm]
  have hz : ((g : Nat) : Int) ∣ z := Int.ofNat_dvd_left.2 h1
  refine ⟨hg0, ?_, ?_, Nat.mod_eq_zero_of_dvd h1, Nat.mod_eq_zero_of_dvd h2, ?_⟩
  · rw [Rat.num_mkRat, if_neg (by omega), hc, Int.natAbs_ediv_of_dvd hz, Int.natAbs_natCast]
  · rw [Rat.den_mkRat, if_neg (by omega), hc]
  · have h := sign_mk (z := z) hd
    by_cases hn : z < 0
    · rw [decide_eq_true hn]
      rw [Int.sign_eq_neg_one_of_neg hn] at h
      exact decide_eq_true (Int.sign_eq_neg_one_iff_neg.1 h)
    · rw [decide_eq_false hn]
      refine decide_eq_false fun h2 => ?_
      rw [Int.sign_eq_neg_one_iff_neg.2 h2] at h
      exact hn (Int.sign_eq_neg_one_iff_neg.1 h.symm)
theorem add_mk {z z' : Int} {d d' : Nat} (hd : 0 < d) (hd' : 0 < d') : mkRat z d + mkRat z' d' = mkRat (z * d' + z' * d) (d * d') := Rat.mkRat_add_mkRat z z' (by omega) (by omega)
theorem mul_mk {z z' : Int} {d d' : Nat} : mkRat z d * mkRat z' d' = mkRat (z * z') (d * d') := Rat.mkRat_mul_mkRat z z' d d'
theorem neg_mk {z : Int} {d : Nat} : -mkRat z d = mkRat (-z) d := Rat.neg_mkRat z d
/-- What is turned about. -/
theorem inv_mk {z : Int} {d : Nat} (hz : z ≠ 0) (hd : 0 < d) : (mkRat z d)⁻¹ = mkRat (if z < 0 then -(d : Int) else (d : Int)) z.natAbs := by
  rw [← Rat.divInt_ofNat, Rat.inv_divInt]
  by_cases hn : z < 0
  · rw [if_pos hn, ← Rat.divInt_ofNat, ← Rat.neg_divInt_neg]
    congr 1; omega
  · rw [if_neg hn, ← Rat.divInt_ofNat]
    congr 1; omega
theorem floor_mk {z : Int} {d : Nat} (hd : 0 < d) : (mkRat z d).floor = z / (d : Int) := by
  have e := mk_cross (z := z) hd
  have hx0 : 0 < ((mkRat z d).den : Int) := Int.natCast_pos.2 (mkRat z d).den_pos
  rw [Rat.floor_def, ← Int.mul_ediv_mul_of_pos_left z (d : Int) hx0, ← e, Int.mul_comm (d : Int), Int.mul_ediv_mul_of_pos_left _ _ (by omega)]
end Go.Proofs.YtfcamfkimnlfgaaGreatDoor
end

section
/- Facts that go on through calls: a box known whole, a world above another; package rat: isZero, isOne, times. Conditions: at most 100000 words. -/
open Go.RowKit
set_option maxRecDepth 100000
namespace Go.Proofs.YtfcamfkimnlfgaaGreatDoor
/-- Block p holds the values, and may be written. -/
structure At (W : World) (p : Nat) (vs : List Value) : Prop where
  lt : p < W.heap.size
  all : ∀ i v, vs[i]? = some v → W.cell? ⟨p, i, none⟩ = some v ∧ W.frozen? ⟨p, i, none⟩ = false
def Bel (w W : World) : Prop := Below w.heap.size w W
theorem Bel.refl (w : World) : Bel w w := Below.refl _ _
theorem Bel.up {w W W' : World} (h : Bel w W) (hb : Hid (Below W.heap.size W W')) : Bel w W' := Below.trans h (hb.out.mono (Below.size h))
theorem Bel.al {w W : World} (h : Bel w W) (o : Obj) : Bel w (W.alloc o) := Below.alloc h (Below.size h) o
theorem Bel.dr {w W : World} (h : Bel w W) : Bel w W.drew := Below.drew h
theorem Bel.hid {w W : World} (h : Bel w W) : Hid (Below w.heap.size w W) := h
theorem Bel.of {w W : World} (h : Hid (Below w.heap.size w W)) : Bel w W := h
section
variable {W W' : World} {p : Nat} {u v x : Value} {vs : List Value}
theorem At.up (h : At W p vs) (hb : Hid (Below W.heap.size W W')) : At W' p vs :=
  ⟨Nat.lt_of_lt_of_le h.lt hb.out.size, fun i v hv => ⟨(hb.out.cell h.lt).trans (h.all i v hv).1, (hb.out.frozen h.lt).trans (h.all i v hv).2⟩⟩
theorem At.al (h : At W p vs) (o : Obj) : At (W.alloc o) p vs := h.up ((Below.refl _ _).alloc (Nat.le_refl _) o)
theorem At.dr (h : At W p vs) : At W.drew p vs := ⟨h.lt, h.all⟩
theorem At.c0 (h : At W p (v :: vs)) : W.cell? ⟨p, 0, none⟩ = some v := (h.all 0 v rfl).1
theorem At.c1 (h : At W p (u :: v :: vs)) : W.cell? ⟨p, 1, none⟩ = some v := (h.all 1 v rfl).1
theorem At.c2 (h : At W p (x :: u :: v :: vs)) : W.cell? ⟨p, 2, none⟩ = some v := (h.all 2 v rfl).1
theorem At.f0 (h : At W p (v :: vs)) : W.frozen? ⟨p, 0, none⟩ = false := (h.all 0 v rfl).2
theorem At.f1 (h : At W p (u :: v :: vs)) : W.frozen? ⟨p, 1, none⟩ = false := (h.all 1 v rfl).2
theorem At.f2 (h : At W p (x :: u :: v :: vs)) : W.frozen? ⟨p, 2, none⟩ = false := (h.all 2 v rfl).2
theorem at_new0 (W : World) (vs : List Value) (t : TypeId) : At (W.alloc (.cells vs.toArray t)) W.heap.size vs := by
  have h : (W.alloc (.cells vs.toArray t)).heap[W.heap.size]? = some (.cells vs.toArray t (0, 0)) := heap_alloc_new W _
  refine ⟨by simp, fun i v hv => ⟨?_, by unfold World.frozen?; rw [h]; simp⟩⟩
  rw [cell_of_row _ _ i _ t (0, 0) h]
  simpa using hv
theorem at_size {W X : World} {p : Nat} {vs : List Value} (h : At X W.heap.size vs) (e : W.heap.size = p) : At X p vs := e ▸ h
theorem at_new1 (W : World) (o : Obj) (vs : List Value) (t : TypeId) : At ((W.alloc o).alloc (.cells vs.toArray t)) (W.heap.size + 1) vs := at_size (at_new0 (W.alloc o) vs t) (by simp)
theorem at_new2 (W : World) (o o1 : Obj) (vs : List Value) (t : TypeId) : At (((W.alloc o).alloc o1).alloc (.cells vs.toArray t)) (W.heap.size + 1 + 1) vs := at_size (at_new0 ((W.alloc o).alloc o1) vs t) (by simp)
theorem at_new3 (W : World) (o o1 o2 : Obj) (vs : List Value) (t : TypeId) : At ((((W.alloc o).alloc o1).alloc o2).alloc (.cells vs.toArray t)) (W.heap.size + 1 + 1 + 1) vs := at_size (at_new0 (((W.alloc o).alloc o1).alloc o2) vs t) (by simp)
theorem at_new4 (W : World) (o o1 o2 o3 : Obj) (vs : List Value) (t : TypeId) : At (((((W.alloc o).alloc o1).alloc o2).alloc o3).alloc (.cells vs.toArray t)) (W.heap.size + 1 + 1 + 1 + 1) vs := at_size (at_new0 ((((W.alloc o).alloc o1).alloc o2).alloc o3) vs t) (by simp)
/-- A write into another block. -/
theorem At.far {q i : Nat} (h : At W p vs) (hq : q ≠ p) (u : Value) : At (W.setCell ⟨q, i, none⟩ u) p vs :=
  ⟨by have := h.lt; simpa [World.setCell] using this, fun j v hv => ⟨(World.cell?_setCell_far _ _ _ _ hq).trans (h.all j v hv).1, by rw [World.frozen?_setCell]; exact (h.all j v hv).2⟩⟩
/-- A write into this one. -/
theorem At.put {i : Nat} (h : At W p vs) (hi : i < vs.length) (u : Value) : At (W.setCell ⟨p, i, none⟩ u) p (vs.set i u) := by
  refine ⟨by have := h.lt; simpa [World.setCell] using this, fun j v hv => ?_⟩
  by_cases e : i = j
  · subst e
    rw [List.getElem?_set_self hi] at hv
    injection hv with hv
    obtain ⟨h1, h2⟩ := h.all i _ (List.getElem?_eq_getElem hi)
    exact ⟨by rw [← hv]; exact World.cell?_setCell_same _ _ _ h1, by rw [World.frozen?_setCell]; exact h2⟩
  · rw [List.getElem?_set_ne e] at hv
    exact ⟨(World.cell?_setCell_other _ _ _ _ (by intro h3; injection h3 with _ h4; exact e h4)).trans (h.all j v hv).1, by rw [World.frozen?_setCell]; exact (h.all j v hv).2⟩
/-- No word stands in a box of flags and slices. -/
def NoW (vs : List Value) : Prop := ∀ v ∈ vs, ∀ x : Nat, v ≠ U32 x
theorem Nm.put {A : Option Addr} {n c m i : Nat} (h : Nm W A n c m) (hp : At W p vs) (hi : i < vs.length) (hw : NoW vs) (u : Value) : Nm (W.setCell ⟨p, i, none⟩ u) A n c m :=
  h.setn (hp.all i _ (List.getElem?_eq_getElem hi)).1 (hw _ (List.getElem_mem hi)) u
end
def RetB (W : World) (b : Bool) (e : Ending) (w' : World) : Prop := e = .returned (.bool b) ∧ Bel W w'
end Go.Proofs.YtfcamfkimnlfgaaGreatDoor
end
