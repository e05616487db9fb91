/- Several texts in one, each with its own sentence and conditions. -/
import Derived.Test.YteahcbeohopdlaaDoorGNsyc22
import Derived.Test.YteahcbeohopdlaaDoorGNsyc15
import Derived.Test.YteahcbeohopdlaaDoorGNsyc23
import Derived.Test.YteahcbeohopdlaaDoorGNsyc19
section
/- The document's own integers: ZParse. Conditions: texts of at most 99999 letters. -/
open Go.RowKit
set_option maxRecDepth 100000
namespace Go.Proofs.YteahcbeohopdlaaDoor
def RzY (W : World) (v : Int) (e : Ending) (w' : World) : Prop := ∃ A c, e = .returned (.tuple #[.agg #[.bool (decide (v < 0)), .slice A (dq v.natAbs) c], .bool true]) ∧ Rz w' (decide (v < 0)) A c v ∧ Hid (Below W.heap.size W w')
def RzN (W : World) (e : Ending) (w' : World) : Prop := e = .returned (.tuple #[.agg #[.bool false, .slice none 0 0], .bool false]) ∧ Hid (Below W.heap.size W w')
def RpY (w : World) (v : Nat) (e : Ending) (w' : World) : Prop := ∃ A c, e = .returned (.tuple #[.slice A (dq v) c, .bool true]) ∧ Rn w' A c v ∧ Hid (Below w.heap.size w w')
def RpN (w : World) (e : Ending) (w' : World) : Prop := ∃ A n c, e = .returned (.tuple #[.slice A n c, .bool false]) ∧ Hid (Below w.heap.size w w')
theorem rp_yes (s : ByteArray) (w : World) (hs : s.size ≤ 100000) (h : digB s.data.toList = true) : Calls Tryd.prog 75 #[.string s] w (RpY w (numL s.data.toList)) :=
  (rParse_any s w hs).mono fun e w' h1 => by
    unfold digB at h
    rw [Bool.and_eq_true] at h
    unfold RefParse at h1
    rw [if_pos h.2, h.1] at h1
    obtain ⟨A, c, e1, e2, e3⟩ := h1
    exact ⟨A, c, e1, e2, e3⟩
theorem rp_no (s : ByteArray) (w : World) (hs : s.size ≤ 100000) (h : ¬ digB s.data.toList = true) : Calls Tryd.prog 75 #[.string s] w (RpN w) :=
  (rParse_any s w hs).mono fun e w' h1 => by
    unfold digB at h
    unfold RefParse at h1
    by_cases ha : s.data.toList.all isDig = true
    · rw [if_pos ha] at h1
      have hb : (!s.data.toList.isEmpty) = false := by
        rw [Bool.and_eq_true] at h
        cases hx : (!s.data.toList.isEmpty) with
        | false => rfl
        | true => exact absurd ⟨hx, ha⟩ h
      rw [hb] at h1
      obtain ⟨A, c, e1, e2, e3⟩ := h1
      exact ⟨A, _, c, e1, e3⟩
    · rw [if_neg ha] at h1
      obtain ⟨e1, e2⟩ := h1
      subst e2
      exact ⟨none, 0, 0, e1, Below.refl _ _⟩
section
variable {W : World} {s : ByteArray} {l : List UInt8}
theorem first_is {s : ByteArray} {c : UInt8} {l : List UInt8} (h : s.data.toList = c :: l) (h0 : 0 < s.size) : s[0] = c ∧ (s.extract 1 s.size).data.toList = l := by
  refine ⟨?_, ?_⟩
  · have h1 : s.data.toList[0]? = some s[0] := by
      rw [List.getElem?_eq_getElem (show 0 < s.data.toList.length from h0)]; rfl
    rw [h] at h1
    exact (Option.some.inj h1).symm
  · rw [extract_list, List.take_of_length_le (show s.data.toList.length ≤ s.size from Nat.le_refl _), h]; rfl
set_option maxHeartbeats 2000000 in
/-- A text of a minus and digits. -/
theorem rzparse_minus (v : Int) (hs : s.size ≤ 99999) (h : s.data.toList = 45 :: l) (hd : digB l = true) (hv : -(numL l : Int) = v) : Calls Tryd.prog 18 #[.string s] W (RzY W v) := by
  have h0 : 0 < s.size := by rw [size_list, h]; simp
  obtain ⟨f1, f2⟩ := first_is h h0
  have fl : l.length ≤ 99999 := by have := congrArg List.length h; rw [← size_list, List.length_cons] at this; omega
  have CP : Hid (∀ (W' : World) (t : ByteArray), t = s.extract 1 s.size → Calls Tryd.prog 75 #[.string t] W' (RpY W' v.natAbs)) := fun W' t ht => by
    have h1 := rp_yes t W' (by rw [ht, size_list, f2]; omega) (by rw [ht, f2]; exact hd)
    rw [ht, f2] at h1
    rw [ht, show v.natAbs = numL l by omega]
    exact h1
  have CZ : Hid (∀ W' B e, Rn W' B e v.natAbs → Calls Tryd.prog 61 #[.bool true, .slice B (dq v.natAbs) e] W' (RZb W' (decide (v < 0)) B (dq v.natAbs) e v.natAbs)) := fun W' B e hn => rzof_h hn (by rw [Bool.true_and]; exact decide_eq_decide.2 (by omega))
  have q1 : ((s[0].toNat : Int) == 45) = true := by rw [f1]; rfl
  have q2 : (0 : Int) < (s.size : Int) := by omega
  have q3 : (1 : Int) ≤ (s.size : Int) := by omega
  clear hs h hd hv f1 f2 fl
  have HB := Bel.refl W
  go_enter Tryd.func18, Tryd.ntmps18
  go_wp2_with (first | (go_at_call 75; (refine (CP.out _ _ (by first | rfl | simp)).mono ?_); rintro e w1 ⟨B, d, rfl, rn, hbk⟩; have HR := At.up (at_new0 _ _ _) hbk; replace HB := (HB.al _).up hbk; have hr_0 := HR.c0; have hr_1 := HR.c1; have hr_l := HR.lt; have hr_f0 := HR.f0; have hr_f1 := HR.f1) | (go_at_call 61; (with_reducible refine (CZ.out _ _ _ rn).mono ?_); rintro e w2 ⟨rfl, rn2, hbk2⟩; replace HB := HB.up hbk2; replace HR := HR.up hbk2; clear hr_0 hr_1 hr_l hr_f0 hr_f1; have hr_0 := HR.c0; have hr_1 := HR.c1; have hr_l := HR.lt; have hr_f0 := HR.f0; have hr_f1 := HR.f1) | fail)
  refine bodyPost_ret (v := .tuple #[.agg #[.bool (decide (v < 0)), .slice B (dq v.natAbs) d], .bool true]) (by simp [results, Tryd.results18, go_sem, hr_0, hr_1]) rfl ?_
  obtain ⟨_, g1, g2⟩ := rn_two HR rn2 HB (Nat.le_refl _) (decide (v < 0)) (dq v.natAbs)
  exact ⟨B, d, rfl, ⟨g1, rfl⟩, g2⟩
set_option maxHeartbeats 2000000 in
/-- A minus and no number. -/
theorem rzparse_minus_no (hs : s.size ≤ 99999) (h : s.data.toList = 45 :: l) (hd : ¬ digB l = true) : Calls Tryd.prog 18 #[.string s] W (RzN W) := by
  have h0 : 0 < s.size := by rw [size_list, h]; simp
  obtain ⟨f1, f2⟩ := first_is h h0
  have fl : l.length ≤ 99999 := by have := congrArg List.length h; rw [← size_list, List.length_cons] at this; omega
  have CP : Hid (∀ (W' : World) (t : ByteArray), t = s.extract 1 s.size → Calls Tryd.prog 75 #[.string t] W' (RpN W')) := fun W' t ht => by
    have h1 := rp_no t W' (by rw [ht, size_list, f2]; omega) (by rw [ht, f2]; exact hd)
    exact h1
  have q1 : ((s[0].toNat : Int) == 45) = true := by rw [f1]; rfl
  have q2 : (0 : Int) < (s.size : Int) := by omega
  have q3 : (1 : Int) ≤ (s.size : Int) := by omega
  clear hs h hd f1 f2 fl
  have HB := Bel.refl W
  go_enter Tryd.func18, Tryd.ntmps18
  go_wp2_with (first | (go_at_call 75; (refine (CP.out _ _ (by first | rfl | simp)).mono ?_); rintro e w1 ⟨B, k0, d, rfl, hbk⟩; have HR := At.up (at_new0 _ _ _) hbk; replace HB := (HB.al _).up hbk; have hr_0 := HR.c0; have hr_1 := HR.c1; have hr_l := HR.lt; have hr_f0 := HR.f0; have hr_f1 := HR.f1) | fail)
  refine bodyPost_ret (v := .tuple #[.agg #[.bool false, .slice none 0 0], .bool false]) (by simp [results, Tryd.results18, go_sem, hr_0, hr_1]) rfl ?_
  first | exact ⟨rfl, HB.hid⟩ | exact ⟨rfl, ((Below.setCell HB (Nat.le_refl _) _).setCell (Nat.le_refl _) _)⟩
set_option maxHeartbeats 2000000 in
/-- A text of digits. -/
theorem rzparse_plain (v : Int) (hs : s.size ≤ 99999) (hm : s.data.toList.head? ≠ some 45) (hd : digB s.data.toList = true) (hv : (numL s.data.toList : Int) = v) : Calls Tryd.prog 18 #[.string s] W (RzY W v) := by
  have CP : Hid (∀ (W' : World) (t : ByteArray), t = s → Calls Tryd.prog 75 #[.string t] W' (RpY W' v.natAbs)) := fun W' t ht => by
    subst ht
    have h1 := rp_yes t W' (by omega) hd
    rw [show v.natAbs = numL t.data.toList by omega]
    exact h1
  have CZ : Hid (∀ W' B e, Rn W' B e v.natAbs → Calls Tryd.prog 61 #[.bool false, .slice B (dq v.natAbs) e] W' (RZb W' (decide (v < 0)) B (dq v.natAbs) e v.natAbs)) := fun W' B e hn => rzof_h hn (by rw [Bool.false_and]; exact decide_eq_false (by omega))
  by_cases h0 : 0 < s.size
  · have f1 : s[0] ≠ 45 := fun e => hm (by rw [List.head?_eq_getElem?, List.getElem?_eq_getElem (show 0 < s.data.toList.length from h0)]; exact congrArg some e)
    have q1 : ((s[0].toNat : Int) == 45) = false := by
      rw [beq_eq_false_iff_ne]
      intro e
      exact f1 (UInt8.toNat_inj.1 (by simpa using (show s[0].toNat = 45 by omega)))
    have q2 : (0 : Int) < (s.size : Int) := by omega
    clear f1
    clear hs hm hd hv
    have HB := Bel.refl W
    go_enter Tryd.func18, Tryd.ntmps18
    go_wp2_with (first | (go_at_call 75; (refine (CP.out _ _ (by first | rfl | simp)).mono ?_); rintro e w1 ⟨B, d, rfl, rn, hbk⟩; have HR := At.up (at_new0 _ _ _) hbk; replace HB := (HB.al _).up hbk; have hr_0 := HR.c0; have hr_1 := HR.c1; have hr_l := HR.lt; have hr_f0 := HR.f0; have hr_f1 := HR.f1) | (go_at_call 61; (with_reducible refine (CZ.out _ _ _ rn).mono ?_); rintro e w2 ⟨rfl, rn2, hbk2⟩; replace HB := HB.up hbk2; replace HR := HR.up hbk2; clear hr_0 hr_1 hr_l hr_f0 hr_f1; have hr_0 := HR.c0; have hr_1 := HR.c1; have hr_l := HR.lt; have hr_f0 := HR.f0; have hr_f1 := HR.f1) | fail)
    refine bodyPost_ret (v := .tuple #[.agg #[.bool (decide (v < 0)), .slice B (dq v.natAbs) d], .bool true]) (by simp [results, Tryd.results18, go_sem, hr_0, hr_1]) rfl ?_
    obtain ⟨_, g1, g2⟩ := rn_two HR rn2 HB (Nat.le_refl _) (decide (v < 0)) (dq v.natAbs)
    exact ⟨B, d, rfl, ⟨g1, rfl⟩, g2⟩
  · exact absurd hd (by rw [List.eq_nil_of_length_eq_zero (show s.data.toList.length = 0 by rw [← size_list]; omega)]; decide)
set_option maxHeartbeats 2000000 in
/-- No minus and no number. -/
theorem rzparse_plain_no (hs : s.size ≤ 99999) (hm : s.data.toList.head? ≠ some 45) (hd : ¬ digB s.data.toList = true) : Calls Tryd.prog 18 #[.string s] W (RzN W) := by
  have CP : Hid (∀ (W' : World) (t : ByteArray), t = s → Calls Tryd.prog 75 #[.string t] W' (RpN W')) := fun W' t ht => by
    subst ht
    have h1 := rp_no t W' (by omega) hd
    exact h1
  by_cases h0 : 0 < s.size
  · have f1 : s[0] ≠ 45 := fun e => hm (by rw [List.head?_eq_getElem?, List.getElem?_eq_getElem (show 0 < s.data.toList.length from h0)]; exact congrArg some e)
    have q1 : ((s[0].toNat : Int) == 45) = false := by
      rw [beq_eq_false_iff_ne]
      intro e
      exact f1 (UInt8.toNat_inj.1 (by simpa using (show s[0].toNat = 45 by omega)))
    have q2 : (0 : Int) < (s.size : Int) := by omega
    clear f1
    clear hs hm hd
    have HB := Bel.refl W
    go_enter Tryd.func18, Tryd.ntmps18
    go_wp2_with (first | (go_at_call 75; (refine (CP.out _ _ (by first | rfl | simp)).mono ?_); rintro e w1 ⟨B, k0, d, rfl, hbk⟩; have HR := At.up (at_new0 _ _ _) hbk; replace HB := (HB.al _).up hbk; have hr_0 := HR.c0; have hr_1 := HR.c1; have hr_l := HR.lt; have hr_f0 := HR.f0; have hr_f1 := HR.f1) | fail)
    refine bodyPost_ret (v := .tuple #[.agg #[.bool false, .slice none 0 0], .bool false]) (by simp [results, Tryd.results18, go_sem, hr_0, hr_1]) rfl ?_
    first | exact ⟨rfl, HB.hid⟩ | exact ⟨rfl, ((Below.setCell HB (Nat.le_refl _) _).setCell (Nat.le_refl _) _)⟩
  · have q0 : s.size = 0 := by omega
    have q2 : ¬ (0 : Int) < (s.size : Int) := by omega
    clear q0
    clear hs hm hd
    have HB := Bel.refl W
    go_enter Tryd.func18, Tryd.ntmps18
    go_wp2_with (first | (go_at_call 75; (refine (CP.out _ _ (by first | rfl | simp)).mono ?_); rintro e w1 ⟨B, k0, d, rfl, hbk⟩; have HR := At.up (at_new0 _ _ _) hbk; replace HB := (HB.al _).up hbk; have hr_0 := HR.c0; have hr_1 := HR.c1; have hr_l := HR.lt; have hr_f0 := HR.f0; have hr_f1 := HR.f1) | fail)
    refine bodyPost_ret (v := .tuple #[.agg #[.bool false, .slice none 0 0], .bool false]) (by simp [results, Tryd.results18, go_sem, hr_0, hr_1]) rfl ?_
    first | exact ⟨rfl, HB.hid⟩ | exact ⟨rfl, ((Below.setCell HB (Nat.le_refl _) _).setCell (Nat.le_refl _) _)⟩
end
end Go.Proofs.YteahcbeohopdlaaDoor
end

section
/- The document's own integers: ZCmp, ZText. Conditions: less than 99998 fours of digits. -/
open Go.RowKit
set_option maxRecDepth 100000
namespace Go.Proofs.YteahcbeohopdlaaDoor
section
variable {W : World} {b b' s : Bool} {A A' : Option Addr} {c c' : Nat} {z z' v : Int}
theorem cmpZ_sign (x y : Int) : (x + -y).sign = cmpZ x y := by
  unfold cmpZ
  rcases Int.lt_trichotomy x y with h | h | h
  · rw [if_pos h, Int.sign_eq_neg_one_of_neg (by omega)]
  · rw [if_neg (by omega), if_neg (by omega), show x + -y = 0 by omega]; rfl
  · rw [if_neg (by omega), if_pos h, Int.sign_eq_one_of_pos (by omega)]
theorem dq_zadd {m : Nat} {z z' : Int} (h : dq z.natAbs ≤ m) (h' : dq z'.natAbs ≤ m) : dq (z + z').natAbs ≤ m + 1 := by
  have h1 : z.natAbs < D4 ^ m := Nat.lt_of_lt_of_le (lt_pow_digs (b := D4) (by decide) _) (Nat.pow_le_pow_right (by decide) h)
  have h2 : z'.natAbs < D4 ^ m := Nat.lt_of_lt_of_le (lt_pow_digs (b := D4) (by decide) _) (Nat.pow_le_pow_right (by decide) h')
  have h3 : (z + z').natAbs ≤ z.natAbs + z'.natAbs := Int.natAbs_add_le z z'
  refine dq_le ?_
  rw [Nat.pow_succ]
  generalize D4 ^ m = P at h1 h2
  rw [D4_eq]
  omega
set_option maxHeartbeats 2000000 in
theorem rzcmp_h (h : Rz W b A c z) (h' : Rz W b' A' c' z') (hl : dq z.natAbs ≤ 99998) (hl' : dq z'.natAbs ≤ 99998) (hv : cmpZ z z' = v) : Calls Tryd.prog 21 #[.agg #[.bool b, .slice A (dq z.natAbs) c], .agg #[.bool b', .slice A' (dq z'.natAbs) c']] W (IntPost W v) := by
  obtain ⟨n, hn⟩ : ∃ n, n = -z' := ⟨_, rfl⟩
  obtain ⟨d, hd⟩ : ∃ d, d = z + n := ⟨_, rfl⟩
  obtain ⟨sn, hsn⟩ : ∃ s, s = decide (n < 0) := ⟨_, rfl⟩
  obtain ⟨sd, hsd⟩ : ∃ s, s = decide (d < 0) := ⟨_, rfl⟩
  have ln : dq n.natAbs ≤ 99998 := by rw [hn, Int.natAbs_neg]; exact hl'
  have CN : Hid (∀ W', Bel W W' → Calls Tryd.prog 27 #[.agg #[.bool b', .slice A' (dq z'.natAbs) c']] W' (RZv W' sn n)) := fun W' hb => rzneg_h (h'.up hb) hsn hn
  have CA : Hid (∀ W' B e, Bel W W' → Rz W' sn B e n → Calls Tryd.prog 23 #[.agg #[.bool b, .slice A (dq z.natAbs) c], .agg #[.bool sn, .slice B (dq n.natAbs) e]] W' (RZv W' sd d)) := fun W' B e hb h1 => rzadd_h (h.up hb) h1 (by omega) (by omega) hsd hd
  have CS : Hid (∀ W' B e, Rz W' sd B e d → Calls Tryd.prog 14 #[.agg #[.bool sd, .slice B (dq d.natAbs) e]] W' (IntPost W' v)) := fun W' B e h1 => rzsign_h h1 (by rw [hd, hn, cmpZ_sign, hv])
  clear h h' hl hl' hv hn hd hsn hsd ln
  have HB := Bel.refl W
  go_enter Tryd.func21, Tryd.ntmps21
  go_wp2_with fail
  go_region_held3 (fun w' => w'.cell? ⟨W.heap.size, 0, none⟩ = some (.bool b) ∧ w'.cell? ⟨W.heap.size, 1, none⟩ = some (.slice A (dq z.natAbs) c) ∧ w'.cell? ⟨W.heap.size + 1, 0, none⟩ = some (.bool b') ∧ w'.cell? ⟨W.heap.size + 1, 1, none⟩ = some (.slice A' (dq z'.natAbs) c'))
    (first | with_reducible exact ⟨((at_new0 _ _ _).al _).dr.c0, ((at_new0 _ _ _).al _).dr.c1, (at_new1 _ _ _ _).dr.c0, (at_new1 _ _ _ _).dr.c1⟩ | with_reducible exact ⟨HP.c0, HP.c1, HQ.c0, HQ.c1⟩)
    (first | (go_at_call 27; (with_reducible refine (CN.out _ ((HB.al _).al _).dr).mono ?_); rintro e w1 ⟨nA, nc, rfl, rn, hbk⟩; (with_reducible (have HP : At w1 W.heap.size [.bool b, .slice A (dq z.natAbs) c] := At.up ((at_new0 _ _ _).al _).dr hbk; have HQ : At w1 (W.heap.size + 1) [.bool b', .slice A' (dq z'.natAbs) c'] := At.up (at_new1 _ _ _ _).dr hbk; replace HB := ((HB.al _).al _).dr.up hbk))) | (go_at_call 23; (with_reducible refine (CA.out _ _ _ HB rn).mono ?_); rintro e w2 ⟨dA, dc, rfl, rd, hbk⟩; (with_reducible (replace HB := HB.up hbk; replace HP := HP.up hbk; replace HQ := HQ.up hbk))) | (go_at_call 14; (with_reducible refine (CS.out _ _ _ rd).mono ?_); rintro e w3 ⟨rfl, hbk⟩; (with_reducible (replace HB := HB.up hbk; replace HP := HP.up hbk; replace HQ := HQ.up hbk))) | fail)
  go_wp2
  go_ret
  exact ⟨rfl, HB⟩
set_option maxHeartbeats 1000000 in
theorem rztext_true (h : Rz W true A c z) (hl : dq z.natAbs ≤ 99998) : Calls Tryd.prog 29 #[.agg #[.bool true, .slice A (dq z.natAbs) c]] W (TxR W (decZ z)) := by
  have HZ : Hid (decZ z = 45 :: decL z.natAbs) := by
    have h1 := h.2.out
    unfold Hid decZ
    first | rw [if_pos (of_decide_eq_true h1.symm)] | rw [if_neg (of_decide_eq_false h1.symm)]
  have CT : Hid (∀ W', Bel W W' → Calls Tryd.prog 81 #[.slice A (dq z.natAbs) c] W' (TxR W' (decL z.natAbs))) := fun W' hb => rText_any (h.1.up hb) (by omega)
  have HL : Hid ((decL z.natAbs).length ≤ 400001) := Nat.le_trans dec_four (by omega)
  clear h hl
  have HB := Bel.refl W
  go_enter Tryd.func29, Tryd.ntmps29
  have HP := at_new0 W [.bool true, .slice A (dq z.natAbs) c] 32
  have q0 := HP.c0
  have q1 := HP.c1
  go_wp2_with (first | (go_at_call 81; (with_reducible refine (CT.out _ (HB.al _)).mono ?_); rintro e w1 ⟨t, rfl, ht, hbk⟩; (with_reducible (replace HB := (HB.al _).up hbk)); have hts : t.size ≤ 400001 := (by rw [size_list, ht.out]; exact HL.out); have g1 : ¬ 9223372036854775807 < 1 + t.size := (by omega); have g2 : 1 + t.size ≤ 9223372036854775807 := (by omega)) | fail)
  go_ret
  refine ⟨_, rfl, ?_, HB⟩
  unfold Hid
  rw [HZ.out, ← ht.out]
  simp
set_option maxHeartbeats 1000000 in
theorem rztext_false (h : Rz W false A c z) (hl : dq z.natAbs ≤ 99998) : Calls Tryd.prog 29 #[.agg #[.bool false, .slice A (dq z.natAbs) c]] W (TxR W (decZ z)) := by
  have HZ : Hid (decZ z = decL z.natAbs) := by
    have h1 := h.2.out
    unfold Hid decZ
    first | rw [if_pos (of_decide_eq_true h1.symm)] | rw [if_neg (of_decide_eq_false h1.symm)]
  have CT : Hid (∀ W', Bel W W' → Calls Tryd.prog 81 #[.slice A (dq z.natAbs) c] W' (TxR W' (decL z.natAbs))) := fun W' hb => rText_any (h.1.up hb) (by omega)
  have HL : Hid ((decL z.natAbs).length ≤ 400001) := Nat.le_trans dec_four (by omega)
  clear h hl
  have HB := Bel.refl W
  go_enter Tryd.func29, Tryd.ntmps29
  have HP := at_new0 W [.bool false, .slice A (dq z.natAbs) c] 32
  have q0 := HP.c0
  have q1 := HP.c1
  go_wp2_with (first | (go_at_call 81; (with_reducible refine (CT.out _ (HB.al _)).mono ?_); rintro e w1 ⟨t, rfl, ht, hbk⟩; (with_reducible (replace HB := (HB.al _).up hbk)); have hts : t.size ≤ 400001 := (by rw [size_list, ht.out]; exact HL.out); have g1 : ¬ 9223372036854775807 < 1 + t.size := (by omega); have g2 : 1 + t.size ≤ 9223372036854775807 := (by omega)) | fail)
  go_ret
  refine ⟨_, rfl, ?_, HB⟩
  unfold Hid
  rw [HZ.out]; exact ht.out
theorem rztext_h (h : Rz W b A c z) (hl : dq z.natAbs ≤ 99998) : Calls Tryd.prog 29 #[.agg #[.bool b, .slice A (dq z.natAbs) c]] W (TxR W (decZ z)) := by
  cases b
  · exact rztext_false h hl
  · exact rztext_true h hl
end
end Go.Proofs.YteahcbeohopdlaaDoor
end

section
/- Statements of num: own, the document's own number of the words that came in. Conditions: at most 4000 words. -/
open Go.RowKit
set_option maxRecDepth 100000
namespace Go.Proofs.YteahcbeohopdlaaDoor
section
variable {W : World} {b : Bool} {A : Option Addr} {n c m : Nat} {z : Int}
set_option maxHeartbeats 2000000 in
theorem own2_h (hw : ∀ W', Bel W W' → Calls Tryd.prog 62 #[.slice A n c] W' (RefRz W' m)) (hz : zi b m = z) : Calls Tryd.prog 12 #[.agg #[.bool b, .slice A n c]] W (RZv W (decide (z < 0)) z) := by
  have hm : z.natAbs = m := by rw [← hz, zi_abs]
  have CU : Hid (∀ W', Bel W W' → Calls Tryd.prog 62 #[.slice A n c] W' (RefRz W' z.natAbs)) := fun W' h => by rw [hm]; exact hw W' h
  have CZ : Hid (∀ W' B e, Rn W' B e z.natAbs → Calls Tryd.prog 61 #[.bool b, .slice B (dq z.natAbs) e] W' (RZb W' (decide (z < 0)) B (dq z.natAbs) e z.natAbs)) := fun W' B e hn => rzof_h hn (sig_of (by rw [hm]; exact hz.symm))
  clear hw hz hm
  have HB := Bel.refl W
  go_enter Tryd.func12, Tryd.ntmps12
  go_wp2_with fail
  obtain ⟨W1, hW1⟩ : ∃ X, X = (W.alloc (.cells #[.bool b, .slice A n c] 26)).alloc (.cells #[.bool false, .slice none 0 0] 32) := ⟨_, rfl⟩
  rw [← hW1]
  have HP : At W1 W.heap.size [.bool b, .slice A n c] := by rw [hW1]; exact (at_new0 _ _ _).al _
  have HR : At W1 (W.heap.size + 1) [.bool false, .slice none 0 0] := by rw [hW1]; exact at_new1 _ _ _ _
  replace HB : Bel W W1 := by rw [hW1]; exact (HB.al _).al _
  clear hW1
  have l0 := HP.lt
  have l1 := HR.lt
  go_region_held3 (fun w' => w'.cell? ⟨W.heap.size, 0, none⟩ = some (.bool b) ∧ w'.cell? ⟨W.heap.size, 1, none⟩ = some (.slice A n c))
    (first | with_reducible exact ⟨HP.dr.c0, HP.dr.c1⟩ | with_reducible exact ⟨HP.c0, HP.c1⟩ | exact ⟨((HP.far (by omega) _).far (by omega) _).c0, ((HP.far (by omega) _).far (by omega) _).c1⟩)
    (first | (go_at_call 62; (with_reducible refine (CU.out _ HB.dr).mono ?_); rintro e w1 ⟨B, e1, rfl, rn, hbk⟩; (with_reducible (replace HP := HP.dr.up hbk; replace HR := HR.dr.up hbk; replace HB := HB.dr.up hbk))) | (go_at_call 61; (with_reducible refine (CZ.out _ _ _ rn).mono ?_); rintro e w2 ⟨rfl, rn2, hbk2⟩; (with_reducible (replace HP := HP.up hbk2; replace HB := HB.up hbk2; replace HR := HR.up hbk2)); have hr_0 := HR.c0; have hr_1 := HR.c1; have hr_l := HR.lt; have hr_f0 := HR.f0; have hr_f1 := HR.f1) | fail)
  go_wp2_with fail
  refine bodyPost_ret (v := .agg #[.bool (decide (z < 0)), .slice B (dq z.natAbs) e1]) (by simp [results, Tryd.results12, go_sem, hr_0, hr_1]) rfl ?_
  obtain ⟨_, g1, g2⟩ := rn_two HR rn2 HB (by omega) (decide (z < 0)) (dq z.natAbs)
  exact ⟨B, e1, rfl, ⟨g1, rfl⟩, g2⟩
end
end Go.Proofs.YteahcbeohopdlaaDoor
end

section
/- NumSays: what its calls give. Conditions: at most 24 words. -/
open Go.RowKit
set_option maxRecDepth 100000
namespace Go.Proofs.YteahcbeohopdlaaDoor
def ZRn (W : World) (sg : Bool) (z : Int) (e : Ending) (w' : World) : Prop := ∃ A c, e = .returned (.agg #[.bool sg, .slice A (dl z.natAbs) c]) ∧ ZA w' sg A (dl z.natAbs) c z ∧ Hid (Below W.heap.size W w')
def StrK (W : World) (s : ByteArray) (e : Ending) (w' : World) : Prop := e = .returned (.string s) ∧ Hid (Below W.heap.size W w')
def ZPy (W : World) (sg : Bool) (z : Int) (e : Ending) (w' : World) : Prop := ∃ A c, e = .returned (.tuple #[.agg #[.bool sg, .slice A (dl z.natAbs) c], .bool true]) ∧ ZA w' sg A (dl z.natAbs) c z ∧ Hid (Below W.heap.size W w')
def RPy (W : World) (sg : Bool) (z : Int) (e : Ending) (w' : World) : Prop := ∃ A c, e = .returned (.tuple #[.agg #[.bool sg, .slice A (dq z.natAbs) c], .bool true]) ∧ Rz w' sg A c z ∧ Hid (Below W.heap.size W w')
def QK (W : World) (k sq sr : Bool) (q r : Int) (u : Bool) (A : Option Addr) (n c : Nat) (u' : Bool) (A' : Option Addr) (n' c' : Nat) : Prop :=
  k = true → u = sq ∧ n = dl q.natAbs ∧ u' = sr ∧ n' = dl r.natAbs ∧ ZA W sq A (dl q.natAbs) c q ∧ ZA W sr A' (dl r.natAbs) c' r
theorem QK.up {W W' : World} {k sq sr : Bool} {q r : Int} {u : Bool} {A : Option Addr} {n c : Nat} {u' : Bool} {A' : Option Addr} {n' c' : Nat} (h : QK W k sq sr q r u A n c u' A' n' c') (hb : Hid (Below W.heap.size W W')) : QK W' k sq sr q r u A n c u' A' n' c' := fun hk => by
  obtain ⟨e1, e2, e3, e4, z1, z2⟩ := h hk
  exact ⟨e1, e2, e3, e4, z1.up hb, z2.up hb⟩
theorem QK.al {W : World} {k sq sr : Bool} {q r : Int} {u : Bool} {A : Option Addr} {n c : Nat} {u' : Bool} {A' : Option Addr} {n' c' : Nat} (h : QK W k sq sr q r u A n c u' A' n' c') (o : Obj) : QK (W.alloc o) k sq sr q r u A n c u' A' n' c' := fun hk => by
  obtain ⟨e1, e2, e3, e4, z1, z2⟩ := h hk
  exact ⟨e1, e2, e3, e4, z1.al _, z2.al _⟩
def ZDw (W : World) (k sq sr : Bool) (q r : Int) (e : Ending) (w' : World) : Prop :=
  ∃ u A n c u' A' n' c', e = .returned (.tuple #[.agg #[.bool u, .slice A n c], .agg #[.bool u', .slice A' n' c'], .bool k]) ∧
    QK w' k sq sr q r u A n c u' A' n' c' ∧ Hid (Below W.heap.size W w')
def RDw (W : World) (sq sr : Bool) (q r : Int) (e : Ending) (w' : World) : Prop :=
  ∃ A c A' c', e = .returned (.tuple #[.agg #[.bool sq, .slice A (dq q.natAbs) c], .agg #[.bool sr, .slice A' (dq r.natAbs) c']]) ∧ Rz w' sq A c q ∧ Rz w' sr A' c' r ∧ Hid (Below W.heap.size W w')
theorem strk_of {W : World} {l : List UInt8} {e : Ending} {w' : World} (h : TxR W l e w') : StrK W ⟨l.toArray⟩ e w' := by
  obtain ⟨t, rfl, ht, hb⟩ := h
  exact ⟨by rw [show t = ⟨l.toArray⟩ from ByteArray.ext (Array.ext' ht.out)], hb⟩
theorem zis_s {W : World} {s : Bool} {z : Int} {A A' : Option Addr} {c c' : Nat} (hs : s = decide (z < 0)) (hl : dl z.natAbs < 4000) (h : ZA W s A (dl z.natAbs) c z) (h' : Rz W s A' c' z) : Calls Tryd.prog 16 #[.agg #[.bool s, .slice A (dl z.natAbs) c], .agg #[.bool s, .slice A' (dq z.natAbs) c']] W (BoolR W true) := by
  subst hs
  exact zis_h h h'.1 hl
/- The pieces that a store passes by. -/
theorem At.two {W : World} {p : Nat} {v0 v1 : Value} (h : At W p [v0, v1]) (x y : Value) : At ((W.setCell ⟨p, 0, none⟩ x).setCell ⟨p, 1, none⟩ y) p [x, y] := (h.put (i := 0) (by simp) x).put (i := 1) (by simp) y
theorem At.two_far {W : World} {p q : Nat} {vs : List Value} (h : At W p vs) (hq : q ≠ p) (x y : Value) : At ((W.setCell ⟨q, 0, none⟩ x).setCell ⟨q, 1, none⟩ y) p vs := (h.far hq x).far hq y
theorem Bel.setc {w W : World} (h : Bel w W) {p i : Nat} (hp : w.heap.size ≤ p) (u : Value) : Bel w (W.setCell ⟨p, i, none⟩ u) := Below.setCell h hp u
theorem Bel.two {w W : World} (h : Bel w W) {p : Nat} (hp : w.heap.size ≤ p) (x y : Value) : Bel w ((W.setCell ⟨p, 0, none⟩ x).setCell ⟨p, 1, none⟩ y) := (h.setc hp x).setc hp y
theorem Rz.two {W : World} {s : Bool} {z : Int} {A : Option Addr} {c p : Nat} (h : Rz W s A c z) (hp : At W p [.bool false, .slice none 0 0]) (b : Bool) (B : Option Addr) (k d : Nat) : Rz ((W.setCell ⟨p, 0, none⟩ (.bool b)).setCell ⟨p, 1, none⟩ (.slice B k d)) s A c z := ⟨h.1.put2 hp, h.2⟩
theorem at_newT {W : World} (q : Addr) (u : Value) (vs : List Value) (t : TypeId) : At ((W.setCell q u).alloc (.cells vs.toArray t)) W.heap.size vs := at_size (at_new0 _ vs t) (by simp [World.setCell])
theorem at_newT2 {W : World} (q q' : Addr) (u u' : Value) (vs : List Value) (t : TypeId) : At (((W.setCell q u).setCell q' u').alloc (.cells vs.toArray t)) W.heap.size vs := at_size (at_new0 _ vs t) (by simp [World.setCell])
section
variable {W : World} {b : Bool} {A : Option Addr} {n c m : Nat}
set_option maxHeartbeats 1000000 in
theorem zgd_f (hn : ∀ W', Bel W W' → Calls Tryd.prog 33 #[.agg #[.slice A n c]] W' (BoolR W' false)) : Calls Tryd.prog 32 #[.agg #[.bool b, .slice A n c]] W (BoolR W false) := by
  have CG := hide hn
  clear hn
  have HB := Bel.refl W
  go_enter Tryd.func32, Tryd.ntmps32
  go_wp2_with (first | (go_at_call 33; (with_reducible refine (CG.out _ (HB.al _)).mono ?_); rintro e w1 ⟨rfl, hbk⟩; replace HB := (HB.al _).up hbk) | fail)
  go_ret
  exact ⟨rfl, HB⟩
set_option maxHeartbeats 1000000 in
theorem zgd_t (hn : ∀ W', Bel W W' → Calls Tryd.prog 33 #[.agg #[.slice A n c]] W' (BoolR W' true)) : Calls Tryd.prog 32 #[.agg #[.bool false, .slice A n c]] W (BoolR W true) := by
  have CG := hide hn
  clear hn
  have HB := Bel.refl W
  go_enter Tryd.func32, Tryd.ntmps32
  go_wp2_with (first | (go_at_call 33; (with_reducible refine (CG.out _ (HB.al _)).mono ?_); rintro e w1 ⟨rfl, hbk⟩; have HP := At.up (at_new0 _ _ _) hbk; replace HB := (HB.al _).up hbk; have hp_0 := HP.c0; have hp_1 := HP.c1; have hp_l := HP.lt) | fail)
  go_ret
  exact ⟨rfl, HB⟩
set_option maxHeartbeats 1000000 in
theorem zgd_m {f v : Bool} (hn : ∀ W', Bel W W' → Calls Tryd.prog 33 #[.agg #[.slice A n c]] W' (BoolR W' true)) (hz : ∀ W', Bel W W' → Calls Tryd.prog 64 #[.agg #[.slice A n c]] W' (BoolR W' f)) (hv : (!f) = v) :
    Calls Tryd.prog 32 #[.agg #[.bool true, .slice A n c]] W (BoolR W v) := by
  have CG := hide hn
  have CZ := hide hz
  have HV := hide hv
  clear hz hn hv
  have HB := Bel.refl W
  go_enter Tryd.func32, Tryd.ntmps32
  go_wp2_with (first | (go_at_call 33; (with_reducible refine (CG.out _ (HB.al _)).mono ?_); rintro e w1 ⟨rfl, hbk⟩; have HP := At.up (at_new0 _ _ _) hbk; replace HB := (HB.al _).up hbk; have hp_0 := HP.c0; have hp_1 := HP.c1; have hp_l := HP.lt) | (go_at_call 64; (with_reducible refine (CZ.out _ HB).mono ?_); rintro e w2 ⟨rfl, hbk⟩; replace HB := HB.up hbk) | fail)
  go_ret
  exact ⟨by rw [← HV.out]; rfl, HB⟩
/-- Good of any number, and of its words. -/
theorem zgd_all {ws : List Nat} (h : n = ws.length ∧ n ≤ c ∧ Rd U32 W W.heap.size A ws ∧ Good32 ws) (hl : n ≤ 24) : ∃ g v k, (∀ W', Bel W W' → Calls Tryd.prog 33 #[.agg #[.slice A n c]] W' (BoolR W' g)) ∧ (∀ W', Bel W W' → Calls Tryd.prog 32 #[.agg #[.bool b, .slice A n c]] W' (BoolR W' v)) ∧ decide ((0 : Int) < (n : Int)) = k ∧
    ((g = false ∧ v = false) ∨ (g = true ∧ b = false ∧ v = true) ∨ (g = true ∧ b = true ∧ v = k)) := by
  have HG : ∀ W', Bel W W' → Calls Tryd.prog 33 #[.agg #[.slice A n c]] W' (BoolR W' (goodB ws)) := fun W' hb => (Good_any h.1 ((h.2.2.1.below hb).more (Below.size hb)) (by omega)).mono fun _ _ x => x
  have HM : ∀ W' W'', Bel W W' → Bel W' W'' → Bel W W'' := fun W' W'' h1 h2 => h1.up h2
  cases hg : goodB ws
  · rw [hg] at HG
    exact ⟨false, false, _, HG, fun W' hb => zgd_f fun W'' hb' => HG W'' (HM _ _ hb hb'), rfl, .inl ⟨rfl, rfl⟩⟩
  · rw [hg] at HG
    cases b
    · exact ⟨true, true, _, HG, fun W' hb => zgd_t fun W'' hb' => HG W'' (HM _ _ hb hb'), rfl, .inr (.inl ⟨rfl, rfl, rfl⟩)⟩
    · have hN : ∀ W', Bel W W' → Nm W' A n c (val W32 ws) := fun W' hb => nm_later (later_of h (by omega)) hb
      have hd : digs W32 (val W32 ws) = ws := digs_val (by decide) ws h.2.2.2 fun x hx h0 => by
        subst h0
        unfold goodB at hg
        rw [hx] at hg
        exact absurd hg (by decide)
      by_cases h0 : val W32 ws = 0
      · have hn : n = 0 := by rw [h0, digs_zero] at hd; rw [h.1, ← hd]; rfl
        exact ⟨true, decide ((0 : Int) < (n : Int)), _, HG, fun W' hb => zgd_m (fun W'' hb' => HG W'' (HM _ _ hb hb')) (fun W'' hb' => isZero_yes (hN W'' (HM _ _ hb hb')) h0) (by rw [hn]; rfl), rfl, .inr (.inr ⟨rfl, rfl, rfl⟩)⟩
      · have hn : 0 < n := by
          rcases Nat.eq_zero_or_pos n with e | e
          · exfalso
            rw [h.1] at e
            rw [List.eq_nil_of_length_eq_zero e] at h0
            exact h0 rfl
          · exact e
        exact ⟨true, decide ((0 : Int) < (n : Int)), _, HG, fun W' hb => zgd_m (fun W'' hb' => HG W'' (HM _ _ hb hb')) (fun W'' hb' => isZero_no (hN W'' (HM _ _ hb hb')) (by omega)) (by rw [decide_eq_true (show (0 : Int) < (n : Int) by omega)]; rfl), rfl, .inr (.inr ⟨rfl, rfl, rfl⟩)⟩
end
end Go.Proofs.YteahcbeohopdlaaDoor
end
