/- Package rat: Text, Parse of what Text shows. Conditions: terms of at most 9000 words, a text of at most 99999 bytes. -/
import Derived.Test.YtfknclimoihfdaaDoorQe
import Derived.Test.YtfknclimoihfdaaDoorGLwc321
open Go.RowKit
set_option maxRecDepth 100000
namespace Go.Proofs.YtfknclimoihfdaaDoor
/-- A fraction's text. -/
def decQ (r : Rat) : List UInt8 := if r.den = 1 then decZ r.num else decZ r.num ++ (47 :: decL r.den)
def NPR (W : World) (v : Nat) (e : Ending) (w' : World) : Prop := ∃ A c, e = .returned (.tuple #[.agg #[.slice A (dl v) c], .bool true]) ∧ Nm w' A (dl v) c v ∧ Hid (Below W.heap.size W w')
theorem npar_h {W : World} {s : ByteArray} {v : Nat} (hs : s.size ≤ 100000) (hd : digB s.data.toList = true) (hv : numL s.data.toList = v) (hl : dl v ≤ 100000) : Calls Tryd.prog 15 #[.string s] W (NPR W v) := by
  subst hv
  refine (Parse_any s W hs).mono fun e w' h1 => ?_
  unfold ParsePost at h1
  rw [if_pos hd] at h1
  obtain ⟨A2, c2, he, hc, hb⟩ := h1
  exact ⟨A2, c2, he, nm_can hc hl, hb⟩
/-- What Cut answers, told from the string alone. -/
def CutQ (w : World) (t : ByteArray) (u : ByteArray) (b : Bool) (e : Ending) (w' : World) : Prop := e = .returned (.tuple #[.string t, .string u, .bool b]) ∧ Hid (Below w.heap.size w w')
theorem split_once {a a' b b' : List UInt8} (h : a ++ 47 :: b = a' ++ 47 :: b') (ha : ¬ (47 : UInt8) ∈ a) (ha' : ¬ (47 : UInt8) ∈ a') : a = a' ∧ b = b' := by
  induction a generalizing a' with
  | nil =>
    cases a' with
    | nil => simp at h; exact ⟨rfl, h⟩
    | cons x xs => simp at h; exact absurd (by rw [← h.1]; simp) ha'
  | cons y ys ih =>
    cases a' with
    | nil => simp at h; exact absurd (by rw [h.1]; simp) ha
    | cons x xs =>
      simp at h
      obtain ⟨h1, h2⟩ := ih h.2 (fun h => ha (List.mem_cons_of_mem _ h)) (fun h => ha' (List.mem_cons_of_mem _ h))
      exact ⟨by rw [h.1, h1], h2⟩
theorem slash_hit {s t u : ByteArray} (w : World) (hs : s.size ≤ 100000) (h : s.data.toList = t.data.toList ++ 47 :: u.data.toList) (ht : ¬ (47 : UInt8) ∈ t.data.toList) : Calls Tryd.prog 110 #[.string s, .string ⟨#[47]⟩] w (CutQ w t u true) := by
  refine (slash_any s w hs).mono ?_
  rintro e w' ⟨t', u', b, rfl, hr, hb⟩
  obtain ⟨h1, h2, h3⟩ := hr.out
  cases b
  · have h4 := h2 rfl
    subst h4
    exact absurd (by rw [h]; simp) h3
  · have h4 := h1 rfl
    rw [h] at h4
    obtain ⟨e1, e2⟩ := split_once h4 ht h3
    obtain rfl : t = t' := ByteArray.ext (Array.ext' e1)
    obtain rfl : u = u' := ByteArray.ext (Array.ext' e2)
    exact ⟨rfl, hb⟩
def CutM (w : World) (s : ByteArray) (e : Ending) (w' : World) : Prop := ∃ u, e = .returned (.tuple #[.string s, .string u, .bool false]) ∧ Hid (Below w.heap.size w w')
theorem slash_miss {s : ByteArray} (w : World) (hs : s.size ≤ 100000) (h : ¬ (47 : UInt8) ∈ s.data.toList) : Calls Tryd.prog 110 #[.string s, .string ⟨#[47]⟩] w (CutM w s) := by
  refine (slash_any s w hs).mono ?_
  rintro e w' ⟨t', u', b, rfl, hr, hb⟩
  obtain ⟨h1, h2, h3⟩ := hr.out
  cases b
  · have h4 := h2 rfl
    subst h4
    exact ⟨_, rfl, hb⟩
  · exact absurd (by rw [h1 rfl]; simp) h
/-- As QR, the sign by a name of its own. -/
def QRs (W : World) (sg : Bool) (r : Rat) (e : Ending) (w' : World) : Prop :=
  ∃ A c A' c', e = .returned (.agg #[.bool sg, .slice A (dl r.num.natAbs) c, .slice A' (dl r.den) c']) ∧ ZA w' sg A (dl r.num.natAbs) c r.num ∧ Nm w' A' (dl r.den) c' r.den ∧ Hid (Below W.heap.size W w')
def OfYs (W : World) (sg : Bool) (r : Rat) (e : Ending) (w' : World) : Prop := ∃ A c A' c', e = .returned (.tuple #[.agg #[.bool sg, .slice A (dl r.num.natAbs) c, .slice A' (dl r.den) c'], .bool true]) ∧ ZA w' sg A (dl r.num.natAbs) c r.num ∧ Nm w' A' (dl r.den) c' r.den ∧ Hid (Below W.heap.size W w')
def ZPRs (W : World) (sg : Bool) (z : Int) (e : Ending) (w' : World) : Prop := ∃ A c, e = .returned (.tuple #[.agg #[.bool sg, .slice A (dl z.natAbs) c], .bool true]) ∧ ZA w' sg A (dl z.natAbs) c z ∧ Hid (Below W.heap.size W w')
section
variable {W : World} {b b' : Bool} {A A' : Option Addr} {n n' c c' m m' : Nat} {z z' : Int} {r : Rat} {K : Nat}
theorem dec_bd {m K : Nat} (h : m < W32 ^ K) : (decL m).length ≤ 10 * K + 1 := by
  have h3 : W32 ^ K ≤ (10 ^ 10) ^ K := Nat.pow_le_pow_left (by decide) _
  rw [← Nat.pow_mul] at h3
  refine dt_le (Nat.lt_of_lt_of_le (Nat.lt_of_lt_of_le h h3) (Nat.pow_le_pow_right (by decide) (by omega))) (by omega)
theorem decZ_bd {z : Int} {K : Nat} (h : z.natAbs < W32 ^ K) : (decZ z).length ≤ 10 * K + 2 := by
  have := dec_bd h
  unfold decZ
  by_cases hn : z < 0
  · rw [if_pos hn, List.length_cons]; omega
  · rw [if_neg hn]; omega
theorem tt_bd {z : Int} {d : Nat} {r : Rat} {K : Nat} (h : TT z d r K) : r.num.natAbs < W32 ^ K ∧ r.den < W32 ^ K := by
  obtain ⟨h0, h1, h2, h3⟩ := h
  obtain ⟨g0, e1, e2, _⟩ := low_terms (z := z) h0 (rfl : Nat.gcd z.natAbs d = Nat.gcd z.natAbs d)
  rw [h1] at e1 e2
  exact ⟨by rw [e1]; exact Nat.lt_of_le_of_lt (Nat.div_le_self _ _) h2, by rw [e2]; exact Nat.lt_of_le_of_lt (Nat.div_le_self _ _) h3⟩
theorem qa_bd (h : QA W b A n c A' n' c' r K) (hK : 0 < K) : r.num.natAbs < W32 ^ K ∧ r.den < W32 ^ K := by
  obtain ⟨z, d, _, _, h1, h2, h3⟩ := h
  rcases Nat.eq_zero_or_pos d with h0 | h0
  · subst h0
    rw [Rat.mkRat_zero] at h1
    subst h1
    exact ⟨Nat.pow_pos (by decide), Nat.one_lt_pow (by omega) (by decide)⟩
  · exact tt_bd ⟨h0, h1, h2, h3⟩
set_option maxHeartbeats 2000000 in
theorem rtext_h (h : QA W b A n c A' n' c' r K) (hK : 0 < K) (hK2 : K ≤ 9000) : Calls Tryd.prog 68 #[.agg #[.bool b, .slice A n c, .slice A' n' c']] W (TxR W (decQ r)) := by
  have HL1 : Hid ((decZ r.num).length ≤ 90002) := Nat.le_trans (decZ_bd (qa_bd h hK).1) (by omega)
  have HL2 : Hid ((decL r.den).length ≤ 90001) := Nat.le_trans (dec_bd (qa_bd h hK).2) (by omega)
  have CT : Hid (∀ W', Bel W W' → Calls Tryd.prog 94 #[.agg #[.bool b, .slice A n c, .slice A' n' c']] W' (TermsR W' r K)) := fun W' hb => terms_h (h.up hb) hK
  have CL : Hid (∀ W' s B k e B' k' e' z d, ZA W' s B k e z → Nm W' B' k' e' d → Hid (TT z d r K) → Calls Tryd.prog 96 #[.agg #[.bool s, .slice B k e], .agg #[.slice B' k' e']] W' (QR W' r)) := fun W' s B k e B' k' e' z d hz hd ht => lowest_t hz hd ht.out (by omega) (by omega)
  have CO : Hid (∀ W' B k e, Nm W' B k e r.den → Calls Tryd.prog 98 #[.agg #[.slice B k e]] W' (RetB W' (decide (r.den = 1)))) := fun W' B k e hn => rone_h hn
  have CZ : Hid (∀ W' s B k e, ZA W' s B k e r.num → Calls Tryd.prog 41 #[.agg #[.bool s, .slice B k e]] W' (TxR W' (decZ r.num))) := fun W' s B k e hz => ztext_h hz
  have CN : Hid (∀ W' B k e, Nm W' B k e r.den → Calls Tryd.prog 16 #[.agg #[.slice B k e]] W' (TxR W' (decL r.den))) := fun W' B k e hz => text_h hz
  clear h
  obtain ⟨sg, hsg⟩ : ∃ s, s = decide (r.num < 0) := ⟨_, rfl⟩
  have HSG := hide hsg
  clear hsg
  have CL2 : Hid (∀ W' s B k e B' k' e' z d, ZA W' s B k e z → Nm W' B' k' e' d → Hid (TT z d r K) → Calls Tryd.prog 96 #[.agg #[.bool s, .slice B k e], .agg #[.slice B' k' e']] W' (QRs W' sg r)) := fun W' s B k e B' k' e' z d hz hd ht => by rw [HSG.out]; exact CL.out _ _ _ _ _ _ _ _ _ _ hz hd ht
  have HB := Bel.refl W
  by_cases h1 : r.den = 1
  · rw [decide_eq_true h1] at CO
    have HD : Hid (decQ r = decZ r.num) := if_pos h1
    clear h1 CL
    go_enter Tryd.func68, Tryd.ntmps68
    go_wp2_with (first | (go_at_call 94; (with_reducible refine (CT.out _ (HB.al _)).mono ?_); rintro e w1 ⟨ps, pA, pn, pc, pB, pm, pe, pz, pd, rfl, pzz, pnn, ph, hbk⟩; have HX := At.up (at_new0 _ _ _) hbk; replace HB := (HB.al _).up hbk; replace ph : Hid (TT pz pd r K) := ph) | (go_at_call 96; (with_reducible refine (CL2.out _ _ _ _ _ _ _ _ _ _ pzz pnn ph).mono ?_); rintro e w2 ⟨B, e1, B', e2, rfl, nz, nd, hbk⟩; replace HB := HB.up hbk) | (go_at_call 98; (with_reducible refine (CO.out _ _ _ _ (nd.al _)).mono ?_); rintro e w3 ⟨rfl, hbk⟩; have HQ := At.up (at_new0 _ _ _) hbk; replace HB := (HB.al _).up hbk; replace nz := (nz.al _).up hbk; replace nd := (nd.al _).up hbk; have hq_0 := HQ.c0; have hq_1 := HQ.c1; have hq_2 := HQ.c2; have hq_l := HQ.lt) | (go_at_call 41; (with_reducible refine (CZ.out _ _ _ _ _ nz).mono ?_); rintro e w4 ⟨t, rfl, ht, hbk⟩; replace HB := HB.up hbk) | fail)
    go_ret
    exact ⟨t, rfl, by unfold Hid; rw [HD.out]; exact ht.out, HB⟩
  · rw [decide_eq_false h1] at CO
    have HD : Hid (decQ r = decZ r.num ++ (47 :: decL r.den)) := if_neg h1
    clear h1 CL
    go_enter Tryd.func68, Tryd.ntmps68
    go_wp2_with (first | (go_at_call 94; (with_reducible refine (CT.out _ (HB.al _)).mono ?_); rintro e w1 ⟨ps, pA, pn, pc, pB, pm, pe, pz, pd, rfl, pzz, pnn, ph, hbk⟩; have HX := At.up (at_new0 _ _ _) hbk; replace HB := (HB.al _).up hbk; replace ph : Hid (TT pz pd r K) := ph) | (go_at_call 96; (with_reducible refine (CL2.out _ _ _ _ _ _ _ _ _ _ pzz pnn ph).mono ?_); rintro e w2 ⟨B, e1, B', e2, rfl, nz, nd, hbk⟩; replace HB := HB.up hbk) | (go_at_call 98; (with_reducible refine (CO.out _ _ _ _ (nd.al _)).mono ?_); rintro e w3 ⟨rfl, hbk⟩; have HQ := At.up (at_new0 _ _ _) hbk; replace HB := (HB.al _).up hbk; replace nz := (nz.al _).up hbk; replace nd := (nd.al _).up hbk; have hq_0 := HQ.c0; have hq_1 := HQ.c1; have hq_2 := HQ.c2; have hq_l := HQ.lt) | fail)
    go_region_held3 (fun w' => w'.cell? ⟨w2.heap.size, 0, none⟩ = some (.bool sg) ∧ w'.cell? ⟨w2.heap.size, 1, none⟩ = some (.slice B (dl r.num.natAbs) e1) ∧ w'.cell? ⟨w2.heap.size, 2, none⟩ = some (.slice B' (dl r.den) e2))
    (first | exact ⟨HQ.dr.c0, HQ.dr.c1, HQ.dr.c2⟩ | exact ⟨HQ.c0, HQ.c1, HQ.c2⟩)
    (first | (go_at_call 41; (with_reducible refine (CZ.out _ _ _ _ _ nz.dr).mono ?_); rintro e w4 ⟨t, rfl, ht, hbk⟩; replace HB := HB.dr.up hbk; replace HQ := HQ.dr.up hbk; replace nd := nd.dr.up hbk; have hts : t.size ≤ 90002 := (by rw [size_list, ht.out]; exact HL1.out); have hc1 : ¬ 9223372036854775807 < t.size + 1 := (by omega); have hc2 : t.size + 1 ≤ 9223372036854775807 := (by omega)) | (go_at_call 16; (with_reducible refine (CN.out _ _ _ _ nd).mono ?_); rintro e w5 ⟨t2, rfl, ht2, hbk⟩; replace HB := HB.up hbk; replace HQ := HQ.up hbk; have hts2 : t2.size ≤ 90001 := (by rw [size_list, ht2.out]; exact HL2.out); have hd1 : ¬ 9223372036854775807 < t.size + 1 + t2.size := (by omega); have hd2 : t.size + 1 + t2.size ≤ 9223372036854775807 := (by omega)) | fail)
    go_wp2
    go_ret
    refine ⟨_, rfl, ?_, HB⟩
    unfold Hid
    rw [HD.out, ← ht.out, ← ht2.out]
    simp
set_option maxHeartbeats 2000000 in
theorem rparse_frac {s t u : ByteArray} {v : Int} {d : Nat} (hs : s.size ≤ 99999) (h : s.data.toList = t.data.toList ++ 47 :: u.data.toList) (ht : ¬ (47 : UInt8) ∈ t.data.toList) (hz : ∀ W', Calls Tryd.prog 35 #[.string t] W' (ZPR W' v)) (hd : digB u.data.toList = true) (hv : numL u.data.toList = d) (h0 : 0 < d) (bv : dl v.natAbs ≤ 99999) (bd : dl d ≤ 99999) (hr : mkRat v d = r) :
    Calls Tryd.prog 90 #[.string s] W (OfYes W r) := by
  have CC := hide (fun W' => slash_hit (s := s) (t := t) (u := u) W' (by omega) h ht)
  have CZ := hide hz
  have CN : Hid (∀ W', Calls Tryd.prog 15 #[.string u] W' (NPR W' d)) := fun W' => npar_h (by have h1 := congrArg List.length h; rw [← size_list, List.length_append, List.length_cons, ← size_list, ← size_list] at h1; omega) hd hv (by omega)
  have CF : Hid (∀ W' s B k e B' k' e', ZA W' s B k e v → Nm W' B' k' e' d → Calls Tryd.prog 60 #[.agg #[.bool s, .slice B k e], .agg #[.slice B' k' e']] W' (OfYes W' r)) := fun W' s B k e B' k' e' h1 h2 => of_yes h1 h2 h0 hr bv bd
  clear hs h ht hz hd hv h0 bv bd hr
  obtain ⟨sg, hsg⟩ : ∃ s, s = decide (r.num < 0) := ⟨_, rfl⟩
  have HSG := hide hsg
  clear hsg
  have CF2 : Hid (∀ W' s B k e B' k' e', ZA W' s B k e v → Nm W' B' k' e' d → Calls Tryd.prog 60 #[.agg #[.bool s, .slice B k e], .agg #[.slice B' k' e']] W' (OfYs W' sg r)) := fun W' s B k e B' k' e' h1 h2 => by rw [HSG.out]; exact CF.out _ _ _ _ _ _ _ _ h1 h2
  have HB := Bel.refl W
  go_enter Tryd.func90, Tryd.ntmps90
  go_wp2_with (first | (go_at_call 110; (with_reducible refine (CC.out _).mono ?_); rintro e w1 ⟨rfl, hbk⟩; have HR := At.up (at_new0 _ _ _) hbk; replace HB := (HB.al _).up hbk) | (go_at_call 35; (with_reducible refine (CZ.out _).mono ?_); rintro e w2 ⟨pA, pc, rfl, pz, hbk⟩; replace HB := HB.up hbk; replace HR := HR.up hbk) | (go_at_call 15; (with_reducible refine (CN.out _).mono ?_); rintro e w3 ⟨nA, nc, rfl, nn, hbk⟩; have HP := At.up (at_new0 _ _ _) hbk; replace HB := (HB.al _).up hbk; replace HR := (HR.al _).up hbk; replace pz := (pz.al _).up hbk; have hp_0 := HP.c0; have hp_1 := HP.c1; have hp_l := HP.lt) | (go_at_call 60; (with_reducible refine (CF2.out _ _ _ _ _ _ _ _ (pz.al _) (nn.al _)).mono ?_); rintro e w4 ⟨B, e1, B', e2, rfl, nz, nd, hbk⟩; replace HB := (HB.al _).up hbk; replace HR := (HR.al _).up hbk; clear hp_0 hp_1 hp_l; have hr_0 := HR.c0; have hr_1 := HR.c1; have hr_2 := HR.c2; have hr_l := HR.lt; have hr_f0 := HR.f0; have hr_f1 := HR.f1; have hr_f2 := HR.f2) | fail)
  refine bodyPost_ret (v := .tuple #[.agg #[.bool sg, .slice B (dl r.num.natAbs) e1, .slice B' (dl r.den) e2], .bool true]) (by simp [results, Tryd.results90, go_sem, hr_0, hr_1, hr_2]) rfl ?_
  refine ⟨B, e1, B', e2, by rw [HSG.out], zr_of (nz.1.put3 HR now3), nd.put3 HR now3, below3 HB (Nat.le_refl _) _ _ _⟩
set_option maxHeartbeats 2000000 in
theorem rparse_int {s : ByteArray} {v : Int} (hs : s.size ≤ 99999) (ht : ¬ (47 : UInt8) ∈ s.data.toList) (hz : ∀ W', Calls Tryd.prog 35 #[.string s] W' (ZPR W' v)) (bv : dl v.natAbs ≤ 99999) (hr : mkRat v 1 = r) :
    Calls Tryd.prog 90 #[.string s] W (OfYes W r) := by
  have CC := hide (fun W' => slash_miss (s := s) W' (by omega) ht)
  have CZ := hide hz
  have C1 : Hid (∀ W', Calls Tryd.prog 11 #[.int .u64 1] W' (NumR W' 1)) := fun W' => of_h (v := 1) (by omega)
  have CF : Hid (∀ W' s B k e B' k' e', ZA W' s B k e v → Nm W' B' k' e' 1 → Calls Tryd.prog 60 #[.agg #[.bool s, .slice B k e], .agg #[.slice B' k' e']] W' (OfYes W' r)) := fun W' s B k e B' k' e' h1 h2 => of_yes h1 h2 (by decide) hr bv (by rw [dl_one]; decide)
  clear hs ht hz bv hr
  obtain ⟨sg, hsg⟩ : ∃ s, s = decide (r.num < 0) := ⟨_, rfl⟩
  obtain ⟨sv, hsv⟩ : ∃ s, s = decide (v < 0) := ⟨_, rfl⟩
  have HSG := hide hsg
  have CZ2 : Hid (∀ W', Calls Tryd.prog 35 #[.string s] W' (ZPRs W' sv v)) := fun W' => by rw [hsv]; exact CZ.out W'
  clear hsg hsv CZ
  have CF2 : Hid (∀ W' s B k e B' k' e', ZA W' s B k e v → Nm W' B' k' e' 1 → Calls Tryd.prog 60 #[.agg #[.bool s, .slice B k e], .agg #[.slice B' k' e']] W' (OfYs W' sg r)) := fun W' s B k e B' k' e' h1 h2 => by rw [HSG.out]; exact CF.out _ _ _ _ _ _ _ _ h1 h2
  have HB := Bel.refl W
  go_enter Tryd.func90, Tryd.ntmps90
  go_wp2_with (first | (go_at_call 110; (with_reducible refine (CC.out _).mono ?_); rintro e w1 ⟨u, rfl, hbk⟩; have HR := At.up (at_new0 _ _ _) hbk; replace HB := (HB.al _).up hbk) | (go_at_call 35; (with_reducible refine (CZ2.out _).mono ?_); rintro e w2 ⟨pA, pc, rfl, pz, hbk⟩; replace HB := HB.up hbk; replace HR := HR.up hbk; have hLR := HR.lt) | fail)
  go_region_held3 (fun w' => w'.cell? ⟨w2.heap.size, 0, none⟩ = some (.bool sv) ∧ w'.cell? ⟨w2.heap.size, 1, none⟩ = some (.slice pA (dl v.natAbs) pc))
    (first | exact ⟨(at_new0 _ _ _).dr.c0, (at_new0 _ _ _).dr.c1⟩ | exact ⟨HP.c0, HP.c1⟩ | exact ⟨(((HP.far (by omega) _).far (by omega) _).far (by omega) _).c0, (((HP.far (by omega) _).far (by omega) _).far (by omega) _).c1⟩)
    (first | (go_at_call 11; (with_reducible refine (C1.out _).mono ?_); rintro e w3 ⟨nA, nc, rfl, nn, hbk⟩; have HP := At.up (at_new0 _ _ _).dr hbk; replace HB := (HB.al _).dr.up hbk; replace HR := (HR.al _).dr.up hbk; replace pz := (pz.al _).dr.up hbk; have hLP := HP.lt) | (go_at_call 60; (with_reducible refine (CF2.out _ _ _ _ _ _ _ _ pz nn).mono ?_); rintro e w4 ⟨B, e1, B', e2, rfl, nz, nd, hbk⟩; replace HB := HB.up hbk; replace HR := HR.up hbk; replace HP := HP.up hbk; have hr_0 := HR.c0; have hr_1 := HR.c1; have hr_2 := HR.c2; have hr_l := HR.lt; have hr_f0 := HR.f0; have hr_f1 := HR.f1; have hr_f2 := HR.f2) | fail)
  go_wp2_with fail
  refine bodyPost_ret (v := .tuple #[.agg #[.bool sg, .slice B (dl r.num.natAbs) e1, .slice B' (dl r.den) e2], .bool true]) (by simp [results, Tryd.results90, go_sem, hr_0, hr_1, hr_2]) rfl ?_
  refine ⟨B, e1, B', e2, by rw [HSG.out], zr_of (nz.1.put3 HR now3), nd.put3 HR now3, below3 HB (Nat.le_refl _) _ _ _⟩
end
end Go.Proofs.YtfknclimoihfdaaDoor
