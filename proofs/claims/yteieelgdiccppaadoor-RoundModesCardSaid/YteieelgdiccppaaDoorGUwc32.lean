/- Several texts in one, each with its own sentence and conditions. -/
import Derived.Test.YteieelgdiccppaaDoorGUwc22
import Derived.Test.YteieelgdiccppaaDoorDp
import Derived.Test.YteieelgdiccppaaDoorGUwc30
import Derived.Test.YteieelgdiccppaaDoorUe
import Derived.Test.YteieelgdiccppaaDoorQe
import Derived.Test.YteieelgdiccppaaDoorQd2
section
/- An integer's text is read as it. Conditions: a text of less than 99990 bytes. -/
open Go.RowKit
set_option maxRecDepth 100000
namespace Go.Proofs.YteieelgdiccppaaDoor
theorem head_dec (m : Nat) : (decL m).head? ≠ some 45 := by
  intro h
  have h1 := (numL_decL m).2
  unfold digB at h1
  rw [Bool.and_eq_true] at h1
  cases hl : decL m with
  | nil => rw [hl] at h; cases h
  | cons x xs =>
    rw [hl] at h h1
    injection h with h
    subst h
    have := h1.2
    rw [List.all_cons, Bool.and_eq_true] at this
    exact absurd this.1 (by decide)
theorem zparse_back {t : ByteArray} {z : Int} (W : World) (ht : t.data.toList = decZ z) (hl : (decL z.natAbs).length ≤ 99990) : Calls Tryd.prog 26 #[.string t] W (ZPR W z) := by
  have h1 := numL_decL z.natAbs
  by_cases hn : z < 0
  · have e : t.data.toList = (if true then [45] else []) ++ decL z.natAbs := by rw [ht]; unfold decZ; rw [if_pos hn]; rfl
    exact zparse_h (by rw [size_list, e]; simp; omega) e (by intro h; cases h) h1.2 (by rw [h1.1, zi_true]; omega)
  · have e : t.data.toList = (if false then [45] else []) ++ decL z.natAbs := by rw [ht]; unfold decZ; rw [if_neg hn]; rfl
    exact zparse_h (by rw [size_list, e]; simp; omega) e (fun _ => head_dec _) h1.2 (by rw [h1.1, zi_false]; omega)
end Go.Proofs.YteieelgdiccppaaDoor
end

section
/- Package dec: texts that are read: any; a numeral's own. No conditions. -/
open Go.RowKit
set_option maxRecDepth 100000
namespace Go.Proofs.YteieelgdiccppaaDoor
theorem dot_of (k : List UInt8) : ∃ t u pt, Dot k t u pt := by
  induction k with
  | nil => exact ⟨[], [], false, ⟨(fun h => by cases h), (fun _ => ⟨rfl, rfl⟩), by simp⟩⟩
  | cons x xs ih =>
    by_cases hx : x = 46
    · exact ⟨[], xs, true, ⟨(fun _ => by rw [hx]; rfl), (fun h => by cases h), by simp⟩⟩
    · obtain ⟨t, u, pt, h1, h2, h3⟩ := ih
      refine ⟨x :: t, u, pt, ⟨fun h => by rw [h1 h]; rfl, fun h => ⟨by rw [← (h2 h).1], (h2 h).2⟩, ?_⟩⟩
      intro h
      rcases List.mem_cons.1 h with h | h
      · exact hx h.symm
      · exact h3 h
theorem form_of (l : List UInt8) : ∃ b t u pt, Form l b t u pt := by
  by_cases h : l.head? = some 45
  · obtain ⟨k, hk⟩ : ∃ k, l = 45 :: k := by
      cases l with
      | nil => cases h
      | cons x xs => injection h with h; exact ⟨xs, by rw [h]⟩
    obtain ⟨t, u, pt, hd⟩ := dot_of k
    exact ⟨true, t, u, pt, ⟨k, hk, (fun h => by cases h), hd⟩⟩
  · obtain ⟨t, u, pt, hd⟩ := dot_of l
    exact ⟨false, t, u, pt, ⟨l, rfl, fun _ => h, hd⟩⟩
section
variable {W : World} {s : ByteArray} {b pt : Bool} {t u : List UInt8} {v : Nat}
theorem dparse_ok (h : Form s.data.toList b t u pt) (hs : s.size ≤ 256) (ht : t ≠ []) (hu2 : pt = true → u ≠ []) (hu : u.length ≤ 60) (hd : digB (t ++ u) = true) (hv : numL (t ++ u) = v) : Calls Tryd.prog 49 #[.string s] W (DPR W (b && decide (v ≠ 0)) v u.length) := by
  cases pt
  · cases b
    · exact dparse_np h hs rfl rfl ht hu hd hv
    · by_cases h0 : v = 0
      · rw [decide_eq_false (by simpa using h0)]; exact dparse_nmz h hs rfl rfl ht hu hd hv h0
      · rw [decide_eq_true h0]; exact dparse_nmo h hs rfl rfl ht hu hd hv h0
  · cases b
    · exact dparse_yp h hs rfl rfl ht (hu2 rfl) hu hd hv
    · by_cases h0 : v = 0
      · rw [decide_eq_false (by simpa using h0)]; exact dparse_ymz h hs rfl rfl ht (hu2 rfl) hu hd hv h0
      · rw [decide_eq_true h0]; exact dparse_ymo h hs rfl rfl ht (hu2 rfl) hu hd hv h0
theorem dparse_bad (h : Form s.data.toList b t u pt) (hs : s.size ≤ 256) (hn : ¬ (t ≠ [] ∧ (pt = true → u ≠ []) ∧ u.length ≤ 60 ∧ digB (t ++ u) = true)) : Calls Tryd.prog 49 #[.string s] W (DPE W 2) := by
  by_cases ht : t = []
  · exact dparse_f1 h hs ht
  · cases pt
    · by_cases hu : u.length ≤ 60
      · exact dparse_f4a h hs ht rfl hu (fun hd => hn ⟨ht, (fun h => by cases h), hu, hd⟩)
      · exact dparse_f3a h hs ht rfl (by omega)
    · by_cases hu2 : u = []
      · exact dparse_f2 h hs ht rfl hu2
      · by_cases hu : u.length ≤ 60
        · exact dparse_f4b h hs ht rfl hu2 hu (fun hd => hn ⟨ht, (fun _ => hu2), hu, hd⟩)
        · exact dparse_f3b h hs ht rfl (by omega)
/-- What a text is read as: nothing, or a numeral. -/
theorem dparse_any (s : ByteArray) (hs : s.size ≤ 256) : (∀ W, Calls Tryd.prog 49 #[.string s] W (DPE W 2)) ∨ ∃ nb v sc, (nb = true → 0 < v) ∧ sc ≤ 60 ∧ dl v ≤ 256 ∧ ∀ W, Calls Tryd.prog 49 #[.string s] W (DPR W nb v sc) := by
  obtain ⟨b, t, u, pt, h⟩ := form_of s.data.toList
  by_cases hn : t ≠ [] ∧ (pt = true → u ≠ []) ∧ u.length ≤ 60 ∧ digB (t ++ u) = true
  · refine Or.inr ⟨_, _, _, ?_, hn.2.2.1, ?_, fun W => dparse_ok h hs hn.1 hn.2.1 hn.2.2.1 hn.2.2.2 rfl⟩
    · intro hb
      rw [Bool.and_eq_true] at hb
      have := of_decide_eq_true hb.2
      omega
    · have h1 := hn.2.2.2
      unfold digB at h1
      rw [Bool.and_eq_true] at h1
      have h2 := numL_lt _ h1.2
      have h3 := form_len h
      refine dl_le (Nat.lt_of_lt_of_le h2 (Nat.le_trans (Nat.pow_le_pow_left (show 10 ≤ W32 by decide) _) (Nat.pow_le_pow_right (by decide) ?_)))
      rw [List.length_append]; omega
  · exact Or.inl fun W => dparse_bad h hs hn
theorem no_point {l : List UInt8} (h : l.all isDig = true) : ¬ (46 : UInt8) ∈ l := fun hm => by
  have := List.all_eq_true.1 h 46 hm
  exact absurd this (by decide)
theorem back_form {m k : Nat} : Form (decD b m k) b (decL (m / 10 ^ k)) (if k = 0 then [] else partL m k) (decide (k ≠ 0)) := by
  refine ⟨_, rfl, fun _ => ?_, ?_⟩
  · obtain ⟨x, xs, hx⟩ : ∃ x xs, decL (m / 10 ^ k) = x :: xs := by
      cases h : decL (m / 10 ^ k) with
      | nil => exact absurd h (decL_ne _)
      | cons x xs => exact ⟨x, xs, rfl⟩
    have h1 := head_dec (m / 10 ^ k)
    rw [hx] at h1 ⊢
    exact h1
  · by_cases hk : k = 0
    · rw [if_pos hk, if_pos hk, List.append_nil]
      refine ⟨fun h => ?_, fun _ => ⟨rfl, rfl⟩, no_point (decL_all _)⟩
      rw [decide_eq_false (by simpa using hk)] at h; cases h
    · rw [if_neg hk, if_neg hk]
      refine ⟨fun _ => rfl, fun h => ?_, no_point (decL_all _)⟩
      rw [decide_eq_true hk] at h; cases h
/-- A numeral's text is read as it. -/
theorem dparse_back {m k : Nat} (ht : s.data.toList = decD b m k) (hk : k ≤ 60) (hb : b = true → 0 < m) (hs : s.size ≤ 256) : Calls Tryd.prog 49 #[.string s] W (DPR W b m k) := by
  have hf : Form s.data.toList b (decL (m / 10 ^ k)) (if k = 0 then [] else partL m k) (decide (k ≠ 0)) := by rw [ht]; exact back_form
  have e1 : (b && decide (m ≠ 0)) = b := by
    cases b
    · rfl
    · rw [decide_eq_true (by have := hb rfl; omega)]; rfl
  by_cases h0 : k = 0
  · have h1 := dparse_ok (W := W) (v := m) hf hs (decL_ne _) (fun h => by rw [decide_eq_false (by simpa using h0)] at h; cases h) (by rw [if_pos h0]; simp) (by rw [if_pos h0, List.append_nil]; exact (numL_decL _).2) (by rw [if_pos h0, List.append_nil, (numL_decL _).1, h0]; simp)
    rw [e1, if_pos h0] at h1
    rw [h0]
    exact h1
  · have hl := (part_facts m k).2.1
    have h1 := dparse_ok (W := W) (v := m) hf hs (decL_ne _) (fun _ => by rw [if_neg h0]; intro h; rw [h] at hl; exact h0 hl.symm) (by rw [if_neg h0, hl]; exact hk) (by rw [if_neg h0]; exact back_dig m k) (by rw [if_neg h0]; exact back_num m k)
    rw [e1, if_neg h0, hl] at h1
    exact h1
end
theorem decL_lit {m : Nat} {ds : List Nat} {l : List UInt8} (h : ∀ x ∈ ds, x < 10) (hl : ∀ x, ds.getLast? = some x → x ≠ 0) (hm : m = val 10 ds) (h0 : m ≠ 0) (hr : ds.reverse.map (fun d => UInt8.ofNat (48 + d)) = l) : decL m = l := by
  unfold decL
  rw [if_neg h0, hm, digs_val (by decide) ds h hl, hr]
end Go.Proofs.YteieelgdiccppaaDoor
end

section
/- Statements of round: over, awake. No conditions. -/
open Go.RowKit
set_option maxRecDepth 100000
namespace Go.Proofs.YteieelgdiccppaaDoor
def UStr (W : World) (s : ByteArray) (e : Ending) (w' : World) : Prop := e = .returned (.string s) ∧ Hid (Below W.heap.size W w')
theorem ustr_of {W : World} {l : List UInt8} {s : ByteArray} {e : Ending} {w' : World} (h : TxR W l e w') (hs : s.data.toList = l) : UStr W s e w' := by
  obtain ⟨t, rfl, ht, hb⟩ := h
  exact ⟨by rw [show t = s from ByteArray.ext (Array.ext' (ht.out.trans hs.symm))], hb⟩
theorem qa_self {W : World} {sg : Bool} {A A' : Option Addr} {n c n' c' K : Nat} {r : Rat} (nz : ZA W sg A n c r.num) (nd : Nm W A' n' c' r.den) (hb : Bd r K) : QA W sg A n c A' n' c' r K := ⟨r.num, r.den, nz, nd, Rat.mkRat_self r, hb⟩
section
variable {W : World}
set_option maxHeartbeats 4000000 in
theorem over_h {p : Int} {q : Nat} {r : Rat} {sg : Bool} (hp : -9223372036854775808 ≤ p ∧ p ≤ 9223372036854775807) (hq : q ≤ 18446744073709551615) (h0 : 0 < q) (hr : mkRat p q = r) (hs : decide (r.num < 0) = sg) : Calls Tryd.prog 58 #[.int .i64 p, .int .u64 (q : Int)] W (QRw W sg r) := by
  obtain ⟨sp, hsp⟩ : ∃ x, x = decide (p < 0) := ⟨_, rfl⟩
  have bp : dl p.natAbs ≤ 99999 := Nat.le_trans (dl_le (k := 2) (Nat.lt_of_lt_of_le (show p.natAbs < 18446744073709551616 by omega) (by decide))) (by decide)
  have bq : dl q ≤ 99999 := Nat.le_trans (dl_le (k := 2) (Nat.lt_of_lt_of_le (show q < 18446744073709551616 by omega) (by decide))) (by decide)
  have CZ : Hid (∀ W', Calls Tryd.prog 28 #[.int .i64 p] W' (ZRu W' sp p)) := fun W' => by rw [hsp]; exact zof_h hp.1 hp.2
  have CN : Hid (∀ W', Calls Tryd.prog 12 #[.int .u64 (q : Int)] W' (NumR W' q)) := fun W' => of_h hq
  have CQ : Hid (∀ W' B e B' e', ZA W' sp B (dl p.natAbs) e p → Nm W' B' (dl q) e' q → Calls Tryd.prog 70 #[.agg #[.bool sp, .slice B (dl p.natAbs) e], .agg #[.slice B' (dl q) e']] W' (OfYw W' sg r)) := fun W' B e B' e' h1 h2 => by
    have h3 := of_yes h1 h2 h0 hr bp bq
    unfold OfYes at h3
    rw [hs] at h3
    exact h3
  clear hp hq h0 hr hs hsp bp bq
  have HB := Bel.refl W
  go_enter Tryd.func58, Tryd.ntmps58
  go_wp2_with (first | (go_at_call 28; (with_reducible refine (CZ.out _).mono ?_); rintro e w1 ⟨B1, e1, rfl, z1, hbk⟩; (with_reducible (have HR : At w1 W.heap.size [.bool false, .slice none 0 0, .slice none 0 0] := At.up (at_new0 _ _ _) hbk; replace HB := (HB.al _).up hbk))) | (go_at_call 12; (with_reducible refine (CN.out _).mono ?_); rintro e w2 ⟨B2, e2, rfl, n2, hbk⟩; (with_reducible (replace HB := HB.up hbk; replace HR := HR.up hbk; replace z1 := z1.up hbk))) | (go_at_call 70; (with_reducible refine (CQ.out _ _ _ _ _ z1 n2).mono ?_); rintro e w3 ⟨B3, e3, B4, e4, rfl, z3, n3, hbk⟩; (with_reducible (replace HB := HB.up hbk; replace HR := HR.up hbk)); have hr_l := HR.lt; have hs_0 := HR.c0; have hs_1 := HR.c1; have hs_2 := HR.c2; have hs_f0 := HR.f0; have hs_f1 := HR.f1; have hs_f2 := HR.f2) | fail)
  have n0 := z3.1
  refine name_end ?_
  intro W4 hW4
  have HF : At W4 W.heap.size [.bool sg, .slice B3 (dl r.num.natAbs) e3, .slice B4 (dl r.den) e4] := by rw [hW4]; (repeat (first | with_reducible exact HR | (with_reducible refine At.al ?_ _) | (with_reducible refine At.uput3 (v0 := .bool false) (v1 := .slice none 0 0) (v2 := .slice none 0 0) ?_ _ _ _)))
  have NF : Nm W4 B3 (dl r.num.natAbs) e3 r.num.natAbs := by rw [hW4]; (repeat (first | with_reducible exact n0 | with_reducible exact HR | (with_reducible refine Nm.al ?_ _) | (with_reducible refine Nm.putq ?_ ?_ _ _ _ _ _ _ _)))
  have DF : Nm W4 B4 (dl r.den) e4 r.den := by rw [hW4]; (repeat (first | with_reducible exact n3 | with_reducible exact HR | (with_reducible refine Nm.al ?_ _) | (with_reducible refine Nm.putq ?_ ?_ _ _ _ _ _ _ _)))
  have BF : Bel W W4 := by rw [hW4]; (repeat (first | with_reducible exact HB | (with_reducible refine Bel.al ?_ _) | (with_reducible refine Bel.uput3 ?_ (Nat.le_refl _) _ _ _)))
  clear hW4
  refine bodyPost_ret (v := .agg #[.bool sg, .slice B3 (dl r.num.natAbs) e3, .slice B4 (dl r.den) e4]) (by simp [results, Tryd.results58, go_sem, HF.c0, HF.c1, HF.c2]) rfl ?_
  exact ⟨B3, e3, B4, e4, rfl, z3.mv NF, DF, BF⟩
theorem dec_2 : decL 2 = [50] := decL_lit (ds := [2]) (by intro x hx; simp at hx; subst hx; decide) (by intro x hx; simp at hx; subst hx; decide) rfl (by decide) (by decide)
theorem lt10_3u {a b c : Nat} (ha : a < 10) (hb : b < 10) (hc : c < 10) : ∀ x ∈ [a, b, c], x < 10 := by
  intro x hx; simp at hx; rcases hx with rfl | rfl | rfl <;> assumption
theorem dec_100 : decL 100 = [49, 48, 48] := decL_lit (ds := [0, 0, 1]) (lt10_3u (by decide) (by decide) (by decide)) (by intro x hx; simp at hx; subst hx; decide) rfl (by decide) (by decide)
theorem dec_999 : decL 999 = [57, 57, 57] := decL_lit (ds := [9, 9, 9]) (lt10_3u (by decide) (by decide) (by decide)) (by intro x hx; simp at hx; subst hx; decide) rfl (by decide) (by decide)
theorem dec_10 : decL 10 = [49, 48] := decL_lit (ds := [0, 1]) (by intro x hx; simp at hx; rcases hx with rfl | rfl <;> decide) (by intro x hx; simp at hx; subst hx; decide) rfl (by decide) (by decide)
theorem decd_0 (m : Nat) : decD false m 0 = decL m := by
  unfold decD
  rw [if_neg (by decide), if_pos rfl]
  simp
def x52 : Rat := mkRat 5 2
def x999 : Rat := mkRat 999 10
def ten_ : Rat := ((10 : Int) : Rat)
theorem x52_num : x52.num = 5 := by decide +kernel
theorem x52_den : x52.den = 2 := by decide +kernel
theorem x999_num : x999.num = 999 := by decide +kernel
theorem x999_den : x999.den = 10 := by decide +kernel
theorem bd_lit {r : Rat} {a b : Nat} (ha : r.num.natAbs = a) (hb : r.den = b) (h1 : a < 4294967296) (h2 : b < 4294967296) : Bd r 1 := by
  unfold Bd
  rw [ha, hb, Nat.pow_one]
  exact ⟨h1, h2⟩
theorem x52_bd : Bd x52 1 := bd_lit (a := 5) (b := 2) (by rw [x52_num]; rfl) x52_den (by decide) (by decide)
theorem x999_bd : Bd x999 1 := bd_lit (a := 999) (b := 10) (by rw [x999_num]; rfl) x999_den (by decide) (by decide)
theorem ten_bd : Bd ten_ 1 := bd_lit (a := 10) (b := 1) rfl rfl (by decide) (by decide)
theorem ten1_bd : Bd (ten_ ^ 1) 1 := bd_lit (a := 10) (b := 1) (by decide +kernel) (by decide +kernel) (by decide) (by decide)
theorem to_52 {A A' : Option Addr} {c c' : Nat} (nz : ZA W false A (dl x52.num.natAbs) c x52.num) (nd : Nm W A' (dl x52.den) c' x52.den) : Calls Tryd.prog 57 #[.agg #[.bool false, .slice A (dl x52.num.natAbs) c, .slice A' (dl x52.den) c'], .int .i64 0, .int .i64 7] W (ToR W false 2 0) :=
  to_ok (s := 0) (m := 7) (qa_self nz nd x52_bd) (by decide) (by decide) (by decide) (by decide) (t := 2) (by decide +kernel)
set_option maxHeartbeats 4000000 in
theorem sig_999 {A A' : Option Addr} {c c' : Nat} (nz : ZA W false A (dl x999.num.natAbs) c x999.num) (nd : Nm W A' (dl x999.den) c' x999.den) : Calls Tryd.prog 59 #[.agg #[.bool false, .slice A (dl x999.num.natAbs) c, .slice A' (dl x999.den) c'], .int .i64 2, .int .i64 6] W (ToR W false 100 0) := by
  refine sig_walk (m := 6) (dg := 2) (e := 1) (sc := 0) (u := 1) (um := 1) (us := 0) (v := 100) (sg := false) (by decide) (by decide) ?_ (by decide) ?_ (by decide) (by decide) (by decide) ?_ ?_ ?_
  · intro W' hw
    exact rsign_h (K := 1) (qa_self (nz.up hw.hid) (nd.up hw.hid) x999_bd) (by decide) (by rw [x999_num]; rfl)
  · intro W' hw
    have h1 := expo_h (W := W') (tn := ten_) (K := 1) (pw := ten_ ^ 1) (e := 1) (L1 := 3) (L2 := 2) rfl (nz.up hw.hid) (nd.up hw.hid) (by rw [x999_den]; decide) (by rw [x999_num, show (999 : Int).natAbs = 999 from rfl, dec_999]; rfl) (by rw [x999_den, dec_10]; rfl) (by decide) (by decide) (by decide)
      (fun W2 B f B' f' h2 h3 => rpow_p (k := 1) (qa_self h2 h3 ten_bd) (by decide +kernel) ten_bd (by decide) (by decide) (by decide)) x999_bd.1 x999_bd.2 ten1_bd (by decide) (by decide)
    rwa [if_neg (by rw [x999_num, x999_den]; decide +kernel)] at h1
  · intro W'
    exact unit_p (s := 0) (by decide)
  · intro W' B f hw hn
    have h1 := multiple_h (W := W') (b' := false) (s := 0) (m := 6) (qa_self (nz.up hw.hid) (nd.up hw.hid) x999_bd) hn (show 1 < W32 ^ 1 by decide) (by decide) (by decide) (by decide) (by decide)
    rw [show rdR 6 (x999 * mkRat (10 ^ 0 : Nat) 1) = 100 by decide +kernel] at h1
    exact h1
  · intro W' B f hn
    exact (limit_0 hn).mono fun _ _ ⟨h1, h2, h3⟩ => ⟨B, f, h1, h2, h3⟩
set_option maxHeartbeats 8000000 in
theorem awake5_any (W : World) : Calls Tryd.prog 55 #[] W (BoolR W true) := by
  obtain ⟨v, hv⟩ : ∃ v : Nat, v = 2 := ⟨_, rfl⟩
  obtain ⟨v', hv'⟩ : ∃ v : Nat, v = 100 := ⟨_, rfl⟩
  have CO : Hid (∀ W', Calls Tryd.prog 58 #[.int .i64 5, .int .u64 2] W' (QRw W' false x52)) := fun W' => over_h (q := 2) (by decide) (by decide) (by decide) rfl (by rw [x52_num]; rfl)
  have CO2 : Hid (∀ W', Calls Tryd.prog 58 #[.int .i64 999, .int .u64 10] W' (QRw W' false x999)) := fun W' => over_h (q := 10) (by decide) (by decide) (by decide) rfl (by rw [x999_num]; rfl)
  have CT : Hid (∀ (W' : World) A c A' c', ZA W' false A (dl x52.num.natAbs) c x52.num → Nm W' A' (dl x52.den) c' x52.den → Calls Tryd.prog 57 #[.agg #[.bool false, .slice A (dl x52.num.natAbs) c, .slice A' (dl x52.den) c'], .int .i64 0, .int .i64 7] W' (ToR W' false v 0)) := fun W' A c A' c' h1 h2 => by rw [hv]; exact to_52 h1 h2
  have CS : Hid (∀ (W' : World) A c A' c', ZA W' false A (dl x999.num.natAbs) c x999.num → Nm W' A' (dl x999.den) c' x999.den → Calls Tryd.prog 59 #[.agg #[.bool false, .slice A (dl x999.num.natAbs) c, .slice A' (dl x999.den) c'], .int .i64 2, .int .i64 6] W' (ToR W' false v' 0)) := fun W' A c A' c' h1 h2 => by rw [hv']; exact sig_999 h1 h2
  have CX : Hid (∀ (W' : World) A c, Nm W' A (dl v) c v → Calls Tryd.prog 51 #[.agg #[.bool false, .slice A (dl v) c, .int .i64 0]] W' (UStr W' ⟨#[50]⟩)) := fun W' A c h => (dtext_h (dx_can (b := false) (s := 0) h (by decide) (fun h => by cases h)).y (by rw [hv]; exact Nat.le_trans (dl_le (k := 1) (by decide)) (by decide))).mono fun _ _ h1 => ustr_of h1 (by rw [decd_0, hv, dec_2])
  have CX2 : Hid (∀ (W' : World) A c, Nm W' A (dl v') c v' → Calls Tryd.prog 51 #[.agg #[.bool false, .slice A (dl v') c, .int .i64 0]] W' (UStr W' ⟨#[49, 48, 48]⟩)) := fun W' A c h => (dtext_h (dx_can (b := false) (s := 0) h (by decide) (fun h => by cases h)).y (by rw [hv']; exact Nat.le_trans (dl_le (k := 1) (by decide)) (by decide))).mono fun _ _ h1 => ustr_of h1 (by rw [decd_0, hv', dec_100])
  have CM : Hid (∀ W', Calls Tryd.prog 105 #[.int .i64 1] W' (RetB W' true)) := fun W' => mode_h (m := 1)
  have CM2 : Hid (∀ W', Calls Tryd.prog 105 #[.int .i64 8] W' (RetB W' false)) := fun W' => mode_h (m := 8)
  obtain ⟨x, hx⟩ : ∃ x, x = x52 := ⟨_, rfl⟩
  obtain ⟨y, hy⟩ : ∃ x, x = x999 := ⟨_, rfl⟩
  rw [← hx] at CO CT
  rw [← hy] at CO2 CS
  clear hv hv' hx hy
  have HB := Bel.refl W
  go_enter Tryd.func55, Tryd.ntmps55
  go_wp2_with (first | (go_at_call 58; (with_reducible refine (CO.out _).mono ?_); rintro e w1 ⟨A1, c1, A2, c2, rfl, z1, n1, hbk⟩; (with_reducible (replace HB := HB.up hbk))) | (go_at_call 57; (with_reducible refine (CT.out _ _ _ _ _ z1 n1).mono ?_); rintro e w2 ⟨A3, c3, rfl, n3, hbk⟩; (with_reducible (replace HB := HB.up hbk))) | (go_at_call 58; (with_reducible refine (CO2.out _).mono ?_); rintro e w3 ⟨A4, c4, A5, c5, rfl, z4, n4, hbk⟩; (with_reducible (have HA : At w3 w2.heap.size [.bool false, .slice A3 (dl v) c3, .int .i64 0] := At.up (at_new0 _ _ _) hbk; replace HB := (HB.al _).up hbk; replace n3 := (n3.al _).up hbk)); have ha_0 := HA.c0; have ha_1 := HA.c1; have ha_2 := HA.c2; have ha_l := HA.lt) | (go_at_call 59; (with_reducible refine (CS.out _ _ _ _ _ z4 n4).mono ?_); rintro e w4 ⟨A6, c6, rfl, n6, hbk⟩; (with_reducible (replace HB := HB.up hbk; replace HA := HA.up hbk; replace n3 := n3.up hbk)); clear ha_0 ha_1 ha_2 ha_l; have ha_0 := HA.c0; have ha_1 := HA.c1; have ha_2 := HA.c2; have ha_l := HA.lt) | (go_at_call 51; (with_reducible refine (CX.out _ _ _ (n3.al _)).mono ?_); rintro e w5 ⟨rfl, hbk⟩; (with_reducible (have HC : At w5 w4.heap.size [.bool false, .slice A6 (dl v') c6, .int .i64 0] := At.up (at_new0 _ _ _) hbk; replace HB := (HB.al _).up hbk; replace n6 := (n6.al _).up hbk)); clear ha_0 ha_1 ha_2 ha_l; have hc_0 := HC.c0; have hc_1 := HC.c1; have hc_2 := HC.c2; have hc_l := HC.lt) | (go_at_call 51; (with_reducible refine (CX2.out _ _ _ n6).mono ?_); rintro e w6 ⟨rfl, hbk⟩; (with_reducible (replace HB := HB.up hbk)); clear hc_0 hc_1 hc_2 hc_l) | (go_at_call 105; (with_reducible refine (CM.out _).mono ?_); rintro e w7 ⟨rfl, hbk⟩; replace hbk := Bel.hid hbk; (with_reducible (replace HB := HB.up hbk))) | (go_at_call 105; (with_reducible refine (CM2.out _).mono ?_); rintro e w8 ⟨rfl, hbk⟩; replace hbk := Bel.hid hbk; (with_reducible (replace HB := HB.up hbk))) | fail)
  go_ret
  exact ⟨rfl, HB⟩
end
end Go.Proofs.YteieelgdiccppaaDoor
end

section
/- RoundNear in numbers. No conditions. -/
open Go.RowKit
set_option maxRecDepth 100000
namespace Go.Proofs.YteieelgdiccppaaDoor
theorem cmpR_lt {a b : Rat} (h : a < b) : cmpR a b = -1 := by unfold cmpR; rw [if_pos h]
theorem cmpR_self (a : Rat) : cmpR a a = 0 := by unfold cmpR; rw [if_neg Rat.lt_irrefl, if_neg Rat.lt_irrefl]
theorem cmpR_le {a b : Rat} (h : ¬ b < a) : cmpR a b ≤ 0 := by
  unfold cmpR
  split
  · decide
  · simp [h]
theorem zi_sign (t : Int) : zi (decide (t < 0)) t.natAbs = t := (zi_dec t).symm
theorem rd_abs {m p : Int} {q : Nat} : (rdZ m p q).natAbs ≤ p.natAbs + 1 := by
  have h1 := nabs_div_le p q
  unfold rdZ
  split
  · simp
  · split
    · omega
    · split <;> omega
/-- What stands off: a over the denominator and the power of ten, a less than the denominator. -/
theorem off_mk {r : Rat} {P : Nat} {t : Int} (hP : 0 < P) : mkRat t P + -r = mkRat (t * ((r * mkRat (P : Int) 1).den : Int) - (r * mkRat (P : Int) 1).num) (P * (r * mkRat (P : Int) 1).den) := by
  obtain ⟨X, hX⟩ : ∃ X, X = r * mkRat (P : Int) 1 := ⟨_, rfl⟩
  rw [← hX]
  have hP' : (P : Int) ≠ 0 := by omega
  have hr : r = mkRat X.num (X.den * P) := by
    have h1 : mkRat (P : Int) 1 * mkRat 1 P = 1 := by
      rw [mul_mk, Int.mul_one, Nat.one_mul]
      have := Rat.mkRat_mul_right (n := 1) (d := 1) (a := P) (by omega)
      rw [Int.one_mul, Nat.one_mul] at this
      rw [this]; rfl
    calc r = r * (mkRat (P : Int) 1 * mkRat 1 P) := by rw [h1, Rat.mul_one]
      _ = X * mkRat 1 P := by rw [← Rat.mul_assoc, ← hX]
      _ = mkRat X.num X.den * mkRat 1 P := by rw [Rat.mkRat_self]
      _ = mkRat X.num (X.den * P) := by rw [mul_mk, Int.mul_one]
  have hd : 0 < X.den := X.den_pos
  conv => lhs; rw [hr, neg_mk, add_mk hP (Nat.mul_pos hd hP)]
  have e1 : t * ((X.den * P : Nat) : Int) + -X.num * (P : Int) = (t * (X.den : Int) - X.num) * (P : Int) := by
    rw [Int.natCast_mul, Int.sub_mul, Int.neg_mul, Int.mul_assoc]; rfl
  have e2 : P * (X.den * P) = P * X.den * P := by rw [Nat.mul_assoc]
  rw [e1, e2]
  exact Rat.mkRat_mul_right (by omega)
structure Near (r rD un off ab : Rat) (t m : Int) (P : Nat) : Prop where
  lt : cmpR ab un = -1
  half : 5 ≤ m → cmpR (ab + ab) un ≤ 0
  again : rdR m (rD * mkRat (P : Int) 1) = t
theorem near_of {r rD un off ab : Rat} {t m : Int} {P : Nat} (hP : 0 < P) (ht : rdR m (r * mkRat (P : Int) 1) = t) (hD : mkRat t P = rD) (hu : mkRat 1 P = un) (ho : rD + -r = off) (ha : ab = if off.num < 0 then -off else off) : Near r rD un off ab t m P := by
  have h1 := off_mk (r := r) (t := t) hP
  rw [hD, ho] at h1
  obtain ⟨X, hX⟩ : ∃ X, X = r * mkRat (P : Int) 1 := ⟨_, rfl⟩
  rw [← hX] at h1 ht
  have hd : 0 < X.den := X.den_pos
  obtain ⟨n1, n2, n3⟩ := rd_near (m := m) (p := X.num) hd
  unfold rdR at ht
  rw [ht] at n1 n2 n3
  obtain ⟨a, hA⟩ : ∃ a, a = t * (X.den : Int) - X.num := ⟨_, rfl⟩
  rw [← hA] at h1 n1 n2 n3
  have hQ : 0 < P * X.den := Nat.mul_pos hP hd
  have hsg : off.num < 0 ↔ a < 0 := by
    have h2 := sign_mk (z := a) hQ
    rw [← h1] at h2
    rw [← Int.sign_neg_iff, h2, Int.sign_neg_iff]
  have hab : ab = mkRat (a.natAbs : Int) (P * X.den) := by
    rw [ha]
    by_cases h3 : a < 0
    · rw [if_pos (hsg.2 h3), h1, neg_mk, show -a = (a.natAbs : Int) by omega]
    · rw [if_neg (fun h => h3 (hsg.1 h)), h1, show a = (a.natAbs : Int) by omega]; simp
  have hPi : (0 : Int) < (P : Int) := by omega
  refine ⟨?_, fun h5 => ?_, ?_⟩
  · refine cmpR_lt ?_
    rw [hab, ← hu, mk_lt hQ hP, Int.one_mul, Int.natCast_mul, Int.mul_comm (P : Int)]
    exact Int.mul_lt_mul_of_pos_right (by omega) hPi
  · refine cmpR_le ?_
    have h6 := n3 h5
    rw [hab, ← hu, add_mk hQ hQ, mk_lt hP (Nat.mul_pos hQ hQ)]
    have e1 : ((a.natAbs : Int) * ((P * X.den : Nat) : Int) + (a.natAbs : Int) * ((P * X.den : Nat) : Int)) = ((a.natAbs : Int) + (a.natAbs : Int)) * ((P * X.den : Nat) : Int) := by rw [Int.add_mul]
    have e2 : ((P * X.den * (P * X.den) : Nat) : Int) = (X.den : Int) * (P : Int) * ((P * X.den : Nat) : Int) := by rw [Int.natCast_mul, Int.natCast_mul, Int.mul_comm (P : Int)]
    rw [e1, e2, Int.one_mul, Int.mul_assoc, Int.mul_assoc, Int.mul_comm ((P * X.den : Nat) : Int), ← Int.mul_assoc, ← Int.mul_assoc]
    refine Int.not_lt.2 (Int.mul_le_mul_of_nonneg_right (Int.mul_le_mul_of_nonneg_right (by omega) (by omega)) (by omega))
  · rw [← hD]
    have e : mkRat t P * mkRat (P : Int) 1 = (t : Rat) := by
      rw [mul_mk, Nat.mul_one]
      have := Rat.mkRat_mul_right (n := t) (d := 1) (a := P) (by omega)
      rw [Nat.one_mul] at this
      rw [this, Rat.mkRat_one]
    rw [e, rdR_int]
end Go.Proofs.YteieelgdiccppaaDoor
end

section
/- RoundOrder in numbers: rounding keeps the order, and turns with the sign. No conditions. -/
open Go.RowKit
set_option maxRecDepth 100000
namespace Go.Proofs.YteieelgdiccppaaDoor
theorem rdUp_mono {m f : Int} {r r' q : Nat} (h : r ≤ r') (hu : rdUp m f r q = true) : rdUp m f r' q = true := by
  unfold rdUp at *
  by_cases h4 : m ≤ 4
  · rw [if_pos h4] at *; exact hu
  · rw [if_neg h4] at *
    by_cases h1 : r + r < q
    · rw [if_pos h1] at hu; cases hu
    · rw [if_neg h1] at hu
      rw [if_neg (by omega)]
      by_cases h2 : q < r' + r'
      · rw [if_pos h2]
      · rw [if_neg h2]
        rw [if_neg (by omega)] at hu
        exact hu
theorem rdZ_mono {m p p' : Int} {q : Nat} (h : p ≤ p') : rdZ m p q ≤ rdZ m p' q := by
  by_cases hq : q = 0
  · unfold rdZ; rw [if_pos hq, if_pos hq]; exact Int.le_refl _
  have hq0 : (0 : Int) < (q : Int) := by omega
  have h1 := Int.emod_add_mul_ediv p (q : Int)
  have h2 := Int.emod_nonneg p (by omega : (q : Int) ≠ 0)
  have h3 := Int.emod_lt_of_pos p hq0
  have h1' := Int.emod_add_mul_ediv p' (q : Int)
  have h2' := Int.emod_nonneg p' (by omega : (q : Int) ≠ 0)
  have h3' := Int.emod_lt_of_pos p' hq0
  have hfg : p / (q : Int) ≤ p' / (q : Int) := Int.ediv_le_ediv hq0 h
  obtain ⟨f, hf⟩ : ∃ f, f = p / (q : Int) := ⟨_, rfl⟩
  obtain ⟨g, hg⟩ : ∃ g, g = p' / (q : Int) := ⟨_, rfl⟩
  obtain ⟨r, hr⟩ : ∃ r, r = p % (q : Int) := ⟨_, rfl⟩
  obtain ⟨r', hr'⟩ : ∃ r, r = p' % (q : Int) := ⟨_, rfl⟩
  unfold rdZ
  rw [if_neg hq, if_neg hq, ← hf, ← hg, ← hr, ← hr']
  rw [← hf, ← hr] at h1
  rw [← hg, ← hr'] at h1'
  rw [← hr] at h2 h3
  rw [← hr'] at h2' h3'
  rw [← hf, ← hg] at hfg
  rcases Int.lt_or_eq_of_le hfg with hlt | heq
  · split <;> split <;> (try split) <;> (try split) <;> omega
  · subst heq
    have hrr : r ≤ r' := by omega
    by_cases h0 : r = 0
    · rw [if_pos h0]
      split
      · omega
      · split <;> omega
    · rw [if_neg h0, if_neg (show ¬ r' = 0 by omega)]
      by_cases hu : rdUp m f r.natAbs q = true
      · rw [if_pos hu, if_pos (rdUp_mono (by omega) hu)]; exact Int.le_refl _
      · rw [if_neg hu]; split <;> omega
theorem rdR_mono {m : Int} {X Y : Rat} (h : X ≤ Y) : rdR m X ≤ rdR m Y := by
  have hx := X.den_pos
  have hy := Y.den_pos
  have e1 : X = mkRat (X.num * (Y.den : Int)) (X.den * Y.den) := by
    rw [Rat.mkRat_mul_right (by omega)]; exact (Rat.mkRat_self X).symm
  have e2 : Y = mkRat (Y.num * (X.den : Int)) (X.den * Y.den) := by
    rw [Nat.mul_comm X.den, Rat.mkRat_mul_right (by omega)]; exact (Rat.mkRat_self Y).symm
  have h1 : X.num * (Y.den : Int) ≤ Y.num * (X.den : Int) := (Rat.le_iff X Y).1 h
  have k1 : rdR m X = rdZ m (X.num * (Y.den : Int)) (X.den * Y.den) := by rw [rdZ_mk, ← e1]
  have k2 : rdR m Y = rdZ m (Y.num * (X.den : Int)) (X.den * Y.den) := by rw [rdZ_mk, ← e2]
  rw [k1, k2]
  exact rdZ_mono h1
/-- The mode that is turned about with the sign. -/
def turn (m : Int) : Int := if m = 3 then 4 else if m = 4 then 3 else m
theorem lnUp_turn {m f : Int} (hm : 1 ≤ m ∧ m ≤ 7) : lnUp (turn m) (-f - 1) = !lnUp m f := by
  have hmm : m = 1 ∨ m = 2 ∨ m = 3 ∨ m = 4 ∨ m = 5 ∨ m = 6 ∨ m = 7 := by omega
  have a1 : decide (-f - 1 < 0) = !decide (f < 0) := by
    by_cases h : f < 0
    · rw [decide_eq_true h, decide_eq_false (by omega)]; rfl
    · rw [decide_eq_false h, decide_eq_true (by omega)]; rfl
  have a2 : decide ((-f - 1) % 2 ≠ 0) = !decide (f % 2 ≠ 0) := by
    by_cases h : f % 2 ≠ 0
    · rw [decide_eq_true h, decide_eq_false (by omega)]; rfl
    · rw [decide_eq_false h, decide_eq_true (by omega)]; rfl
  rcases hmm with rfl | rfl | rfl | rfl | rfl | rfl | rfl
  · show decide (-f - 1 < 0) = !decide (f < 0); exact a1
  · show (!decide (-f - 1 < 0)) = !!decide (f < 0); rw [a1]
  · rfl
  · rfl
  · show decide (-f - 1 < 0) = !decide (f < 0); exact a1
  · show (!decide (-f - 1 < 0)) = !!decide (f < 0); rw [a1]
  · show decide ((-f - 1) % 2 ≠ 0) = !decide (f % 2 ≠ 0); exact a2
theorem turn_le {m : Int} (hm : 1 ≤ m ∧ m ≤ 7) : (turn m ≤ 4 ↔ m ≤ 4) ∧ 1 ≤ turn m ∧ turn m ≤ 7 := by
  unfold turn
  split
  · omega
  · split <;> omega
theorem rdZ_neg {m p : Int} {q : Nat} (hm : 1 ≤ m ∧ m ≤ 7) : rdZ (turn m) (-p) q = -rdZ m p q := by
  by_cases hq : q = 0
  · unfold rdZ; rw [if_pos hq, if_pos hq]; rfl
  have hq0 : (0 : Int) < (q : Int) := by omega
  have h1 := Int.emod_add_mul_ediv p (q : Int)
  have h2 := Int.emod_nonneg p (by omega : (q : Int) ≠ 0)
  have h3 := Int.emod_lt_of_pos p hq0
  obtain ⟨f, hf⟩ : ∃ f, f = p / (q : Int) := ⟨_, rfl⟩
  obtain ⟨r, hr⟩ : ∃ r, r = p % (q : Int) := ⟨_, rfl⟩
  rw [← hf, ← hr] at h1
  rw [← hr] at h2 h3
  by_cases h0 : r = 0
  · have u := unique_pos (a := -p) (q := -f) (r := 0) (k := q) (by omega) (by rw [Int.mul_neg]; omega) (by omega) (by omega)
    unfold rdZ
    rw [if_neg hq, if_neg hq, u.1, u.2, ← hf, ← hr, if_pos rfl, if_pos h0]
  · have u := unique_pos (a := -p) (q := -f - 1) (r := (q : Int) - r) (k := q) (by omega) (by rw [Int.mul_sub, Int.mul_neg]; omega) (by omega) (by omega)
    unfold rdZ
    rw [if_neg hq, if_neg hq, u.1, u.2, ← hf, ← hr, if_neg (by omega), if_neg h0]
    have hup : rdUp (turn m) (-f - 1) ((q : Int) - r).natAbs q = !rdUp m f r.natAbs q := by
      unfold rdUp
      by_cases h4 : m ≤ 4
      · rw [if_pos ((turn_le hm).1.2 h4), if_pos h4]; exact lnUp_turn hm
      · rw [if_neg (fun h => h4 ((turn_le hm).1.1 h)), if_neg h4]
        by_cases c1 : r.natAbs + r.natAbs < q
        · rw [if_neg (by omega), if_pos (by omega), if_pos c1]; rfl
        · by_cases c2 : q < r.natAbs + r.natAbs
          · rw [if_pos (by omega), if_neg c1, if_pos c2]; rfl
          · rw [if_neg (by omega), if_neg (by omega), if_neg c1, if_neg c2]; exact lnUp_turn hm
    rw [hup]
    cases rdUp m f r.natAbs q
    · rw [if_pos (by rfl), if_neg (by decide)]; omega
    · rw [if_neg (by decide), if_pos rfl]; omega
theorem rdR_neg {m : Int} {X : Rat} (hm : 1 ≤ m ∧ m ≤ 7) : rdR (turn m) (-X) = -rdR m X := by
  unfold rdR
  rw [Rat.neg_num, Rat.neg_den]
  exact rdZ_neg hm
end Go.Proofs.YteieelgdiccppaaDoor
end

section
/- Package rat: Neg, Add. -/
open Go.RowKit
set_option maxRecDepth 100000
namespace Go.Proofs.YteieelgdiccppaaDoor
section
variable {W : World} {b b' s s' : Bool} {A A' B B' : Option Addr} {n n' c c' m m' k k' e e' : Nat} {z z' : Int} {r r' : Rat} {K L d d' : Nat}
set_option maxHeartbeats 2000000 in
theorem rneg_h (h : QA W b A n c A' n' c' r K) (hK : 0 < K) (hK2 : K ≤ 20000) : Calls Tryd.prog 66 #[.agg #[.bool b, .slice A n c, .slice A' n' c']] W (QR W (-r)) := by
  have CT : Hid (∀ W', Bel W W' → Calls Tryd.prog 112 #[.agg #[.bool b, .slice A n c, .slice A' n' c']] W' (TermsR W' r K)) := fun W' hb => terms_h (h.up hb) hK
  have CN : Hid (∀ W' s B k e z v, ZA W' s B k e z → Hid (v = -z) → Calls Tryd.prog 35 #[.agg #[.bool s, .slice B k e]] W' (ZR W' v)) := fun W' s B k e z v hz hv => zneg_h hz hv.out.symm
  have CL : Hid (∀ W' s B k e B' k' e' z d v, ZA W' s B k e v → Hid (v = -z) → Nm W' B' k' e' d → Hid (TT z d r K) → Calls Tryd.prog 111 #[.agg #[.bool s, .slice B k e], .agg #[.slice B' k' e']] W' (QR W' (-r))) := fun W' s B k e B' k' e' z d v hz hv hd ht => lowest_t (show ZA W' s B k e (-z) by rw [← hv.out]; exact hz) hd (tt_neg ht.out) (by omega) (by omega)
  clear h
  have HB := Bel.refl W
  go_enter Tryd.func66, Tryd.ntmps66
  go_wp2_with (first | (go_at_call 112; (with_reducible refine (CT.out _ ((HB.al _).al _)).mono ?_); rintro e w1 ⟨ps, pA, pn, pc, pB, pm, pe, pz, pd, rfl, pzz, pnn, ph, hbk⟩; have HR := At.up (at_new1 _ _ _ _) hbk; replace HB := ((HB.al _).al _).up hbk; replace ph : Hid (TT pz pd r K) := ph; have hLR := HR.lt) | fail)
  go_region_held3 (fun w' => w'.cell? ⟨w1.heap.size, 0, none⟩ = some (.bool ps) ∧ w'.cell? ⟨w1.heap.size, 1, none⟩ = some (.slice pA pn pc) ∧ w'.cell? ⟨w1.heap.size + 1, 0, none⟩ = some (.slice pB pm pe))
    (first | exact ⟨((at_new0 _ _ _).al _).dr.c0, ((at_new0 _ _ _).al _).dr.c1, (at_new1 _ _ _ _).dr.c0⟩ | exact ⟨HP.c0, HP.c1, HN.c0⟩ | exact ⟨(((HP.far (by omega) _).far (by omega) _).far (by omega) _).c0, (((HP.far (by omega) _).far (by omega) _).far (by omega) _).c1, (((HN.far (by omega) _).far (by omega) _).far (by omega) _).c0⟩)
    (first | (go_at_call 35; obtain ⟨nv, hnv⟩ : ∃ v : Int, Hid (v = -pz) := ⟨_, rfl⟩; (with_reducible refine (CN.out _ _ _ _ _ _ nv ((pzz.al _).al _).dr hnv).mono ?_); rintro e w2 ⟨nA, nc, rfl, nzz, hbk⟩; have HP := At.up ((at_new0 _ _ _).al _).dr hbk; have HN := At.up (at_new1 _ _ _ _).dr hbk; replace HB := ((HB.al _).al _).dr.up hbk; replace HR := ((HR.al _).al _).dr.up hbk; replace pnn := ((pnn.al _).al _).dr.up hbk; have hL := HP.lt; have hL1 := HN.lt) | (go_at_call 111; (with_reducible refine (CL.out _ _ _ _ _ _ _ _ _ _ _ nzz hnv pnn ph).mono ?_); rintro e w3 ⟨B, e1, B', e2, rfl, nz, nd, hbk⟩; replace HB := HB.up hbk; replace HR := HR.up hbk; replace HP := HP.up hbk; replace HN := HN.up hbk; have hr_0 := HR.c0; have hr_1 := HR.c1; have hr_2 := HR.c2; have hr_l := HR.lt; have hr_f0 := HR.f0; have hr_f1 := HR.f1; have hr_f2 := HR.f2) | fail)
  go_wp2_with fail
  refine bodyPost_ret (v := .agg #[.bool (decide ((-r).num < 0)), .slice B (dl (-r).num.natAbs) e1, .slice B' (dl (-r).den) e2]) (by simp [results, Tryd.results66, go_sem, hr_0, hr_1, hr_2]) rfl ?_
  exact ⟨B, e1, B', e2, rfl, zr_of (nz.1.put3 HR now3), nd.put3 HR now3, below3 HB (by first | omega | simp | (simp; omega)) _ _ _⟩

set_option maxHeartbeats 4000000 in
theorem radd_h (h : QA W b A n c A' n' c' r K) (h' : QA W b' B k e B' k' e' r' K) (hK : 0 < K) (hK2 : K ≤ 20000) : Calls Tryd.prog 64 #[.agg #[.bool b, .slice A n c, .slice A' n' c'], .agg #[.bool b', .slice B k e, .slice B' k' e']] W (QR W (r + r')) := by
  have CTa : Hid (∀ W', Bel W W' → Calls Tryd.prog 112 #[.agg #[.bool b, .slice A n c, .slice A' n' c']] W' (TermsR W' r K)) := fun W' hb => terms_h (h.up hb) hK
  have CTb : Hid (∀ W', Bel W W' → Calls Tryd.prog 112 #[.agg #[.bool b', .slice B k e, .slice B' k' e']] W' (TermsR W' r' K)) := fun W' hb => terms_h (h'.up hb) hK
  have CX : Hid (∀ W' s B k e B' k' e' (z : Int) (d : Nat) r1 r2 (z2 : Int) (d2 : Nat) (v : Int), Hid (v = z * (d : Int)) → ZA W' s B k e z → Nm W' B' k' e' d → Hid (TT z d2 r1 K) → Hid (TT z2 d r2 K) → Calls Tryd.prog 115 #[.agg #[.bool s, .slice B k e], .agg #[.slice B' k' e']] W' (ZR W' v)) := fun W' s B k e B' k' e' z d r1 r2 z2 d2 v hv hz hd h1 h2 => by rw [hv.out]; exact times_b hz hd h1.out.2.2.1 h2.out.2.2.2 (by omega)
  have CA : Hid (∀ W' s B k e s' B' k' e' (z : Int) (d : Nat) (z' : Int) (d' : Nat) (x y : Int), Hid (x = z * (d' : Int)) → Hid (y = z' * (d : Int)) → ZA W' s B k e x → ZA W' s' B' k' e' y → Hid (TT z d r K) → Hid (TT z' d' r' K) → ∀ v, Hid (v = x + y) → Calls Tryd.prog 43 #[.agg #[.bool s, .slice B k e], .agg #[.bool s', .slice B' k' e']] W' (ZR W' v)) := fun W' s B k e s' B' k' e' z d z' d' x y hx hy h1 h2 t1 t2 v hv => zadd_h h1 h2 hv.out.symm (by rw [hv.out, hx.out, hy.out]; exact Nat.le_trans (dl_bd2 (tt_add t1.out t2.out).2.2.1 (by omega)) (by omega))
  have CM : Hid (∀ W' B k e B' k' e' z d z' d', Nm W' B k e d → Nm W' B' k' e' d' → Hid (TT z d r K) → Hid (TT z' d' r' K) → Calls Tryd.prog 72 #[.agg #[.slice B k e], .agg #[.slice B' k' e']] W' (NumR W' (d * d'))) := fun W' B k e B' k' e' z d z' d' h1 h2 t1 t2 => mul_h h1 h2 rfl (Nat.le_trans (dl_bd2 (tt_add t1.out t2.out).2.2.2 (by omega)) (by omega))
  have CL : Hid (∀ W' s B k e B' k' e' (z : Int) (d : Nat) (z' : Int) (d' : Nat) (x y v : Int), Hid (x = z * (d' : Int)) → Hid (y = z' * (d : Int)) → Hid (v = x + y) → ZA W' s B k e v → Nm W' B' k' e' (d * d') → Hid (TT z d r K) → Hid (TT z' d' r' K) → Calls Tryd.prog 111 #[.agg #[.bool s, .slice B k e], .agg #[.slice B' k' e']] W' (QR W' (r + r'))) := fun W' s B k e B' k' e' z d z' d' x y v hx hy hv h1 h2 t1 t2 => lowest_t (show ZA W' s B k e (z * (d' : Int) + z' * (d : Int)) by rw [← hx.out, ← hy.out, ← hv.out]; exact h1) h2 (tt_add t1.out t2.out) (by omega) (by omega)
  clear h h'
  have HB := Bel.refl W
  go_enter Tryd.func64, Tryd.ntmps64
  go_wp2_with (first | (go_at_call 112; (with_reducible refine (CTa.out _ (((HB.al _).al _).al _)).mono ?_); rintro e w1 ⟨ps, pA, pn, pc, pB, pm, pe, pz, pd, rfl, pzz, pnn, ph, hbk⟩; have HX := At.up (((at_new0 _ _ _).al _).al _) hbk; have HY := At.up ((at_new1 _ _ _ _).al _) hbk; have HR := At.up (at_new2 _ _ _ _ _) hbk; replace HB := (((HB.al _).al _).al _).up hbk; have hy_0 := HY.c0; have hy_1 := HY.c1; have hy_2 := HY.c2; have hy_l := HY.lt; have hy2 : W.heap.size < w1.heap.size := (by omega); replace ph : Hid (TT pz pd r K) := ph; have hLR := HR.lt) | (go_at_call 112; (with_reducible refine (CTb.out _ ((HB.al _).al _)).mono ?_); rintro e w2 ⟨qs, qA, qn, qc, qB, qm, qe, qz, qd, rfl, qzz, qnn, qh, hbk⟩; have HP := At.up ((at_new0 _ _ _).al _) hbk; have HN := At.up (at_new1 _ _ _ _) hbk; replace HB := ((HB.al _).al _).up hbk; replace pzz := ((pzz.al _).al _).up hbk; replace pnn := ((pnn.al _).al _).up hbk; replace HR := ((HR.al _).al _).up hbk; clear hy_0 hy_1 hy_2 hy_l hy2; have hp_l := HP.lt; have hn_l := HN.lt; replace qh : Hid (TT qz qd r' K) := qh; have hLR2 := HR.lt) | fail)
  go_region_held3 (fun w' => w'.cell? ⟨w1.heap.size, 0, none⟩ = some (.bool ps) ∧ w'.cell? ⟨w1.heap.size, 1, none⟩ = some (.slice pA pn pc) ∧ w'.cell? ⟨w1.heap.size + 1, 0, none⟩ = some (.slice pB pm pe) ∧ w'.cell? ⟨w2.heap.size, 0, none⟩ = some (.bool qs) ∧ w'.cell? ⟨w2.heap.size, 1, none⟩ = some (.slice qA qn qc) ∧ w'.cell? ⟨w2.heap.size + 1, 0, none⟩ = some (.slice qB qm qe))
    (first | exact ⟨((HP.al _).al _).dr.c0, ((HP.al _).al _).dr.c1, ((HN.al _).al _).dr.c0, ((at_new0 _ _ _).al _).dr.c0, ((at_new0 _ _ _).al _).dr.c1, (at_new1 _ _ _ _).dr.c0⟩ | exact ⟨HP.c0, HP.c1, HN.c0, HV.c0, HV.c1, HM.c0⟩ | exact ⟨(((HP.far (by omega) _).far (by omega) _).far (by omega) _).c0, (((HP.far (by omega) _).far (by omega) _).far (by omega) _).c1, (((HN.far (by omega) _).far (by omega) _).far (by omega) _).c0, (((HV.far (by omega) _).far (by omega) _).far (by omega) _).c0, (((HV.far (by omega) _).far (by omega) _).far (by omega) _).c1, (((HM.far (by omega) _).far (by omega) _).far (by omega) _).c0⟩)
    (first | (go_at_call 115; obtain ⟨xv, hxv⟩ : ∃ v : Int, Hid (v = pz * (qd : Int)) := ⟨_, rfl⟩; (with_reducible refine (CX.out _ _ _ _ _ _ _ _ _ _ _ _ _ _ xv hxv ((pzz.al _).al _).dr ((qnn.al _).al _).dr ph qh).mono ?_); rintro e w3 ⟨xA, xc, rfl, x1, hbk⟩; have HV := At.up ((at_new0 _ _ _).al _).dr hbk; have HM := At.up (at_new1 _ _ _ _).dr hbk; replace HB := ((HB.al _).al _).dr.up hbk; replace HP := ((HP.al _).al _).dr.up hbk; replace HN := ((HN.al _).al _).dr.up hbk; replace HR := ((HR.al _).al _).dr.up hbk; replace pzz := ((pzz.al _).al _).dr.up hbk; replace pnn := ((pnn.al _).al _).dr.up hbk; replace qzz := ((qzz.al _).al _).dr.up hbk; replace qnn := ((qnn.al _).al _).dr.up hbk) | (go_at_call 115; obtain ⟨yv, hyv⟩ : ∃ v : Int, Hid (v = qz * (pd : Int)) := ⟨_, rfl⟩; (with_reducible refine (CX.out _ _ _ _ _ _ _ _ _ _ _ _ _ _ yv hyv qzz pnn qh ph).mono ?_); rintro e w4 ⟨yA, yc, rfl, y1, hbk⟩; replace HB := HB.up hbk; replace HP := HP.up hbk; replace HN := HN.up hbk; replace HR := HR.up hbk; replace HV := HV.up hbk; replace HM := HM.up hbk; replace pzz := pzz.up hbk; replace pnn := pnn.up hbk; replace qzz := qzz.up hbk; replace qnn := qnn.up hbk; replace x1 := x1.up hbk) | (go_at_call 43; obtain ⟨av, hav⟩ : ∃ v : Int, Hid (v = xv + yv) := ⟨_, rfl⟩; (with_reducible refine (CA.out _ _ _ _ _ _ _ _ _ _ _ _ _ _ _ hxv hyv x1 y1 ph qh av hav).mono ?_); rintro e w5 ⟨aA, ac, rfl, a1, hbk⟩; replace HB := HB.up hbk; replace HP := HP.up hbk; replace HN := HN.up hbk; replace HR := HR.up hbk; replace HV := HV.up hbk; replace HM := HM.up hbk; replace pnn := pnn.up hbk; replace qnn := qnn.up hbk) | (go_at_call 72; (with_reducible refine (CM.out _ _ _ _ _ _ _ _ _ _ _ pnn qnn ph qh).mono ?_); rintro e w6 ⟨mA, mc, rfl, m1, hbk⟩; replace HB := HB.up hbk; replace HP := HP.up hbk; replace HN := HN.up hbk; replace HR := HR.up hbk; replace HV := HV.up hbk; replace HM := HM.up hbk; replace a1 := a1.up hbk; have hL := HP.lt; have hL1 := HN.lt; have hL2 := HV.lt; have hL3 := HM.lt) | (go_at_call 111; (with_reducible refine (CL.out _ _ _ _ _ _ _ _ _ _ _ _ _ _ _ hxv hyv hav a1 m1 ph qh).mono ?_); rintro e w7 ⟨B, e1, B', e2, rfl, nz, nd, hbk⟩; replace HB := HB.up hbk; replace HR := HR.up hbk; replace HP := HP.up hbk; replace HN := HN.up hbk; replace HV := HV.up hbk; replace HM := HM.up hbk; have hr_0 := HR.c0; have hr_1 := HR.c1; have hr_2 := HR.c2; have hr_l := HR.lt; have hr_f0 := HR.f0; have hr_f1 := HR.f1; have hr_f2 := HR.f2) | fail)
  go_wp2_with fail
  refine bodyPost_ret (v := .agg #[.bool (decide ((r + r').num < 0)), .slice B (dl (r + r').num.natAbs) e1, .slice B' (dl (r + r').den) e2]) (by simp [results, Tryd.results64, go_sem, hr_0, hr_1, hr_2]) rfl ?_
  exact ⟨B, e1, B', e2, rfl, zr_of (nz.1.put3 HR now3), nd.put3 HR now3, below3 HB (by first | omega | simp | (simp; omega)) _ _ _⟩
end
end Go.Proofs.YteieelgdiccppaaDoor
end
