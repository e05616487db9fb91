/- Package dec: Parse. No conditions. -/
import Derived.Test.YtphnmccpcjecnaaGreatDoorGDsbc22
import Derived.Test.YtphnmccpcjecnaaGreatDoorDf
import Derived.Deep.RegionHeld3
open Go.RowKit
set_option maxRecDepth 100000
namespace Go.Proofs.YtphnmccpcjecnaaGreatDoor
theorem At.xput3 {W : World} {p : Nat} {v0 v1 v2 : Value} (h : At W p [v0, v1, v2]) (x y z : Value) : At (((W.setCell ⟨p, 0, none⟩ x).setCell ⟨p, 1, none⟩ y).setCell ⟨p, 2, none⟩ z) p [x, y, z] := h.put3 x y z
theorem Bel.xput3 {w W : World} (h : Bel w W) {p : Nat} (hp : w.heap.size ≤ p) (x y z : Value) : Bel w (((W.setCell ⟨p, 0, none⟩ x).setCell ⟨p, 1, none⟩ y).setCell ⟨p, 2, none⟩ z) := below3 h hp x y z
theorem Nm.xputs {W : World} {p : Nat} {A : Option Addr} {n c m : Nat} (h : Nm W A n c m) (hp : At W p [.bool false, .slice none 0 0, .int .i64 0]) (b : Bool) (B : Option Addr) (k d : Nat) (s : Int) :
    Nm (((W.setCell ⟨p, 0, none⟩ (.bool b)).setCell ⟨p, 1, none⟩ (.slice B k d)).setCell ⟨p, 2, none⟩ (.int .i64 s)) A n c m := h.putD hp nowD
/-- What Cut answers, told from the string alone. -/
def DotQ (w : World) (t u : List UInt8) (b : Bool) (e : Ending) (w' : World) : Prop := ∃ ts us : ByteArray, e = .returned (.tuple #[.string ts, .string us, .bool b]) ∧ Hid (ts.data.toList = t) ∧ Hid (us.data.toList = u) ∧ Hid (Below w.heap.size w w')
theorem split_dot {a a' b b' : List UInt8} (h : a ++ 46 :: b = a' ++ 46 :: b') (ha : ¬ (46 : UInt8) ∈ a) (ha' : ¬ (46 : UInt8) ∈ a') : a = a' ∧ b = b' := by
  induction a generalizing a' with
  | nil =>
    cases a' with
    | nil => simp at h; exact ⟨rfl, h⟩
    | cons x xs => simp at h; exact absurd (by rw [← h.1]; simp) ha'
  | cons y ys ih =>
    cases a' with
    | nil => simp at h; exact absurd (by rw [h.1]; simp) ha
    | cons x xs =>
      simp at h
      obtain ⟨h1, h2⟩ := ih h.2 (fun h => ha (List.mem_cons_of_mem _ h)) (fun h => ha' (List.mem_cons_of_mem _ h))
      exact ⟨by rw [h.1, h1], h2⟩
/-- A text parted at its first point. -/
structure Dot (l t u : List UInt8) (pt : Bool) : Prop where
  yes : pt = true → l = t ++ 46 :: u
  no : pt = false → l = t ∧ u = []
  nm : ¬ (46 : UInt8) ∈ t
theorem dot_h {s : ByteArray} {t u : List UInt8} {pt : Bool} (w : World) (hs : s.size ≤ 100000) (h : Dot s.data.toList t u pt) : Calls Tryz.prog 44 #[.string s, .string ⟨#[46]⟩] w (DotQ w t u pt) := by
  refine (dot_any s w hs).mono ?_
  rintro e w' ⟨t', u', b, rfl, hr, hb⟩
  obtain ⟨h1, h2, h3⟩ := hr.out
  cases b
  · obtain ⟨rfl, rfl⟩ := h2 rfl
    cases pt
    · obtain ⟨e1, e2⟩ := h.no rfl
      exact ⟨_, _, rfl, e1, by rw [e2]; rfl, hb⟩
    · exact absurd (by rw [h.yes rfl]; simp) h3
  · have h4 := h1 rfl
    cases pt
    · exact absurd (by rw [← (h.no rfl).1, h4]; simp) h.nm
    · obtain ⟨e1, e2⟩ := split_dot (h4.symm.trans (h.yes rfl)) h3 h.nm
      exact ⟨_, _, rfl, e1, e2, hb⟩
def DPR (W : World) (nb : Bool) (v sc : Nat) (e : Ending) (w' : World) : Prop := ∃ A c, e = .returned (.tuple #[.agg #[.bool nb, .slice A (dl v) c, .int .i64 (sc : Int)], .int .i64 0]) ∧ Nm w' A (dl v) c v ∧ Hid (Below W.heap.size W w')
def DPE (W : World) (er : Int) (e : Ending) (w' : World) : Prop := e = .returned (.tuple #[.agg #[.bool false, .slice none 0 0, .int .i64 0], .int .i64 er]) ∧ Hid (Below W.heap.size W w')
theorem empty_iff (t : ByteArray) : t.toList.isEmpty = t.data.toList.isEmpty := by rw [toList_data]
/-- A text as Parse sees it: perhaps a minus, then what is ahead of the point and behind it. -/
structure Form (l : List UInt8) (b : Bool) (t u : List UInt8) (pt : Bool) : Prop where
  body : ∃ k, l = (if b then [45] else []) ++ k ∧ (b = false → k.head? ≠ some 45) ∧ Dot k t u pt
section
variable {W : World} {s : ByteArray} {b pt : Bool} {t u : List UInt8} {v : Nat}
theorem form_len (h : Form s.data.toList b t u pt) : t.length + u.length ≤ s.size := by
  obtain ⟨k, h1, h2, h3⟩ := h.body
  have e1 : k.length ≤ s.size := by
    rw [size_list, h1, List.length_append]; omega
  cases pt
  · obtain ⟨e2, e3⟩ := h3.no rfl
    rw [e3, ← e2]; simpa using e1
  · have e2 := h3.yes rfl
    rw [e2, List.length_append, List.length_cons] at e1
    omega
theorem form_cut (h : Form s.data.toList b t u pt) (hs : s.size ≤ 256) : ∃ k, (∀ W', Calls Tryz.prog 43 #[.string s, .string ⟨#[45]⟩] W' (CutS W' k b)) ∧ (∀ (W' : World) (x : ByteArray), Hid (x.data.toList = k) → Calls Tryz.prog 44 #[.string x, .string ⟨#[46]⟩] W' (DotQ W' t u pt)) := by
  obtain ⟨k, h1, h2, h3⟩ := h.body
  refine ⟨k, fun W' => cut_h s W' (by omega) h1 h2, fun W' x hx => dot_h W' ?_ (by rw [hx.out]; exact h3)⟩
  have e1 : k.length ≤ s.size := by
    rw [size_list, h1, List.length_append]; omega
  rw [size_list, hx.out]; omega
set_option maxHeartbeats 2000000 in
theorem dparse_size (hs : 256 < s.size) : Calls Tryz.prog 7 #[.string s] W (DPE W 11) := by
  go_enter Tryz.func7, Tryz.ntmps7
  have HR := at_new0 W [.bool false, .slice none 0 0, .int .i64 0] 26
  have hr_0 := HR.c0
  have hr_1 := HR.c1
  have hr_2 := HR.c2
  go_wp2_with fail
  refine bodyPost_ret (v := .tuple #[.agg #[.bool false, .slice none 0 0, .int .i64 0], .int .i64 11]) (by simp [results, Tryz.results7, go_sem]) rfl ?_
  exact ⟨rfl, by first | exact (Bel.refl W).al _ | exact below3 ((Bel.refl W).al _) (Nat.le_refl _) _ _ _⟩
set_option maxHeartbeats 4000000 in
theorem dparse_f1 (h : Form s.data.toList b t u pt) (hs : s.size ≤ 256) (ht : t = []) : Calls Tryz.prog 7 #[.string s] W (DPE W 2) := by
  obtain ⟨k, CK0, CD0⟩ := form_cut h (by omega)
  have CK := hide CK0
  have CD := hide CD0
  have HLN := hide (form_len h)
  have HT : Hid (∀ l : List UInt8, l = t → l.isEmpty = true) := fun l hl => by rw [hl]; rw [ht]; rfl
  have HU : Hid (∀ l : List UInt8, l = u → l.isEmpty = u.isEmpty) := fun l hl => by rw [hl]
  have HZ : Hid (∀ x : ByteArray, x.data.toList = u → x.size ≤ x.size) := fun x _ => Nat.le_refl _
  have HZ2 : Hid (∀ x y : ByteArray, x.data.toList = t → y.data.toList = u → x.size + y.size ≤ 256) := fun x y hx hy => by rw [size_list, size_list, hx, hy]; have := HLN.out; omega
  have hs2 : ¬ 256 < s.size := by omega
  clear h hs CK0 CD0 ht
  have HB := Bel.refl W
  go_enter Tryz.func7, Tryz.ntmps7
  go_wp2_with (first | (go_at_call 43; (with_reducible refine (CK.out _).mono ?_); rintro e w1 ⟨x, rfl, hx, rfl⟩) | (go_at_call 44; (with_reducible refine (CD.out _ _ hx).mono ?_); rintro e w2 ⟨ts, us, rfl, hts, hus, hbk⟩; have HR := At.up (at_new0 _ [.bool false, .slice none 0 0, .int .i64 0] _) hbk; replace HB := (HB.al _).up hbk; have e1 := (empty_iff ts).trans (HT.out _ hts.out); have e2 := (empty_iff us).trans (HU.out _ hus.out); have hr_0 := HR.c0; have hr_1 := HR.c1; have hr_2 := HR.c2; have hr_f0 := HR.f0; have hr_f1 := HR.f1; have hr_f2 := HR.f2; have hr_l := HR.lt; have hsz := HZ.out us hus.out; have hsu := HZ2.out ts us hts.out hus.out) | fail)
  all_goals first
    | (exfalso; omega)
    | (refine name_end ?_
       intro W4 hW4
       have HF : At W4 W.heap.size [.bool false, .slice none 0 0, .int .i64 0] := by rw [hW4]; (repeat (first | with_reducible exact HR | (with_reducible refine At.dr ?_) | (with_reducible refine At.xput3 (v0 := .bool false) (v1 := .slice none 0 0) (v2 := .int .i64 0) ?_ _ _ _) | (with_reducible refine At.al ?_ _)))
       have BF : Bel W W4 := by rw [hW4]; (repeat (first | with_reducible exact HB | (with_reducible refine Bel.dr ?_) | (with_reducible refine Bel.al ?_ _) | (with_reducible refine Bel.xput3 ?_ (Nat.le_refl _) _ _ _)))
       clear hW4
       refine bodyPost_ret (v := .tuple #[.agg #[.bool false, .slice none 0 0, .int .i64 0], .int .i64 2]) (by simp [results, Tryz.results7, go_sem, HF.c0, HF.c1, HF.c2]) rfl ?_
       exact ⟨rfl, BF⟩)
set_option maxHeartbeats 4000000 in
theorem dparse_f2 (h : Form s.data.toList b t u pt) (hs : s.size ≤ 256) (ht : t ≠ []) (hp : pt = true) (hu : u = []) : Calls Tryz.prog 7 #[.string s] W (DPE W 2) := by
  obtain ⟨k, CK0, CD0⟩ := form_cut h (by omega)
  have CK := hide CK0
  have CD := hide CD0
  have HLN := hide (form_len h)
  have HT : Hid (∀ l : List UInt8, l = t → l.isEmpty = false) := fun l hl => by rw [hl]; cases t with | nil => exact absurd rfl ht | cons a xs => rfl
  have HU : Hid (∀ l : List UInt8, l = u → l.isEmpty = true) := fun l hl => by rw [hl]; rw [hu]; rfl
  have HZ : Hid (∀ x : ByteArray, x.data.toList = u → x.size ≤ x.size) := fun x _ => Nat.le_refl _
  have HZ2 : Hid (∀ x y : ByteArray, x.data.toList = t → y.data.toList = u → x.size + y.size ≤ 256) := fun x y hx hy => by rw [size_list, size_list, hx, hy]; have := HLN.out; omega
  subst hp
  have hs2 : ¬ 256 < s.size := by omega
  clear h hs CK0 CD0 ht hu
  have HB := Bel.refl W
  go_enter Tryz.func7, Tryz.ntmps7
  go_wp2_with (first | (go_at_call 43; (with_reducible refine (CK.out _).mono ?_); rintro e w1 ⟨x, rfl, hx, rfl⟩) | (go_at_call 44; (with_reducible refine (CD.out _ _ hx).mono ?_); rintro e w2 ⟨ts, us, rfl, hts, hus, hbk⟩; have HR := At.up (at_new0 _ [.bool false, .slice none 0 0, .int .i64 0] _) hbk; replace HB := (HB.al _).up hbk; have e1 := (empty_iff ts).trans (HT.out _ hts.out); have e2 := (empty_iff us).trans (HU.out _ hus.out); have hr_0 := HR.c0; have hr_1 := HR.c1; have hr_2 := HR.c2; have hr_f0 := HR.f0; have hr_f1 := HR.f1; have hr_f2 := HR.f2; have hr_l := HR.lt; have hsz := HZ.out us hus.out; have hsu := HZ2.out ts us hts.out hus.out) | fail)
  all_goals first
    | (exfalso; omega)
    | (refine name_end ?_
       intro W4 hW4
       have HF : At W4 W.heap.size [.bool false, .slice none 0 0, .int .i64 0] := by rw [hW4]; (repeat (first | with_reducible exact HR | (with_reducible refine At.dr ?_) | (with_reducible refine At.xput3 (v0 := .bool false) (v1 := .slice none 0 0) (v2 := .int .i64 0) ?_ _ _ _) | (with_reducible refine At.al ?_ _)))
       have BF : Bel W W4 := by rw [hW4]; (repeat (first | with_reducible exact HB | (with_reducible refine Bel.dr ?_) | (with_reducible refine Bel.al ?_ _) | (with_reducible refine Bel.xput3 ?_ (Nat.le_refl _) _ _ _)))
       clear hW4
       refine bodyPost_ret (v := .tuple #[.agg #[.bool false, .slice none 0 0, .int .i64 0], .int .i64 2]) (by simp [results, Tryz.results7, go_sem, HF.c0, HF.c1, HF.c2]) rfl ?_
       exact ⟨rfl, BF⟩)
set_option maxHeartbeats 4000000 in
theorem dparse_f3a (h : Form s.data.toList b t u pt) (hs : s.size ≤ 256) (ht : t ≠ []) (hp : pt = false) (hu : 60 < u.length) : Calls Tryz.prog 7 #[.string s] W (DPE W 2) := by
  obtain ⟨k, CK0, CD0⟩ := form_cut h (by omega)
  have CK := hide CK0
  have CD := hide CD0
  have HLN := hide (form_len h)
  have HT : Hid (∀ l : List UInt8, l = t → l.isEmpty = false) := fun l hl => by rw [hl]; cases t with | nil => exact absurd rfl ht | cons a xs => rfl
  have HU : Hid (∀ l : List UInt8, l = u → l.isEmpty = false) := fun l hl => by rw [hl]; cases u with | nil => exact absurd hu (by simp) | cons a xs => rfl
  have HZ : Hid (∀ x : ByteArray, x.data.toList = u → 60 < x.size) := fun x hx => by rw [size_list, hx]; exact hu
  have HZ2 : Hid (∀ x y : ByteArray, x.data.toList = t → y.data.toList = u → x.size + y.size ≤ 256) := fun x y hx hy => by rw [size_list, size_list, hx, hy]; have := HLN.out; omega
  subst hp
  have hs2 : ¬ 256 < s.size := by omega
  clear h hs CK0 CD0 ht hu
  have HB := Bel.refl W
  go_enter Tryz.func7, Tryz.ntmps7
  go_wp2_with (first | (go_at_call 43; (with_reducible refine (CK.out _).mono ?_); rintro e w1 ⟨x, rfl, hx, rfl⟩) | (go_at_call 44; (with_reducible refine (CD.out _ _ hx).mono ?_); rintro e w2 ⟨ts, us, rfl, hts, hus, hbk⟩; have HR := At.up (at_new0 _ [.bool false, .slice none 0 0, .int .i64 0] _) hbk; replace HB := (HB.al _).up hbk; have e1 := (empty_iff ts).trans (HT.out _ hts.out); have e2 := (empty_iff us).trans (HU.out _ hus.out); have hr_0 := HR.c0; have hr_1 := HR.c1; have hr_2 := HR.c2; have hr_f0 := HR.f0; have hr_f1 := HR.f1; have hr_f2 := HR.f2; have hr_l := HR.lt; have hsz := HZ.out us hus.out; have hsu := HZ2.out ts us hts.out hus.out) | fail)
  all_goals first
    | (exfalso; omega)
    | (refine name_end ?_
       intro W4 hW4
       have HF : At W4 W.heap.size [.bool false, .slice none 0 0, .int .i64 0] := by rw [hW4]; (repeat (first | with_reducible exact HR | (with_reducible refine At.dr ?_) | (with_reducible refine At.xput3 (v0 := .bool false) (v1 := .slice none 0 0) (v2 := .int .i64 0) ?_ _ _ _) | (with_reducible refine At.al ?_ _)))
       have BF : Bel W W4 := by rw [hW4]; (repeat (first | with_reducible exact HB | (with_reducible refine Bel.dr ?_) | (with_reducible refine Bel.al ?_ _) | (with_reducible refine Bel.xput3 ?_ (Nat.le_refl _) _ _ _)))
       clear hW4
       refine bodyPost_ret (v := .tuple #[.agg #[.bool false, .slice none 0 0, .int .i64 0], .int .i64 2]) (by simp [results, Tryz.results7, go_sem, HF.c0, HF.c1, HF.c2]) rfl ?_
       exact ⟨rfl, BF⟩)
set_option maxHeartbeats 4000000 in
theorem dparse_f4a (h : Form s.data.toList b t u pt) (hs : s.size ≤ 256) (ht : t ≠ []) (hp : pt = false) (hu : u.length ≤ 60) (hd : ¬ digB (t ++ u) = true) : Calls Tryz.prog 7 #[.string s] W (DPE W 2) := by
  obtain ⟨k, CK0, CD0⟩ := form_cut h (by omega)
  have CK := hide CK0
  have CD := hide CD0
  have HLN := hide (form_len h)
  have HT : Hid (∀ l : List UInt8, l = t → l.isEmpty = false) := fun l hl => by rw [hl]; cases t with | nil => exact absurd rfl ht | cons a xs => rfl
  have HU : Hid (∀ l : List UInt8, l = u → l.isEmpty = u.isEmpty) := fun l hl => by rw [hl]
  have HZ : Hid (∀ x : ByteArray, x.data.toList = u → ¬ 60 < x.size) := fun x hx => by rw [size_list, hx]; exact Nat.not_lt.2 hu
  have HZ2 : Hid (∀ x y : ByteArray, x.data.toList = t → y.data.toList = u → x.size + y.size ≤ 256) := fun x y hx hy => by rw [size_list, size_list, hx, hy]; have := HLN.out; omega
  subst hp
  have CN : Hid (∀ W' (x y : ByteArray), x.data.toList = t → y.data.toList = u → Calls Tryz.prog 45 #[.string (x ++ y)] W' (PsN W')) := fun W' x y hx hy => parse_n (x ++ y) W' (by have h1 := HZ2.out x y hx hy; rw [ByteArray.size_append]; omega) (by rw [ByteArray.toList_data_append, hx, hy]; exact hd)
  have hs2 : ¬ 256 < s.size := by omega
  clear h hs CK0 CD0 ht hu hd
  have HB := Bel.refl W
  go_enter Tryz.func7, Tryz.ntmps7
  go_wp2_with (first | (go_at_call 43; (with_reducible refine (CK.out _).mono ?_); rintro e w1 ⟨x, rfl, hx, rfl⟩) | (go_at_call 44; (with_reducible refine (CD.out _ _ hx).mono ?_); rintro e w2 ⟨ts, us, rfl, hts, hus, hbk⟩; have HR := At.up (at_new0 _ [.bool false, .slice none 0 0, .int .i64 0] _) hbk; replace HB := (HB.al _).up hbk; have e1 := (empty_iff ts).trans (HT.out _ hts.out); have e2 := (empty_iff us).trans (HU.out _ hus.out); have hr_0 := HR.c0; have hr_1 := HR.c1; have hr_2 := HR.c2; have hr_f0 := HR.f0; have hr_f1 := HR.f1; have hr_f2 := HR.f2; have hr_l := HR.lt; have hsz := HZ.out us hus.out; have hsu := HZ2.out ts us hts.out hus.out) | (go_at_call 45; (with_reducible refine (CN.out _ _ _ hts.out hus.out).mono ?_); rintro e w3 ⟨rfl, hbk⟩; (with_reducible (replace HB := HB.up hbk; replace HR := HR.up hbk)); clear hr_0 hr_1 hr_2 hr_l hr_f0 hr_f1 hr_f2; have hr_0 := HR.c0; have hr_1 := HR.c1; have hr_2 := HR.c2; have hr_f0 := HR.f0; have hr_f1 := HR.f1; have hr_f2 := HR.f2; have hr_l := HR.lt) | fail)
  all_goals first
    | (exfalso; omega)
    | (refine name_end ?_
       intro W4 hW4
       have HF : At W4 W.heap.size [.bool false, .slice none 0 0, .int .i64 0] := by rw [hW4]; (repeat (first | with_reducible exact HR | (with_reducible refine At.dr ?_) | (with_reducible refine At.xput3 (v0 := .bool false) (v1 := .slice none 0 0) (v2 := .int .i64 0) ?_ _ _ _) | (with_reducible refine At.al ?_ _)))
       have BF : Bel W W4 := by rw [hW4]; (repeat (first | with_reducible exact HB | (with_reducible refine Bel.dr ?_) | (with_reducible refine Bel.al ?_ _) | (with_reducible refine Bel.xput3 ?_ (Nat.le_refl _) _ _ _)))
       clear hW4
       refine bodyPost_ret (v := .tuple #[.agg #[.bool false, .slice none 0 0, .int .i64 0], .int .i64 2]) (by simp [results, Tryz.results7, go_sem, HF.c0, HF.c1, HF.c2]) rfl ?_
       exact ⟨rfl, BF⟩)
set_option maxHeartbeats 4000000 in
theorem dparse_f3b (h : Form s.data.toList b t u pt) (hs : s.size ≤ 256) (ht : t ≠ []) (hp : pt = true) (hu : 60 < u.length) : Calls Tryz.prog 7 #[.string s] W (DPE W 2) := by
  obtain ⟨k, CK0, CD0⟩ := form_cut h (by omega)
  have CK := hide CK0
  have CD := hide CD0
  have HLN := hide (form_len h)
  have HT : Hid (∀ l : List UInt8, l = t → l.isEmpty = false) := fun l hl => by rw [hl]; cases t with | nil => exact absurd rfl ht | cons a xs => rfl
  have HU : Hid (∀ l : List UInt8, l = u → l.isEmpty = false) := fun l hl => by rw [hl]; cases u with | nil => exact absurd hu (by simp) | cons a xs => rfl
  have HZ : Hid (∀ x : ByteArray, x.data.toList = u → 60 < x.size) := fun x hx => by rw [size_list, hx]; exact hu
  have HZ2 : Hid (∀ x y : ByteArray, x.data.toList = t → y.data.toList = u → x.size + y.size ≤ 256) := fun x y hx hy => by rw [size_list, size_list, hx, hy]; have := HLN.out; omega
  subst hp
  have hs2 : ¬ 256 < s.size := by omega
  clear h hs CK0 CD0 ht hu
  have HB := Bel.refl W
  go_enter Tryz.func7, Tryz.ntmps7
  go_wp2_with (first | (go_at_call 43; (with_reducible refine (CK.out _).mono ?_); rintro e w1 ⟨x, rfl, hx, rfl⟩) | (go_at_call 44; (with_reducible refine (CD.out _ _ hx).mono ?_); rintro e w2 ⟨ts, us, rfl, hts, hus, hbk⟩; have HR := At.up (at_new0 _ [.bool false, .slice none 0 0, .int .i64 0] _) hbk; replace HB := (HB.al _).up hbk; have e1 := (empty_iff ts).trans (HT.out _ hts.out); have e2 := (empty_iff us).trans (HU.out _ hus.out); have hr_0 := HR.c0; have hr_1 := HR.c1; have hr_2 := HR.c2; have hr_f0 := HR.f0; have hr_f1 := HR.f1; have hr_f2 := HR.f2; have hr_l := HR.lt; have hsz := HZ.out us hus.out; have hsu := HZ2.out ts us hts.out hus.out) | fail)
  all_goals first
    | (exfalso; omega)
    | (refine name_end ?_
       intro W4 hW4
       have HF : At W4 W.heap.size [.bool false, .slice none 0 0, .int .i64 0] := by rw [hW4]; (repeat (first | with_reducible exact HR | (with_reducible refine At.dr ?_) | (with_reducible refine At.xput3 (v0 := .bool false) (v1 := .slice none 0 0) (v2 := .int .i64 0) ?_ _ _ _) | (with_reducible refine At.al ?_ _)))
       have BF : Bel W W4 := by rw [hW4]; (repeat (first | with_reducible exact HB | (with_reducible refine Bel.dr ?_) | (with_reducible refine Bel.al ?_ _) | (with_reducible refine Bel.xput3 ?_ (Nat.le_refl _) _ _ _)))
       clear hW4
       refine bodyPost_ret (v := .tuple #[.agg #[.bool false, .slice none 0 0, .int .i64 0], .int .i64 2]) (by simp [results, Tryz.results7, go_sem, HF.c0, HF.c1, HF.c2]) rfl ?_
       exact ⟨rfl, BF⟩)
set_option maxHeartbeats 4000000 in
theorem dparse_f4b (h : Form s.data.toList b t u pt) (hs : s.size ≤ 256) (ht : t ≠ []) (hp : pt = true) (hu2 : u ≠ []) (hu : u.length ≤ 60) (hd : ¬ digB (t ++ u) = true) : Calls Tryz.prog 7 #[.string s] W (DPE W 2) := by
  obtain ⟨k, CK0, CD0⟩ := form_cut h (by omega)
  have CK := hide CK0
  have CD := hide CD0
  have HLN := hide (form_len h)
  have HT : Hid (∀ l : List UInt8, l = t → l.isEmpty = false) := fun l hl => by rw [hl]; cases t with | nil => exact absurd rfl ht | cons a xs => rfl
  have HU : Hid (∀ l : List UInt8, l = u → l.isEmpty = false) := fun l hl => by rw [hl]; cases u with | nil => exact absurd rfl hu2 | cons a xs => rfl
  have HZ : Hid (∀ x : ByteArray, x.data.toList = u → ¬ 60 < x.size) := fun x hx => by rw [size_list, hx]; exact Nat.not_lt.2 hu
  have HZ2 : Hid (∀ x y : ByteArray, x.data.toList = t → y.data.toList = u → x.size + y.size ≤ 256) := fun x y hx hy => by rw [size_list, size_list, hx, hy]; have := HLN.out; omega
  subst hp
  have CN : Hid (∀ W' (x y : ByteArray), x.data.toList = t → y.data.toList = u → Calls Tryz.prog 45 #[.string (x ++ y)] W' (PsN W')) := fun W' x y hx hy => parse_n (x ++ y) W' (by have h1 := HZ2.out x y hx hy; rw [ByteArray.size_append]; omega) (by rw [ByteArray.toList_data_append, hx, hy]; exact hd)
  have hs2 : ¬ 256 < s.size := by omega
  clear h hs CK0 CD0 ht hu hd hu2
  have HB := Bel.refl W
  go_enter Tryz.func7, Tryz.ntmps7
  go_wp2_with (first | (go_at_call 43; (with_reducible refine (CK.out _).mono ?_); rintro e w1 ⟨x, rfl, hx, rfl⟩) | (go_at_call 44; (with_reducible refine (CD.out _ _ hx).mono ?_); rintro e w2 ⟨ts, us, rfl, hts, hus, hbk⟩; have HR := At.up (at_new0 _ [.bool false, .slice none 0 0, .int .i64 0] _) hbk; replace HB := (HB.al _).up hbk; have e1 := (empty_iff ts).trans (HT.out _ hts.out); have e2 := (empty_iff us).trans (HU.out _ hus.out); have hr_0 := HR.c0; have hr_1 := HR.c1; have hr_2 := HR.c2; have hr_f0 := HR.f0; have hr_f1 := HR.f1; have hr_f2 := HR.f2; have hr_l := HR.lt; have hsz := HZ.out us hus.out; have hsu := HZ2.out ts us hts.out hus.out) | (go_at_call 45; (with_reducible refine (CN.out _ _ _ hts.out hus.out).mono ?_); rintro e w3 ⟨rfl, hbk⟩; (with_reducible (replace HB := HB.up hbk; replace HR := HR.up hbk)); clear hr_0 hr_1 hr_2 hr_l hr_f0 hr_f1 hr_f2; have hr_0 := HR.c0; have hr_1 := HR.c1; have hr_2 := HR.c2; have hr_f0 := HR.f0; have hr_f1 := HR.f1; have hr_f2 := HR.f2; have hr_l := HR.lt) | fail)
  all_goals first
    | (exfalso; omega)
    | (refine name_end ?_
       intro W4 hW4
       have HF : At W4 W.heap.size [.bool false, .slice none 0 0, .int .i64 0] := by rw [hW4]; (repeat (first | with_reducible exact HR | (with_reducible refine At.dr ?_) | (with_reducible refine At.xput3 (v0 := .bool false) (v1 := .slice none 0 0) (v2 := .int .i64 0) ?_ _ _ _) | (with_reducible refine At.al ?_ _)))
       have BF : Bel W W4 := by rw [hW4]; (repeat (first | with_reducible exact HB | (with_reducible refine Bel.dr ?_) | (with_reducible refine Bel.al ?_ _) | (with_reducible refine Bel.xput3 ?_ (Nat.le_refl _) _ _ _)))
       clear hW4
       refine bodyPost_ret (v := .tuple #[.agg #[.bool false, .slice none 0 0, .int .i64 0], .int .i64 2]) (by simp [results, Tryz.results7, go_sem, HF.c0, HF.c1, HF.c2]) rfl ?_
       exact ⟨rfl, BF⟩)
set_option maxHeartbeats 4000000 in
theorem dparse_yp (h : Form s.data.toList b t u pt) (hs : s.size ≤ 256) (hb : b = false) (hp : pt = true) (ht : t ≠ []) (hu2 : u ≠ []) (hu : u.length ≤ 60) (hd : digB (t ++ u) = true) (hv : numL (t ++ u) = v)  : Calls Tryz.prog 7 #[.string s] W (DPR W false v u.length) := by
  obtain ⟨k, CK0, CD0⟩ := form_cut h (by omega)
  have CK := hide CK0
  have CD := hide CD0
  have HLN := hide (form_len h)
  have HT : Hid (∀ l : List UInt8, l = t → l.isEmpty = false) := fun l hl => by rw [hl]; cases t with | nil => exact absurd rfl ht | cons a xs => rfl
  have HU : Hid (∀ l : List UInt8, l = u → l.isEmpty = false) := fun l hl => by rw [hl]; cases u with | nil => exact absurd rfl hu2 | cons a xs => rfl
  have HZ : Hid (∀ x : ByteArray, x.data.toList = u → ¬ 60 < x.size) := fun x hx => by rw [size_list, hx]; exact Nat.not_lt.2 hu
  have HZ2 : Hid (∀ x y : ByteArray, x.data.toList = t → y.data.toList = u → x.size + y.size ≤ 256) := fun x y hx hy => by rw [size_list, size_list, hx, hy]; have := HLN.out; omega
  subst hp
  subst hb
  have CN : Hid (∀ W' (x y : ByteArray), x.data.toList = t → y.data.toList = u → Calls Tryz.prog 45 #[.string (x ++ y)] W' (PsR W' v)) := fun W' x y hx hy => parse_h (x ++ y) W' (by have h1 := HZ2.out x y hx hy; rw [ByteArray.size_append]; omega) (by rw [ByteArray.toList_data_append, hx, hy]; exact hd) (by rw [ByteArray.toList_data_append, hx, hy]; exact hv)
  have HSU : Hid (∀ x : ByteArray, x.data.toList = u → (x.size : Int) = (u.length : Int)) := fun x hx => by rw [size_list, hx]
  have hs2 : ¬ 256 < s.size := by omega
  clear h hs CK0 CD0 ht hu hd hv  hu2
  have HB := Bel.refl W
  go_enter Tryz.func7, Tryz.ntmps7
  go_wp2_with (first | (go_at_call 43; (with_reducible refine (CK.out _).mono ?_); rintro e w1 ⟨x, rfl, hx, rfl⟩) | (go_at_call 44; (with_reducible refine (CD.out _ _ hx).mono ?_); rintro e w2 ⟨ts, us, rfl, hts, hus, hbk⟩; have HR := At.up (at_new0 _ [.bool false, .slice none 0 0, .int .i64 0] _) hbk; replace HB := (HB.al _).up hbk; have e1 := (empty_iff ts).trans (HT.out _ hts.out); have e2 := (empty_iff us).trans (HU.out _ hus.out); have hr_0 := HR.c0; have hr_1 := HR.c1; have hr_2 := HR.c2; have hr_f0 := HR.f0; have hr_f1 := HR.f1; have hr_f2 := HR.f2; have hr_l := HR.lt; have hsz := HZ.out us hus.out; have hsu := HZ2.out ts us hts.out hus.out) | (go_at_call 45; (with_reducible refine (CN.out _ _ _ hts.out hus.out).mono ?_); rintro e w3 ⟨B, e3, rfl, nb, hbk⟩; (with_reducible (replace HB := HB.up hbk; replace HR := HR.up hbk)); clear hr_0 hr_1 hr_2 hr_l hr_f0 hr_f1 hr_f2; have lr := HR.lt) | fail)
  all_goals first
    | (exfalso; omega)
    | skip
  obtain ⟨W3, hW3⟩ : ∃ W3, W3 = w3.alloc (.cells #[.slice B (dl v) e3] 24) := ⟨_, rfl⟩
  rw [← hW3]
  obtain ⟨p3, hp3⟩ : ∃ p3, p3 = w3.heap.size := ⟨_, rfl⟩
  rw [← hp3]
  have HN : At W3 p3 [.slice B (dl v) e3] := by rw [hW3, hp3]; exact at_new0 _ _ _
  replace HB : Bel W W3 := by rw [hW3]; exact HB.al _
  replace HR : At W3 W.heap.size [.bool false, .slice none 0 0, .int .i64 0] := by rw [hW3]; exact HR.al _
  replace nb : Nm W3 B (dl v) e3 v := by rw [hW3]; exact nb.al _
  have hne : W.heap.size ≠ p3 := by omega
  clear hW3 hp3
  have hr_0 := HR.c0
  have hr_1 := HR.c1
  have hr_2 := HR.c2
  have hr_l := HR.lt
  have hr_f0 := HR.f0
  have hr_f1 := HR.f1
  have hr_f2 := HR.f2
  have hn_0 := HN.c0
  go_region_with (fail)
  all_goals
    go_wp2_with fail
    refine name_end ?_
    intro W4 hW4
    have HF : At W4 W.heap.size [.bool false, .slice B (dl v) e3, .int .i64 (us.size : Int)] := by rw [hW4]; (repeat (first | with_reducible exact HR | (with_reducible refine At.dr ?_) | (with_reducible refine At.xput3 (v0 := .bool false) (v1 := .slice none 0 0) (v2 := .int .i64 0) ?_ _ _ _) | (with_reducible refine At.al ?_ _)))
    have NF : Nm W4 B (dl v) e3 v := by rw [hW4]; (repeat (first | with_reducible exact nb | (with_reducible refine Nm.dr ?_) | (with_reducible refine Nm.al ?_ _) | (with_reducible refine Nm.xputs ?_ ?_ _ _ _ _ _) | with_reducible exact HR | (with_reducible refine At.dr ?_) | (with_reducible refine At.xput3 (v0 := .bool false) (v1 := .slice none 0 0) (v2 := .int .i64 0) ?_ _ _ _) | (with_reducible refine At.al ?_ _)))
    have BF : Bel W W4 := by rw [hW4]; (repeat (first | with_reducible exact HB | (with_reducible refine Bel.dr ?_) | (with_reducible refine Bel.al ?_ _) | (with_reducible refine Bel.xput3 ?_ (Nat.le_refl _) _ _ _)))
    clear hW4
    refine bodyPost_ret (v := .tuple #[.agg #[.bool false, .slice B (dl v) e3, .int .i64 (us.size : Int)], .int .i64 0]) (by simp [results, Tryz.results7, go_sem, HF.c0, HF.c1, HF.c2]) rfl ?_
    exact ⟨B, e3, by rw [HSU.out us hus.out], NF, BF⟩
set_option maxHeartbeats 4000000 in
theorem dparse_ymz (h : Form s.data.toList b t u pt) (hs : s.size ≤ 256) (hb : b = true) (hp : pt = true) (ht : t ≠ []) (hu2 : u ≠ []) (hu : u.length ≤ 60) (hd : digB (t ++ u) = true) (hv : numL (t ++ u) = v) (h0 : v = 0) : Calls Tryz.prog 7 #[.string s] W (DPR W false v u.length) := by
  obtain ⟨k, CK0, CD0⟩ := form_cut h (by omega)
  have CK := hide CK0
  have CD := hide CD0
  have HLN := hide (form_len h)
  have HT : Hid (∀ l : List UInt8, l = t → l.isEmpty = false) := fun l hl => by rw [hl]; cases t with | nil => exact absurd rfl ht | cons a xs => rfl
  have HU : Hid (∀ l : List UInt8, l = u → l.isEmpty = false) := fun l hl => by rw [hl]; cases u with | nil => exact absurd rfl hu2 | cons a xs => rfl
  have HZ : Hid (∀ x : ByteArray, x.data.toList = u → ¬ 60 < x.size) := fun x hx => by rw [size_list, hx]; exact Nat.not_lt.2 hu
  have HZ2 : Hid (∀ x y : ByteArray, x.data.toList = t → y.data.toList = u → x.size + y.size ≤ 256) := fun x y hx hy => by rw [size_list, size_list, hx, hy]; have := HLN.out; omega
  subst hp
  subst hb
  have CN : Hid (∀ W' (x y : ByteArray), x.data.toList = t → y.data.toList = u → Calls Tryz.prog 45 #[.string (x ++ y)] W' (PsR W' v)) := fun W' x y hx hy => parse_h (x ++ y) W' (by have h1 := HZ2.out x y hx hy; rw [ByteArray.size_append]; omega) (by rw [ByteArray.toList_data_append, hx, hy]; exact hd) (by rw [ByteArray.toList_data_append, hx, hy]; exact hv)
  have HSU : Hid (∀ x : ByteArray, x.data.toList = u → (x.size : Int) = (u.length : Int)) := fun x hx => by rw [size_list, hx]
  have CZ : Hid (∀ W' B e, Nm W' B (dl v) e v → Calls Tryz.prog 46 #[.agg #[.slice B (dl v) e]] W' (RetB W' true)) := fun W' B e h1 => by
    have h2 := dzero_h h1
    rwa [decide_eq_true h0] at h2
  have hs2 : ¬ 256 < s.size := by omega
  clear h hs CK0 CD0 ht hu hd hv h0 hu2
  have HB := Bel.refl W
  go_enter Tryz.func7, Tryz.ntmps7
  go_wp2_with (first | (go_at_call 43; (with_reducible refine (CK.out _).mono ?_); rintro e w1 ⟨x, rfl, hx, rfl⟩) | (go_at_call 44; (with_reducible refine (CD.out _ _ hx).mono ?_); rintro e w2 ⟨ts, us, rfl, hts, hus, hbk⟩; have HR := At.up (at_new0 _ [.bool false, .slice none 0 0, .int .i64 0] _) hbk; replace HB := (HB.al _).up hbk; have e1 := (empty_iff ts).trans (HT.out _ hts.out); have e2 := (empty_iff us).trans (HU.out _ hus.out); have hr_0 := HR.c0; have hr_1 := HR.c1; have hr_2 := HR.c2; have hr_f0 := HR.f0; have hr_f1 := HR.f1; have hr_f2 := HR.f2; have hr_l := HR.lt; have hsz := HZ.out us hus.out; have hsu := HZ2.out ts us hts.out hus.out) | (go_at_call 45; (with_reducible refine (CN.out _ _ _ hts.out hus.out).mono ?_); rintro e w3 ⟨B, e3, rfl, nb, hbk⟩; (with_reducible (replace HB := HB.up hbk; replace HR := HR.up hbk)); clear hr_0 hr_1 hr_2 hr_l hr_f0 hr_f1 hr_f2; have lr := HR.lt) | fail)
  all_goals first
    | (exfalso; omega)
    | skip
  obtain ⟨W3, hW3⟩ : ∃ W3, W3 = w3.alloc (.cells #[.slice B (dl v) e3] 24) := ⟨_, rfl⟩
  rw [← hW3]
  obtain ⟨p3, hp3⟩ : ∃ p3, p3 = w3.heap.size := ⟨_, rfl⟩
  rw [← hp3]
  have HN : At W3 p3 [.slice B (dl v) e3] := by rw [hW3, hp3]; exact at_new0 _ _ _
  replace HB : Bel W W3 := by rw [hW3]; exact HB.al _
  replace HR : At W3 W.heap.size [.bool false, .slice none 0 0, .int .i64 0] := by rw [hW3]; exact HR.al _
  replace nb : Nm W3 B (dl v) e3 v := by rw [hW3]; exact nb.al _
  have hne : W.heap.size ≠ p3 := by omega
  clear hW3 hp3
  go_region_held3 (fun w' => w'.cell? ⟨p3, 0, none⟩ = some (.slice B (dl v) e3))
    (refine (?_ : At _ p3 [.slice B (dl v) e3]).c0 <;> (repeat (first | with_reducible exact HN | (with_reducible refine At.dr ?_) | (with_reducible refine At.al ?_ _) | (with_reducible refine At.far ?_ (by omega) _) | (refine At.far3 ?_ (by omega) _ _ _))))
    (first | (go_at_call 46; (with_reducible refine (CZ.out _ _ _ nb.dr).mono ?_); rintro e w4 ⟨rfl, hbk⟩; replace hbk := Bel.hid hbk; (with_reducible (replace HB := HB.dr.up hbk; replace HR := HR.dr.up hbk; replace HN := HN.dr.up hbk; replace nb := nb.dr.up hbk)); have lr4 := HR.lt; have hr_0 := HR.c0; have hr_1 := HR.c1; have hr_2 := HR.c2; have hr_l := HR.lt; have hr_f0 := HR.f0; have hr_f1 := HR.f1; have hr_f2 := HR.f2) | fail)
  all_goals
    go_wp2_with fail
    refine name_end ?_
    intro W4 hW4
    have HF : At W4 W.heap.size [.bool false, .slice B (dl v) e3, .int .i64 (us.size : Int)] := by rw [hW4]; (repeat (first | with_reducible exact HR | (with_reducible refine At.dr ?_) | (with_reducible refine At.xput3 (v0 := .bool false) (v1 := .slice none 0 0) (v2 := .int .i64 0) ?_ _ _ _) | (with_reducible refine At.al ?_ _)))
    have NF : Nm W4 B (dl v) e3 v := by rw [hW4]; (repeat (first | with_reducible exact nb | (with_reducible refine Nm.dr ?_) | (with_reducible refine Nm.al ?_ _) | (with_reducible refine Nm.xputs ?_ ?_ _ _ _ _ _) | with_reducible exact HR | (with_reducible refine At.dr ?_) | (with_reducible refine At.xput3 (v0 := .bool false) (v1 := .slice none 0 0) (v2 := .int .i64 0) ?_ _ _ _) | (with_reducible refine At.al ?_ _)))
    have BF : Bel W W4 := by rw [hW4]; (repeat (first | with_reducible exact HB | (with_reducible refine Bel.dr ?_) | (with_reducible refine Bel.al ?_ _) | (with_reducible refine Bel.xput3 ?_ (Nat.le_refl _) _ _ _)))
    clear hW4
    refine bodyPost_ret (v := .tuple #[.agg #[.bool false, .slice B (dl v) e3, .int .i64 (us.size : Int)], .int .i64 0]) (by simp [results, Tryz.results7, go_sem, HF.c0, HF.c1, HF.c2]) rfl ?_
    exact ⟨B, e3, by rw [HSU.out us hus.out], NF, BF⟩
set_option maxHeartbeats 4000000 in
theorem dparse_ymo (h : Form s.data.toList b t u pt) (hs : s.size ≤ 256) (hb : b = true) (hp : pt = true) (ht : t ≠ []) (hu2 : u ≠ []) (hu : u.length ≤ 60) (hd : digB (t ++ u) = true) (hv : numL (t ++ u) = v) (h0 : v ≠ 0) : Calls Tryz.prog 7 #[.string s] W (DPR W true v u.length) := by
  obtain ⟨k, CK0, CD0⟩ := form_cut h (by omega)
  have CK := hide CK0
  have CD := hide CD0
  have HLN := hide (form_len h)
  have HT : Hid (∀ l : List UInt8, l = t → l.isEmpty = false) := fun l hl => by rw [hl]; cases t with | nil => exact absurd rfl ht | cons a xs => rfl
  have HU : Hid (∀ l : List UInt8, l = u → l.isEmpty = false) := fun l hl => by rw [hl]; cases u with | nil => exact absurd rfl hu2 | cons a xs => rfl
  have HZ : Hid (∀ x : ByteArray, x.data.toList = u → ¬ 60 < x.size) := fun x hx => by rw [size_list, hx]; exact Nat.not_lt.2 hu
  have HZ2 : Hid (∀ x y : ByteArray, x.data.toList = t → y.data.toList = u → x.size + y.size ≤ 256) := fun x y hx hy => by rw [size_list, size_list, hx, hy]; have := HLN.out; omega
  subst hp
  subst hb
  have CN : Hid (∀ W' (x y : ByteArray), x.data.toList = t → y.data.toList = u → Calls Tryz.prog 45 #[.string (x ++ y)] W' (PsR W' v)) := fun W' x y hx hy => parse_h (x ++ y) W' (by have h1 := HZ2.out x y hx hy; rw [ByteArray.size_append]; omega) (by rw [ByteArray.toList_data_append, hx, hy]; exact hd) (by rw [ByteArray.toList_data_append, hx, hy]; exact hv)
  have HSU : Hid (∀ x : ByteArray, x.data.toList = u → (x.size : Int) = (u.length : Int)) := fun x hx => by rw [size_list, hx]
  have CZ : Hid (∀ W' B e, Nm W' B (dl v) e v → Calls Tryz.prog 46 #[.agg #[.slice B (dl v) e]] W' (RetB W' false)) := fun W' B e h1 => by
    have h2 := dzero_h h1
    rwa [decide_eq_false h0] at h2
  have hs2 : ¬ 256 < s.size := by omega
  clear h hs CK0 CD0 ht hu hd hv h0 hu2
  have HB := Bel.refl W
  go_enter Tryz.func7, Tryz.ntmps7
  go_wp2_with (first | (go_at_call 43; (with_reducible refine (CK.out _).mono ?_); rintro e w1 ⟨x, rfl, hx, rfl⟩) | (go_at_call 44; (with_reducible refine (CD.out _ _ hx).mono ?_); rintro e w2 ⟨ts, us, rfl, hts, hus, hbk⟩; have HR := At.up (at_new0 _ [.bool false, .slice none 0 0, .int .i64 0] _) hbk; replace HB := (HB.al _).up hbk; have e1 := (empty_iff ts).trans (HT.out _ hts.out); have e2 := (empty_iff us).trans (HU.out _ hus.out); have hr_0 := HR.c0; have hr_1 := HR.c1; have hr_2 := HR.c2; have hr_f0 := HR.f0; have hr_f1 := HR.f1; have hr_f2 := HR.f2; have hr_l := HR.lt; have hsz := HZ.out us hus.out; have hsu := HZ2.out ts us hts.out hus.out) | (go_at_call 45; (with_reducible refine (CN.out _ _ _ hts.out hus.out).mono ?_); rintro e w3 ⟨B, e3, rfl, nb, hbk⟩; (with_reducible (replace HB := HB.up hbk; replace HR := HR.up hbk)); clear hr_0 hr_1 hr_2 hr_l hr_f0 hr_f1 hr_f2; have lr := HR.lt) | fail)
  all_goals first
    | (exfalso; omega)
    | skip
  obtain ⟨W3, hW3⟩ : ∃ W3, W3 = w3.alloc (.cells #[.slice B (dl v) e3] 24) := ⟨_, rfl⟩
  rw [← hW3]
  obtain ⟨p3, hp3⟩ : ∃ p3, p3 = w3.heap.size := ⟨_, rfl⟩
  rw [← hp3]
  have HN : At W3 p3 [.slice B (dl v) e3] := by rw [hW3, hp3]; exact at_new0 _ _ _
  replace HB : Bel W W3 := by rw [hW3]; exact HB.al _
  replace HR : At W3 W.heap.size [.bool false, .slice none 0 0, .int .i64 0] := by rw [hW3]; exact HR.al _
  replace nb : Nm W3 B (dl v) e3 v := by rw [hW3]; exact nb.al _
  have hne : W.heap.size ≠ p3 := by omega
  clear hW3 hp3
  go_region_held3 (fun w' => w'.cell? ⟨p3, 0, none⟩ = some (.slice B (dl v) e3))
    (refine (?_ : At _ p3 [.slice B (dl v) e3]).c0 <;> (repeat (first | with_reducible exact HN | (with_reducible refine At.dr ?_) | (with_reducible refine At.al ?_ _) | (with_reducible refine At.far ?_ (by omega) _) | (refine At.far3 ?_ (by omega) _ _ _))))
    (first | (go_at_call 46; (with_reducible refine (CZ.out _ _ _ nb.dr).mono ?_); rintro e w4 ⟨rfl, hbk⟩; replace hbk := Bel.hid hbk; (with_reducible (replace HB := HB.dr.up hbk; replace HR := HR.dr.up hbk; replace HN := HN.dr.up hbk; replace nb := nb.dr.up hbk)); have lr4 := HR.lt; have hr_0 := HR.c0; have hr_1 := HR.c1; have hr_2 := HR.c2; have hr_l := HR.lt; have hr_f0 := HR.f0; have hr_f1 := HR.f1; have hr_f2 := HR.f2) | fail)
  all_goals
    go_wp2_with fail
    refine name_end ?_
    intro W4 hW4
    have HF : At W4 W.heap.size [.bool true, .slice B (dl v) e3, .int .i64 (us.size : Int)] := by rw [hW4]; (repeat (first | with_reducible exact HR | (with_reducible refine At.dr ?_) | (with_reducible refine At.xput3 (v0 := .bool false) (v1 := .slice none 0 0) (v2 := .int .i64 0) ?_ _ _ _) | (with_reducible refine At.al ?_ _)))
    have NF : Nm W4 B (dl v) e3 v := by rw [hW4]; (repeat (first | with_reducible exact nb | (with_reducible refine Nm.dr ?_) | (with_reducible refine Nm.al ?_ _) | (with_reducible refine Nm.xputs ?_ ?_ _ _ _ _ _) | with_reducible exact HR | (with_reducible refine At.dr ?_) | (with_reducible refine At.xput3 (v0 := .bool false) (v1 := .slice none 0 0) (v2 := .int .i64 0) ?_ _ _ _) | (with_reducible refine At.al ?_ _)))
    have BF : Bel W W4 := by rw [hW4]; (repeat (first | with_reducible exact HB | (with_reducible refine Bel.dr ?_) | (with_reducible refine Bel.al ?_ _) | (with_reducible refine Bel.xput3 ?_ (Nat.le_refl _) _ _ _)))
    clear hW4
    refine bodyPost_ret (v := .tuple #[.agg #[.bool true, .slice B (dl v) e3, .int .i64 (us.size : Int)], .int .i64 0]) (by simp [results, Tryz.results7, go_sem, HF.c0, HF.c1, HF.c2]) rfl ?_
    exact ⟨B, e3, by rw [HSU.out us hus.out], NF, BF⟩
set_option maxHeartbeats 4000000 in
theorem dparse_np (h : Form s.data.toList b t u pt) (hs : s.size ≤ 256) (hb : b = false) (hp : pt = false) (ht : t ≠ []) (hu : u.length ≤ 60) (hd : digB (t ++ u) = true) (hv : numL (t ++ u) = v)  : Calls Tryz.prog 7 #[.string s] W (DPR W false v u.length) := by
  obtain ⟨k, CK0, CD0⟩ := form_cut h (by omega)
  have CK := hide CK0
  have CD := hide CD0
  have HLN := hide (form_len h)
  have HT : Hid (∀ l : List UInt8, l = t → l.isEmpty = false) := fun l hl => by rw [hl]; cases t with | nil => exact absurd rfl ht | cons a xs => rfl
  have HU : Hid (∀ l : List UInt8, l = u → l.isEmpty = u.isEmpty) := fun l hl => by rw [hl]
  have HZ : Hid (∀ x : ByteArray, x.data.toList = u → ¬ 60 < x.size) := fun x hx => by rw [size_list, hx]; exact Nat.not_lt.2 hu
  have HZ2 : Hid (∀ x y : ByteArray, x.data.toList = t → y.data.toList = u → x.size + y.size ≤ 256) := fun x y hx hy => by rw [size_list, size_list, hx, hy]; have := HLN.out; omega
  subst hp
  subst hb
  have CN : Hid (∀ W' (x y : ByteArray), x.data.toList = t → y.data.toList = u → Calls Tryz.prog 45 #[.string (x ++ y)] W' (PsR W' v)) := fun W' x y hx hy => parse_h (x ++ y) W' (by have h1 := HZ2.out x y hx hy; rw [ByteArray.size_append]; omega) (by rw [ByteArray.toList_data_append, hx, hy]; exact hd) (by rw [ByteArray.toList_data_append, hx, hy]; exact hv)
  have HSU : Hid (∀ x : ByteArray, x.data.toList = u → (x.size : Int) = (u.length : Int)) := fun x hx => by rw [size_list, hx]
  have hs2 : ¬ 256 < s.size := by omega
  clear h hs CK0 CD0 ht hu hd hv  
  have HB := Bel.refl W
  go_enter Tryz.func7, Tryz.ntmps7
  go_wp2_with (first | (go_at_call 43; (with_reducible refine (CK.out _).mono ?_); rintro e w1 ⟨x, rfl, hx, rfl⟩) | (go_at_call 44; (with_reducible refine (CD.out _ _ hx).mono ?_); rintro e w2 ⟨ts, us, rfl, hts, hus, hbk⟩; have HR := At.up (at_new0 _ [.bool false, .slice none 0 0, .int .i64 0] _) hbk; replace HB := (HB.al _).up hbk; have e1 := (empty_iff ts).trans (HT.out _ hts.out); have e2 := (empty_iff us).trans (HU.out _ hus.out); have hr_0 := HR.c0; have hr_1 := HR.c1; have hr_2 := HR.c2; have hr_f0 := HR.f0; have hr_f1 := HR.f1; have hr_f2 := HR.f2; have hr_l := HR.lt; have hsz := HZ.out us hus.out; have hsu := HZ2.out ts us hts.out hus.out) | (go_at_call 45; (with_reducible refine (CN.out _ _ _ hts.out hus.out).mono ?_); rintro e w3 ⟨B, e3, rfl, nb, hbk⟩; (with_reducible (replace HB := HB.up hbk; replace HR := HR.up hbk)); clear hr_0 hr_1 hr_2 hr_l hr_f0 hr_f1 hr_f2; have lr := HR.lt) | fail)
  all_goals first
    | (exfalso; omega)
    | skip
  obtain ⟨W3, hW3⟩ : ∃ W3, W3 = w3.alloc (.cells #[.slice B (dl v) e3] 24) := ⟨_, rfl⟩
  rw [← hW3]
  obtain ⟨p3, hp3⟩ : ∃ p3, p3 = w3.heap.size := ⟨_, rfl⟩
  rw [← hp3]
  have HN : At W3 p3 [.slice B (dl v) e3] := by rw [hW3, hp3]; exact at_new0 _ _ _
  replace HB : Bel W W3 := by rw [hW3]; exact HB.al _
  replace HR : At W3 W.heap.size [.bool false, .slice none 0 0, .int .i64 0] := by rw [hW3]; exact HR.al _
  replace nb : Nm W3 B (dl v) e3 v := by rw [hW3]; exact nb.al _
  have hne : W.heap.size ≠ p3 := by omega
  clear hW3 hp3
  have hr_0 := HR.c0
  have hr_1 := HR.c1
  have hr_2 := HR.c2
  have hr_l := HR.lt
  have hr_f0 := HR.f0
  have hr_f1 := HR.f1
  have hr_f2 := HR.f2
  have hn_0 := HN.c0
  go_region_with (fail)
  all_goals
    go_wp2_with fail
    refine name_end ?_
    intro W4 hW4
    have HF : At W4 W.heap.size [.bool false, .slice B (dl v) e3, .int .i64 (us.size : Int)] := by rw [hW4]; (repeat (first | with_reducible exact HR | (with_reducible refine At.dr ?_) | (with_reducible refine At.xput3 (v0 := .bool false) (v1 := .slice none 0 0) (v2 := .int .i64 0) ?_ _ _ _) | (with_reducible refine At.al ?_ _)))
    have NF : Nm W4 B (dl v) e3 v := by rw [hW4]; (repeat (first | with_reducible exact nb | (with_reducible refine Nm.dr ?_) | (with_reducible refine Nm.al ?_ _) | (with_reducible refine Nm.xputs ?_ ?_ _ _ _ _ _) | with_reducible exact HR | (with_reducible refine At.dr ?_) | (with_reducible refine At.xput3 (v0 := .bool false) (v1 := .slice none 0 0) (v2 := .int .i64 0) ?_ _ _ _) | (with_reducible refine At.al ?_ _)))
    have BF : Bel W W4 := by rw [hW4]; (repeat (first | with_reducible exact HB | (with_reducible refine Bel.dr ?_) | (with_reducible refine Bel.al ?_ _) | (with_reducible refine Bel.xput3 ?_ (Nat.le_refl _) _ _ _)))
    clear hW4
    refine bodyPost_ret (v := .tuple #[.agg #[.bool false, .slice B (dl v) e3, .int .i64 (us.size : Int)], .int .i64 0]) (by simp [results, Tryz.results7, go_sem, HF.c0, HF.c1, HF.c2]) rfl ?_
    exact ⟨B, e3, by rw [HSU.out us hus.out], NF, BF⟩
set_option maxHeartbeats 4000000 in
theorem dparse_nmz (h : Form s.data.toList b t u pt) (hs : s.size ≤ 256) (hb : b = true) (hp : pt = false) (ht : t ≠ []) (hu : u.length ≤ 60) (hd : digB (t ++ u) = true) (hv : numL (t ++ u) = v) (h0 : v = 0) : Calls Tryz.prog 7 #[.string s] W (DPR W false v u.length) := by
  obtain ⟨k, CK0, CD0⟩ := form_cut h (by omega)
  have CK := hide CK0
  have CD := hide CD0
  have HLN := hide (form_len h)
  have HT : Hid (∀ l : List UInt8, l = t → l.isEmpty = false) := fun l hl => by rw [hl]; cases t with | nil => exact absurd rfl ht | cons a xs => rfl
  have HU : Hid (∀ l : List UInt8, l = u → l.isEmpty = u.isEmpty) := fun l hl => by rw [hl]
  have HZ : Hid (∀ x : ByteArray, x.data.toList = u → ¬ 60 < x.size) := fun x hx => by rw [size_list, hx]; exact Nat.not_lt.2 hu
  have HZ2 : Hid (∀ x y : ByteArray, x.data.toList = t → y.data.toList = u → x.size + y.size ≤ 256) := fun x y hx hy => by rw [size_list, size_list, hx, hy]; have := HLN.out; omega
  subst hp
  subst hb
  have CN : Hid (∀ W' (x y : ByteArray), x.data.toList = t → y.data.toList = u → Calls Tryz.prog 45 #[.string (x ++ y)] W' (PsR W' v)) := fun W' x y hx hy => parse_h (x ++ y) W' (by have h1 := HZ2.out x y hx hy; rw [ByteArray.size_append]; omega) (by rw [ByteArray.toList_data_append, hx, hy]; exact hd) (by rw [ByteArray.toList_data_append, hx, hy]; exact hv)
  have HSU : Hid (∀ x : ByteArray, x.data.toList = u → (x.size : Int) = (u.length : Int)) := fun x hx => by rw [size_list, hx]
  have CZ : Hid (∀ W' B e, Nm W' B (dl v) e v → Calls Tryz.prog 46 #[.agg #[.slice B (dl v) e]] W' (RetB W' true)) := fun W' B e h1 => by
    have h2 := dzero_h h1
    rwa [decide_eq_true h0] at h2
  have hs2 : ¬ 256 < s.size := by omega
  clear h hs CK0 CD0 ht hu hd hv h0 
  have HB := Bel.refl W
  go_enter Tryz.func7, Tryz.ntmps7
  go_wp2_with (first | (go_at_call 43; (with_reducible refine (CK.out _).mono ?_); rintro e w1 ⟨x, rfl, hx, rfl⟩) | (go_at_call 44; (with_reducible refine (CD.out _ _ hx).mono ?_); rintro e w2 ⟨ts, us, rfl, hts, hus, hbk⟩; have HR := At.up (at_new0 _ [.bool false, .slice none 0 0, .int .i64 0] _) hbk; replace HB := (HB.al _).up hbk; have e1 := (empty_iff ts).trans (HT.out _ hts.out); have e2 := (empty_iff us).trans (HU.out _ hus.out); have hr_0 := HR.c0; have hr_1 := HR.c1; have hr_2 := HR.c2; have hr_f0 := HR.f0; have hr_f1 := HR.f1; have hr_f2 := HR.f2; have hr_l := HR.lt; have hsz := HZ.out us hus.out; have hsu := HZ2.out ts us hts.out hus.out) | (go_at_call 45; (with_reducible refine (CN.out _ _ _ hts.out hus.out).mono ?_); rintro e w3 ⟨B, e3, rfl, nb, hbk⟩; (with_reducible (replace HB := HB.up hbk; replace HR := HR.up hbk)); clear hr_0 hr_1 hr_2 hr_l hr_f0 hr_f1 hr_f2; have lr := HR.lt) | fail)
  all_goals first
    | (exfalso; omega)
    | skip
  obtain ⟨W3, hW3⟩ : ∃ W3, W3 = w3.alloc (.cells #[.slice B (dl v) e3] 24) := ⟨_, rfl⟩
  rw [← hW3]
  obtain ⟨p3, hp3⟩ : ∃ p3, p3 = w3.heap.size := ⟨_, rfl⟩
  rw [← hp3]
  have HN : At W3 p3 [.slice B (dl v) e3] := by rw [hW3, hp3]; exact at_new0 _ _ _
  replace HB : Bel W W3 := by rw [hW3]; exact HB.al _
  replace HR : At W3 W.heap.size [.bool false, .slice none 0 0, .int .i64 0] := by rw [hW3]; exact HR.al _
  replace nb : Nm W3 B (dl v) e3 v := by rw [hW3]; exact nb.al _
  have hne : W.heap.size ≠ p3 := by omega
  clear hW3 hp3
  go_region_held3 (fun w' => w'.cell? ⟨p3, 0, none⟩ = some (.slice B (dl v) e3))
    (refine (?_ : At _ p3 [.slice B (dl v) e3]).c0 <;> (repeat (first | with_reducible exact HN | (with_reducible refine At.dr ?_) | (with_reducible refine At.al ?_ _) | (with_reducible refine At.far ?_ (by omega) _) | (refine At.far3 ?_ (by omega) _ _ _))))
    (first | (go_at_call 46; (with_reducible refine (CZ.out _ _ _ nb.dr).mono ?_); rintro e w4 ⟨rfl, hbk⟩; replace hbk := Bel.hid hbk; (with_reducible (replace HB := HB.dr.up hbk; replace HR := HR.dr.up hbk; replace HN := HN.dr.up hbk; replace nb := nb.dr.up hbk)); have lr4 := HR.lt; have hr_0 := HR.c0; have hr_1 := HR.c1; have hr_2 := HR.c2; have hr_l := HR.lt; have hr_f0 := HR.f0; have hr_f1 := HR.f1; have hr_f2 := HR.f2) | fail)
  all_goals
    go_wp2_with fail
    refine name_end ?_
    intro W4 hW4
    have HF : At W4 W.heap.size [.bool false, .slice B (dl v) e3, .int .i64 (us.size : Int)] := by rw [hW4]; (repeat (first | with_reducible exact HR | (with_reducible refine At.dr ?_) | (with_reducible refine At.xput3 (v0 := .bool false) (v1 := .slice none 0 0) (v2 := .int .i64 0) ?_ _ _ _) | (with_reducible refine At.al ?_ _)))
    have NF : Nm W4 B (dl v) e3 v := by rw [hW4]; (repeat (first | with_reducible exact nb | (with_reducible refine Nm.dr ?_) | (with_reducible refine Nm.al ?_ _) | (with_reducible refine Nm.xputs ?_ ?_ _ _ _ _ _) | with_reducible exact HR | (with_reducible refine At.dr ?_) | (with_reducible refine At.xput3 (v0 := .bool false) (v1 := .slice none 0 0) (v2 := .int .i64 0) ?_ _ _ _) | (with_reducible refine At.al ?_ _)))
    have BF : Bel W W4 := by rw [hW4]; (repeat (first | with_reducible exact HB | (with_reducible refine Bel.dr ?_) | (with_reducible refine Bel.al ?_ _) | (with_reducible refine Bel.xput3 ?_ (Nat.le_refl _) _ _ _)))
    clear hW4
    refine bodyPost_ret (v := .tuple #[.agg #[.bool false, .slice B (dl v) e3, .int .i64 (us.size : Int)], .int .i64 0]) (by simp [results, Tryz.results7, go_sem, HF.c0, HF.c1, HF.c2]) rfl ?_
    exact ⟨B, e3, by rw [HSU.out us hus.out], NF, BF⟩
set_option maxHeartbeats 4000000 in
theorem dparse_nmo (h : Form s.data.toList b t u pt) (hs : s.size ≤ 256) (hb : b = true) (hp : pt = false) (ht : t ≠ []) (hu : u.length ≤ 60) (hd : digB (t ++ u) = true) (hv : numL (t ++ u) = v) (h0 : v ≠ 0) : Calls Tryz.prog 7 #[.string s] W (DPR W true v u.length) := by
  obtain ⟨k, CK0, CD0⟩ := form_cut h (by omega)
  have CK := hide CK0
  have CD := hide CD0
  have HLN := hide (form_len h)
  have HT : Hid (∀ l : List UInt8, l = t → l.isEmpty = false) := fun l hl => by rw [hl]; cases t with | nil => exact absurd rfl ht | cons a xs => rfl
  have HU : Hid (∀ l : List UInt8, l = u → l.isEmpty = u.isEmpty) := fun l hl => by rw [hl]
  have HZ : Hid (∀ x : ByteArray, x.data.toList = u → ¬ 60 < x.size) := fun x hx => by rw [size_list, hx]; exact Nat.not_lt.2 hu
  have HZ2 : Hid (∀ x y : ByteArray, x.data.toList = t → y.data.toList = u → x.size + y.size ≤ 256) := fun x y hx hy => by rw [size_list, size_list, hx, hy]; have := HLN.out; omega
  subst hp
  subst hb
  have CN : Hid (∀ W' (x y : ByteArray), x.data.toList = t → y.data.toList = u → Calls Tryz.prog 45 #[.string (x ++ y)] W' (PsR W' v)) := fun W' x y hx hy => parse_h (x ++ y) W' (by have h1 := HZ2.out x y hx hy; rw [ByteArray.size_append]; omega) (by rw [ByteArray.toList_data_append, hx, hy]; exact hd) (by rw [ByteArray.toList_data_append, hx, hy]; exact hv)
  have HSU : Hid (∀ x : ByteArray, x.data.toList = u → (x.size : Int) = (u.length : Int)) := fun x hx => by rw [size_list, hx]
  have CZ : Hid (∀ W' B e, Nm W' B (dl v) e v → Calls Tryz.prog 46 #[.agg #[.slice B (dl v) e]] W' (RetB W' false)) := fun W' B e h1 => by
    have h2 := dzero_h h1
    rwa [decide_eq_false h0] at h2
  have hs2 : ¬ 256 < s.size := by omega
  clear h hs CK0 CD0 ht hu hd hv h0 
  have HB := Bel.refl W
  go_enter Tryz.func7, Tryz.ntmps7
  go_wp2_with (first | (go_at_call 43; (with_reducible refine (CK.out _).mono ?_); rintro e w1 ⟨x, rfl, hx, rfl⟩) | (go_at_call 44; (with_reducible refine (CD.out _ _ hx).mono ?_); rintro e w2 ⟨ts, us, rfl, hts, hus, hbk⟩; have HR := At.up (at_new0 _ [.bool false, .slice none 0 0, .int .i64 0] _) hbk; replace HB := (HB.al _).up hbk; have e1 := (empty_iff ts).trans (HT.out _ hts.out); have e2 := (empty_iff us).trans (HU.out _ hus.out); have hr_0 := HR.c0; have hr_1 := HR.c1; have hr_2 := HR.c2; have hr_f0 := HR.f0; have hr_f1 := HR.f1; have hr_f2 := HR.f2; have hr_l := HR.lt; have hsz := HZ.out us hus.out; have hsu := HZ2.out ts us hts.out hus.out) | (go_at_call 45; (with_reducible refine (CN.out _ _ _ hts.out hus.out).mono ?_); rintro e w3 ⟨B, e3, rfl, nb, hbk⟩; (with_reducible (replace HB := HB.up hbk; replace HR := HR.up hbk)); clear hr_0 hr_1 hr_2 hr_l hr_f0 hr_f1 hr_f2; have lr := HR.lt) | fail)
  all_goals first
    | (exfalso; omega)
    | skip
  obtain ⟨W3, hW3⟩ : ∃ W3, W3 = w3.alloc (.cells #[.slice B (dl v) e3] 24) := ⟨_, rfl⟩
  rw [← hW3]
  obtain ⟨p3, hp3⟩ : ∃ p3, p3 = w3.heap.size := ⟨_, rfl⟩
  rw [← hp3]
  have HN : At W3 p3 [.slice B (dl v) e3] := by rw [hW3, hp3]; exact at_new0 _ _ _
  replace HB : Bel W W3 := by rw [hW3]; exact HB.al _
  replace HR : At W3 W.heap.size [.bool false, .slice none 0 0, .int .i64 0] := by rw [hW3]; exact HR.al _
  replace nb : Nm W3 B (dl v) e3 v := by rw [hW3]; exact nb.al _
  have hne : W.heap.size ≠ p3 := by omega
  clear hW3 hp3
  go_region_held3 (fun w' => w'.cell? ⟨p3, 0, none⟩ = some (.slice B (dl v) e3))
    (refine (?_ : At _ p3 [.slice B (dl v) e3]).c0 <;> (repeat (first | with_reducible exact HN | (with_reducible refine At.dr ?_) | (with_reducible refine At.al ?_ _) | (with_reducible refine At.far ?_ (by omega) _) | (refine At.far3 ?_ (by omega) _ _ _))))
    (first | (go_at_call 46; (with_reducible refine (CZ.out _ _ _ nb.dr).mono ?_); rintro e w4 ⟨rfl, hbk⟩; replace hbk := Bel.hid hbk; (with_reducible (replace HB := HB.dr.up hbk; replace HR := HR.dr.up hbk; replace HN := HN.dr.up hbk; replace nb := nb.dr.up hbk)); have lr4 := HR.lt; have hr_0 := HR.c0; have hr_1 := HR.c1; have hr_2 := HR.c2; have hr_l := HR.lt; have hr_f0 := HR.f0; have hr_f1 := HR.f1; have hr_f2 := HR.f2) | fail)
  all_goals
    go_wp2_with fail
    refine name_end ?_
    intro W4 hW4
    have HF : At W4 W.heap.size [.bool true, .slice B (dl v) e3, .int .i64 (us.size : Int)] := by rw [hW4]; (repeat (first | with_reducible exact HR | (with_reducible refine At.dr ?_) | (with_reducible refine At.xput3 (v0 := .bool false) (v1 := .slice none 0 0) (v2 := .int .i64 0) ?_ _ _ _) | (with_reducible refine At.al ?_ _)))
    have NF : Nm W4 B (dl v) e3 v := by rw [hW4]; (repeat (first | with_reducible exact nb | (with_reducible refine Nm.dr ?_) | (with_reducible refine Nm.al ?_ _) | (with_reducible refine Nm.xputs ?_ ?_ _ _ _ _ _) | with_reducible exact HR | (with_reducible refine At.dr ?_) | (with_reducible refine At.xput3 (v0 := .bool false) (v1 := .slice none 0 0) (v2 := .int .i64 0) ?_ _ _ _) | (with_reducible refine At.al ?_ _)))
    have BF : Bel W W4 := by rw [hW4]; (repeat (first | with_reducible exact HB | (with_reducible refine Bel.dr ?_) | (with_reducible refine Bel.al ?_ _) | (with_reducible refine Bel.xput3 ?_ (Nat.le_refl _) _ _ _)))
    clear hW4
    refine bodyPost_ret (v := .tuple #[.agg #[.bool true, .slice B (dl v) e3, .int .i64 (us.size : Int)], .int .i64 0]) (by simp [results, Tryz.results7, go_sem, HF.c0, HF.c1, HF.c2]) rfl ?_
    exact ⟨B, e3, by rw [HSU.out us hus.out], NF, BF⟩
end
end Go.Proofs.YtphnmccpcjecnaaGreatDoor
