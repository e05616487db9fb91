/- Several texts in one, each with its own sentence and conditions. -/
import Derived.Test.YtphnmccpcjecnaaGreatDoorGDsbc13
import Derived.Test.YtphnmccpcjecnaaGreatDoorGDsbc22
import Derived.Test.YtphnmccpcjecnaaGreatDoorDp
import Derived.Test.YtphnmccpcjecnaaGreatDoorGDsbc25
import Derived.Test.YtphnmccpcjecnaaGreatDoorRtg
import Derived.Deep.RegionHeld3
section
/- Parted from Dw: by function. -/
open Go.RowKit
set_option maxRecDepth 100000
namespace Go.Proofs.YtphnmccpcjecnaaGreatDoor
section
variable {W : World} {s : ByteArray} {b pt : Bool} {t u : List UInt8} {v : Nat}
theorem decL_lit {m : Nat} {ds : List Nat} {l : List UInt8} (h : ∀ x ∈ ds, x < 10) (hl : ∀ x, ds.getLast? = some x → x ≠ 0) (hm : m = val 10 ds) (h0 : m ≠ 0) (hr : ds.reverse.map (fun d => UInt8.ofNat (48 + d)) = l) : decL m = l := by
  unfold decL
  rw [if_neg h0, hm, digs_val (by decide) ds h hl, hr]
end
end Go.Proofs.YtphnmccpcjecnaaGreatDoor
end

section
/- An integer's text is read as it. Conditions: a text of less than 99990 bytes. -/
open Go.RowKit
set_option maxRecDepth 100000
namespace Go.Proofs.YtphnmccpcjecnaaGreatDoor
theorem head_dec (m : Nat) : (decL m).head? ≠ some 45 := by
  intro h
  have h1 := (numL_decL m).2
  unfold digB at h1
  rw [Bool.and_eq_true] at h1
  cases hl : decL m with
  | nil => rw [hl] at h; cases h
  | cons x xs =>
    rw [hl] at h h1
    injection h with h
    subst h
    have := h1.2
    rw [List.all_cons, Bool.and_eq_true] at this
    exact absurd this.1 (by decide)
end Go.Proofs.YtphnmccpcjecnaaGreatDoor
end

section
/- Package dec: texts that are read: any; a numeral's own. No conditions. -/
open Go.RowKit
set_option maxRecDepth 100000
namespace Go.Proofs.YtphnmccpcjecnaaGreatDoor
theorem dot_of (k : List UInt8) : ∃ t u pt, Dot k t u pt := by
  induction k with
  | nil => exact ⟨[], [], false, ⟨(fun h => by cases h), (fun _ => ⟨rfl, rfl⟩), by simp⟩⟩
  | cons x xs ih =>
    by_cases hx : x = 46
    · exact ⟨[], xs, true, ⟨(fun _ => by rw [hx]; rfl), (fun h => by cases h), by simp⟩⟩
    · obtain ⟨t, u, pt, h1, h2, h3⟩ := ih
      refine ⟨x :: t, u, pt, ⟨fun h => by rw [h1 h]; rfl, fun h => ⟨by rw [← (h2 h).1], (h2 h).2⟩, ?_⟩⟩
      intro h
      rcases List.mem_cons.1 h with h | h
      · exact hx h.symm
      · exact h3 h
theorem form_of (l : List UInt8) : ∃ b t u pt, Form l b t u pt := by
  by_cases h : l.head? = some 45
  · obtain ⟨k, hk⟩ : ∃ k, l = 45 :: k := by
      cases l with
      | nil => cases h
      | cons x xs => injection h with h; exact ⟨xs, by rw [h]⟩
    obtain ⟨t, u, pt, hd⟩ := dot_of k
    exact ⟨true, t, u, pt, ⟨k, hk, (fun h => by cases h), hd⟩⟩
  · obtain ⟨t, u, pt, hd⟩ := dot_of l
    exact ⟨false, t, u, pt, ⟨l, rfl, fun _ => h, hd⟩⟩
section
variable {W : World} {s : ByteArray} {b pt : Bool} {t u : List UInt8} {v : Nat}
theorem dparse_ok (h : Form s.data.toList b t u pt) (hs : s.size ≤ 256) (ht : t ≠ []) (hu2 : pt = true → u ≠ []) (hu : u.length ≤ 60) (hd : digB (t ++ u) = true) (hv : numL (t ++ u) = v) : Calls Tryz.prog 7 #[.string s] W (DPR W (b && decide (v ≠ 0)) v u.length) := by
  cases pt
  · cases b
    · exact dparse_np h hs rfl rfl ht hu hd hv
    · by_cases h0 : v = 0
      · rw [decide_eq_false (by simpa using h0)]; exact dparse_nmz h hs rfl rfl ht hu hd hv h0
      · rw [decide_eq_true h0]; exact dparse_nmo h hs rfl rfl ht hu hd hv h0
  · cases b
    · exact dparse_yp h hs rfl rfl ht (hu2 rfl) hu hd hv
    · by_cases h0 : v = 0
      · rw [decide_eq_false (by simpa using h0)]; exact dparse_ymz h hs rfl rfl ht (hu2 rfl) hu hd hv h0
      · rw [decide_eq_true h0]; exact dparse_ymo h hs rfl rfl ht (hu2 rfl) hu hd hv h0
theorem dparse_bad (h : Form s.data.toList b t u pt) (hs : s.size ≤ 256) (hn : ¬ (t ≠ [] ∧ (pt = true → u ≠ []) ∧ u.length ≤ 60 ∧ digB (t ++ u) = true)) : Calls Tryz.prog 7 #[.string s] W (DPE W 2) := by
  by_cases ht : t = []
  · exact dparse_f1 h hs ht
  · cases pt
    · by_cases hu : u.length ≤ 60
      · exact dparse_f4a h hs ht rfl hu (fun hd => hn ⟨ht, (fun h => by cases h), hu, hd⟩)
      · exact dparse_f3a h hs ht rfl (by omega)
    · by_cases hu2 : u = []
      · exact dparse_f2 h hs ht rfl hu2
      · by_cases hu : u.length ≤ 60
        · exact dparse_f4b h hs ht rfl hu2 hu (fun hd => hn ⟨ht, (fun _ => hu2), hu, hd⟩)
        · exact dparse_f3b h hs ht rfl (by omega)
/-- What a text is read as: nothing, or a numeral. -/
theorem dparse_any (s : ByteArray) (hs : s.size ≤ 256) : (∀ W, Calls Tryz.prog 7 #[.string s] W (DPE W 2)) ∨ ∃ nb v sc, (nb = true → 0 < v) ∧ sc ≤ 60 ∧ dl v ≤ 256 ∧ ∀ W, Calls Tryz.prog 7 #[.string s] W (DPR W nb v sc) := by
  obtain ⟨b, t, u, pt, h⟩ := form_of s.data.toList
  by_cases hn : t ≠ [] ∧ (pt = true → u ≠ []) ∧ u.length ≤ 60 ∧ digB (t ++ u) = true
  · refine Or.inr ⟨_, _, _, ?_, hn.2.2.1, ?_, fun W => dparse_ok h hs hn.1 hn.2.1 hn.2.2.1 hn.2.2.2 rfl⟩
    · intro hb
      rw [Bool.and_eq_true] at hb
      have := of_decide_eq_true hb.2
      omega
    · have h1 := hn.2.2.2
      unfold digB at h1
      rw [Bool.and_eq_true] at h1
      have h2 := numL_lt _ h1.2
      have h3 := form_len h
      refine dl_le (Nat.lt_of_lt_of_le h2 (Nat.le_trans (Nat.pow_le_pow_left (show 10 ≤ W32 by decide) _) (Nat.pow_le_pow_right (by decide) ?_)))
      rw [List.length_append]; omega
  · exact Or.inl fun W => dparse_bad h hs hn
theorem no_point {l : List UInt8} (h : l.all isDig = true) : ¬ (46 : UInt8) ∈ l := fun hm => by
  have := List.all_eq_true.1 h 46 hm
  exact absurd this (by decide)
theorem back_form {m k : Nat} : Form (decD b m k) b (decL (m / 10 ^ k)) (if k = 0 then [] else partL m k) (decide (k ≠ 0)) := by
  refine ⟨_, rfl, fun _ => ?_, ?_⟩
  · obtain ⟨x, xs, hx⟩ : ∃ x xs, decL (m / 10 ^ k) = x :: xs := by
      cases h : decL (m / 10 ^ k) with
      | nil => exact absurd h (decL_ne _)
      | cons x xs => exact ⟨x, xs, rfl⟩
    have h1 := head_dec (m / 10 ^ k)
    rw [hx] at h1 ⊢
    exact h1
  · by_cases hk : k = 0
    · rw [if_pos hk, if_pos hk, List.append_nil]
      refine ⟨fun h => ?_, fun _ => ⟨rfl, rfl⟩, no_point (decL_all _)⟩
      rw [decide_eq_false (by simpa using hk)] at h; cases h
    · rw [if_neg hk, if_neg hk]
      refine ⟨fun _ => rfl, fun h => ?_, no_point (decL_all _)⟩
      rw [decide_eq_true hk] at h; cases h
/-- A numeral's text is read as it. -/
theorem dparse_back {m k : Nat} (ht : s.data.toList = decD b m k) (hk : k ≤ 60) (hb : b = true → 0 < m) (hs : s.size ≤ 256) : Calls Tryz.prog 7 #[.string s] W (DPR W b m k) := by
  have hf : Form s.data.toList b (decL (m / 10 ^ k)) (if k = 0 then [] else partL m k) (decide (k ≠ 0)) := by rw [ht]; exact back_form
  have e1 : (b && decide (m ≠ 0)) = b := by
    cases b
    · rfl
    · rw [decide_eq_true (by have := hb rfl; omega)]; rfl
  by_cases h0 : k = 0
  · have h1 := dparse_ok (W := W) (v := m) hf hs (decL_ne _) (fun h => by rw [decide_eq_false (by simpa using h0)] at h; cases h) (by rw [if_pos h0]; simp) (by rw [if_pos h0, List.append_nil]; exact (numL_decL _).2) (by rw [if_pos h0, List.append_nil, (numL_decL _).1, h0]; simp)
    rw [e1, if_pos h0] at h1
    rw [h0]
    exact h1
  · have hl := (part_facts m k).2.1
    have h1 := dparse_ok (W := W) (v := m) hf hs (decL_ne _) (fun _ => by rw [if_neg h0]; intro h; rw [h] at hl; exact h0 hl.symm) (by rw [if_neg h0, hl]; exact hk) (by rw [if_neg h0]; exact back_dig m k) (by rw [if_neg h0]; exact back_num m k)
    rw [e1, if_neg h0, hl] at h1
    exact h1
end
end Go.Proofs.YtphnmccpcjecnaaGreatDoor
end

section
/- A text is read by dec.Parse and by the document's DParse as the same numeral, or refused alike. No conditions. -/
open Go.RowKit
set_option maxRecDepth 100000
namespace Go.Proofs.YtphnmccpcjecnaaGreatDoor
section
variable {W : World} {s x : ByteArray} {m : Nat}
theorem rdp_size (hs : 256 < s.size) : Calls Tryz.prog 8 #[.string s] W (RDN W 11) := by
  have q4 : (256 : Int) < (s.size : Int) := by omega
  clear hs
  have hr := (at_new0 W [.bool false, .slice none 0 0, .int .i64 0] 39)
  have hr_0 := hr.c0; have hr_1 := hr.c1; have hr_2 := hr.c2; have hr_l := hr.lt; have hr_f0 := hr.f0; have hr_f1 := hr.f1; have hr_f2 := hr.f2
  have HB := (Bel.refl W).al (.cells #[.bool false, .slice none 0 0, .int .i64 0] 39 (0, 0))
  clear hr
  go_enter Tryz.func8, Tryz.ntmps8
  go_wp2_with fail
  refine bodyPost_ret (v := .tuple #[.agg #[.bool false, .slice none 0 0, .int .i64 0], .int .i64 11]) (by simp [results, Tryz.results8, go_sem, hr_0, hr_1, hr_2]) rfl ?_
  first | exact ⟨rfl, HB⟩ | exact ⟨rfl, below3 HB (Nat.le_refl _) _ _ _⟩
theorem dot_at (s : ByteArray) : ∃ m, m ≤ s.size ∧ (∀ i (h : i < s.size), i < m → s[i] ≠ 46) ∧ (∀ h : m < s.size, s[m] = 46) := by
  refine ⟨s.data.toList.findIdx (fun c => c == 46), by rw [size_list]; exact List.findIdx_le_length, fun i h hi e => ?_, fun h => ?_⟩
  · have h1 := List.not_of_lt_findIdx hi
    have h2 : ¬ s.data[i] = 46 := by simpa using h1
    exact h2 e
  · have h1 := List.findIdx_getElem (p := fun c : UInt8 => c == 46) (xs := s.data.toList) (w := by rw [← size_list]; exact h)
    exact eq_of_beq h1
theorem dot_parts (h : m < s.size) (e : s[m] = 46) : s.data.toList = (s.extract 0 m).data.toList ++ 46 :: (s.extract (m + 1) s.size).data.toList := by
  have hl : m < s.data.toList.length := by rw [← size_list]; exact h
  have e1 : s.data.toList[m] = 46 := e
  rw [extract_list, extract_list, List.drop_zero, size_list, List.take_length]
  conv => lhs; rw [← List.take_append_drop m s.data.toList]
  rw [List.drop_eq_getElem_cons hl, e1]
theorem dot_free (hm : m ≤ s.size) (hpre : ∀ i (h : i < s.size), i < m → s[i] ≠ 46) : ¬ (46 : UInt8) ∈ (s.extract 0 m).data.toList := by
  rw [extract_list, List.drop_zero]
  intro h
  obtain ⟨i, hi, e⟩ := List.getElem_of_mem h
  rw [List.length_take] at hi
  rw [List.getElem_take] at e
  exact hpre i (by omega) (by omega) e
theorem dot_all (hm : m = s.size) : (s.extract 0 m).data.toList = s.data.toList := by
  subst hm
  rw [extract_list, List.drop_zero, size_list, List.take_length]
theorem nil_of {u : ByteArray} (h : u.data.toList = []) : u.toList.isEmpty = true := by rw [empty_iff, h]; rfl
theorem cons_of {u : ByteArray} (h : u.data.toList ≠ []) : u.toList.isEmpty = false := by
  rw [empty_iff]
  cases hu : u.data.toList with
  | nil => exact absurd hu h
  | cons a l => rfl
theorem cat_nil (x : ByteArray) : (x ++ (⟨#[]⟩ : ByteArray)).data.toList = x.data.toList := by simp
theorem cat_two (x y : ByteArray) : (x ++ y).data.toList = x.data.toList ++ y.data.toList := by simp
theorem digB_ne {l : List UInt8} (h : digB l = true) : l ≠ [] := fun e => by rw [e] at h; cases h
/-- Both read s as the numeral; both refuse it. -/
def DTwo (s : ByteArray) (sg : Bool) (v sc : Nat) : Prop := (∀ W, Calls Tryz.prog 7 #[.string s] W (DPR W sg v sc)) ∧ (∀ W, Calls Tryz.prog 8 #[.string s] W (RDY W sg v sc))
def DNo (s : ByteArray) (er : Int) : Prop := (∀ W, Calls Tryz.prog 7 #[.string s] W (DPE W er)) ∧ (∀ W, Calls Tryz.prog 8 #[.string s] W (RDN W er))
theorem num_small {l : List UInt8} {k : Nat} (h : digB l = true) (hl : l.length ≤ k) : numL l < W32 ^ k := by
  unfold digB at h
  rw [Bool.and_eq_true] at h
  exact Nat.lt_of_lt_of_le (numL_lt _ h.2) (Nat.le_trans (Nat.pow_le_pow_left (show 10 ≤ W32 by decide) _) (Nat.pow_le_pow_right (by decide) hl))
theorem dneg (v : Nat) : decide (0 < dq v) = decide (v ≠ 0) := decide_eq_decide.2 (by rw [dq_pos]; omega)
theorem two_m (hs : s.size ≤ 256) (h0 : 0 < s.size) (hb : s[0] = 45) (hx : x = s.extract 1 s.size) : (∃ sg v sc, v < W32 ^ 256 ∧ sc ≤ 60 ∧ (sg = true → v ≠ 0) ∧ DTwo s sg v sc) ∨ DNo s 2 := by
  obtain ⟨m, hm, hpre, hend⟩ := dot_at x
  have hl : s.data.toList = 45 :: x.data.toList := by
    have hl0 : 0 < s.data.toList.length := by rw [← size_list]; exact h0
    have e1 : s.data.toList[0] = 45 := hb
    rw [hx, extract_list, size_list, List.take_length]
    conv => lhs; rw [← List.drop_zero (l := s.data.toList), List.drop_eq_getElem_cons hl0, e1]
  have hf : ∀ t u pt, Dot x.data.toList t u pt → Form s.data.toList true t u pt := fun t u pt hd => ⟨x.data.toList, hl, (fun h => by cases h), hd⟩
  have hxs : x.size ≤ 256 := by rw [hx, size_list, extract_list, List.length_drop, List.length_take, ← size_list]; omega
  by_cases hms : m < x.size
  · have hparts := dot_parts hms (hend hms)
    have hfree := dot_free hm hpre
    have hF := hf _ _ _ (⟨fun _ => hparts, (fun h => by cases h), hfree⟩ : Dot x.data.toList (x.extract 0 m).data.toList (x.extract (m + 1) x.size).data.toList true)
    have hlen : (x.extract (m + 1) x.size).data.toList.length = x.size - (m + 1) := by rw [extract_list, List.length_drop, List.length_take, ← size_list]; omega
    have hsz : (x.extract (m + 1) x.size).size = x.size - (m + 1) := by rw [size_list]; exact hlen
    have hall : ((x.extract 0 m).data.toList ++ (x.extract (m + 1) x.size).data.toList).length ≤ 256 := by
      have h1 := congrArg List.length hparts
      rw [← size_list, List.length_append, List.length_cons] at h1
      rw [List.length_append]; omega
    have hcs : (x.extract 0 m ++ x.extract (m + 1) x.size).size ≤ 100000 := by rw [size_list, cat_two]; omega
    by_cases hU : (x.extract (m + 1) x.size).data.toList = []
    · exact .inr ⟨fun W => dparse_bad hF hs (fun h => h.2.1 rfl hU), fun W => rdp_m_pe hs h0 hb hx hm hpre hend hms (nil_of hU)⟩
    · by_cases hU2 : (x.extract (m + 1) x.size).size ≤ 60
      · by_cases hd : digB ((x.extract 0 m).data.toList ++ (x.extract (m + 1) x.size).data.toList) = true
        · have hp : ∀ W', Calls Tryz.prog 47 #[.string (x.extract 0 m ++ x.extract (m + 1) x.size)] W' (RpY W' (numL ((x.extract 0 m).data.toList ++ (x.extract (m + 1) x.size).data.toList))) := fun W' => by
            have h1 := rp_yes (x.extract 0 m ++ x.extract (m + 1) x.size) W' hcs (by rw [cat_two]; exact hd)
            rwa [cat_two] at h1
          by_cases hT : (x.extract 0 m).data.toList = []
          · exact .inr ⟨fun W => dparse_bad hF hs (fun h => h.1 hT), fun W => rdp_m_pa hs h0 hb hx hm hpre hend hms (cons_of hU) hU2 (nil_of hT) hp⟩
          · refine .inl ⟨true && decide (numL ((x.extract 0 m).data.toList ++ (x.extract (m + 1) x.size).data.toList) ≠ 0), _, x.size - (m + 1), num_small hd hall, by omega, (fun h => by rw [Bool.true_and] at h; exact of_decide_eq_true h), fun W => ?_, fun W => ?_⟩
            · have h1 := dparse_ok (W := W) hF hs hT (fun _ => hU) (by rw [hlen]; omega) hd rfl
              rwa [hlen] at h1
            · exact rdp_m_py hs h0 hb hx hm hpre hend hms (cons_of hU) hU2 (cons_of hT) (dneg _) hp
        · have hp : ∀ W', Calls Tryz.prog 47 #[.string (x.extract 0 m ++ x.extract (m + 1) x.size)] W' (RpN W') := fun W' => rp_no _ W' hcs (by rw [cat_two]; exact hd)
          exact .inr ⟨fun W => dparse_bad hF hs (fun h => hd h.2.2.2), fun W => rdp_m_pn hs h0 hb hx hm hpre hend hms (cons_of hU) hU2 hp⟩
      · exact .inr ⟨fun W => dparse_bad hF hs (fun h => by have := h.2.2.1; omega), fun W => rdp_m_pl hs h0 hb hx hm hpre hend hms (cons_of hU) (by omega)⟩
  · have hme : m = x.size := by omega
    have hfree := dot_free hm hpre
    rw [dot_all hme] at hfree
    have hF := hf _ _ _ (⟨(fun h => by cases h), fun _ => ⟨rfl, rfl⟩, hfree⟩ : Dot x.data.toList x.data.toList [] false)
    have hcs : (x ++ (⟨#[]⟩ : ByteArray)).size ≤ 100000 := by rw [size_list, cat_nil, ← size_list]; omega
    by_cases hd : digB x.data.toList = true
    · have hp : ∀ W', Calls Tryz.prog 47 #[.string (x ++ ⟨#[]⟩)] W' (RpY W' (numL x.data.toList)) := fun W' => by
        have h1 := rp_yes (x ++ ⟨#[]⟩) W' hcs (by rw [cat_nil]; exact hd)
        rwa [cat_nil] at h1
      refine .inl ⟨true && decide (numL x.data.toList ≠ 0), _, 0, num_small hd (by rw [← size_list]; exact hxs), by omega, (fun h => by rw [Bool.true_and] at h; exact of_decide_eq_true h), fun W => ?_, fun W => ?_⟩
      · have h1 := dparse_ok (W := W) hF hs (digB_ne hd) (fun h => by cases h) (by simp) (by rw [List.append_nil]; exact hd) rfl
        rw [List.append_nil] at h1
        exact h1
      · exact rdp_m_y hs h0 hb hx hm hpre hend hme (cons_of (digB_ne hd)) (dneg _) hp
    · have hp : ∀ W', Calls Tryz.prog 47 #[.string (x ++ ⟨#[]⟩)] W' (RpN W') := fun W' => rp_no _ W' hcs (by rw [cat_nil]; exact hd)
      exact .inr ⟨fun W => dparse_bad hF hs (fun h => hd (by have := h.2.2.2; rwa [List.append_nil] at this)), fun W => rdp_m_n hs h0 hb hx hm hpre hend hme hp⟩
theorem two_p (hs : s.size ≤ 256) (h0 : 0 < s.size) (hb : s[0] ≠ 45) (hx : x = s) : (∃ sg v sc, v < W32 ^ 256 ∧ sc ≤ 60 ∧ (sg = true → v ≠ 0) ∧ DTwo s sg v sc) ∨ DNo s 2 := by
  obtain ⟨m, hm, hpre, hend⟩ := dot_at x
  have hf : ∀ t u pt, Dot x.data.toList t u pt → Form s.data.toList false t u pt := fun t u pt hd => ⟨x.data.toList, by rw [hx]; rfl, (fun _ e => by
    have hl0 : 0 < s.data.toList.length := by rw [← size_list]; exact h0
    rw [hx, List.head?_eq_getElem?, List.getElem?_eq_getElem hl0] at e
    exact hb (Option.some.inj e)), hd⟩
  have hxs : x.size ≤ 256 := by rw [hx]; exact hs
  by_cases hms : m < x.size
  · have hparts := dot_parts hms (hend hms)
    have hfree := dot_free hm hpre
    have hF := hf _ _ _ (⟨fun _ => hparts, (fun h => by cases h), hfree⟩ : Dot x.data.toList (x.extract 0 m).data.toList (x.extract (m + 1) x.size).data.toList true)
    have hlen : (x.extract (m + 1) x.size).data.toList.length = x.size - (m + 1) := by rw [extract_list, List.length_drop, List.length_take, ← size_list]; omega
    have hsz : (x.extract (m + 1) x.size).size = x.size - (m + 1) := by rw [size_list]; exact hlen
    have hall : ((x.extract 0 m).data.toList ++ (x.extract (m + 1) x.size).data.toList).length ≤ 256 := by
      have h1 := congrArg List.length hparts
      rw [← size_list, List.length_append, List.length_cons] at h1
      rw [List.length_append]; omega
    have hcs : (x.extract 0 m ++ x.extract (m + 1) x.size).size ≤ 100000 := by rw [size_list, cat_two]; omega
    by_cases hU : (x.extract (m + 1) x.size).data.toList = []
    · exact .inr ⟨fun W => dparse_bad hF hs (fun h => h.2.1 rfl hU), fun W => rdp_p_pe hs h0 hb hx hm hpre hend hms (nil_of hU)⟩
    · by_cases hU2 : (x.extract (m + 1) x.size).size ≤ 60
      · by_cases hd : digB ((x.extract 0 m).data.toList ++ (x.extract (m + 1) x.size).data.toList) = true
        · have hp : ∀ W', Calls Tryz.prog 47 #[.string (x.extract 0 m ++ x.extract (m + 1) x.size)] W' (RpY W' (numL ((x.extract 0 m).data.toList ++ (x.extract (m + 1) x.size).data.toList))) := fun W' => by
            have h1 := rp_yes (x.extract 0 m ++ x.extract (m + 1) x.size) W' hcs (by rw [cat_two]; exact hd)
            rwa [cat_two] at h1
          by_cases hT : (x.extract 0 m).data.toList = []
          · exact .inr ⟨fun W => dparse_bad hF hs (fun h => h.1 hT), fun W => rdp_p_pa hs h0 hb hx hm hpre hend hms (cons_of hU) hU2 (nil_of hT) hp⟩
          · refine .inl ⟨false && decide (numL ((x.extract 0 m).data.toList ++ (x.extract (m + 1) x.size).data.toList) ≠ 0), _, x.size - (m + 1), num_small hd hall, by omega, (fun h => by cases h), fun W => ?_, fun W => ?_⟩
            · have h1 := dparse_ok (W := W) hF hs hT (fun _ => hU) (by rw [hlen]; omega) hd rfl
              rwa [hlen] at h1
            · exact rdp_p_py hs h0 hb hx hm hpre hend hms (cons_of hU) hU2 (cons_of hT) hp
        · have hp : ∀ W', Calls Tryz.prog 47 #[.string (x.extract 0 m ++ x.extract (m + 1) x.size)] W' (RpN W') := fun W' => rp_no _ W' hcs (by rw [cat_two]; exact hd)
          exact .inr ⟨fun W => dparse_bad hF hs (fun h => hd h.2.2.2), fun W => rdp_p_pn hs h0 hb hx hm hpre hend hms (cons_of hU) hU2 hp⟩
      · exact .inr ⟨fun W => dparse_bad hF hs (fun h => by have := h.2.2.1; omega), fun W => rdp_p_pl hs h0 hb hx hm hpre hend hms (cons_of hU) (by omega)⟩
  · have hme : m = x.size := by omega
    have hfree := dot_free hm hpre
    rw [dot_all hme] at hfree
    have hF := hf _ _ _ (⟨(fun h => by cases h), fun _ => ⟨rfl, rfl⟩, hfree⟩ : Dot x.data.toList x.data.toList [] false)
    have hcs : (x ++ (⟨#[]⟩ : ByteArray)).size ≤ 100000 := by rw [size_list, cat_nil, ← size_list]; omega
    by_cases hd : digB x.data.toList = true
    · have hp : ∀ W', Calls Tryz.prog 47 #[.string (x ++ ⟨#[]⟩)] W' (RpY W' (numL x.data.toList)) := fun W' => by
        have h1 := rp_yes (x ++ ⟨#[]⟩) W' hcs (by rw [cat_nil]; exact hd)
        rwa [cat_nil] at h1
      refine .inl ⟨false && decide (numL x.data.toList ≠ 0), _, 0, num_small hd (by rw [← size_list]; exact hxs), by omega, (fun h => by cases h), fun W => ?_, fun W => ?_⟩
      · have h1 := dparse_ok (W := W) hF hs (digB_ne hd) (fun h => by cases h) (by simp) (by rw [List.append_nil]; exact hd) rfl
        rw [List.append_nil] at h1
        exact h1
      · exact rdp_p_y hs h0 hb hx hm hpre hend hme (cons_of (digB_ne hd)) hp
    · have hp : ∀ W', Calls Tryz.prog 47 #[.string (x ++ ⟨#[]⟩)] W' (RpN W') := fun W' => rp_no _ W' hcs (by rw [cat_nil]; exact hd)
      exact .inr ⟨fun W => dparse_bad hF hs (fun h => hd (by have := h.2.2.2; rwa [List.append_nil] at this)), fun W => rdp_p_n hs h0 hb hx hm hpre hend hme hp⟩
end
theorem rdp_empty {W : World} : Calls Tryz.prog 8 #[.string ⟨#[]⟩] W (RDN W 2) := by
  have CP : Hid (∀ W', Calls Tryz.prog 47 #[.string ⟨#[]⟩] W' (RpN W')) := fun W' => rp_no _ W' (by decide) (by decide)
  have HB := Bel.refl W
  go_enter Tryz.func8, Tryz.ntmps8
  go_wp2_with fail
  obtain ⟨W3, hW3⟩ : ∃ X, X = W.alloc (.cells #[.bool false, .slice none 0 0, .int .i64 0] 39) := ⟨_, rfl⟩
  rw [← hW3]
  have HR : At W3 W.heap.size [.bool false, .slice none 0 0, .int .i64 0] := by rw [hW3]; exact at_new0 _ _ _
  replace HB : Bel W W3 := by rw [hW3]; exact HB.al _
  clear hW3
  go_loopw [5] (fun iv wr => iv = .int .i64 0 ∧ wr = W3) (fun iv _ => 0)
  case atStart => exact ⟨rfl, by first | rfl | trivial⟩
  case round =>
    obtain ⟨rfl, rfl⟩ := hrel
    go_wp2_with (first | (go_at_call 47; (with_reducible refine (CP.out _).mono ?_); rintro e w1 ⟨B, k0, d, rfl, hbk⟩; replace HR := HR.up hbk; replace HB := HB.up hbk; have hr_0 := HR.c0; have hr_1 := HR.c1; have hr_2 := HR.c2; have hr_l := HR.lt; have hr_f0 := HR.f0; have hr_f1 := HR.f1; have hr_f2 := HR.f2) | fail)
    refine bodyPost_ret (v := .tuple #[.agg #[.bool false, .slice none 0 0, .int .i64 0], .int .i64 2]) (by simp [results, Tryz.results8, go_sem, hr_0, hr_1, hr_2]) rfl ?_
    exact ⟨rfl, below3 HB (Nat.le_refl _) _ _ _⟩
/-- Any text. -/
theorem dparse_two (s : ByteArray) : (∃ sg v sc, v < W32 ^ 256 ∧ sc ≤ 60 ∧ (sg = true → v ≠ 0) ∧ DTwo s sg v sc) ∨ (∃ er : Int, er ≠ 0 ∧ DNo s er) := by
  by_cases hs : s.size ≤ 256
  · by_cases h0 : 0 < s.size
    · by_cases hb : s[0] = 45
      · exact (two_m hs h0 hb rfl).imp id fun h => ⟨2, by decide, h⟩
      · exact (two_p hs h0 hb rfl).imp id fun h => ⟨2, by decide, h⟩
    · have e : s = ⟨#[]⟩ := ByteArray.ext (Array.ext' (List.eq_nil_of_length_eq_zero (by rw [← size_list]; omega)))
      subst e
      exact .inr ⟨2, by decide, fun W => dparse_bad (b := false) (t := []) (u := []) (pt := false) ⟨⟨[], rfl, (fun _ => by simp), ⟨(fun h => by cases h), (fun _ => ⟨rfl, rfl⟩), by simp⟩⟩⟩ hs (fun h => h.1 rfl), fun W => rdp_empty⟩
  · exact .inr ⟨11, by decide, fun W => dparse_size (by omega), fun W => rdp_size (by omega)⟩
end Go.Proofs.YtphnmccpcjecnaaGreatDoor
end

section
/- Package dec: Rat. Conditions: numbers of at most 99999 words. -/
open Go.RowKit
set_option maxRecDepth 100000
namespace Go.Proofs.YtphnmccpcjecnaaGreatDoor
theorem At.sput3 {W : World} {p : Nat} {v0 v1 v2 : Value} (h : At W p [v0, v1, v2]) (x y z : Value) : At (((W.setCell ⟨p, 0, none⟩ x).setCell ⟨p, 1, none⟩ y).setCell ⟨p, 2, none⟩ z) p [x, y, z] := h.put3 x y z
/-- As QR, the sign by a name of its own. -/
def QRw (W : World) (sg : Bool) (r : Rat) (e : Ending) (w' : World) : Prop := ∃ A c A' c', e = .returned (.agg #[.bool sg, .slice A (dl r.num.natAbs) c, .slice A' (dl r.den) c']) ∧ ZA w' sg A (dl r.num.natAbs) c r.num ∧ Nm w' A' (dl r.den) c' r.den ∧ Hid (Below W.heap.size W w')
def OfYw (W : World) (sg : Bool) (r : Rat) (e : Ending) (w' : World) : Prop := ∃ A c A' c', e = .returned (.tuple #[.agg #[.bool sg, .slice A (dl r.num.natAbs) c, .slice A' (dl r.den) c'], .bool true]) ∧ ZA w' sg A (dl r.num.natAbs) c r.num ∧ Nm w' A' (dl r.den) c' r.den ∧ Hid (Below W.heap.size W w')
theorem noQ : ∀ x : Nat, Value.bool false ≠ U32 x := fun x h => by cases h
theorem Nm.putq {W : World} {p : Nat} {A : Option Addr} {n c m : Nat} (h : Nm W A n c m) (hp : At W p [.bool false, .slice none 0 0, .slice none 0 0]) (b : Bool) (B : Option Addr) (k d : Nat) (B' : Option Addr) (k' d' : Nat) :
    Nm (((W.setCell ⟨p, 0, none⟩ (.bool b)).setCell ⟨p, 1, none⟩ (.slice B k d)).setCell ⟨p, 2, none⟩ (.slice B' k' d')) A n c m := h.put3 hp now3
theorem Bel.put3 {w W : World} (h : Bel w W) {p : Nat} (hp : w.heap.size ≤ p) (x y z : Value) : Bel w (((W.setCell ⟨p, 0, none⟩ x).setCell ⟨p, 1, none⟩ y).setCell ⟨p, 2, none⟩ z) := below3 h hp x y z
section
variable {W : World} {b b0 : Bool} {A A0 : Option Addr} {n c m s n0 c0 : Nat} {s0 : Int} {r : Rat}
set_option maxHeartbeats 4000000 in
theorem drat_h (h : DY W (.agg #[.bool b0, .slice A0 n0 c0, .int .i64 s0]) b A n c m s) (hd : dl m ≤ 99999) (hr : mkRat (zi b m) (10 ^ s) = r) : Calls Tryz.prog 17 #[.agg #[.bool b0, .slice A0 n0 c0, .int .i64 s0]] W (QR W r) := by
  obtain ⟨p, hp⟩ : ∃ p, p = 10 ^ s := ⟨_, rfl⟩
  obtain ⟨sg, hsg⟩ : ∃ sg, sg = decide (r.num < 0) := ⟨_, rfl⟩
  have CC : Hid (∀ W', Bel W W' → Calls Tryz.prog 58 #[.agg #[.bool b0, .slice A0 n0 c0, .int .i64 s0]] W' (CnR W' b A n c s)) := h.2
  have CP : Hid (∀ W', Calls Tryz.prog 50 #[.int .i64 (s : Int)] W' (NumR W' p)) := fun W' => by rw [hp]; exact power_h h.1.sc
  have CO : Hid (∀ W' B e, Bel W W' → Nm W' B (dl p) e p → Calls Tryz.prog 48 #[.agg #[.bool b, .slice A n c], .agg #[.slice B (dl p) e]] W' (OfYw W' sg r)) := fun W' B e hb hn => by
    rw [hsg]
    exact of_yes (za_of (b := b) (h.1.nm.up hb)) hn (by rw [hp]; exact Nat.pow_pos (by decide)) (by rw [hp]; exact hr) (by rw [zi_abs]; exact hd) (by rw [hp]; exact Nat.le_trans (ten_le h.1.sc) (by decide))
  have HS := hide hsg
  clear h hd hp hr hsg
  have HB := Bel.refl W
  go_enter Tryz.func17, Tryz.ntmps17
  go_wp2_with (first | (go_at_call 58; (with_reducible refine (CC.out _ ((HB.al _).al _)).mono ?_); rintro e w1 ⟨rfl, hbk⟩; have HA := At.up ((at_new0 _ _ _).al _) hbk; have HR := At.up (at_new1 _ _ _ _) hbk; replace HB := ((HB.al _).al _).up hbk; have ha_0 := HA.c0; have ha_1 := HA.c1; have ha_2 := HA.c2; have ha_l := HA.lt; have ha_f0 := HA.f0; have ha_f1 := HA.f1; have ha_f2 := HA.f2) | fail)
  obtain ⟨W1, hW1⟩ : ∃ W1, W1 = ((w1.setCell ⟨W.heap.size, 0, none⟩ (.bool b)).setCell ⟨W.heap.size, 1, none⟩ (.slice A n c)).setCell ⟨W.heap.size, 2, none⟩ (.int .i64 (s : Int)) := ⟨_, rfl⟩
  rw [← hW1]
  replace HB : Bel W W1 := (by rw [hW1]; exact below3 HB (Nat.le_refl _) _ _ _)
  replace HR : At W1 (W.heap.size + 1) [.bool false, .slice none 0 0, .slice none 0 0] := (by rw [hW1]; exact HR.far3 (show W.heap.size ≠ _ by omega) _ _ _)
  replace HA : At W1 W.heap.size [.bool b, .slice A n c, .int .i64 (s : Int)] := (by rw [hW1]; exact HA.put3 _ _ _)
  clear hW1 ha_0 ha_1 ha_2 ha_l ha_f0 ha_f1 ha_f2
  have lb0 := HA.lt
  have lb1 := HR.lt
  go_region_held3 (fun w' => w'.cell? ⟨W.heap.size, 0, none⟩ = some (.bool b) ∧ w'.cell? ⟨W.heap.size, 1, none⟩ = some (.slice A n c) ∧ w'.cell? ⟨W.heap.size, 2, none⟩ = some (.int .i64 (s : Int)))
    (refine ⟨(?_ : At _ W.heap.size [.bool b, .slice A n c, .int .i64 (s : Int)]).c0, (?_ : At _ W.heap.size [.bool b, .slice A n c, .int .i64 (s : Int)]).c1, (?_ : At _ W.heap.size [.bool b, .slice A n c, .int .i64 (s : Int)]).c2⟩ <;> (repeat (first | with_reducible exact HA | (with_reducible refine At.dr ?_) | (with_reducible refine At.al ?_ _) | (with_reducible refine At.far ?_ (by omega) _))))
    (first | (go_at_call 50; (with_reducible refine (CP.out _).mono ?_); rintro e w2 ⟨Bp, ep, rfl, np, hbk⟩; (with_reducible (replace HB := HB.dr.up hbk; replace HA := HA.dr.up hbk; replace HR := HR.dr.up hbk)); have lz := HR.lt; have lz0 := HA.lt; (try have lz2 := HP0.lt)) | (go_at_call 50; (with_reducible refine (CP.out _).mono ?_); rintro e w2 ⟨Bp, ep, rfl, np, hbk⟩; (with_reducible (have HP0 := At.up (at_new0 _ [.bool false, .slice none 0 0, .slice none 0 0] _).dr hbk; replace HB := (HB.al _).dr.up hbk; replace HA := (HA.al _).dr.up hbk; replace HR := (HR.al _).dr.up hbk)); have lz := HR.lt; have lz0 := HA.lt; (try have lz2 := HP0.lt)) | (go_at_call 48; (with_reducible refine (CO.out _ _ _ HB np).mono ?_); rintro e w3 ⟨Aq, cq, Ar, cr, rfl, nq, nr, hbk⟩; (with_reducible (replace HB := HB.up hbk; replace HA := HA.up hbk; replace HR := HR.up hbk)); (try (with_reducible replace HP0 := HP0.up hbk)); (try have hp0_0 := HP0.c0); (try have hp0_1 := HP0.c1); (try have hp0_2 := HP0.c2); (try have hq0_0 := HQ0.c0); (try have hq0_1 := HQ0.c1); (try have hq0_2 := HQ0.c2); (try have fhp0_0 := HP0.f0); (try have fhp0_1 := HP0.f1); (try have fhp0_2 := HP0.f2); (try have fhq0_0 := HQ0.f0); (try have fhq0_1 := HQ0.f1); (try have fhq0_2 := HQ0.f2); (try have lp0 := HP0.lt); (try have lq0 := HQ0.lt); (try have hr_0 := HR.c0); (try have hr_1 := HR.c1); (try have hr_2 := HR.c2); (try have hr_l := HR.lt); (try have hr_f0 := HR.f0); (try have hr_f1 := HR.f1); (try have hr_f2 := HR.f2); have lz1 := HA.lt) | (go_at_call 48; (with_reducible refine (CO.out _ _ _ (HB.al _) (np.al _)).mono ?_); rintro e w3 ⟨Aq, cq, Ar, cr, rfl, nq, nr, hbk⟩; (with_reducible (have HQ0 := At.up (at_new0 _ [.bool false, .slice none 0 0, .slice none 0 0] _) hbk; replace HB := (HB.al _).up hbk; replace HA := (HA.al _).up hbk; replace HR := (HR.al _).up hbk)); (try (with_reducible replace HP0 := (HP0.al _).up hbk)); (try have hp0_0 := HP0.c0); (try have hp0_1 := HP0.c1); (try have hp0_2 := HP0.c2); (try have hq0_0 := HQ0.c0); (try have hq0_1 := HQ0.c1); (try have hq0_2 := HQ0.c2); (try have fhp0_0 := HP0.f0); (try have fhp0_1 := HP0.f1); (try have fhp0_2 := HP0.f2); (try have fhq0_0 := HQ0.f0); (try have fhq0_1 := HQ0.f1); (try have fhq0_2 := HQ0.f2); (try have lp0 := HP0.lt); (try have lq0 := HQ0.lt); (try have hr_0 := HR.c0); (try have hr_1 := HR.c1); (try have hr_2 := HR.c2); (try have hr_l := HR.lt); (try have hr_f0 := HR.f0); (try have hr_f1 := HR.f1); (try have hr_f2 := HR.f2); have lz1 := HA.lt) | fail)
  all_goals go_wp2_with fail
  all_goals
    have nq1 := nq.1
    refine name_end ?_
    intro W4 hW4
    have HF : At W4 (W.heap.size + 1) [.bool sg, .slice Aq (dl r.num.natAbs) cq, .slice Ar (dl r.den) cr] := by rw [hW4]; (repeat (first | with_reducible exact HR | (with_reducible refine At.dr ?_) | (with_reducible refine At.sput3 (v0 := .bool false) (v1 := .slice none 0 0) (v2 := .slice none 0 0) ?_ _ _ _) | (with_reducible refine At.al ?_ _) | (with_reducible refine At.far3 ?_ (by omega) _ _ _)))
    have NF : Nm W4 Aq (dl r.num.natAbs) cq r.num.natAbs := by rw [hW4]; (repeat (first | with_reducible exact nq1 | (with_reducible refine Nm.dr ?_) | (with_reducible refine Nm.al ?_ _) | (with_reducible refine Nm.putq ?_ ?_ _ _ _ _ _ _ _) | with_reducible exact HR | with_reducible exact HP0 | with_reducible exact HQ0 | (with_reducible refine At.dr ?_) | (with_reducible refine At.sput3 (v0 := .bool false) (v1 := .slice none 0 0) (v2 := .slice none 0 0) ?_ _ _ _) | (with_reducible refine At.al ?_ _) | (with_reducible refine At.far3 ?_ (by omega) _ _ _)))
    have DF : Nm W4 Ar (dl r.den) cr r.den := by rw [hW4]; (repeat (first | with_reducible exact nr | (with_reducible refine Nm.dr ?_) | (with_reducible refine Nm.al ?_ _) | (with_reducible refine Nm.putq ?_ ?_ _ _ _ _ _ _ _) | with_reducible exact HR | with_reducible exact HP0 | with_reducible exact HQ0 | (with_reducible refine At.dr ?_) | (with_reducible refine At.sput3 (v0 := .bool false) (v1 := .slice none 0 0) (v2 := .slice none 0 0) ?_ _ _ _) | (with_reducible refine At.al ?_ _) | (with_reducible refine At.far3 ?_ (by omega) _ _ _)))
    have BF : Bel W W4 := by rw [hW4]; (repeat (first | with_reducible exact HB | (with_reducible refine Bel.dr ?_) | (with_reducible refine Bel.al ?_ _) | (with_reducible refine Bel.put3 ?_ (by omega) _ _ _)))
    clear hW4
    refine bodyPost_ret (v := .agg #[.bool sg, .slice Aq (dl r.num.natAbs) cq, .slice Ar (dl r.den) cr]) (by simp [results, Tryz.results17, go_sem, HF.c0, HF.c1, HF.c2]) rfl ?_
    exact ⟨Aq, cq, Ar, cr, by rw [HS.out], zr_of NF, DF, BF⟩
end
end Go.Proofs.YtphnmccpcjecnaaGreatDoor
end
