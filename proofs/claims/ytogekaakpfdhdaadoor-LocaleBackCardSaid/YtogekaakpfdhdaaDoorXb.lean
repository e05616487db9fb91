/- Plain mathematics of locales: what is read is written so that it is read again, in as many bytes. No conditions. -/
import Derived.Test.YtogekaakpfdhdaaDoorXa
namespace Go.Proofs.YtogekaakpfdhdaaDoor.X
theorem cutH_none {s : LB} (h : (45 : UInt8) ∉ s) : Lib.cut s hyL = (s, [], false) := cut_none fun j _ => by
  cases ho : Lib.occAt s hyL j
  · rfl
  · exact absurd (List.mem_of_getElem? (occ_head ho)) h
theorem cutH_at {a b : LB} (h : (45 : UInt8) ∉ a) : Lib.cut (a ++ (hyL ++ b)) hyL = (a, b, true) := cut_at fun j hj => by
  cases ho : Lib.occAt (a ++ (hyL ++ b)) hyL j
  · rfl
  · have h1 := occ_head ho
    rw [List.getElem?_append_left hj] at h1
    exact absurd (List.mem_of_getElem? h1) h
theorem cut_spec (s sub : LB) : ((Lib.cut s sub).2.2 = true ∧ s = (Lib.cut s sub).1 ++ (sub ++ (Lib.cut s sub).2.1)) ∨ Lib.cut s sub = (s, [], false) := by
  rcases Lib.index_spec s sub with ⟨h1, _⟩ | ⟨i, h1, h2, h3, _⟩
  · right; unfold Lib.cut; rw [h1, if_neg (by decide)]
  · left
    unfold Lib.cut
    rw [h1, if_pos (by omega)]
    refine ⟨rfl, ?_⟩
    have h4 : sub <+: s.drop i := List.isPrefixOf_iff_prefix.1 h3
    obtain ⟨t, ht⟩ := h4
    have h5 : s.drop (i + sub.length) = t := by rw [← List.drop_drop, ← ht]; simp
    simp only [Int.toNat_natCast]
    rw [h5, ht, List.take_append_drop]
theorem all_no {p : UInt8 → Bool} {n : Nat} {l : LB} {c : UInt8} (h : consN p n l = true) (hc : p c = false) : c ∉ l := by
  intro hm
  unfold consN at h
  rw [Bool.and_eq_true, List.all_eq_true] at h
  rw [h.2 c hm] at hc; cases hc
theorem lang_no {l : LB} (h : isLangB l = true) {c : UInt8} (hc : isLo c = false) : c ∉ l := by
  unfold isLangB at h
  rw [Bool.or_eq_true] at h
  rcases h with h | h <;> exact all_no h hc
theorem reg_no {l : LB} (h : isRegB l = true) {c : UInt8} (h1 : isUp c = false) (h2 : isDg c = false) : c ∉ l := by
  unfold isRegB at h
  rw [Bool.or_eq_true] at h
  rcases h with h | h
  · exact all_no h h1
  · exact all_no h h2
theorem low_no {l : LB} (h : isLowB l = true) {c : UInt8} (h1 : isLo c = false) (h2 : isDg c = false) : c ∉ l := by
  unfold isLowB at h
  rw [Bool.or_eq_true] at h
  rcases h with h | h
  · exact all_no h h1
  · exact all_no h h2
theorem sys_no {l : LB} (h : isSysB l = true) : (45 : UInt8) ∉ l := by
  unfold isSysB at h
  simp only [Bool.or_eq_true, beq_iff_eq] at h
  rcases h with rfl | rfl | rfl <;> decide
theorem uni_no {l : LB} (h : isUniB l = true) : (45 : UInt8) ∉ l := by
  unfold isUniB at h
  simp only [Bool.or_eq_true, beq_iff_eq] at h
  rcases h with rfl | rfl | rfl <;> decide
theorem up_lo : ∀ c : UInt8, isLo c = true → isUp (Lib.upperB c) = true := by
  have h : ∀ n, n < 256 → isLo (UInt8.ofNat n) = true → isUp (Lib.upperB (UInt8.ofNat n)) = true := by decide +kernel
  intro c; have := h c.toNat (UInt8.toNat_lt c); rwa [UInt8.ofNat_toNat] at this
theorem up_dg : ∀ c : UInt8, isDg c = true → isDg (Lib.upperB c) = true := by
  have h : ∀ n, n < 256 → isDg (UInt8.ofNat n) = true → isDg (Lib.upperB (UInt8.ofNat n)) = true := by decide +kernel
  intro c; have := h c.toNat (UInt8.toNat_lt c); rwa [UInt8.ofNat_toNat] at this
theorem lo_up : ∀ c : UInt8, isUp c = true → isLo (Lib.lowerB c) = true := by
  have h : ∀ n, n < 256 → isUp (UInt8.ofNat n) = true → isLo (Lib.lowerB (UInt8.ofNat n)) = true := by decide +kernel
  intro c; have := h c.toNat (UInt8.toNat_lt c); rwa [UInt8.ofNat_toNat] at this
theorem lo_dg : ∀ c : UInt8, isDg c = true → isDg (Lib.lowerB c) = true := by
  have h : ∀ n, n < 256 → isDg (UInt8.ofNat n) = true → isDg (Lib.lowerB (UInt8.ofNat n)) = true := by decide +kernel
  intro c; have := h c.toNat (UInt8.toNat_lt c); rwa [UInt8.ofNat_toNat] at this
theorem ul_up : ∀ c : UInt8, isUp c = true → Lib.upperB (Lib.lowerB c) = c := by
  have h : ∀ n, n < 256 → isUp (UInt8.ofNat n) = true → Lib.upperB (Lib.lowerB (UInt8.ofNat n)) = UInt8.ofNat n := by decide +kernel
  intro c; have := h c.toNat (UInt8.toNat_lt c); rwa [UInt8.ofNat_toNat] at this
theorem ul_dg : ∀ c : UInt8, isDg c = true → Lib.upperB (Lib.lowerB c) = c := by
  have h : ∀ n, n < 256 → isDg (UInt8.ofNat n) = true → Lib.upperB (Lib.lowerB (UInt8.ofNat n)) = UInt8.ofNat n := by decide +kernel
  intro c; have := h c.toNat (UInt8.toNat_lt c); rwa [UInt8.ofNat_toNat] at this
theorem cons_map {p q : UInt8 → Bool} {f : UInt8 → UInt8} {n : Nat} {l : LB} (hf : ∀ c, p c = true → q (f c) = true) (h : consN p n l = true) : consN q n (l.map f) = true := by
  unfold consN at h ⊢
  rw [Bool.and_eq_true, List.all_eq_true] at h
  rw [Bool.and_eq_true, List.all_eq_true]
  refine ⟨by simpa using h.1, fun c hc => ?_⟩
  obtain ⟨d, hd, rfl⟩ := List.mem_map.1 hc
  exact hf d (h.2 d hd)
theorem low_up {l : LB} (h : isLowB l = true) : isRegB (Lib.toUpperA l) = true := by
  unfold isLowB at h; unfold isRegB Lib.toUpperA
  rw [Bool.or_eq_true] at h ⊢
  rcases h with h | h
  · exact .inl (cons_map up_lo h)
  · exact .inr (cons_map up_dg h)
theorem reg_low {l : LB} (h : isRegB l = true) : isLowB (Lib.toLowerA l) = true := by
  unfold isRegB at h; unfold isLowB Lib.toLowerA
  rw [Bool.or_eq_true] at h ⊢
  rcases h with h | h
  · exact .inl (cons_map lo_up h)
  · exact .inr (cons_map lo_dg h)
theorem reg_back {l : LB} (h : isRegB l = true) : Lib.toUpperA (Lib.toLowerA l) = l := by
  unfold Lib.toUpperA Lib.toLowerA
  rw [List.map_map]
  have : ∀ c ∈ l, (Lib.upperB ∘ Lib.lowerB) c = c := by
    unfold isRegB consN at h
    simp only [Bool.or_eq_true, Bool.and_eq_true, List.all_eq_true] at h
    intro c hc
    rcases h with h | h
    · exact ul_up c (h.2 c hc)
    · exact ul_dg c (h.2 c hc)
  exact (List.map_congr_left this).trans (List.map_id' _)
theorem reg_ne {l : LB} (h : isRegB l = true) : l ≠ [] := by rintro rfl; revert h; decide
theorem low_ne {l : LB} (h : isLowB l = true) : l ≠ [] := by rintro rfl; revert h; decide
theorem sys_ne {l : LB} (h : isSysB l = true) : l ≠ [] := by rintro rfl; revert h; decide
theorem uni_ne {l : LB} (h : isUniB l = true) : l ≠ [] := by rintro rfl; revert h; decide
/-- Each key's value is none, or one that may be. -/
structure VL (x : LL) : Prop where
  rg : x.rg = [] ∨ isRegB x.rg = true
  ms : x.ms = [] ∨ isSysB x.ms = true
  mu : x.mu = [] ∨ isUniB x.mu = true
theorem suf_trim {v : LB} (h : Lib.hasSuffix v zzL = true) : v = Lib.trimSuffix v zzL ++ zzL := by
  unfold Lib.trimSuffix
  rw [if_pos h]
  obtain ⟨t, ht⟩ := List.isSuffixOf_iff_suffix.1 h
  subst ht
  simp
theorem suf_app (t : LB) : Lib.hasSuffix (t ++ zzL) zzL = true := List.isSuffixOf_iff_suffix.2 ⟨t, rfl⟩
theorem trim_app (t : LB) : Lib.trimSuffix (t ++ zzL) zzL = t := by unfold Lib.trimSuffix; rw [if_pos (suf_app t)]; simp
theorem rgP_len (x : LL) (h : isRegB x.rg = true) : (rgP x).length = x.rg.length + 8 := by
  unfold rgP; rw [if_neg (reg_ne h)]; simp [pairL, hyL, rgK, zzL, Lib.toLowerA]
theorem set_spec {x y : LL} {k v : LB} (hx : VL x) (h : setPairB x k v = some y) : VL y ∧ y.lang = x.lang ∧ y.reg = x.reg ∧ (pairsP y).length = (pairsP x).length + (2 + k.length + v.length) := by
  unfold setPairB at h
  split at h
  · rename_i hk
    unfold setRg at h
    split at h
    · rename_i hh
      obtain ⟨h1, h2, h3⟩ := hh
      injection h with h; subst h
      refine ⟨⟨.inr (low_up h2), hx.ms, hx.mu⟩, rfl, rfl, ?_⟩
      have h4 := rgP_len ⟨x.lang, x.reg, Lib.toUpperA (Lib.trimSuffix v zzL), x.ms, x.mu⟩ (low_up h2)
      have h5 := congrArg List.length (suf_trim h1)
      have h6 : rgP x = [] := by unfold rgP; rw [if_pos h3]
      unfold pairsP
      rw [List.length_append, List.length_append, h4, h6, hk]
      simp only [Lib.toUpperA, List.length_map, List.length_append, List.length_nil] at h5 ⊢
      simp only [msP, muP, rgK, zzL, List.length_cons, List.length_nil] at h5 ⊢
      omega
    · cases h
  · split at h
    · rename_i _ hk
      unfold setMs at h
      split at h
      · rename_i hh
        obtain ⟨h1, h3⟩ := hh
        injection h with h; subst h
        refine ⟨⟨hx.rg, .inr h1, hx.mu⟩, rfl, rfl, ?_⟩
        have h6 : msP x = [] := by unfold msP; rw [if_pos h3]
        have h7 : msP ⟨x.lang, x.reg, x.rg, v, x.mu⟩ = pairL msK v := if_neg (sys_ne h1)
        unfold pairsP
        rw [List.length_append, List.length_append, List.length_append, List.length_append, h6, h7, hk]
        simp [rgP, muP, pairL, hyL]
        omega
      · cases h
    · split at h
      · rename_i _ _ hk
        unfold setMu at h
        split at h
        · rename_i hh
          obtain ⟨h1, h3⟩ := hh
          injection h with h; subst h
          refine ⟨⟨hx.rg, hx.ms, .inr h1⟩, rfl, rfl, ?_⟩
          have h6 : muP x = [] := by unfold muP; rw [if_pos h3]
          have h7 : muP ⟨x.lang, x.reg, x.rg, x.ms, v⟩ = pairL muK v := if_neg (uni_ne h1)
          unfold pairsP
          rw [List.length_append, List.length_append, List.length_append, List.length_append, h6, h7, hk]
          simp [rgP, msP, pairL, hyL]
          omega
        · cases h
      · cases h
theorem set_nil (x : LL) (k : LB) : setPairB x k [] = none := by
  have e1 : setRg x [] = none := if_neg (by intro h; exact absurd h.1 (by decide))
  have e2 : setMs x [] = none := if_neg (by intro h; exact absurd h.1 (by decide))
  have e3 : setMu x [] = none := if_neg (by intro h; exact absurd h.1 (by decide))
  unfold setPairB
  rw [e1, e2, e3]
  simp
theorem pairs_spec : ∀ (n : Nat) {x y : LL} {p : LB}, VL x → setPairsB n x p = some y → VL y ∧ y.lang = x.lang ∧ y.reg = x.reg ∧ (pairsP y).length = (pairsP x).length + (1 + p.length)
  | 0, _, _, _, _, h => by cases h
  | n + 1, x, y, p, hx, h => by
    unfold setPairsB at h
    rcases cut_spec p hyL with ⟨_, h2⟩ | h2
    · rcases cut_spec (Lib.cut p hyL).2.1 hyL with ⟨h3, h4⟩ | h3
      · split at h
        · cases h
        · rename_i z hz
          obtain ⟨a1, a2, a3, a4⟩ := set_spec hx hz
          rw [h3, if_pos rfl] at h
          obtain ⟨b1, b2, b3, b4⟩ := pairs_spec n a1 h
          refine ⟨b1, b2.trans a2, b3.trans a3, ?_⟩
          have e1 := congrArg List.length h2
          have e2 := congrArg List.length h4
          simp only [List.length_append, hyL, List.length_cons, List.length_nil] at e1 e2
          simp only [hyL] at a4 b4
          omega
      · split at h
        · cases h
        · rename_i z hz
          obtain ⟨a1, a2, a3, a4⟩ := set_spec hx hz
          rw [h3, if_neg (by simp)] at h
          injection h with h; subst h
          refine ⟨a1, a2, a3, ?_⟩
          have e1 := congrArg List.length h2
          rw [h3] at a4
          simp only [List.length_append, hyL, List.length_cons, List.length_nil] at e1 a4
          omega
    · rw [h2] at h
      simp only [show Lib.cut ([] : LB) hyL = ([], [], false) from by decide] at h
      rw [set_nil] at h
      cases h
theorem parse_parts {s : LB} {y : LL} (h : parseL s = some y) : isLangB y.lang = true ∧ (y.reg = [] ∨ isRegB y.reg = true) ∧ VL y ∧ (writeL y).length = s.length := by
  unfold parseL at h
  split at h
  · rename_i hh
    unfold headOkB at hh
    rw [Bool.and_eq_true] at hh
    obtain ⟨hl, hr⟩ := hh
    have hv : VL (headL (Lib.cut s opL).1) := ⟨.inl rfl, .inl rfl, .inl rfl⟩
    have hp : pairsP (headL (Lib.cut s opL).1) = [] := rfl
    have hreg : ((headL (Lib.cut s opL).1).reg = [] ∨ isRegB (headL (Lib.cut s opL).1).reg = true) ∧ (headP (headL (Lib.cut s opL).1)).length = (Lib.cut s opL).1.length := by
      rcases cut_spec (Lib.cut s opL).1 hyL with ⟨h1, h2⟩ | h1
      · rw [h1] at hr
        have hr' : isRegB (Lib.cut (Lib.cut s opL).1 hyL).2.1 = true := by simpa using hr
        refine ⟨.inr hr', ?_⟩
        unfold headP headL
        rw [if_neg (reg_ne hr')]
        exact (congrArg List.length h2).symm
      · refine ⟨.inl (by unfold headL; rw [h1]), ?_⟩
        unfold headP headL
        rw [h1]; rfl
    rcases cut_spec s opL with ⟨h1, h2⟩ | h1
    · rw [h1, if_pos rfl] at h
      obtain ⟨b1, b2, b3, b4⟩ := pairs_spec _ hv h
      refine ⟨by rw [b2]; exact hl, by rw [b3]; exact hreg.1, b1, ?_⟩
      have e1 := congrArg List.length h2
      have e2 : headP y = headP (headL (Lib.cut s opL).1) := by unfold headP; rw [b2, b3]
      have hne : pairsP y ≠ [] := by intro h0; rw [h0] at b4; simp at b4; omega
      unfold writeL
      rw [if_neg hne, List.length_append, e2, hreg.2, List.length_append, b4, hp]
      simp only [List.length_append, opL, List.length_cons, List.length_nil] at e1 ⊢
      omega
    · rw [h1] at h hreg hl
      simp at h
      subst h
      refine ⟨hl, hreg.1, ⟨.inl rfl, .inl rfl, .inl rfl⟩, ?_⟩
      have : pairsP (headL s) = [] := rfl
      unfold writeL
      rw [if_pos this]
      exact hreg.2
  · cases h
end Go.Proofs.YtogekaakpfdhdaaDoor.X
