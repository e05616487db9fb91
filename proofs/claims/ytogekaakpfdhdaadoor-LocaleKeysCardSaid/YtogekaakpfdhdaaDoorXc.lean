/- Plain mathematics of locales: what is read is written so that it is read again. No conditions. -/
import Derived.Test.YtogekaakpfdhdaaDoorXb
namespace Go.Proofs.YtogekaakpfdhdaaDoor.X
theorem occ_op {s : LB} {j : Nat} (h : Lib.occAt s opL j = true) : s[j]? = some 45 ∧ s[j + 1]? = some 117 := by
  refine ⟨occ_head h, ?_⟩
  unfold Lib.occAt at h
  obtain ⟨t, ht⟩ := List.isPrefixOf_iff_prefix.1 h
  have : (s.drop j)[1]? = some 117 := by rw [← ht]; rfl
  rwa [List.getElem?_drop] at this
/-- What begins as a locale has no opening ahead of its end. -/
theorem head_no {x : LL} (hl : isLangB x.lang = true) (hr : x.reg = [] ∨ isRegB x.reg = true) (t : LB) {j : Nat} (hj : j < (headP x).length) : Lib.occAt (headP x ++ t) opL j = false := by
  cases ho : Lib.occAt (headP x ++ t) opL j
  · rfl
  exfalso
  obtain ⟨h1, h2⟩ := occ_op ho
  rw [List.getElem?_append_left hj] at h1
  have hn := lang_no hl (c := 45) (by decide)
  by_cases h0 : x.reg = []
  · unfold headP at h1
    rw [if_pos h0] at h1
    exact hn (List.mem_of_getElem? h1)
  · have hR : isRegB x.reg = true := by rcases hr with h | h; exact absurd h h0; exact h
    have e : headP x = x.lang ++ (hyL ++ x.reg) := if_neg h0
    rw [e] at h1 h2 hj
    rcases Nat.lt_or_ge j x.lang.length with h3 | h3
    · rw [List.getElem?_append_left h3] at h1
      exact hn (List.mem_of_getElem? h1)
    · rw [List.getElem?_append_right h3] at h1
      obtain ⟨i, hi⟩ : ∃ i, j = x.lang.length + i := ⟨j - x.lang.length, by omega⟩
      subst hi
      rw [Nat.add_sub_cancel_left] at h1
      cases i with
      | succ i =>
        simp only [hyL, List.cons_append, List.nil_append, List.getElem?_cons_succ] at h1
        exact reg_no hR (by decide) (by decide) (List.mem_of_getElem? h1)
      | zero =>
        have h5 : ((x.lang ++ (hyL ++ x.reg)) ++ t)[x.lang.length + 0 + 1]? = (x.reg ++ t)[0]? := by
          rw [List.append_assoc, List.getElem?_append_right (by omega)]
          simp [hyL]
        rw [h5] at h2
        have h6 : 0 < x.reg.length := List.length_pos_iff.2 h0
        rw [List.getElem?_append_left h6] at h2
        exact reg_no hR (by decide) (by decide) (List.mem_of_getElem? h2)
theorem head_back {x : LL} (hl : isLangB x.lang = true) (hr : x.reg = [] ∨ isRegB x.reg = true) : headOkB (headP x) = true ∧ headL (headP x) = ⟨x.lang, x.reg, [], [], []⟩ := by
  have hn := lang_no hl (c := 45) (by decide)
  by_cases h0 : x.reg = []
  · have e : headP x = x.lang := if_pos h0
    rw [e]
    unfold headOkB headL
    rw [cutH_none hn, hl, h0]
    exact ⟨rfl, rfl⟩
  · have hR : isRegB x.reg = true := by rcases hr with h | h; exact absurd h h0; exact h
    have e : headP x = x.lang ++ (hyL ++ x.reg) := if_neg h0
    rw [e]
    unfold headOkB headL
    rw [cutH_at hn, hl, hR]
    exact ⟨rfl, rfl⟩
theorem step_last {n : Nat} {x y : LL} {k v : LB} (hk : (45 : UInt8) ∉ k) (hv : (45 : UInt8) ∉ v) (h : setPairB x k v = some y) : setPairsB (n + 1) x (k ++ (hyL ++ v)) = some y := by
  unfold setPairsB
  rw [cutH_at hk]
  simp only [cutH_none hv, h]
  rfl
theorem step_more {n : Nat} {x y : LL} {k v r : LB} (hk : (45 : UInt8) ∉ k) (hv : (45 : UInt8) ∉ v) (h : setPairB x k v = some y) : setPairsB (n + 1) x (k ++ (hyL ++ (v ++ (hyL ++ r)))) = setPairsB n y r := by
  show (match setPairB x (Lib.cut (k ++ (hyL ++ (v ++ (hyL ++ r)))) hyL).1 (Lib.cut (Lib.cut (k ++ (hyL ++ (v ++ (hyL ++ r)))) hyL).2.1 hyL).1 with | none => none | some y => if (Lib.cut (Lib.cut (k ++ (hyL ++ (v ++ (hyL ++ r)))) hyL).2.1 hyL).2.2 then setPairsB n y (Lib.cut (Lib.cut (k ++ (hyL ++ (v ++ (hyL ++ r)))) hyL).2.1 hyL).2.1 else some y) = _
  rw [cutH_at hk]
  simp only [cutH_at hv, h]
  rfl
theorem set_rg {x : LL} {g : LB} (hg : isRegB g = true) (hx : x.rg = []) : setPairB x rgK (Lib.toLowerA g ++ zzL) = some ⟨x.lang, x.reg, g, x.ms, x.mu⟩ := by
  have e : setRg x (Lib.toLowerA g ++ zzL) = some ⟨x.lang, x.reg, g, x.ms, x.mu⟩ := by
    unfold setRg
    rw [if_pos ⟨suf_app _, by rw [trim_app]; exact reg_low hg, hx⟩, trim_app, reg_back hg]
  exact (if_pos rfl).trans e
theorem set_ms {x : LL} {v : LB} (hg : isSysB v = true) (hx : x.ms = []) : setPairB x msK v = some ⟨x.lang, x.reg, x.rg, v, x.mu⟩ := by
  have e : setMs x v = some ⟨x.lang, x.reg, x.rg, v, x.mu⟩ := if_pos ⟨hg, hx⟩
  unfold setPairB
  rw [if_neg (by decide), if_pos rfl, e]
theorem set_mu {x : LL} {v : LB} (hg : isUniB v = true) (hx : x.mu = []) : setPairB x muK v = some ⟨x.lang, x.reg, x.rg, x.ms, v⟩ := by
  have e : setMu x v = some ⟨x.lang, x.reg, x.rg, x.ms, v⟩ := if_pos ⟨hg, hx⟩
  unfold setPairB
  rw [if_neg (by decide), if_neg (by decide), if_pos rfl, e]
theorem low_zz {g : LB} (h : isRegB g = true) : (45 : UInt8) ∉ Lib.toLowerA g ++ zzL := by
  intro hm
  rcases List.mem_append.1 hm with h1 | h1
  · exact low_no (reg_low h) (by decide) (by decide) h1
  · revert h1; decide
theorem LL.eq {y : LL} {g m u : LB} (a : g = y.rg) (b : m = y.ms) (c : u = y.mu) : some (⟨y.lang, y.reg, g, m, u⟩ : LL) = some y := by subst a; subst b; subst c; rfl
/-- What is read is written so that it is read again. -/
theorem parse_write {y : LL} (hl : isLangB y.lang = true) (hr : y.reg = [] ∨ isRegB y.reg = true) (hv : VL y) : parseL (writeL y) = some y := by
  obtain ⟨b1, b2⟩ := head_back hl hr
  obtain ⟨g1, g2, g3⟩ := hv
  have key : ∀ q, pairsP y = 45 :: q → (∀ n, setPairsB (n + 3) ⟨y.lang, y.reg, [], [], []⟩ q = some y) → parseL (writeL y) = some y := by
    intro q hq hs
    have ew : writeL y = headP y ++ (opL ++ q) := by
      unfold writeL; rw [if_neg (by rw [hq]; simp), hq]; rfl
    have hc := cut_at (a := headP y) (b := q) (sub := opL) (fun j hj => head_no hl hr (opL ++ q) hj)
    have hlen : ∃ n, (writeL y).length + 1 = n + 3 := ⟨(writeL y).length - 2, by rw [ew]; simp [opL]; omega⟩
    obtain ⟨n, hn⟩ := hlen
    unfold parseL
    rw [hn, ew, hc]
    simp only [b1, b2, hs, if_true]
  by_cases h1 : y.rg = [] <;> by_cases h2 : y.ms = [] <;> by_cases h3 : y.mu = []
  · have e : pairsP y = [] := by simp [pairsP, rgP, msP, muP, h1, h2, h3]
    have hc : Lib.cut (headP y) opL = (headP y, [], false) := cut_none fun j hj => by
      rcases Nat.lt_or_ge j (headP y).length with h | h
      · have := head_no hl hr [] h
        rwa [List.append_nil] at this
      · cases ho : Lib.occAt (headP y) opL j
        · rfl
        · have := (occ_op ho).1
          rw [List.getElem?_eq_none h] at this; cases this
    unfold writeL
    rw [if_pos e]
    unfold parseL
    rw [hc]
    simp only [b1, b2, if_true]
    obtain ⟨l, r, a, b, c⟩ := y
    simp only at h1 h2 h3
    subst h1; subst h2; subst h3
    rfl
  · have s3 : isUniB y.mu = true := by rcases g3 with h | h; exact absurd h h3; exact h
    refine key (muK ++ (hyL ++ y.mu)) (by simp [pairsP, rgP, msP, muP, h1, h2, h3, pairL, hyL]) fun n => ?_
    refine step_last (by decide) (uni_no s3) ((set_mu s3 rfl).trans (LL.eq h1.symm h2.symm rfl))
  · have s2 : isSysB y.ms = true := by rcases g2 with h | h; exact absurd h h2; exact h
    refine key (msK ++ (hyL ++ y.ms)) (by simp [pairsP, rgP, msP, muP, h1, h2, h3, pairL, hyL]) fun n => ?_
    refine step_last (by decide) (sys_no s2) ((set_ms s2 rfl).trans (LL.eq h1.symm rfl h3.symm))
  · have s2 : isSysB y.ms = true := by rcases g2 with h | h; exact absurd h h2; exact h
    have s3 : isUniB y.mu = true := by rcases g3 with h | h; exact absurd h h3; exact h
    refine key (msK ++ (hyL ++ (y.ms ++ (hyL ++ (muK ++ (hyL ++ y.mu)))))) (by simp [pairsP, rgP, msP, muP, h1, h2, h3, pairL, hyL]) fun n => ?_
    refine (step_more (by decide) (sys_no s2) (set_ms s2 rfl)).trans ?_
    refine step_last (by decide) (uni_no s3) ((set_mu s3 rfl).trans (LL.eq h1.symm rfl rfl))
  · have s1 : isRegB y.rg = true := by rcases g1 with h | h; exact absurd h h1; exact h
    refine key (rgK ++ (hyL ++ (Lib.toLowerA y.rg ++ zzL))) (by simp [pairsP, rgP, msP, muP, h1, h2, h3, pairL, hyL]) fun n => ?_
    refine step_last (by decide) (low_zz s1) ((set_rg s1 rfl).trans (LL.eq rfl h2.symm h3.symm))
  · have s1 : isRegB y.rg = true := by rcases g1 with h | h; exact absurd h h1; exact h
    have s3 : isUniB y.mu = true := by rcases g3 with h | h; exact absurd h h3; exact h
    refine key (rgK ++ (hyL ++ ((Lib.toLowerA y.rg ++ zzL) ++ (hyL ++ (muK ++ (hyL ++ y.mu)))))) (by simp [pairsP, rgP, msP, muP, h1, h2, h3, pairL, hyL]) fun n => ?_
    refine (step_more (by decide) (low_zz s1) (set_rg s1 rfl)).trans ?_
    refine step_last (by decide) (uni_no s3) ((set_mu s3 rfl).trans (LL.eq rfl h2.symm rfl))
  · have s1 : isRegB y.rg = true := by rcases g1 with h | h; exact absurd h h1; exact h
    have s2 : isSysB y.ms = true := by rcases g2 with h | h; exact absurd h h2; exact h
    refine key (rgK ++ (hyL ++ ((Lib.toLowerA y.rg ++ zzL) ++ (hyL ++ (msK ++ (hyL ++ y.ms)))))) (by simp [pairsP, rgP, msP, muP, h1, h2, h3, pairL, hyL]) fun n => ?_
    refine (step_more (by decide) (low_zz s1) (set_rg s1 rfl)).trans ?_
    refine step_last (by decide) (sys_no s2) ((set_ms s2 rfl).trans (LL.eq rfl rfl h3.symm))
  · have s1 : isRegB y.rg = true := by rcases g1 with h | h; exact absurd h h1; exact h
    have s2 : isSysB y.ms = true := by rcases g2 with h | h; exact absurd h h2; exact h
    have s3 : isUniB y.mu = true := by rcases g3 with h | h; exact absurd h h3; exact h
    refine key (rgK ++ (hyL ++ ((Lib.toLowerA y.rg ++ zzL) ++ (hyL ++ (msK ++ (hyL ++ (y.ms ++ (hyL ++ (muK ++ (hyL ++ y.mu)))))))))) (by simp [pairsP, rgP, msP, muP, h1, h2, h3, pairL, hyL]) fun n => ?_
    refine (step_more (by decide) (low_zz s1) (set_rg s1 rfl)).trans ?_
    refine (step_more (by decide) (sys_no s2) (set_ms s2 rfl)).trans ?_
    exact step_last (by decide) (uni_no s3) (set_mu s3 rfl)
theorem parse_back {s : LB} {y : LL} (h : parseL s = some y) : parseL (writeL y) = some y ∧ (writeL y).length = s.length ∧ tellsB (writeL y) y = true ∧ showLB y = writeL y := by
  obtain ⟨h1, h2, h3, h4⟩ := parse_parts h
  have h5 := parse_write h1 h2 h3
  have h6 : tellsB (writeL y) y = true := by unfold tellsB; rw [h5]; simp
  exact ⟨h5, h4, h6, if_pos h6⟩
/-- What is read is short where the text is short, and each of its letters is one that ASCII has. -/
theorem parse_small {s : LB} {y : LL} (h : parseL s = some y) : y.lang.length ≤ 3 ∧ y.reg.length ≤ 3 ∧ y.rg.length ≤ 3 ∧ y.ms.length ≤ 8 ∧ y.mu.length ≤ 8 ∧ ∀ b ∈ y.rg, b.toNat < 128 := by
  obtain ⟨h1, h2, h3, _⟩ := parse_parts h
  have hR : ∀ l : LB, (l = [] ∨ isRegB l = true) → l.length ≤ 3 ∧ ∀ b ∈ l, b.toNat < 128 := by
    intro l hl
    rcases hl with rfl | hl
    · simp
    · unfold isRegB consN at hl
      simp only [Bool.or_eq_true, Bool.and_eq_true, decide_eq_true_eq, List.all_eq_true] at hl
      rcases hl with hl | hl
      · refine ⟨by omega, fun b hb => ?_⟩
        have := hl.2 b hb
        simp only [isUp, Bool.and_eq_true, decide_eq_true_eq, UInt8.le_iff_toNat_le] at this
        have h9 : (90 : UInt8).toNat = 90 := rfl
        omega
      · refine ⟨by omega, fun b hb => ?_⟩
        have := hl.2 b hb
        simp only [isDg, Bool.and_eq_true, decide_eq_true_eq, UInt8.le_iff_toNat_le] at this
        have h9 : (57 : UInt8).toNat = 57 := rfl
        omega
  refine ⟨?_, (hR _ h2).1, (hR _ h3.rg).1, ?_, ?_, (hR _ h3.rg).2⟩
  · unfold isLangB consN at h1
    simp only [Bool.or_eq_true, Bool.and_eq_true, decide_eq_true_eq] at h1
    omega
  · rcases h3.ms with h | h
    · rw [h]; simp
    · unfold isSysB at h
      simp only [Bool.or_eq_true, beq_iff_eq] at h
      rcases h with h | h | h <;> rw [h] <;> decide
  · rcases h3.mu with h | h
    · rw [h]; simp
    · unfold isUniB at h
      simp only [Bool.or_eq_true, beq_iff_eq] at h
      rcases h with h | h | h <;> rw [h] <;> decide
end Go.Proofs.YtogekaakpfdhdaaDoor.X
