/- Several texts in one, each with its own sentence and conditions. -/
import Derived.Test.YthdpojkeceoiiaaGreatDoorGOmc2
import Derived.Laws.StructEq
import Derived.Lib.MinMaxS
import Derived.Deep.RegionHeld3
import Derived.Test.YthdpojkeceoiiaaGreatDoorProg
import Derived.WalkKit
import Derived.Below
import Derived.BigQuiet
import Derived.Deep.QuietTactic
import Derived.Deep.Draws
import Derived.Laws.OwnMore
section
/- '==' on atoms. No conditions. -/
open Go.RowKit
set_option maxRecDepth 100000
namespace Go.Proofs.YthdpojkeceoiiaaGreatDoor
def atV (p n : ByteArray) (k : Int) : Value := .agg #[.string p, .string n, .int .i64 k]
def eqA (p n : ByteArray) (k : Int) (p' n' : ByteArray) (k' : Int) : Bool := decide (p = p' ∧ n = n' ∧ k = k')
theorem beq_dec (a b : ByteArray) : (a.toList == b.toList) = decide (a = b) := by
  by_cases h : a = b
  · subst h; simp
  · rw [str_ne h, decide_eq_false h]
theorem eqA_beq (p n : ByteArray) (k : Int) (p' n' : ByteArray) (k' : Int) : eqA p n k p' n' k' = ((p.toList == p'.toList) && ((n.toList == n'.toList) && (k == k'))) := by
  unfold eqA
  rw [beq_dec, beq_dec, Bool.eq_iff_iff]; simp
theorem aeq_in (w : World) (p n : ByteArray) (k : Int) (p' n' : ByteArray) (k' : Int) : (Op.equalIn 10000 59 (.agg #[.string p, .string n, .int .i64 k]) (.agg #[.string p', .string n', .int .i64 k'])).run Tryz.prog w = .ok (eqA p n k p' n' k') w := by
  rw [eqA_beq, run_equalIn_agg w 9999 _ _ _ (by kernel_rfl) (by kernel_rfl)]
  have hf : (Tryz.prog.fieldsOf 59).toList.map (fun f => (f.name, f.type, f.offset)) = [("Prefix", 9, 0), ("Name", 9, 1), ("Power", 3, 2)] := by kernel_rfl
  obtain ⟨fs, hfs⟩ : ∃ fs, (Tryz.prog.fieldsOf 59).toList = fs := ⟨_, rfl⟩
  rw [hfs] at hf ⊢
  match fs, hf with
  | [f0, f1, f2], hf =>
    simp at hf
    obtain ⟨⟨a0, b0, c0⟩, ⟨a1, b1, c1⟩, a2, b2, c2⟩ := hf
    simp [Op.eqFields, a0, a1, a2, b0, b1, b2, c0, c1, c2, part, isAgg, run_underlying Tryz.underlying9, run_underlying Tryz.underlying3, run_equalIn_string _ _ _ _ _ Tryz.underlying9, run_equalIn_int _ _ _ _ _ _ _ Tryz.underlying3, Result.andThen]
    by_cases h1 : p.toList = p'.toList <;> by_cases h2 : n.toList = n'.toList <;> by_cases h3 : k = k' <;> simp [h1, h2, h3]
theorem aeq (w : World) (p n : ByteArray) (k : Int) (p' n' : ByteArray) (k' : Int) : (binOp .eql 59 (.agg #[.string p, .string n, .int .i64 k]) (.agg #[.string p', .string n', .int .i64 k'])).run Tryz.prog w = .ok (.bool (eqA p n k p' n' k')) w := by
  rw [run_eql_struct, aeq_in]; rfl
theorem aneq (w : World) (p n : ByteArray) (k : Int) (p' n' : ByteArray) (k' : Int) : (binOp .neq 59 (.agg #[.string p, .string n, .int .i64 k]) (.agg #[.string p', .string n', .int .i64 k'])).run Tryz.prog w = .ok (.bool (!(eqA p n k p' n' k'))) w := by
  rw [run_neq_struct, aeq_in]; rfl
theorem req_in (w : World) (p n : ByteArray) (k : Int) (p' n' : ByteArray) (k' : Int) : (Op.equalIn 10000 125 (.agg #[.string p, .string n, .int .i64 k]) (.agg #[.string p', .string n', .int .i64 k'])).run Tryz.prog w = .ok (eqA p n k p' n' k') w := by
  rw [eqA_beq, run_equalIn_agg w 9999 _ _ _ (by kernel_rfl) (by kernel_rfl)]
  have hf : (Tryz.prog.fieldsOf 125).toList.map (fun f => (f.name, f.type, f.offset)) = [("Prefix", 9, 0), ("Name", 9, 1), ("Power", 3, 2)] := by kernel_rfl
  obtain ⟨fs, hfs⟩ : ∃ fs, (Tryz.prog.fieldsOf 125).toList = fs := ⟨_, rfl⟩
  rw [hfs] at hf ⊢
  match fs, hf with
  | [f0, f1, f2], hf =>
    simp at hf
    obtain ⟨⟨a0, b0, c0⟩, ⟨a1, b1, c1⟩, a2, b2, c2⟩ := hf
    simp [Op.eqFields, a0, a1, a2, b0, b1, b2, c0, c1, c2, part, isAgg, run_underlying Tryz.underlying9, run_underlying Tryz.underlying3, run_equalIn_string _ _ _ _ _ Tryz.underlying9, run_equalIn_int _ _ _ _ _ _ _ Tryz.underlying3, Result.andThen]
    by_cases h1 : p.toList = p'.toList <;> by_cases h2 : n.toList = n'.toList <;> by_cases h3 : k = k' <;> simp [h1, h2, h3]
theorem req (w : World) (p n : ByteArray) (k : Int) (p' n' : ByteArray) (k' : Int) : (binOp .eql 125 (.agg #[.string p, .string n, .int .i64 k]) (.agg #[.string p', .string n', .int .i64 k'])).run Tryz.prog w = .ok (.bool (eqA p n k p' n' k')) w := by
  rw [run_eql_struct, req_in]; rfl
theorem rneq (w : World) (p n : ByteArray) (k : Int) (p' n' : ByteArray) (k' : Int) : (binOp .neq 125 (.agg #[.string p, .string n, .int .i64 k]) (.agg #[.string p', .string n', .int .i64 k'])).run Tryz.prog w = .ok (.bool (!(eqA p n k p' n' k'))) w := by
  rw [run_neq_struct, req_in]; rfl
end Go.Proofs.YthdpojkeceoiiaaGreatDoor
end

section
/- The law's own some and awake. No conditions. -/
open Go.RowKit
set_option maxRecDepth 100000
namespace Go.Proofs.YthdpojkeceoiiaaGreatDoor
def meB : ByteArray := ⟨#[109, 101, 116, 101, 114]⟩
def kiloB : ByteArray := ⟨#[107, 105, 108, 111]⟩
def someN : List ByteArray := [meB, ⟨#[103, 114, 97, 109]⟩, ⟨#[108, 111, 103, 114, 97, 109]⟩]
def someP : List ByteArray := [⟨#[107, 105]⟩, kiloB, ⟨#[109, 105, 108, 108, 105]⟩]
def SomeR (W : World) (e : Ending) (w' : World) : Prop := ∃ A B, e = .returned (.agg #[.slice A 3 3, .slice B 3 3]) ∧ Ss w' A someN ∧ Ss w' B someP ∧ Bel W w'
theorem ss_at {W : World} {q : Nat} {xs : List ByteArray} (h : At W q (xs.map Value.string)) : Ss W (some ⟨q, 0, none⟩) xs := fun _ =>
  ⟨⟨q, 0, none⟩, rfl, h.lt, fun j x hj => by
    rw [show (⟨q, 0, none⟩ : Addr).add j = ⟨q, j, none⟩ by unfold Addr.add; split <;> simp_all]
    exact h.ci (by rw [List.getElem?_map, hj]; rfl)⟩
def PResX (W : World) (p n : ByteArray) (k t : Int) (ok : Bool) (e : Ending) (w' : World) : Prop := e = .returned (.tuple #[.agg #[.string p, .string n, .int .i64 k], .int .i64 t, .bool ok]) ∧ Bel W w'
theorem parse_some {A B D : Option Addr} {j g : Nat} {xs : List ByteArray} {W : World} {p n : ByteArray} {k t : Nat} {ok : Bool} (h : Ss W A someN) (h' : Ss W B someP) (h2 : Ss W D xs) (hj : j = xs.length) (hu : ∀ x ∈ xs, x.size ≤ 140737488355328)
    (ha : (parseA someN someP xs).p = p ∧ (parseA someN someP xs).n = n ∧ (parseA someN someP xs).k = k ∧ (parseA someN someP xs).t = t ∧ (parseA someN someP xs).ok = ok) :
    Calls Tryz.prog 77 #[.agg #[.slice A 3 3, .slice B 3 3], .slice D j g] W (PResX W p n (k : Int) (t : Int) ok) := by
  obtain ⟨h1, h3, h4, h5, h6⟩ := ha
  rw [← h1, ← h3, ← h4, ← h5, ← h6]
  exact parse_any h rfl (by decide) h' rfl (by decide) h2 hj hu
theorem some_sizes : (∀ x ∈ someN, x.size ≤ 2000000) ∧ ∀ x ∈ someP, x.size ≤ 2000000 := by decide +kernel
theorem show_lit {p n s : ByteArray} {k : Int} (hs : p.size + n.size ≤ 140737488355000) (h : showB p n k = s) (w : World) : Calls Tryz.prog 66 #[.agg #[.string p, .string n, .int .i64 k]] w (StrR w s) := h ▸ show_any hs w
end Go.Proofs.YthdpojkeceoiiaaGreatDoor
end

section
/- The order of atoms; AtomOrder's walk. No conditions. -/
open Go.RowKit
set_option maxRecDepth 100000
namespace Go.Proofs.YthdpojkeceoiiaaGreatDoor
theorem ltS_iff (a b : ByteArray) : ltS a b = true ↔ a.data.toList < b.data.toList := by
  unfold ltS; rw [bytesLess_eq, Lib.toList_data, Lib.toList_data]; simp
theorem ltS_irr (a : ByteArray) : ltS a a = false := by
  rw [Bool.eq_false_iff]; intro h; exact List.lt_irrefl _ ((ltS_iff a a).1 h)
theorem ltS_tr {a b c : ByteArray} (h : ltS a b = true) (h' : ltS b c = true) : ltS a c = true := (ltS_iff a c).2 (List.lt_trans ((ltS_iff a b).1 h) ((ltS_iff b c).1 h'))
theorem ltS_tri {a b : ByteArray} (h : ltS a b = false) (h' : ltS b a = false) : a = b := by
  rw [Bool.eq_false_iff] at h h'
  have h1 : ¬ a.data.toList < b.data.toList := fun e => h ((ltS_iff a b).2 e)
  have h2 : ¬ b.data.toList < a.data.toList := fun e => h' ((ltS_iff b a).2 e)
  exact ByteArray.ext (Array.ext' (List.le_antisymm h2 h1))
theorem ltS_as {a b : ByteArray} (h : ltS a b = true) : ltS b a = false := by
  rw [Bool.eq_false_iff]; intro h'
  have := ltS_tr h h'
  rw [ltS_irr] at this; cases this
theorem cmpS_cases (a b : ByteArray) : (ltS a b = true ∧ cmpS a b = -1) ∨ (a = b ∧ cmpS a b = 0) ∨ (ltS b a = true ∧ cmpS a b = 1) := by
  unfold cmpS
  cases h : ltS a b with
  | true => exact .inl ⟨rfl, rfl⟩
  | false =>
    by_cases e : a = b
    · subst e; exact .inr (.inl ⟨rfl, by simp⟩)
    · refine .inr (.inr ⟨?_, ?_⟩)
      · cases h' : ltS b a with
        | true => rfl
        | false => exact absurd (ltS_tri h h') e
      · rw [str_ne e]; rfl
theorem cmpI_cases (a b : Int) : (a < b ∧ Lib.compareInt a b = -1) ∨ (a = b ∧ Lib.compareInt a b = 0) ∨ (b < a ∧ Lib.compareInt a b = 1) := by
  unfold Lib.compareInt
  rcases Int.lt_trichotomy a b with h | h | h
  · exact .inl ⟨h, by rw [if_pos h]⟩
  · subst h; exact .inr (.inl ⟨rfl, by simp⟩)
  · exact .inr (.inr ⟨h, by rw [if_neg (by omega)]; simp; omega⟩)
/-- What Less says. -/
def LtA (p n : ByteArray) (k : Int) (p' n' : ByteArray) (k' : Int) : Prop := ltS n n' = true ∨ (n = n' ∧ (ltS p p' = true ∨ (p = p' ∧ k < k')))
theorem lessB_iff (p n : ByteArray) (k : Int) (p' n' : ByteArray) (k' : Int) : lessB p n k p' n' k' = true ↔ LtA p n k p' n' k' := by
  unfold lessB LtA or3
  rw [decide_eq_true_eq]
  rcases cmpS_cases n n' with ⟨a, e⟩ | ⟨a, e⟩ | ⟨a, e⟩
  · rw [e]; simp [a]
  · subst a
    rw [e]
    simp only [ltS_irr]
    rcases cmpS_cases p p' with ⟨a, e⟩ | ⟨a, e⟩ | ⟨a, e⟩
    · rw [e]; simp [a]
    · subst a
      rw [e]
      simp only [ltS_irr]
      rcases cmpI_cases k k' with ⟨a, e⟩ | ⟨a, e⟩ | ⟨a, e⟩
      · rw [e]; simp [a]
      · rw [e]; simp [a]
      · rw [e]; simp; omega
    · rw [e]
      have h1 := ltS_as a
      have h2 : p ≠ p' := by rintro rfl; rw [ltS_irr] at a; cases a
      simp [h1, h2]
  · rw [e]
    have h1 := ltS_as a
    have h2 : n ≠ n' := by rintro rfl; rw [ltS_irr] at a; cases a
    simp [h1, h2]
section
variable {p1 n1 p2 n2 p3 n3 : ByteArray} {k1 k2 k3 : Int}
theorem lessB_irr : lessB p1 n1 k1 p1 n1 k1 = false := by
  rw [Bool.eq_false_iff]; intro h
  rcases (lessB_iff _ _ _ _ _ _).1 h with h | ⟨_, h | ⟨_, h⟩⟩
  · rw [ltS_irr] at h; cases h
  · rw [ltS_irr] at h; cases h
  · omega
theorem lessB_tr (h : lessB p1 n1 k1 p2 n2 k2 = true) (h' : lessB p2 n2 k2 p3 n3 k3 = true) : lessB p1 n1 k1 p3 n3 k3 = true := by
  rw [lessB_iff] at h h' ⊢
  rcases h with h | ⟨rfl, h⟩
  · rcases h' with h' | ⟨rfl, h'⟩
    · exact .inl (ltS_tr h h')
    · exact .inl h
  · rcases h' with h' | ⟨rfl, h'⟩
    · exact .inl h'
    · refine .inr ⟨rfl, ?_⟩
      rcases h with h | ⟨rfl, h⟩
      · rcases h' with h' | ⟨rfl, h'⟩
        · exact .inl (ltS_tr h h')
        · exact .inl h
      · rcases h' with h' | ⟨rfl, h'⟩
        · exact .inl h'
        · exact .inr ⟨rfl, by omega⟩
theorem lessB_tri (h : eqA p1 n1 k1 p2 n2 k2 = false) : (lessB p1 n1 k1 p2 n2 k2 == lessB p2 n2 k2 p1 n1 k1) = false := by
  have hne : ¬ (p1 = p2 ∧ n1 = n2 ∧ k1 = k2) := of_decide_eq_false h
  cases h1 : lessB p1 n1 k1 p2 n2 k2 <;> cases h2 : lessB p2 n2 k2 p1 n1 k1
  · exfalso
    rw [Bool.eq_false_iff] at h1 h2
    rw [ne_eq, lessB_iff] at h1 h2
    unfold LtA at h1 h2
    simp only [not_or, not_and] at h1 h2
    have e1 : n1 = n2 := ltS_tri (by simpa using h1.1) (by simpa using h2.1)
    have e2 : p1 = p2 := ltS_tri (by simpa using (h1.2 e1).1) (by simpa using (h2.2 e1.symm).1)
    have a := (h1.2 e1).2 e2
    have b := (h2.2 e1.symm).2 e2.symm
    exact hne ⟨e2, e1, by omega⟩
  · rfl
  · rfl
  · exfalso
    have := lessB_tr h1 h2
    rw [lessB_irr] at this; cases this
theorem lessB_eq (h : eqA p1 n1 k1 p2 n2 k2 = true) : lessB p1 n1 k1 p2 n2 k2 = false := by
  obtain ⟨rfl, rfl, rfl⟩ := of_decide_eq_true h
  exact lessB_irr
end
end Go.Proofs.YthdpojkeceoiiaaGreatDoor
end

section
/- AtomBack's walk. Conditions: texts that fit. -/
open Go.RowKit
set_option maxRecDepth 100000
namespace Go.Proofs.YthdpojkeceoiiaaGreatDoor
theorem lpB_hit {names ps : List ByteArray} {u : ByteArray} : lpB names u ps = 0 ∨ ∃ p ∈ ps, hitB names u p = true ∧ p.size = lpB names u ps := by
  have h : ∀ k, k ≤ ps.length → lpB names u (ps.take k) = 0 ∨ ∃ p ∈ ps, hitB names u p = true ∧ p.size = lpB names u (ps.take k) := by
    intro k
    induction k with
    | zero => intro _; exact .inl rfl
    | succ k ih =>
      intro hk
      rw [lpB_take (by omega)]
      split
      · rename_i hh
        by_cases hm : lpB names u (ps.take k) ≤ ps[k].size
        · exact .inr ⟨ps[k], List.getElem_mem _, hh, by omega⟩
        · rcases ih (by omega) with e | ⟨p, h1, h2, h3⟩
          · omega
          · exact .inr ⟨p, h1, h2, by omega⟩
      · exact ih (by omega)
  have := h ps.length (Nat.le_refl _)
  rwa [List.take_length] at this
theorem hitB_rest {names : List ByteArray} {u p : ByteArray} (h : hitB names u p = true) : restB u p.size ∈ names := by
  unfold hitB at h
  simp only [Bool.and_eq_true] at h
  exact hasB_iff.1 h.2
theorem sizeP_ok {names ps : List ByteArray} {u : ByteArray} (h : (sizeP names ps u).2 = true) : restB u (sizeP names ps u).1 ∈ names ∧ ((sizeP names ps u).1 = 0 ∨ ∃ p ∈ ps, p.size = (sizeP names ps u).1) := by
  unfold sizeP at h ⊢
  by_cases hn : hasB names u = true
  · rw [if_pos hn] at h ⊢
    exact ⟨by rw [restB_zero]; exact hasB_iff.1 hn, .inl rfl⟩
  · rw [if_neg hn] at h ⊢
    have h0 := of_decide_eq_true h
    rcases lpB_hit (names := names) (ps := ps) (u := u) with e | ⟨p, h1, h2, h3⟩
    · omega
    · exact ⟨by have := hitB_rest h2; rwa [h3] at this, .inr ⟨p, h1, h3⟩⟩
theorem cut_join (u : ByteArray) (k : Nat) (h : k ≤ u.size) : u.extract 0 k ++ restB u k = u := by
  apply ByteArray.ext
  apply Array.ext'
  unfold restB
  rw [ByteArray.data_append, Array.toList_append, ByteArray.data_extract, ByteArray.data_extract, Array.toList_extract, Array.toList_extract]
  simp only [List.extract, List.drop_zero, Nat.sub_zero]
  rw [List.take_of_length_le (l := List.drop k u.data.toList) (by rw [List.length_drop, Lib.size_eq]; omega), List.take_append_drop]
theorem join_two (a b : ByteArray) : joinS [a, b] = a ++ ⟨#[45]⟩ ++ b := by
  apply ByteArray.ext
  apply Array.ext'
  show glue 45 [a.data.toList, b.data.toList] = _
  rw [ByteArray.data_append, Array.toList_append, ByteArray.data_append, Array.toList_append]
  simp [glue]
theorem parseU_no {names ps : List ByteArray} {k t : Nat} {u : ByteArray} (h : (parseU names ps k t u).ok = false) : parseU names ps k t u = noPA := by
  unfold parseU at h ⊢
  split
  · rename_i hh; rw [if_pos hh] at h; cases h
  · rfl
theorem parseA_no {names ps l : List ByteArray} (h : (parseA names ps l).ok = false) : parseA names ps l = noPA := by
  unfold parseA at h ⊢
  split
  · rfl
  · rename_i u hu; rw [hu] at h; exact parseU_no h
theorem leadP_form (l : List ByteArray) : leadP l = (1, 0) ∨ ∃ s r, l = s :: r ∧ leadP l = (powOf s, 1) ∧ 2 ≤ powOf s ∧ powOf s < 16 ∧ s = pwB (powOf s) := by
  cases l with
  | nil => exact .inl rfl
  | cons s r =>
    by_cases h : powOf s = 0
    · exact .inl (if_pos h)
    · rcases powOf_is s with h1 | ⟨h1, h2, h3⟩
      · exact absurd h1 h
      · exact .inr ⟨s, r, rfl, if_neg h, h1, h2, h3⟩
/-- An atom that is read of words is shown as these. -/
theorem parse_back {l : List ByteArray} (h : (parseA someN someP l).ok = true) : ∃ p n k, (parseA someN someP l).p = p ∧ (parseA someN someP l).n = n ∧ (parseA someN someP l).k = k ∧ p.size + n.size ≤ 2000 ∧
    (((parseA someN someP l).t = 1 ∧ 0 < l.length ∧ ∃ u, l[0]? = some u ∧ showB p n (k : Int) = u) ∨ ((parseA someN someP l).t = 2 ∧ 1 < l.length ∧ ∃ s u, l[0]? = some s ∧ l[1]? = some u ∧ s.size ≤ 10 ∧ u.size ≤ 2000 ∧ showB p n (k : Int) = s ++ ⟨#[45]⟩ ++ u)) := by
  refine ⟨_, _, _, rfl, rfl, rfl, ?_⟩
  cases hu : l[(leadP l).2]? with
  | none => unfold parseA at h; rw [hu] at h; cases h
  | some u =>
    have e : parseA someN someP l = parseU someN someP (leadP l).1 (leadP l).2 u := by unfold parseA; rw [hu]
    rw [e] at h ⊢
    have hs : (sizeP someN someP u).2 = true := by
      unfold parseU at h
      split at h
      · assumption
      · cases h
    have e2 : parseU someN someP (leadP l).1 (leadP l).2 u = ⟨u.extract 0 (sizeP someN someP u).1, restB u (sizeP someN someP u).1, (leadP l).1, (leadP l).2 + 1, true⟩ := by unfold parseU; rw [if_pos hs]
    rw [e2]
    have hle := sizeP_le someN someP u
    have hj := cut_join u _ hle
    obtain ⟨g1, g2⟩ := sizeP_ok hs
    have z1 : (restB u (sizeP someN someP u).1).size ≤ 1000 := by
      have : ∀ x ∈ someN, x.size ≤ 1000 := by decide +kernel
      exact this _ g1
    have z2 : (sizeP someN someP u).1 ≤ 900 := by
      have : ∀ x ∈ someP, x.size ≤ 900 := by decide +kernel
      rcases g2 with g2 | ⟨p, g3, g4⟩
      · omega
      · rw [← g4]; exact this _ g3
    have z3 : (u.extract 0 (sizeP someN someP u).1).size ≤ 900 := by rw [ByteArray.size_extract]; omega
    refine ⟨by show (u.extract 0 _).size + (restB u _).size ≤ 2000; omega, ?_⟩
    rcases leadP_form l with hl | ⟨s, r, hl1, hl2, h1, h2, h3⟩
    · rw [hl] at hu ⊢
      refine .inl ⟨rfl, ?_, u, hu, ?_⟩
      · exact (List.getElem?_eq_some_iff.1 hu).1
      · show showB (u.extract 0 _) (restB u _) 1 = u
        unfold showB
        rw [if_neg (by omega), if_pos rfl, hj]
    · rw [hl2] at hu ⊢
      have hsz : u.size ≤ 2000 := by rw [← hj, ByteArray.size_append]; omega
      refine .inr ⟨rfl, (List.getElem?_eq_some_iff.1 hu).1, s, u, by rw [hl1]; rfl, hu, ?_, hsz, ?_⟩
      · rw [h3]; have := pwB_size _ h2 h1; omega
      · show showB (u.extract 0 _) (restB u _) ((powOf s : Nat) : Int) = _
        unfold showB
        rw [if_neg (by omega), if_neg (by omega), hj, Int.toNat_natCast, ← h3, join_two]
end Go.Proofs.YthdpojkeceoiiaaGreatDoor
end

section
/- Numbers as lists of digits in any base: plain mathematics, without conditions. -/
namespace Go.Proofs.YthdpojkeceoiiaaGreatDoor
/-- The number that a list of digits in base b tells, the least significant one first. -/
def val (b : Nat) : List Nat → Nat
  | [] => 0
  | x :: xs => x + b * val b xs
/-- The digits of n in base b, none of noughts at the end. -/
def digs (b n : Nat) : List Nat := if _h : n = 0 ∨ b < 2 then [] else n % b :: digs b (n / b)
termination_by n
decreasing_by exact Nat.div_lt_self (by omega) (by omega)
theorem digs_zero (b : Nat) : digs b 0 = [] := by rw [digs]; simp
theorem digs_pos {b n : Nat} (hb : 2 ≤ b) (hn : 0 < n) : digs b n = n % b :: digs b (n / b) := by rw [digs, dif_neg (by omega)]
theorem val_digs {b : Nat} (hb : 2 ≤ b) (n : Nat) : val b (digs b n) = n := by
  induction n using Nat.strongRecOn with
  | _ n ih =>
    by_cases hn : n = 0
    · subst hn; rw [digs_zero]; rfl
    · rw [digs_pos hb (by omega), val, ih _ (Nat.div_lt_self (by omega) (by omega))]; exact Nat.mod_add_div n b
theorem digs_lt {b : Nat} (hb : 2 ≤ b) (n : Nat) : ∀ x ∈ digs b n, x < b := by
  induction n using Nat.strongRecOn with
  | _ n ih =>
    by_cases hn : n = 0
    · subst hn; rw [digs_zero]; simp
    · rw [digs_pos hb (by omega)]
      intro x hx
      rcases List.mem_cons.1 hx with rfl | hx
      · exact Nat.mod_lt _ (by omega)
      · exact ih _ (Nat.div_lt_self (by omega) (by omega)) x hx
theorem val_append (b : Nat) (xs ys : List Nat) : val b (xs ++ ys) = val b xs + b ^ xs.length * val b ys := by
  induction xs with
  | nil => simp [val]
  | cons x xs ih => simp only [List.cons_append, val, ih, List.length_cons, Nat.pow_succ, Nat.mul_add]; rw [Nat.mul_comm (b ^ xs.length) b, Nat.mul_assoc, Nat.add_assoc]
theorem val_snoc (b : Nat) (xs : List Nat) (y : Nat) : val b (xs ++ [y]) = val b xs + b ^ xs.length * y := by rw [val_append]; simp [val]
theorem val_lt {b : Nat} (xs : List Nat) (h : ∀ x ∈ xs, x < b) : val b xs < b ^ xs.length := by
  induction xs with
  | nil => simp [val]
  | cons x xs ih =>
    have h1 := h x (by simp)
    have h2 := ih fun y hy => h y (by simp [hy])
    simp only [val, List.length_cons, Nat.pow_succ]
    have h3 : b * (val b xs + 1) ≤ b * b ^ xs.length := Nat.mul_le_mul_left _ h2
    rw [Nat.mul_comm (b ^ xs.length) b]; rw [Nat.mul_add] at h3; omega
theorem digs_val {b : Nat} (hb : 2 ≤ b) (l : List Nat) (h : ∀ x ∈ l, x < b) (hl : ∀ x, l.getLast? = some x → x ≠ 0) : digs b (val b l) = l := by
  induction l with
  | nil => exact digs_zero b
  | cons x xs ih =>
    have hx := h x (by simp)
    have hv : 0 < val b (x :: xs) := by
      simp only [val]
      cases xs with
      | nil => have := hl x rfl; simp [val]; omega
      | cons y ys =>
        have e := ih (fun z hz => h z (by simp [hz])) (fun z hz => hl z (by rw [List.getLast?_cons_cons]; exact hz))
        have : 0 < val b (y :: ys) := by
          rcases Nat.eq_zero_or_pos (val b (y :: ys)) with h0 | h0
          · rw [h0, digs_zero] at e; simp at e
          · exact h0
        have := Nat.mul_pos (show 0 < b by omega) this
        omega
    rw [digs_pos hb hv]
    simp only [val]
    rw [Nat.add_mul_mod_self_left, Nat.mod_eq_of_lt hx, Nat.add_mul_div_left _ _ (by omega), Nat.div_eq_of_lt hx, Nat.zero_add]
    cases xs with
    | nil => simp [val, digs_zero]
    | cons y ys => rw [ih (fun z hz => h z (by simp [hz])) (fun z hz => hl z (by rw [List.getLast?_cons_cons]; exact hz))]
theorem val_zeros (b k : Nat) : val b (List.replicate k 0) = 0 := by
  induction k with
  | zero => rfl
  | succ k ih => simp [List.replicate_succ, val, ih]
theorem zeros_of {l : List Nat} (h : ∀ j : Nat, l[j]?.getD 0 = 0) : l = List.replicate l.length 0 := by
  apply List.ext_getElem (by simp)
  intro i h1 h2
  have := h i
  rw [List.getElem?_eq_getElem h1] at this
  simpa using this
theorem val_take_zeros (b : Nat) (l : List Nat) (k : Nat) (h : ∀ j : Nat, k ≤ j → l[j]?.getD 0 = 0) : val b (l.take k) = val b l := by
  have e : val b l = val b (l.take k ++ l.drop k) := by rw [List.take_append_drop]
  rw [e, val_append, zeros_of (l := l.drop k) (fun j => by rw [List.getElem?_drop]; exact h _ (by omega)), val_zeros]; simp
theorem trim_eq {b : Nat} (hb : 2 ≤ b) (l : List Nat) (k : Nat) (h : ∀ x ∈ l, x < b) (hk : k ≤ l.length) (hz : ∀ j : Nat, k ≤ j → l[j]?.getD 0 = 0) (hl : 0 < k → l[k - 1]?.getD 0 ≠ 0) : l.take k = digs b (val b l) := by
  rw [← val_take_zeros b l k hz, digs_val hb _ (fun x hx => h x (List.mem_of_mem_take hx))]
  intro x hx
  rw [List.getLast?_eq_getElem?, List.length_take, Nat.min_eq_left hk] at hx
  rcases Nat.eq_zero_or_pos k with rfl | h0
  · simp at hx
  · rw [List.getElem?_take, if_pos (by omega)] at hx
    have := hl h0
    rw [hx] at this
    simpa using this
theorem digs_len_le {b : Nat} (hb : 2 ≤ b) (l : List Nat) (h : ∀ x ∈ l, x < b) : (digs b (val b l)).length ≤ l.length := by
  induction l with
  | nil => simp [val, digs_zero]
  | cons x xs ih =>
    have hx := h x (by simp)
    have h1 := ih fun y hy => h y (by simp [hy])
    rcases Nat.eq_zero_or_pos (val b (x :: xs)) with h0 | h0
    · rw [h0, digs_zero]; simp
    · rw [digs_pos hb h0]
      simp only [val]
      rw [Nat.add_mul_div_left _ _ (by omega), Nat.div_eq_of_lt hx, Nat.zero_add]
      simp; exact h1
/-- The last digit isn't 0. -/
theorem digs_last {b : Nat} (hb : 2 ≤ b) (n : Nat) : ∀ x, (digs b n).getLast? = some x → x ≠ 0 := by
  induction n using Nat.strongRecOn with
  | _ n ih =>
    intro x hx
    by_cases hn : n = 0
    · subst hn; rw [digs_zero] at hx; simp at hx
    · rw [digs_pos hb (by omega)] at hx
      by_cases hz : n / b = 0
      · rw [hz, digs_zero] at hx
        simp at hx
        have := Nat.mod_add_div n b
        rw [hz] at this
        omega
      · rw [digs_pos hb (Nat.pos_of_ne_zero hz), List.getLast?_cons_cons, ← digs_pos hb (Nat.pos_of_ne_zero hz)] at hx
        exact ih _ (Nat.div_lt_self (by omega) (by omega)) x hx
theorem digs_len_pos {b n : Nat} (hb : 2 ≤ b) : (digs b n).length = 0 ↔ n = 0 := by
  constructor
  · intro h
    have := val_digs hb n
    rw [List.eq_nil_of_length_eq_zero h] at this
    exact this.symm
  · rintro rfl; rw [digs_zero]; rfl
theorem pow_le_of_digs {b n : Nat} (hb : 2 ≤ b) (hn : 0 < n) : b ^ ((digs b n).length - 1) ≤ n := by
  induction n using Nat.strongRecOn with
  | _ n ih =>
    rw [digs_pos hb hn]
    simp only [List.length_cons, Nat.add_sub_cancel]
    by_cases hz : n / b = 0
    · rw [hz, digs_zero]; simp; omega
    · have h1 := ih _ (Nat.div_lt_self (by omega) (by omega)) (Nat.pos_of_ne_zero hz)
      have h2 : (digs b (n / b)).length ≠ 0 := fun h => hz ((digs_len_pos hb).1 h)
      obtain ⟨m, hm⟩ : ∃ m, (digs b (n / b)).length = m + 1 := ⟨_, (Nat.sub_add_cancel (by omega)).symm⟩
      rw [hm] at h1 ⊢
      rw [Nat.pow_succ]
      exact Nat.le_trans (Nat.mul_le_mul_right _ h1) (Nat.div_mul_le_self n b)
theorem lt_pow_digs {b : Nat} (hb : 2 ≤ b) (n : Nat) : n < b ^ (digs b n).length := by
  have := val_lt (digs b n) (digs_lt hb n)
  rwa [val_digs hb] at this
theorem digs_len_lt {b m n : Nat} (hb : 2 ≤ b) (h : (digs b m).length < (digs b n).length) : m < n := by
  have h1 := lt_pow_digs hb m
  have h2 : 0 < n := by
    rcases Nat.eq_zero_or_pos n with rfl | h2
    · rw [digs_zero] at h; simp at h
    · exact h2
  have h3 := pow_le_of_digs hb h2
  have h4 : b ^ (digs b m).length ≤ b ^ ((digs b n).length - 1) := Nat.pow_le_pow_right (by omega) (by omega)
  omega
theorem digs_len_mono {b m n : Nat} (hb : 2 ≤ b) (h : m ≤ n) : (digs b m).length ≤ (digs b n).length := by
  rcases Nat.lt_or_ge (digs b n).length (digs b m).length with h1 | h1
  · have := digs_len_lt hb h1; omega
  · exact h1
theorem digs_inj {b m n : Nat} (hb : 2 ≤ b) (h : digs b m = digs b n) : m = n := by rw [← val_digs hb m, h, val_digs hb]
/-- Two lists of one length that agree above place i and differ there. -/
theorem val_cmp {b : Nat} (l m : List Nat) (i : Nat) (hl : ∀ x ∈ l, x < b) (hlen : l.length = m.length) (hi : i < l.length) (heq : l.drop (i + 1) = m.drop (i + 1)) (hlt : l[i]?.getD 0 < m[i]?.getD 0) : val b l < val b m := by
  have e1 : val b l = val b (l.take i ++ (l[i] :: l.drop (i + 1))) := by rw [List.getElem_cons_drop, List.take_append_drop]
  have e2 : val b m = val b (m.take i ++ (m[i]'(by omega) :: m.drop (i + 1))) := by rw [List.getElem_cons_drop, List.take_append_drop]
  rw [e1, e2, val_append, val_append]
  simp only [val, List.length_take, ← hlen, heq]
  rw [List.getElem?_eq_getElem hi, List.getElem?_eq_getElem (by omega)] at hlt
  simp only [Option.getD_some] at hlt
  have h1 : val b (l.take i) < b ^ i := by
    have := val_lt (b := b) (l.take i) (fun x hx => hl x (List.mem_of_mem_take hx))
    rwa [List.length_take, Nat.min_eq_left (by omega)] at this
  rw [Nat.min_eq_left (by omega), Nat.mul_add, Nat.mul_add]
  have h2 : b ^ i * (l[i] + 1) ≤ b ^ i * (m[i]'(by omega)) := Nat.mul_le_mul_left _ hlt
  rw [Nat.mul_add] at h2
  omega
end Go.Proofs.YthdpojkeceoiiaaGreatDoor
end

section
/- Words for memory: a slice that reads as a list of numbers; and trim. Conditions: lengths that fit int. -/

open Go.RowKit
namespace Go.Proofs.YthdpojkeceoiiaaGreatDoor
theorem block_add (a : Addr) (n : Nat) : (a.add n).block = a.block := by unfold Addr.add; split <;> rfl
theorem add_add' (a : Addr) (i j : Nat) : (a.add i).add j = a.add (i + j) := by
  unfold Addr.add
  by_cases hi : i = 0 <;> by_cases hj : j = 0 <;> simp [hi, hj, Nat.add_assoc]
/-- A slice at A reads as xs, each by f, and lies below block B. -/
def Rd (f : Nat → Value) (w : World) (B : Nat) (A : Option Addr) (xs : List Nat) : Prop :=
  0 < xs.length → ∃ ad, A = some ad ∧ ad.block < B ∧ ∀ j x, xs[j]? = some x → w.cell? (ad.add j) = some (f x)
def U32 (x : Nat) : Value := .int .u32 (x : Int)
def I64 (x : Nat) : Value := .int .i64 (x : Int)
def U8 (x : Nat) : Value := .int .u8 (x : Int)
section
variable {f : Nat → Value} {w w' : World} {B B' : Nat} {A : Option Addr} {xs : List Nat}
theorem Rd.nil : Rd f w B A [] := fun h => absurd h (by simp)
theorem Rd.at_ {k : Nat} (h : Rd f w B A xs) (hk : k < xs.length) : ∃ ad, A = some ad ∧ ad.block < B ∧ w.cell? (ad.add k) = some (f xs[k]) := by
  obtain ⟨ad, e, hb, hc⟩ := h (by omega)
  exact ⟨ad, e, hb, hc k _ (List.getElem?_eq_getElem hk)⟩
theorem Rd.keep (h : Rd f w B A xs) (hk : ∀ p : Addr, p.block < B → w'.cell? p = w.cell? p) : Rd f w' B A xs := fun hn => by
  obtain ⟨ad, e, hb, hc⟩ := h hn
  exact ⟨ad, e, hb, fun j u hu => (hk _ (by rw [block_add]; exact hb)).trans (hc j u hu)⟩
theorem Rd.more (h : Rd f w B A xs) (hB : B ≤ B') : Rd f w B' A xs := fun hn => by
  obtain ⟨ad, e, hb, hc⟩ := h hn
  exact ⟨ad, e, by omega, hc⟩
theorem Rd.below (h : Rd f w B A xs) (hb : Below B w w') : Rd f w' B A xs := h.keep fun _ hp => hb.cell hp
theorem Rd.drewN (h : Rd f w B A xs) (k : Nat) : Rd f (w.drewN k) B A xs := h
theorem Rd.alloc (h : Rd f w B A xs) (hB : B ≤ w.heap.size) (o : Obj) : Rd f (w.alloc o) B A xs := h.keep fun p hp => World.cell?_alloc_lt w o p (by omega)
theorem Rd.take (h : Rd f w B A xs) (k : Nat) : Rd f w B A (xs.take k) := fun hn => by
  obtain ⟨ad, e, hb, hc⟩ := h (by rw [List.length_take] at hn; omega)
  refine ⟨ad, e, hb, fun j x hx => hc j x ?_⟩
  rw [List.getElem?_take] at hx
  split at hx
  · exact hx
  · cases hx
theorem Rd.cut {k cap : Nat} (h : Rd f w B A xs) (hc : xs.length ≤ cap) : Rd f w B (if cap = k then A else A.map (·.add k)) (xs.drop k) := fun hn => by
  rw [List.length_drop] at hn
  obtain ⟨ad, rfl, hb, hcell⟩ := h (by omega)
  rw [if_neg (by omega)]
  refine ⟨ad.add k, rfl, by rw [block_add]; exact hb, fun j u hu => ?_⟩
  rw [add_add']
  exact hcell _ u (by rw [← hu, List.getElem?_drop])
end
def W32 : Nat := 4294967296
theorem W32_eq : W32 = 4294967296 := rfl
/-- How many words are left when the noughts at the end are cut off. -/
def trimmed (ws : List Nat) : Nat := (digs W32 (val W32 ws)).length
def Good32 (ws : List Nat) : Prop := ∀ x ∈ ws, x < W32
theorem trimmed_of {ws : List Nat} {k : Nat} (h : Good32 ws) (hk : k ≤ ws.length) (hz : ∀ j : Nat, k ≤ j → ws[j]?.getD 0 = 0) (hl : 0 < k → ws[k - 1]?.getD 0 ≠ 0) : trimmed ws = k := by
  unfold trimmed
  rw [← trim_eq (by decide) ws k h hk hz hl, List.length_take, Nat.min_eq_left hk]
theorem slice_ret {A : Option Addr} {c m n : Nat} (h : m = n) : Ending.returned (.slice A m c) = .returned (.slice A n c) := by rw [h]
def lenOf : Value → Nat | .slice _ k _ => k | _ => 0
theorem hide {p : Prop} (h : p) : Hid p := h
set_option maxHeartbeats 400000 in
theorem trim_any (A : Option Addr) (ws : List Nat) (c : Nat) (w : World) (B : Nat) (h : Rd U32 w B A ws) (hw : Good32 ws) (hl : ws.length ≤ 1000000) (hc : ws.length ≤ c) :
    Calls Tryz.prog 30 #[.slice A ws.length c] w fun e w' => e = .returned (.slice A (trimmed ws) c) ∧ w = w' := by
  obtain ⟨n, hn⟩ : ∃ n, n = ws.length := ⟨_, rfl⟩
  have hl' : n ≤ 1000000 := by omega
  have hc' : n ≤ c := by omega
  rw [← hn]
  have HN := hide hn; have HW := hide hw; have HR := hide h
  clear hw hn hl hc h
  go_enter Tryz.func30, Tryz.ntmps30
  go_wp2
  go_loop [0] (fun l => ∃ k : Nat, k ≤ n ∧ Hid (∀ j : Nat, k ≤ j → ws[j]?.getD 0 = 0) ∧ l = .slice A k c) lenOf
  case atStart => exact ⟨n, Nat.le_refl _, fun j hj => by rw [List.getElem?_eq_none (by have := HN.out; omega)]; rfl, rfl⟩
  case round =>
    obtain ⟨k, hk, hz, rfl⟩ := hrel
    by_cases h0 : k = 0
    · subst h0
      go_wp2
      go_ret
      exact ⟨slice_ret (trimmed_of HW.out (by omega) hz.out (by omega)).symm, rfl⟩
    · obtain ⟨m, rfl⟩ : ∃ m, k = m + 1 := ⟨k - 1, by omega⟩
      have hm : m < ws.length := by have := HN.out; omega
      obtain ⟨ad, rfl, hb, hcell⟩ := HR.out.at_ hm
      have hx : ws[m]?.getD 0 = ws[m] := by rw [List.getElem?_eq_getElem hm]; rfl
      obtain ⟨x, hxe⟩ : ∃ x, x = ws[m] := ⟨_, rfl⟩
      rw [← hxe] at hcell hx
      unfold U32 at hcell
      have HX := hide hx
      clear hx hxe hm
      by_cases hx0 : x = 0
      · have hx1 : ((x : Int) == 0) = true := by subst hx0; rfl
        have HX0 := hide hx0
        clear hx0
        go_wp2
        go_round
        case rel => exact ⟨m, by omega, fun j hj => by rcases Nat.eq_or_lt_of_le hj with rfl | hj; (· rw [HX.out, HX0.out]); (· exact hz.out j hj), by first | rfl | simp⟩
        case measure => simp [lenOf]
      · have hx1 : ((x : Int) == 0) = false := by simp; omega
        have HX0 := hide hx0
        clear hx0
        go_wp2
        go_ret
        exact ⟨slice_ret (trimmed_of HW.out (by have := HN.out; omega) hz.out (fun _ => by rw [Nat.add_sub_cancel, HX.out]; exact HX0.out)).symm, rfl⟩
end Go.Proofs.YthdpojkeceoiiaaGreatDoor
end

section
/- Comparisons: cmp.Compare, nat.compare. Conditions: lengths that fit int. -/
open Go.RowKit
namespace Go.Proofs.YthdpojkeceoiiaaGreatDoor
theorem quiet_left {P : Program} {f : FuncId} {args : Array Value} {w : World} {n : Nat} {v : Value}
    (h : Calls P f args (w.drewN n) fun e w' => e = .returned v ∧ w.drewN n = w') : Calls P f args (w.drewN n) fun e w'' => e = .returned v ∧ ∃ m, w'' = w.drewN m :=
  h.mono fun _ _ ⟨he, hm⟩ => ⟨he, n, hm.symm⟩
theorem drew_cell {W w : World} {n : Nat} {p : Addr} {v : Option Value} (h : W = w.drewN n) (hc : w.cell? p = v) : W.cell? p = v := by rw [h]; exact hc
theorem drew_hid {W wr w : World} {n q : Nat} (h : W = wr.drewN n) (hq : Hid (wr = w.drewN q)) : Hid (W = w.drewN (q + n)) := by unfold Hid; rw [h, hq.out, World.drewN_drewN]
theorem drew_more {wr w : World} {n q : Nat} (hq : Hid (wr = w.drewN q)) : Hid (wr.drewN n = w.drewN (q + n)) := by unfold Hid; rw [hq.out, World.drewN_drewN]
theorem drew_end {wr w : World} {n q : Nat} (hq : Hid (wr = w.drewN q)) : ∃ m, wr.drewN n = w.drewN m := ⟨_, (drew_more hq).out⟩
/-- -1, 0 or 1. -/
def cmpI (a b : Nat) : Int := if a < b then -1 else if b < a then 1 else 0
theorem cmpI_lt {a b : Nat} (h : a < b) : cmpI a b = -1 := if_pos h
theorem cmpI_gt {a b : Nat} (h : b < a) : cmpI a b = 1 := by unfold cmpI; rw [if_neg (by omega), if_pos h]
theorem cmpI_eq {a b : Nat} (h : a = b) : cmpI a b = 0 := by unfold cmpI; rw [if_neg (by omega), if_neg (by omega)]
theorem int_ret {k : IntKind} {a b : Int} (h : a = b) : Ending.returned (.int k a) = .returned (.int k b) := by rw [h]
theorem cmpInt_any (a b : Nat) (w : World) :
    Calls Tryz.prog 87 #[.int .i64 a, .int .i64 b] w fun e w' => e = .returned (.int .i64 (cmpI a b)) ∧ w = w' := by
  rcases Nat.lt_trichotomy a b with h | h | h
  · go_enter Tryz.func87, Tryz.ntmps87
    go_wp2
    go_ret
    exact ⟨int_ret (cmpI_lt h).symm, rfl⟩
  · have H := hide h
    have h1 : ¬ a < b := by omega
    have h2 : ¬ b < a := by omega
    clear h
    go_enter Tryz.func87, Tryz.ntmps87
    go_wp2
    go_ret
    exact ⟨int_ret (cmpI_eq H.out).symm, rfl⟩
  · have h1 : ¬ a < b := by omega
    go_enter Tryz.func87, Tryz.ntmps87
    go_wp2
    go_ret
    exact ⟨int_ret (cmpI_gt h).symm, rfl⟩
theorem cmpWord_any (a b : Nat) (w : World) :
    Calls Tryz.prog 95 #[.int .u32 a, .int .u32 b] w fun e w' => e = .returned (.int .i64 (cmpI a b)) ∧ w = w' := by
  rcases Nat.lt_trichotomy a b with h | h | h
  · go_enter Tryz.func95, Tryz.ntmps95
    go_wp2
    go_ret
    exact ⟨int_ret (cmpI_lt h).symm, rfl⟩
  · have H := hide h
    have h1 : ¬ a < b := by omega
    have h2 : ¬ b < a := by omega
    clear h
    go_enter Tryz.func95, Tryz.ntmps95
    go_wp2
    go_ret
    exact ⟨int_ret (cmpI_eq H.out).symm, rfl⟩
  · have h1 : ¬ a < b := by omega
    go_enter Tryz.func95, Tryz.ntmps95
    go_wp2
    go_ret
    exact ⟨int_ret (cmpI_gt h).symm, rfl⟩
def dl (m : Nat) : Nat := (digs W32 m).length
theorem cmpI_len {m n : Nat} (h : dl m ≠ dl n) : cmpI (dl m) (dl n) = cmpI m n := by
  rcases Nat.lt_or_ge (dl m) (dl n) with h1 | h1
  · rw [cmpI_lt h1, cmpI_lt (digs_len_lt (b := W32) (by decide) h1)]
  · rw [cmpI_gt (by omega), cmpI_gt (digs_len_lt (b := W32) (by decide) (show dl n < dl m by omega))]
theorem cmpI_at {m n i : Nat} (hlen : dl m = dl n) (hi : i < dl m) (heq : (digs W32 m).drop (i + 1) = (digs W32 n).drop (i + 1)) {x y : Nat} (hx : (digs W32 m)[i]? = some x) (hy : (digs W32 n)[i]? = some y) (hne : x ≠ y) : cmpI x y = cmpI m n := by
  have key : ∀ {m n x y : Nat}, dl m = dl n → i < dl m → (digs W32 m).drop (i + 1) = (digs W32 n).drop (i + 1) → (digs W32 m)[i]? = some x → (digs W32 n)[i]? = some y → x < y → m < n := by
    intro m n x y hlen hi heq hx hy hlt
    have := val_cmp (b := W32) (digs W32 m) (digs W32 n) i (digs_lt (by decide) m) hlen hi heq (by rw [hx, hy]; exact hlt)
    rwa [val_digs (by decide), val_digs (by decide)] at this
  rcases Nat.lt_or_ge x y with h | h
  · rw [cmpI_lt h, cmpI_lt (key hlen hi heq hx hy h)]
  · rw [cmpI_gt (by omega), cmpI_gt (key hlen.symm (by omega) heq.symm hy hx (by omega))]
set_option maxHeartbeats 1000000 in
theorem compare_any (A A' : Option Addr) (m n : Nat) (c c' : Nat) (w : World) (B : Nat) (h : Rd U32 w B A (digs W32 m)) (h' : Rd U32 w B A' (digs W32 n)) (hl : dl m ≤ 1000000) (hl' : dl n ≤ 1000000) (hc : dl m ≤ c) (hc' : dl n ≤ c') :
    Calls Tryz.prog 67 #[.slice A (dl m) c, .slice A' (dl n) c'] w fun e w' => e = .returned (.int .i64 (cmpI m n)) ∧ ∃ q, w' = w.drewN q := by
  obtain ⟨k, hk⟩ : ∃ k, k = dl m := ⟨_, rfl⟩
  obtain ⟨k', hk'⟩ : ∃ k, k = dl n := ⟨_, rfl⟩
  have HR := hide h; have HR' := hide h'
  rw [← hk] at hl hc ⊢
  rw [← hk'] at hl' hc' ⊢
  have HK := hide hk; have HK' := hide hk'
  clear hk hk' h h'
  by_cases hlen : k = k'
  · subst hlen
    go_enter Tryz.func67, Tryz.ntmps67
    go_wp2
    go_loopw [5] (fun i wr => ∃ j q : Nat, j ≤ k ∧ Hid ((digs W32 m).drop j = (digs W32 n).drop j) ∧ i = .int .i64 ((j : Int) - 1) ∧ Hid (wr = w.drewN q)) (fun i _ => (intOf i + 1).toNat)
    case atStart => exact ⟨k, 0, Nat.le_refl _, by unfold Hid; rw [List.drop_of_length_le (Nat.le_of_eq HK.out.symm), List.drop_of_length_le (Nat.le_of_eq HK'.out.symm)], rfl, rfl⟩
    case round =>
      obtain ⟨j, q, hj, hd, rfl, HQ⟩ := hrel
      by_cases h0 : j = 0
      · subst h0
        go_wp2
        go_ret
        exact ⟨int_ret (cmpI_eq (digs_inj (b := W32) (by decide) hd.out)).symm, q, HQ.out⟩
      · obtain ⟨i, rfl⟩ : ∃ i, j = i + 1 := ⟨j - 1, by omega⟩
        have hi : i < (digs W32 m).length := Nat.lt_of_lt_of_eq (by omega) HK.out
        have hi' : i < (digs W32 n).length := Nat.lt_of_lt_of_eq (by omega) HK'.out
        obtain ⟨ad, rfl, hb, hcell⟩ := HR.out.at_ hi
        obtain ⟨ad', rfl, hb', hcell'⟩ := HR'.out.at_ hi'
        obtain ⟨x, hx⟩ : ∃ x, x = (digs W32 m)[i] := ⟨_, rfl⟩
        obtain ⟨y, hy⟩ : ∃ x, x = (digs W32 n)[i] := ⟨_, rfl⟩
        rw [← hx] at hcell
        rw [← hy] at hcell'
        have HX : Hid ((digs W32 m)[i]? = some x) := by unfold Hid; rw [hx, List.getElem?_eq_getElem hi]
        have HY : Hid ((digs W32 n)[i]? = some y) := by unfold Hid; rw [hy, List.getElem?_eq_getElem hi']
        unfold U32 at hcell hcell'
        replace hcell : wr.cell? (ad.add i) = some (.int .u32 x) := by rw [HQ.out]; exact hcell
        replace hcell' : wr.cell? (ad'.add i) = some (.int .u32 y) := by rw [HQ.out]; exact hcell'
        have hli : i < dl m := hi
        have HLI := hide hli
        have hdrop : x = y → (digs W32 m).drop i = (digs W32 n).drop i := fun e => by
          rw [List.drop_eq_getElem_cons hi, List.drop_eq_getElem_cons hi', ← hx, ← hy, e, hd.out]
        have HD := hide hdrop
        clear hx hy hi hi' hli hdrop
        by_cases hxy : x = y
        · subst hxy
          go_wp2_with fail
          go_quiet (fail)
          go_wp2
          go_roundw
          case rel => exact ⟨i, _, by omega, HD.out (by first | rfl | trivial), rfl, drew_more HQ⟩
          case measure => simp [intOf]
        · go_wp2_with fail
          go_quiet (fail)
          rename_i nq
          obtain ⟨W2, hW2⟩ : ∃ W2, W2 = wr.drewN nq := ⟨_, rfl⟩
          rw [← hW2]
          have HC := drew_cell hW2 hcell
          have HC' := drew_cell hW2 hcell'
          have HW2 := drew_hid hW2 HQ
          clear hW2 hcell hcell' HQ
          go_wp2_with fail
          go_quiet ((go_at_call 95; exact quiet_left (cmpWord_any x y _)))
          go_wp2
          go_ret
          exact ⟨int_ret (cmpI_at (by rw [← HK.out]; exact HK'.out) HLI.out hd.out HX.out HY.out hxy), drew_end HW2⟩
  · go_enter Tryz.func67, Tryz.ntmps67
    go_wp2_with (go_at_call 87; refine (cmpInt_any _ _ _).mono ?_; rintro e w' ⟨rfl, rfl⟩)
    go_ret
    exact ⟨int_ret (by rw [HK.out, HK'.out]; exact cmpI_len (by rw [← HK.out, ← HK'.out]; exact hlen)), 0, rfl⟩
end Go.Proofs.YthdpojkeceoiiaaGreatDoor
end
