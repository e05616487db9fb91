/- The document's own Join. Conditions: a text that fits. -/
import Derived.Test.YteahcbeohopdlaaDoorYf
open Go.RowKit
set_option maxRecDepth 100000
namespace Go.Proofs.YteahcbeohopdlaaDoor
section
variable {α : Type} {t : α} {css : List (List α)}
theorem glue_more {i : Nat} (h : i < css.length) (h0 : i ≠ 0) : glue t (css.take (i + 1)) = glue t (css.take i) ++ t :: css[i] := by
  rw [List.take_succ_eq_append_getElem h, glue_snoc (by intro e; rw [List.take_eq_nil_iff] at e; rcases e with e | e; (· exact h0 e); (· rw [e] at h; simp at h))]
theorem glue_one (h : 0 < css.length) : glue t (css.take 1) = css[0] := by
  cases css with
  | nil => simp at h
  | cons c css => rfl
theorem glue_le (i : Nat) : (glue t (css.take i)).length ≤ (glue t css).length := by
  induction css generalizing i with
  | nil => simp
  | cons c css ih =>
    cases i with
    | zero => simp [glue]
    | succ i =>
      rw [List.take_succ_cons]
      cases css with
      | nil => simp
      | cons d css =>
        have := ih i
        cases i with
        | zero => simp [glue]
        | succ i =>
          rw [List.take_succ_cons] at this ⊢
          rw [glue_cons _ (List.cons_ne_nil _ _), glue_cons _ (List.cons_ne_nil _ _)]
          simp only [List.length_append, List.length_cons] at this ⊢
          omega
end
theorem ystr_ret {t u : ByteArray} (h : t = u) : Ending.returned (.string t) = .returned (.string u) := by rw [h]
theorem app_data (s t : ByteArray) : (s ++ t).data.toList = s.data.toList ++ t.data.toList := by simp
theorem rjoin_math {S x : ByteArray} {ls : List (List UInt8)} {k : Nat} (hS : S.data.toList = glue 45 (ls.take k)) (hx : ls[k]? = some x.data.toList) (h0 : k ≠ 0) : (S ++ ⟨#[45]⟩ ++ x).data.toList = glue 45 (ls.take (k + 1)) := by
  have hk : k < ls.length := by
    rcases Nat.lt_or_ge k ls.length with h1 | h1
    · exact h1
    · rw [List.getElem?_eq_none h1] at hx; cases hx
  rw [List.getElem?_eq_getElem hk] at hx
  injection hx with hx
  rw [glue_more hk h0, app_data, app_data, hS, hx]
  simp
theorem rjoin_math0 {S x : ByteArray} {ls : List (List UInt8)} (hS : S.data.toList = glue 45 (ls.take 0)) (hx : ls[0]? = some x.data.toList) : (S ++ x).data.toList = glue 45 (ls.take (0 + 1)) := by
  have hk : 0 < ls.length := by
    rcases Nat.lt_or_ge 0 ls.length with h1 | h1
    · exact h1
    · rw [List.getElem?_eq_none h1] at hx; cases hx
  rw [List.getElem?_eq_getElem hk] at hx
  injection hx with hx
  rw [glue_one hk, app_data, hS, hx]
  rfl
set_option maxHeartbeats 1000000 in
theorem rjoin_any {A : Option Addr} {n c : Nat} {xs : List ByteArray} {w : World} (h : Ss w A xs) (hn : n = xs.length) (hN : n ≤ 1000000) (hl : (glue 45 (xs.map (·.data.toList))).length ≤ 140737488355328) :
    Calls Tryd.prog 60 #[.slice A n c] w fun e w' => e = .returned (.string (joinS xs)) ∧ w = w' := by
  have HN := yhide hn
  obtain ⟨ls, hls⟩ : ∃ ls, ls = xs.map (·.data.toList) := ⟨_, rfl⟩
  have HL : Hid (ls = xs.map (·.data.toList)) := hls
  have HB : Hid (∀ i, (glue 45 (ls.take i)).length ≤ 140737488355328) := fun i => Nat.le_trans (glue_le i) (by rw [hls]; exact hl)
  clear hn hl hls
  go_enter Tryd.func60, Tryd.ntmps60
  go_wp2
  go_loop [3, 4] (fun sv iv => ∃ (k : Nat) (S : ByteArray), k ≤ n ∧ iv = .int .i64 (k : Int) ∧ sv = .string S ∧ Hid (S.data.toList = glue 45 (ls.take k))) (fun _ iv => n - (intOf iv).toNat)
  case atStart => exact ⟨0, _, Nat.zero_le _, rfl, rfl, rfl⟩
  case round =>
    obtain ⟨k, S, hk, rfl, rfl, hS⟩ := hrel
    by_cases hlt : k < n
    · have hx : k < xs.length := by rw [← HN.out]; exact hlt
      obtain ⟨ad, rfl, hb, hcell⟩ := h.out.at_ hx
      obtain ⟨x, hxe⟩ : ∃ x, x = xs[k] := ⟨_, rfl⟩
      rw [← hxe] at hcell
      have HX : Hid (ls[k]? = some x.data.toList) := by
        unfold Hid
        rw [HL.out, List.getElem?_map, List.getElem?_eq_getElem hx, hxe]; rfl
      clear hxe hx
      by_cases h0 : k = 0
      · subst h0
        have HM := yhide (rjoin_math0 hS.out HX.out)
        have hsz : S.size + x.size ≤ 140737488355328 := by
          have h1 := HB.out (0 + 1)
          rw [← HM.out, app_data, List.length_append, ← Lib.size_eq, ← Lib.size_eq] at h1
          exact h1
        have q1 : ¬ 9223372036854775807 < S.size + x.size := by omega
        have q2 : S.size + x.size ≤ 9223372036854775807 := by omega
        replace hcell : w.cell? ad = some (.string x) := by rw [show ad.add 0 = ad by simp [Addr.add]] at hcell; exact hcell
        clear hsz
        go_wp2
        go_round
        case rel => exact ⟨0 + 1, _, by omega, by first | rfl | go_num, rfl, HM.out⟩
        case measure => simp [intOf]; omega
      · have HM := yhide (rjoin_math hS.out HX.out h0)
        have hsz : S.size + 1 + x.size ≤ 140737488355328 := by
          have h1 := HB.out (k + 1)
          rw [← HM.out, app_data, app_data, List.length_append, List.length_append, ← Lib.size_eq, ← Lib.size_eq] at h1
          exact h1
        have q1 : ¬ 9223372036854775807 < S.size + 1 := by omega
        have q2 : S.size + 1 ≤ 9223372036854775807 := by omega
        have q3 : ¬ 9223372036854775807 < S.size + 1 + x.size := by omega
        have q4 : S.size + 1 + x.size ≤ 9223372036854775807 := by omega
        have d0 : decide (0 < k) = true := decide_eq_true (by omega)
        have d1 : 0 < k := by omega
        clear hsz h0
        go_wp2
        go_round
        case rel => exact ⟨k + 1, _, by omega, by go_num, rfl, HM.out⟩
        case measure => simp [intOf]; omega
    · obtain rfl : k = n := by omega
      have HE : Hid (S = joinS xs) := by
        refine ByteArray.ext (Array.ext' ?_)
        have h1 := hS.out
        rw [HL.out, List.take_of_length_le (by rw [List.length_map, ← HN.out]; exact Nat.le_refl _)] at h1
        rw [h1]; rfl
      go_wp2
      go_ret
      exact ⟨ystr_ret HE.out, rfl⟩
end Go.Proofs.YteahcbeohopdlaaDoor
