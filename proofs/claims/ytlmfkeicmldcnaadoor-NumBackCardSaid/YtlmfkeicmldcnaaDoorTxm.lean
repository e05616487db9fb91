/- A number's letters, read again. No conditions. -/
import Derived.Test.YtlmfkeicmldcnaaDoorPar
import Derived.Test.YtlmfkeicmldcnaaDoorTxt
open Go.RowKit
set_option maxRecDepth 100000
namespace Go.Proofs.YtlmfkeicmldcnaaDoor
theorem dig_letter {d : Nat} (h : d < 10) : isDig (letter d) = true := by unfold isDig; rw [letter_toNat h]; simp; omega
theorem dvs_letters (l : List Nat) (h : ∀ d ∈ l, d < 10) : dvs (l.reverse.map letter) = l := by
  unfold dvs
  rw [← List.map_reverse, List.reverse_reverse, List.map_map]
  have : ∀ m : List Nat, (∀ d ∈ m, d < 10) → m.map ((fun c : UInt8 => c.toNat - 48) ∘ letter) = m := by
    intro m
    induction m with
    | nil => intro _; rfl
    | cons d m ih =>
      intro hm
      rw [List.map_cons, ih fun x hx => hm x (List.mem_cons_of_mem _ hx)]
      have := letter_toNat (hm d (List.mem_cons_self ..))
      simp only [Function.comp_apply, this]
      congr 1; omega
  exact this l h
theorem numL_decL (m : Nat) : numL (decL m) = m ∧ digB (decL m) = true := by
  unfold decL
  by_cases h0 : m = 0
  · rw [if_pos h0, h0]; exact ⟨rfl, by decide⟩
  · rw [if_neg h0]
    have hlt := digs_lt (b := 10) (by omega) m
    refine ⟨?_, ?_⟩
    · show numL ((digs 10 m).reverse.map letter) = m
      rw [numL_val, dvs_letters _ hlt, val_digs (by omega)]
    · unfold digB
      rw [Bool.and_eq_true]
      refine ⟨?_, ?_⟩
      · rw [digs_pos (by omega) (by omega)]; simp
      · rw [List.all_eq_true]
        intro c hc
        obtain ⟨d, hd, rfl⟩ := List.mem_map.1 hc
        exact dig_letter (hlt d (List.mem_reverse.1 hd))
theorem dt_le {m k : Nat} (h : m < 10 ^ k) (hk : 1 ≤ k) : (decL m).length ≤ k := by
  unfold decL
  by_cases h0 : m = 0
  · rw [if_pos h0]; exact hk
  · rw [if_neg h0, List.length_map, List.length_reverse]
    have h1 := pow_le_of_digs (b := 10) (n := m) (by decide) (by omega)
    have h2 : 10 ^ ((digs 10 m).length - 1) < 10 ^ k := Nat.lt_of_le_of_lt h1 h
    have h3 := (Nat.pow_lt_pow_iff_right (a := 10) (by decide)).1 h2
    omega
end Go.Proofs.YtlmfkeicmldcnaaDoor
