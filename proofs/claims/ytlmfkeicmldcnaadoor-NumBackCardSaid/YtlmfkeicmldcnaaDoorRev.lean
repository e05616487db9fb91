/- slices.Reverse over bytes of the call's own. Conditions: at most 10000000 of them. -/
import Derived.Test.YtlmfkeicmldcnaaDoorApg
open Go.RowKit
set_option maxRecDepth 100000
namespace Go.Proofs.YtlmfkeicmldcnaaDoor
def RevPost (w : World) (base g cap : Nat) (xs : List Nat) (e : Ending) (w' : World) : Prop := e = .returned (.tuple #[]) ∧ OwnF U8 5 w' base g cap xs.reverse ∧ w.grownBy w' (some g)
set_option maxHeartbeats 1000000 in
theorem Reverse_any {base g cap n : Nat} {xs : List Nat} {w : World} (hn : n = xs.length) (h : OwnF U8 5 w base g cap xs) (hl : n ≤ 10000000) :
    Calls Tryd.prog 70 #[.slice (some ⟨g, 0, none⟩) n cap] w (RevPost w base g cap xs) := by
  have HN := hide hn
  have H := hide h
  clear hn h
  go_enter Tryd.func70, Tryd.ntmps70
  go_wp2
  go_loopw [2, 3] (fun iv jv wr => ∃ k j : Nat, ∃ cur : List Nat, k ≤ j ∧ j + k ≤ n ∧ n ≤ j + k ∧ iv = .int .i64 (k : Int) ∧ jv = .int .i64 ((j : Int) - 1) ∧ Hid (cur.length = n) ∧
      Hid (∀ x, x < n → cur[x]? = if x < k ∨ j ≤ x then xs[n - 1 - x]? else xs[x]?) ∧ Hid (OwnF U8 5 wr base g cap cur) ∧ Hid (w.grownBy wr (some g)))
    (fun _ jv _ => (intOf jv + 1).toNat)
  case atStart => exact ⟨0, n, xs, Nat.zero_le _, by omega, by omega, rfl, rfl, HN.out.symm, fun x hx => by rw [if_neg (by omega)], H, World.grownBy.refl _ _⟩
  case round =>
    obtain ⟨k, j, cur, hkj, hjk, hjk', rfl, rfl, hcl, hcur, hown, hgr⟩ := hrel
    by_cases hlt : k + 1 < j
    · obtain ⟨i, rfl⟩ : ∃ i, j = i + 1 := ⟨j - 1, by omega⟩
      have hkc : k < cur.length := by rw [hcl.out]; omega
      have hic : i < cur.length := by rw [hcl.out]; omega
      obtain ⟨a, ha⟩ : ∃ a, a = cur[k] := ⟨_, rfl⟩
      obtain ⟨b, hb⟩ : ∃ b, b = cur[i] := ⟨_, rfl⟩
      have hca : wr.cell? ⟨g, k, none⟩ = some (.int .u8 (a : Int)) := hown.out.cell (by rw [ha]; exact List.getElem?_eq_getElem hkc)
      have hcb : wr.cell? ⟨g, i, none⟩ = some (.int .u8 (b : Int)) := hown.out.cell (by rw [hb]; exact List.getElem?_eq_getElem hic)
      have hfa := hown.out.frozen k
      have hfb := hown.out.frozen i
      have hown1 : OwnF U8 5 (wr.setCell ⟨g, k, none⟩ (.int .u8 (b : Int))) base g cap (cur.set k b) := hown.out.set_ k b
      have hown2 : OwnF U8 5 (((wr.setCell ⟨g, k, none⟩ (.int .u8 (b : Int))).setCell ⟨g, i, none⟩ (.int .u8 (a : Int))).drew) base g cap ((cur.set k b).set i a) := hown1.set_ i a
      have hgr2 : w.grownBy (((wr.setCell ⟨g, k, none⟩ (.int .u8 (b : Int))).setCell ⟨g, i, none⟩ (.int .u8 (a : Int))).drew) (some g) := grown_drewN (grown_set (grown_set hgr.out _ _) _ _) 1
      have hnew : ∀ x, x < n → ((cur.set k b).set i a)[x]? = if x < k + 1 ∨ i ≤ x then xs[n - 1 - x]? else xs[x]? := by
        intro x hx
        have hkx := hcur.out k (by omega)
        have hix := hcur.out i (by omega)
        rw [if_neg (by omega), List.getElem?_eq_getElem hkc, ← ha] at hkx
        rw [if_neg (by omega), List.getElem?_eq_getElem hic, ← hb] at hix
        by_cases hxi : x = i
        · subst hxi
          rw [List.getElem?_set_self (by rw [List.length_set]; exact hic), if_pos (by omega), hkx]; congr 1; omega
        · rw [List.getElem?_set_ne (by omega)]
          by_cases hxk : x = k
          · subst hxk
            rw [List.getElem?_set_self hkc, if_pos (by omega), hix]; congr 1; omega
          · rw [List.getElem?_set_ne (by omega), hcur.out x hx]
            by_cases h3 : x < k ∨ i + 1 ≤ x
            · rw [if_pos h3, if_pos (by omega)]
            · rw [if_neg h3, if_neg (by omega)]
      have HNEW := hide hnew
      have HO2 := hide hown2
      have HG2 := hide hgr2
      clear ha hb hkc hic hown1 hown2 hgr2 hnew
      go_wp2_with fail
      go_region
      go_wp2
      go_roundw
      case rel => exact ⟨k + 1, i, (cur.set k b).set i a, by omega, by omega, by omega, by go_num, by first | rfl | (congr 1; omega), by unfold Hid; rw [List.length_set, List.length_set]; exact hcl.out, HNEW.out, HO2, HG2⟩
      case measure => simp [intOf]
    · have HE : Hid (cur = xs.reverse) := by
        unfold Hid
        apply List.ext_getElem?
        intro x
        rcases Nat.lt_or_ge x n with hx | hx
        · rw [hcur.out x hx, List.getElem?_reverse (by rw [← HN.out]; exact hx), ← HN.out]
          split
          · rfl
          · congr 1; omega
        · rw [List.getElem?_eq_none (by rw [hcl.out]; exact hx), List.getElem?_eq_none (by rw [List.length_reverse, ← HN.out]; exact hx)]
      go_wp2
      go_end0
      exact ⟨rfl, by rw [← HE.out]; exact hown.out, hgr.out⟩
end Go.Proofs.YtlmfkeicmldcnaaDoor
