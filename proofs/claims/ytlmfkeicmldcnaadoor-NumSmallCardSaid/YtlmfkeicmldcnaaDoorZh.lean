/- Package num: Text, Good of a valid number. Conditions: at most 100000 words. -/
import Derived.Test.YtlmfkeicmldcnaaDoorZe
import Derived.Test.YtlmfkeicmldcnaaDoorTxm
open Go.RowKit
set_option maxRecDepth 100000
namespace Go.Proofs.YtlmfkeicmldcnaaDoor
/-- An integer's letters. -/
def decZ (z : Int) : List UInt8 := if z < 0 then 45 :: decL z.natAbs else decL z.natAbs
def TxR (W : World) (l : List UInt8) (e : Ending) (w' : World) : Prop := ∃ t : ByteArray, e = .returned (.string t) ∧ Hid (t.data.toList = l) ∧ Hid (Below W.heap.size W w')
section
variable {W : World} {b : Bool} {A : Option Addr} {n c : Nat} {z : Int}
theorem text_h {m : Nat} (h : Nm W A n c m) : Calls Tryd.prog 19 #[.agg #[.slice A n c]] W (TxR W (decL m)) := (Text_any h.out).mono fun _ _ h => h
theorem decL_len {W : World} {A : Option Addr} {n c m : Nat} (h : Nm W A n c m) : (decL m).length ≤ 1000001 := by
  have h1 : m < 10 ^ (10 * dl m + 1) := by
    have h2 : m < W32 ^ dl m := lt_pow_digs (b := W32) (by decide) m
    have h3 : W32 ^ dl m ≤ (10 ^ 10) ^ dl m := Nat.pow_le_pow_left (by decide) _
    rw [← Nat.pow_mul] at h3
    exact Nat.lt_of_lt_of_le h2 (Nat.le_trans h3 (Nat.pow_le_pow_right (by decide) (by omega)))
  have := dt_le h1 (by omega)
  have := h.dl
  omega
set_option maxHeartbeats 1000000 in
theorem ztext_h (h : ZA W b A n c z) : Calls Tryd.prog 44 #[.agg #[.bool b, .slice A n c]] W (TxR W (decZ z)) := by
  have CT : Hid (∀ W', Below W.heap.size W W' → Calls Tryd.prog 19 #[.agg #[.slice A n c]] W' (TxR W' (decL z.natAbs))) := fun W' hb => text_h (h.up hb).1
  have HLEN := hide (decL_len h.1)
  by_cases hn : z < 0
  · have CS : Hid (∀ o, Calls Tryd.prog 42 #[.agg #[.bool b, .slice A n c]] (W.alloc o) (IntPost (W.alloc o) (-1))) := fun o => sign_h (h.al o) (Int.sign_eq_neg_one_of_neg hn)
    have HZ : Hid (decZ z = 45 :: decL z.natAbs) := if_pos hn
    clear h hn
    go_enter Tryd.func44, Tryd.ntmps44
    go_wp2_with (first | (go_at_call 42; (with_reducible refine (CS.out _).mono ?_); rintro e w1 ⟨rfl, hbk⟩; obtain ⟨e0, e1, hsz, hbx⟩ := bz1 hbk) | (go_at_call 19; (with_reducible refine (CT.out _ hbx.out).mono ?_); rintro e w2 ⟨t, rfl, ht, hbk2⟩; have hts : t.size ≤ 1000001 := (by rw [size_list, ht.out]; exact HLEN.out)) | fail)
    all_goals first
      | (go_ret
         refine ⟨_, rfl, ?_, chain hbx hbk2.out⟩
         unfold Hid
         rw [HZ.out, ← ht.out]
         simp)
      | (exfalso; omega)
  · by_cases h0 : z = 0
    all_goals
      have CS : Hid (∀ o, ∃ s, 0 ≤ s ∧ Calls Tryd.prog 42 #[.agg #[.bool b, .slice A n c]] (W.alloc o) (IntPost (W.alloc o) s)) := fun o => ⟨_, by first | (subst h0; decide) | (rw [Int.sign_eq_one_of_pos (by omega)]; decide), sign_h (h.al o) rfl⟩
      have HZ : Hid (decZ z = decL z.natAbs) := if_neg hn
      obtain ⟨s, hs0, hs⟩ := CS.out (.cells #[.bool b, .slice A n c] 55)
      have CS2 := hide hs
      clear h hn h0 CS hs
      go_enter Tryd.func44, Tryd.ntmps44
      go_wp2_with (first | (go_at_call 42; (with_reducible refine CS2.out.mono ?_); rintro e w1 ⟨rfl, hbk⟩; obtain ⟨e0, e1, hsz, hbx⟩ := bz1 hbk) | (go_at_call 19; (with_reducible refine (CT.out _ hbx.out).mono ?_); rintro e w2 ⟨t, rfl, ht, hbk2⟩) | fail)
      go_ret
      exact ⟨t, rfl, by unfold Hid; rw [HZ.out]; exact ht.out, chain hbx hbk2.out⟩
end
end Go.Proofs.YtlmfkeicmldcnaaDoor
