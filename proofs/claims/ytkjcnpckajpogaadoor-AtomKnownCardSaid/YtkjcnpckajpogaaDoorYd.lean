/- Words: Good, Number; are two rows of texts alike (texts). Conditions: rows that fit. -/
import Derived.Test.YtkjcnpckajpogaaDoorYc
import Derived.Deep.Draws
import Derived.Shelf.Abstract
open Go.RowKit
set_option maxRecDepth 100000
namespace Go.Proofs.YtkjcnpckajpogaaDoor
theorem good_cons (l : List UInt8) : goodW l = consB wchar l := rfl
theorem wgood_any (s : ByteArray) (w : World) : Calls Tryd.prog 33 #[.string s] w fun e w' => e = .returned (.bool (goodW s.data.toList)) ∧ w = w' := by
  have CC := yhide (fun W => consists_any (g := 45) isLetter_any (enters_of Tryd.func45 (by kernel_rfl) rfl) s W)
  go_enter Tryd.func33, Tryd.ntmps33
  go_wp2_with (first | (go_at_call 44; (with_reducible refine (CC.out _).mono ?_); rintro e w1 ⟨rfl, rfl⟩) | fail)
  go_ret
  exact ⟨rfl, rfl⟩
theorem num_head {s : ByteArray} (h : 0 < s.size) : decide (s.data.toList.head? ≠ some 48) = !((s[0].toNat : Int) == 48) := by
  obtain ⟨⟨l⟩⟩ := s
  cases l with
  | nil => simp [ByteArray.size] at h
  | cons c l =>
    have e : (⟨⟨c :: l⟩⟩ : ByteArray)[0] = c := rfl
    rw [e]
    by_cases hc : c = 48
    · subst hc; rfl
    · have h2 : ((c.toNat : Int) == 48) = false := by
        rw [beq_eq_false_iff_ne]
        intro e2
        exact hc (UInt8.toNat_inj.1 (by simpa using (show c.toNat = 48 by omega)))
      rw [h2]
      simp [hc]
theorem ydrew_cell {W W2 : World} {nq : Nat} (h : W2 = W.drewN nq) {p : Addr} {v : Value} (hc : W.cell? p = some v) : W2.cell? p = some v := by rw [h]; exact hc
theorem ydrew_more {w W : World} {q k : Nat} (h : Hid (W = w.drewN q)) : ∃ q2, W.drewN k = w.drewN q2 := by
  rw [h.out]; exact ⟨q + k, by simp [World.drewN, Nat.add_assoc]⟩
theorem take_eq {xs ys : List ByteArray} {k : Nat} (h : k < xs.length) (h' : k < ys.length) (ht : xs.take k = ys.take k) (he : xs[k] = ys[k]) : xs.take (k + 1) = ys.take (k + 1) := by
  rw [List.take_succ_eq_append_getElem h, List.take_succ_eq_append_getElem h', ht, he]
def TextsR (W : World) (b : Bool) (e : Ending) (w' : World) : Prop := e = .returned (.bool b) ∧ Hid (Below W.heap.size W w')
/-- As it is drawn: nothing but draws. -/
def TextsQ (W : World) (b : Bool) (e : Ending) (w' : World) : Prop := e = .returned (.bool b) ∧ ∃ n, w' = W.drewN n
end Go.Proofs.YtkjcnpckajpogaaDoor
