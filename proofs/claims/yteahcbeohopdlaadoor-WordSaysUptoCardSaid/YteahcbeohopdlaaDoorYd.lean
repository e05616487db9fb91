/- Words: Good, Number; are two rows of texts alike (texts). Conditions: rows that fit. -/
import Derived.Test.YteahcbeohopdlaaDoorYc
import Derived.Deep.Draws
import Derived.Shelf.Abstract
open Go.RowKit
set_option maxRecDepth 100000
namespace Go.Proofs.YteahcbeohopdlaaDoor
theorem good_cons (l : List UInt8) : goodW l = consB wchar l := rfl
theorem wgood_any (s : ByteArray) (w : World) : Calls Tryd.prog 54 #[.string s] w fun e w' => e = .returned (.bool (goodW s.data.toList)) ∧ w = w' := by
  have CC := yhide (fun W => consists_any (g := 102) isLetter_any (enters_of Tryd.func102 (by kernel_rfl) rfl) s W)
  go_enter Tryd.func54, Tryd.ntmps54
  go_wp2_with (first | (go_at_call 100; (with_reducible refine (CC.out _).mono ?_); rintro e w1 ⟨rfl, rfl⟩) | fail)
  go_ret
  exact ⟨rfl, rfl⟩
theorem num_head {s : ByteArray} (h : 0 < s.size) : decide (s.data.toList.head? ≠ some 48) = !((s[0].toNat : Int) == 48) := by
  obtain ⟨⟨l⟩⟩ := s
  cases l with
  | nil => simp [ByteArray.size] at h
  | cons c l =>
    have e : (⟨⟨c :: l⟩⟩ : ByteArray)[0] = c := rfl
    rw [e]
    by_cases hc : c = 48
    · subst hc; rfl
    · have h2 : ((c.toNat : Int) == 48) = false := by
        rw [beq_eq_false_iff_ne]
        intro e2
        exact hc (UInt8.toNat_inj.1 (by simpa using (show c.toNat = 48 by omega)))
      rw [h2]
      simp [hc]
theorem wnumber_any (s : ByteArray) (w : World) : Calls Tryd.prog 53 #[.string s] w fun e w' => e = .returned (.bool (numW s.data.toList)) ∧ w = w' := by
  obtain ⟨b, hb⟩ : ∃ b, consB wdig s.data.toList = b := ⟨_, rfl⟩
  have CC := yhide (fun W => consists_any (g := 101) isDigit_any (enters_of Tryd.func101 (by kernel_rfl) rfl) s W)
  rw [hb] at CC
  have HB := yhide hb
  clear hb
  cases b
  · go_enter Tryd.func53, Tryd.ntmps53
    go_wp2_with (first | (go_at_call 100; (with_reducible refine (CC.out _).mono ?_); rintro e w1 ⟨rfl, rfl⟩) | fail)
    go_ret
    refine ⟨ybool ?_, rfl⟩
    have h := HB.out
    unfold consB at h
    unfold numW
    rw [← Bool.and_assoc, ← Bool.and_assoc, Bool.and_assoc (decide _) (decide _) (List.all _ _), h]; rfl
  · have hs : 0 < s.size := by
      have h := HB.out
      unfold consB at h
      simp only [Bool.and_eq_true, decide_eq_true_eq] at h
      rw [Lib.size_eq]; omega
    have HN : Hid (numW s.data.toList = !((s[0].toNat : Int) == 48)) := by
      unfold Hid
      rw [← num_head hs]
      have h := HB.out
      unfold consB at h
      simp only [Bool.and_eq_true] at h
      unfold numW
      rw [h.1, h.2.1, h.2.2]; rfl
    cases hc : ((s[0].toNat : Int) == 48)
    · rw [hc] at HN
      go_enter Tryd.func53, Tryd.ntmps53
      go_wp2_with (first | (go_at_call 100; (with_reducible refine (CC.out _).mono ?_); rintro e w1 ⟨rfl, rfl⟩) | fail)
      go_ret
      exact ⟨ybool (by rw [HN.out, bne, hc]), rfl⟩
    · rw [hc] at HN
      go_enter Tryd.func53, Tryd.ntmps53
      go_wp2_with (first | (go_at_call 100; (with_reducible refine (CC.out _).mono ?_); rintro e w1 ⟨rfl, rfl⟩) | fail)
      go_ret
      exact ⟨ybool (by rw [HN.out, bne, hc]), rfl⟩
theorem ydrew_cell {W W2 : World} {nq : Nat} (h : W2 = W.drewN nq) {p : Addr} {v : Value} (hc : W.cell? p = some v) : W2.cell? p = some v := by rw [h]; exact hc
theorem ydrew_more {w W : World} {q k : Nat} (h : Hid (W = w.drewN q)) : ∃ q2, W.drewN k = w.drewN q2 := by
  rw [h.out]; exact ⟨q + k, by simp [World.drewN, Nat.add_assoc]⟩
theorem take_eq {xs ys : List ByteArray} {k : Nat} (h : k < xs.length) (h' : k < ys.length) (ht : xs.take k = ys.take k) (he : xs[k] = ys[k]) : xs.take (k + 1) = ys.take (k + 1) := by
  rw [List.take_succ_eq_append_getElem h, List.take_succ_eq_append_getElem h', ht, he]
def TextsR (W : World) (b : Bool) (e : Ending) (w' : World) : Prop := e = .returned (.bool b) ∧ Hid (Below W.heap.size W w')
/-- As it is drawn: nothing but draws. -/
def TextsQ (W : World) (b : Bool) (e : Ending) (w' : World) : Prop := e = .returned (.bool b) ∧ ∃ n, w' = W.drewN n
set_option maxHeartbeats 1000000 in
theorem texts_q {A A' : Option Addr} {n n' c c' : Nat} {xs ys : List ByteArray} {w : World} (h : Ss w A xs) (h' : Ss w A' ys) (hn : n = xs.length) (hn' : n' = ys.length) (hl : n ≤ 1000000) (hl' : n' ≤ 1000000) :
    Calls Tryd.prog 52 #[.slice A n c, .slice A' n' c'] w (TextsQ w (decide (xs = ys))) := by
  by_cases hnn : n = n'
  · subst hnn
    have HN := yhide hn
    have HN' := yhide hn'
    clear hn hn'
    go_enter Tryd.func52, Tryd.ntmps52
    go_wp2
    go_loopw [5] (fun iv wr => ∃ k q : Nat, k ≤ n ∧ iv = .int .i64 (k : Int) ∧ Hid (wr = w.drewN q) ∧ Hid (xs.take k = ys.take k)) (fun iv _ => n - (intOf iv).toNat)
    case atStart => exact ⟨0, 0, Nat.zero_le _, rfl, rfl, rfl⟩
    case round =>
      obtain ⟨k, q, hk, rfl, HQ, ht⟩ := hrel
      by_cases hlt : k < n
      · have hx : k < xs.length := by rw [← HN.out]; exact hlt
        have hy : k < ys.length := by rw [← HN'.out]; exact hlt
        obtain ⟨ad, rfl, hb, hcell⟩ := h.out.at_ hx
        obtain ⟨ad', rfl, hb', hcell'⟩ := h'.out.at_ hy
        obtain ⟨x, hxe⟩ : ∃ x, x = xs[k] := ⟨_, rfl⟩
        obtain ⟨y, hye⟩ : ∃ y, y = ys[k] := ⟨_, rfl⟩
        rw [← hxe] at hcell
        rw [← hye] at hcell'
        have HT : Hid (x = y → xs.take (k + 1) = ys.take (k + 1)) := fun e => take_eq hx hy ht.out (by rw [← hxe, ← hye, e])
        have HD : Hid (x ≠ y → decide (xs = ys) = false) := fun e => decide_eq_false (fun e2 => by subst e2; exact e (by rw [hxe, hye]))
        replace hcell : wr.cell? (ad.add k) = some (.string x) := by rw [HQ.out]; exact hcell
        replace hcell' : wr.cell? (ad'.add k) = some (.string y) := by rw [HQ.out]; exact hcell'
        clear hxe hye hx hy
        by_cases he : x = y
        · subst he
          go_wp2_with fail
          go_quiet (fail)
          go_wp2
          go_roundw
          case rel =>
            obtain ⟨q2, hq2⟩ := ydrew_more HQ
            exact ⟨k + 1, q2, by omega, by go_num, hq2, HT.out (by first | rfl | trivial)⟩
          case measure => simp [intOf]; omega
        · have e2 : (x.toList == y.toList) = false := by
            rw [beq_eq_false_iff_ne]; intro e3; rw [Lib.toList_data, Lib.toList_data] at e3
            exact he (ByteArray.ext (Array.ext' e3))
          have HE := yhide he
          clear he
          go_wp2_with fail
          go_quiet (fail)
          go_wp2
          go_ret
          exact ⟨ybool (HD.out HE.out).symm, ydrew_more HQ⟩
      · obtain rfl : k = n := by omega
        go_wp2
        go_ret
        refine ⟨ybool (Eq.symm (decide_eq_true ?_)), q, HQ.out⟩
        have h3 := ht.out
        rwa [List.take_of_length_le (by rw [← HN.out]; exact Nat.le_refl _), List.take_of_length_le (by rw [← HN'.out]; exact Nat.le_refl _)] at h3
  · have d1 : ((n : Int) == (n' : Int)) = false := by rw [beq_eq_false_iff_ne]; omega
    have HD : Hid (decide (xs = ys) = false) := decide_eq_false (fun e => hnn (by rw [hn, hn', e]))
    clear hnn hn hn'
    go_enter Tryd.func52, Tryd.ntmps52
    go_wp2
    go_ret
    exact ⟨ybool HD.out.symm, 0, rfl⟩
theorem texts_any {A A' : Option Addr} {n n' c c' : Nat} {xs ys : List ByteArray} {w : World} (h : Ss w A xs) (h' : Ss w A' ys) (hn : n = xs.length) (hn' : n' = ys.length) (hl : n ≤ 1000000) (hl' : n' ≤ 1000000) :
    Calls Tryd.prog 52 #[.slice A n c, .slice A' n' c'] w (TextsR w (decide (xs = ys))) :=
  (texts_q h h' hn hn' hl hl').mono fun _ _ ⟨he, k, hw⟩ => ⟨he, by rw [hw]; exact ybelow_drewN (Below.refl _ _) k⟩
end Go.Proofs.YteahcbeohopdlaaDoor
