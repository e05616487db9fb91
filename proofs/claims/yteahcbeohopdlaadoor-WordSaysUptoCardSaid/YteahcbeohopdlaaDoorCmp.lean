/- Comparisons: cmp.Compare, nat.compare. Conditions: lengths that fit int. -/
import Derived.Test.YteahcbeohopdlaaDoorMem
open Go.RowKit
namespace Go.Proofs.YteahcbeohopdlaaDoor
theorem quiet_left {P : Program} {f : FuncId} {args : Array Value} {w : World} {n : Nat} {v : Value}
    (h : Calls P f args (w.drewN n) fun e w' => e = .returned v ∧ w.drewN n = w') : Calls P f args (w.drewN n) fun e w'' => e = .returned v ∧ ∃ m, w'' = w.drewN m :=
  h.mono fun _ _ ⟨he, hm⟩ => ⟨he, n, hm.symm⟩
theorem drew_cell {W w : World} {n : Nat} {p : Addr} {v : Option Value} (h : W = w.drewN n) (hc : w.cell? p = v) : W.cell? p = v := by rw [h]; exact hc
theorem drew_hid {W wr w : World} {n q : Nat} (h : W = wr.drewN n) (hq : Hid (wr = w.drewN q)) : Hid (W = w.drewN (q + n)) := by unfold Hid; rw [h, hq.out, World.drewN_drewN]
theorem drew_more {wr w : World} {n q : Nat} (hq : Hid (wr = w.drewN q)) : Hid (wr.drewN n = w.drewN (q + n)) := by unfold Hid; rw [hq.out, World.drewN_drewN]
theorem drew_end {wr w : World} {n q : Nat} (hq : Hid (wr = w.drewN q)) : ∃ m, wr.drewN n = w.drewN m := ⟨_, (drew_more hq).out⟩
/-- -1, 0 or 1. -/
def cmpI (a b : Nat) : Int := if a < b then -1 else if b < a then 1 else 0
theorem cmpI_lt {a b : Nat} (h : a < b) : cmpI a b = -1 := if_pos h
theorem cmpI_gt {a b : Nat} (h : b < a) : cmpI a b = 1 := by unfold cmpI; rw [if_neg (by omega), if_pos h]
theorem cmpI_eq {a b : Nat} (h : a = b) : cmpI a b = 0 := by unfold cmpI; rw [if_neg (by omega), if_neg (by omega)]
theorem int_ret {k : IntKind} {a b : Int} (h : a = b) : Ending.returned (.int k a) = .returned (.int k b) := by rw [h]
theorem cmpInt_any (a b : Nat) (w : World) :
    Calls Tryd.prog 131 #[.int .i64 a, .int .i64 b] w fun e w' => e = .returned (.int .i64 (cmpI a b)) ∧ w = w' := by
  rcases Nat.lt_trichotomy a b with h | h | h
  · go_enter Tryd.func131, Tryd.ntmps131
    go_wp2
    go_ret
    exact ⟨int_ret (cmpI_lt h).symm, rfl⟩
  · have H := hide h
    have h1 : ¬ a < b := by omega
    have h2 : ¬ b < a := by omega
    clear h
    go_enter Tryd.func131, Tryd.ntmps131
    go_wp2
    go_ret
    exact ⟨int_ret (cmpI_eq H.out).symm, rfl⟩
  · have h1 : ¬ a < b := by omega
    go_enter Tryd.func131, Tryd.ntmps131
    go_wp2
    go_ret
    exact ⟨int_ret (cmpI_gt h).symm, rfl⟩
theorem cmpWord_any (a b : Nat) (w : World) :
    Calls Tryd.prog 132 #[.int .u32 a, .int .u32 b] w fun e w' => e = .returned (.int .i64 (cmpI a b)) ∧ w = w' := by
  rcases Nat.lt_trichotomy a b with h | h | h
  · go_enter Tryd.func132, Tryd.ntmps132
    go_wp2
    go_ret
    exact ⟨int_ret (cmpI_lt h).symm, rfl⟩
  · have H := hide h
    have h1 : ¬ a < b := by omega
    have h2 : ¬ b < a := by omega
    clear h
    go_enter Tryd.func132, Tryd.ntmps132
    go_wp2
    go_ret
    exact ⟨int_ret (cmpI_eq H.out).symm, rfl⟩
  · have h1 : ¬ a < b := by omega
    go_enter Tryd.func132, Tryd.ntmps132
    go_wp2
    go_ret
    exact ⟨int_ret (cmpI_gt h).symm, rfl⟩
def dl (m : Nat) : Nat := (digs W32 m).length
theorem cmpI_len {m n : Nat} (h : dl m ≠ dl n) : cmpI (dl m) (dl n) = cmpI m n := by
  rcases Nat.lt_or_ge (dl m) (dl n) with h1 | h1
  · rw [cmpI_lt h1, cmpI_lt (digs_len_lt (b := W32) (by decide) h1)]
  · rw [cmpI_gt (by omega), cmpI_gt (digs_len_lt (b := W32) (by decide) (show dl n < dl m by omega))]
theorem cmpI_at {m n i : Nat} (hlen : dl m = dl n) (hi : i < dl m) (heq : (digs W32 m).drop (i + 1) = (digs W32 n).drop (i + 1)) {x y : Nat} (hx : (digs W32 m)[i]? = some x) (hy : (digs W32 n)[i]? = some y) (hne : x ≠ y) : cmpI x y = cmpI m n := by
  have key : ∀ {m n x y : Nat}, dl m = dl n → i < dl m → (digs W32 m).drop (i + 1) = (digs W32 n).drop (i + 1) → (digs W32 m)[i]? = some x → (digs W32 n)[i]? = some y → x < y → m < n := by
    intro m n x y hlen hi heq hx hy hlt
    have := val_cmp (b := W32) (digs W32 m) (digs W32 n) i (digs_lt (by decide) m) hlen hi heq (by rw [hx, hy]; exact hlt)
    rwa [val_digs (by decide), val_digs (by decide)] at this
  rcases Nat.lt_or_ge x y with h | h
  · rw [cmpI_lt h, cmpI_lt (key hlen hi heq hx hy h)]
  · rw [cmpI_gt (by omega), cmpI_gt (key hlen.symm (by omega) heq.symm hy hx (by omega))]
set_option maxHeartbeats 1000000 in
theorem compare_any (A A' : Option Addr) (m n : Nat) (c c' : Nat) (w : World) (B : Nat) (h : Rd U32 w B A (digs W32 m)) (h' : Rd U32 w B A' (digs W32 n)) (hl : dl m ≤ 1000000) (hl' : dl n ≤ 1000000) (hc : dl m ≤ c) (hc' : dl n ≤ c') :
    Calls Tryd.prog 105 #[.slice A (dl m) c, .slice A' (dl n) c'] w fun e w' => e = .returned (.int .i64 (cmpI m n)) ∧ ∃ q, w' = w.drewN q := by
  obtain ⟨k, hk⟩ : ∃ k, k = dl m := ⟨_, rfl⟩
  obtain ⟨k', hk'⟩ : ∃ k, k = dl n := ⟨_, rfl⟩
  have HR := hide h; have HR' := hide h'
  rw [← hk] at hl hc ⊢
  rw [← hk'] at hl' hc' ⊢
  have HK := hide hk; have HK' := hide hk'
  clear hk hk' h h'
  by_cases hlen : k = k'
  · subst hlen
    go_enter Tryd.func105, Tryd.ntmps105
    go_wp2
    go_loopw [5] (fun i wr => ∃ j q : Nat, j ≤ k ∧ Hid ((digs W32 m).drop j = (digs W32 n).drop j) ∧ i = .int .i64 ((j : Int) - 1) ∧ Hid (wr = w.drewN q)) (fun i _ => (intOf i + 1).toNat)
    case atStart => exact ⟨k, 0, Nat.le_refl _, by unfold Hid; rw [List.drop_of_length_le (Nat.le_of_eq HK.out.symm), List.drop_of_length_le (Nat.le_of_eq HK'.out.symm)], rfl, rfl⟩
    case round =>
      obtain ⟨j, q, hj, hd, rfl, HQ⟩ := hrel
      by_cases h0 : j = 0
      · subst h0
        go_wp2
        go_ret
        exact ⟨int_ret (cmpI_eq (digs_inj (b := W32) (by decide) hd.out)).symm, q, HQ.out⟩
      · obtain ⟨i, rfl⟩ : ∃ i, j = i + 1 := ⟨j - 1, by omega⟩
        have hi : i < (digs W32 m).length := Nat.lt_of_lt_of_eq (by omega) HK.out
        have hi' : i < (digs W32 n).length := Nat.lt_of_lt_of_eq (by omega) HK'.out
        obtain ⟨ad, rfl, hb, hcell⟩ := HR.out.at_ hi
        obtain ⟨ad', rfl, hb', hcell'⟩ := HR'.out.at_ hi'
        obtain ⟨x, hx⟩ : ∃ x, x = (digs W32 m)[i] := ⟨_, rfl⟩
        obtain ⟨y, hy⟩ : ∃ x, x = (digs W32 n)[i] := ⟨_, rfl⟩
        rw [← hx] at hcell
        rw [← hy] at hcell'
        have HX : Hid ((digs W32 m)[i]? = some x) := by unfold Hid; rw [hx, List.getElem?_eq_getElem hi]
        have HY : Hid ((digs W32 n)[i]? = some y) := by unfold Hid; rw [hy, List.getElem?_eq_getElem hi']
        unfold U32 at hcell hcell'
        replace hcell : wr.cell? (ad.add i) = some (.int .u32 x) := by rw [HQ.out]; exact hcell
        replace hcell' : wr.cell? (ad'.add i) = some (.int .u32 y) := by rw [HQ.out]; exact hcell'
        have hli : i < dl m := hi
        have HLI := hide hli
        have hdrop : x = y → (digs W32 m).drop i = (digs W32 n).drop i := fun e => by
          rw [List.drop_eq_getElem_cons hi, List.drop_eq_getElem_cons hi', ← hx, ← hy, e, hd.out]
        have HD := hide hdrop
        clear hx hy hi hi' hli hdrop
        by_cases hxy : x = y
        · subst hxy
          go_wp2_with fail
          go_quiet (fail)
          go_wp2
          go_roundw
          case rel => exact ⟨i, _, by omega, HD.out (by first | rfl | trivial), rfl, drew_more HQ⟩
          case measure => simp [intOf]
        · go_wp2_with fail
          go_quiet (fail)
          rename_i nq
          obtain ⟨W2, hW2⟩ : ∃ W2, W2 = wr.drewN nq := ⟨_, rfl⟩
          rw [← hW2]
          have HC := drew_cell hW2 hcell
          have HC' := drew_cell hW2 hcell'
          have HW2 := drew_hid hW2 HQ
          clear hW2 hcell hcell' HQ
          go_wp2_with fail
          go_quiet ((go_at_call 132; exact quiet_left (cmpWord_any x y _)))
          go_wp2
          go_ret
          exact ⟨int_ret (cmpI_at (by rw [← HK.out]; exact HK'.out) HLI.out hd.out HX.out HY.out hxy), drew_end HW2⟩
  · go_enter Tryd.func105, Tryd.ntmps105
    go_wp2_with (go_at_call 131; refine (cmpInt_any _ _ _).mono ?_; rintro e w' ⟨rfl, rfl⟩)
    go_ret
    exact ⟨int_ret (by rw [HK.out, HK'.out]; exact cmpI_len (by rw [← HK.out, ← HK'.out]; exact hlen)), 0, rfl⟩
end Go.Proofs.YteahcbeohopdlaaDoor
