/- The document's own numbers, four digits each: trim, at, Cmp, Small. Conditions: at most 1000000 of them. -/
import Derived.Test.YtlmfkeicmldcnaaDoorApg
open Go.RowKit
set_option maxRecDepth 100000
namespace Go.Proofs.YtlmfkeicmldcnaaDoor
def D4 : Nat := 10000
theorem D4_eq : D4 = 10000 := rfl
def dq (m : Nat) : Nat := (digs D4 m).length
def Good4 (ws : List Nat) : Prop := ∀ x ∈ ws, x < D4
def RN (w : World) (B : Nat) (A : Option Addr) (c m : Nat) : Prop := dq m ≤ c ∧ Rd I64 w B A (digs D4 m)
section
variable {w w' : World} {B B' : Nat} {A : Option Addr} {c m : Nat}
theorem RN.below (h : RN w B A c m) (hb : Below B w w') : RN w' B A c m := ⟨h.1, h.2.below hb⟩
theorem RN.more (h : RN w B A c m) (hb : B ≤ B') : RN w B' A c m := ⟨h.1, h.2.more hb⟩
theorem RN.drewN (h : RN w B A c m) (k : Nat) : RN (w.drewN k) B A c m := h
end
def RefPost (w : World) (m : Nat) (e : Ending) (w' : World) : Prop := ∃ A c, e = .returned (.slice A (dq m) c) ∧ Hid (RN w' w'.heap.size A c m) ∧ Hid (Below w.heap.size w w')
theorem good4_digs (m : Nat) : Good4 (digs D4 m) := digs_lt (by decide) m
theorem val_digs4 (m : Nat) : val D4 (digs D4 m) = m := val_digs (by decide) m
def trimmed4 (ws : List Nat) : Nat := dq (val D4 ws)
theorem trimmed4_of {ws : List Nat} {k : Nat} (h : Good4 ws) (hk : k ≤ ws.length) (hz : ∀ j : Nat, k ≤ j → ws[j]?.getD 0 = 0) (hl : 0 < k → ws[k - 1]?.getD 0 ≠ 0) : trimmed4 ws = k := by
  unfold trimmed4 dq
  rw [← trim_eq (by decide) ws k h hk hz hl, List.length_take, Nat.min_eq_left hk]
set_option maxHeartbeats 400000 in
theorem rtrim_any (A : Option Addr) (ws : List Nat) (c : Nat) (w : World) (B : Nat) (h : Rd I64 w B A ws) (hw : Good4 ws) (hl : ws.length ≤ 1000000) (hc : ws.length ≤ c) :
    Calls Tryd.prog 73 #[.slice A ws.length c] w fun e w' => e = .returned (.slice A (trimmed4 ws) c) ∧ w = w' := by
  obtain ⟨n, hn⟩ : ∃ n, n = ws.length := ⟨_, rfl⟩
  have hl' : n ≤ 1000000 := by omega
  have hc' : n ≤ c := by omega
  rw [← hn]
  have HN := hide hn; have HW := hide hw; have HR := hide h
  clear hw hn hl hc h
  go_enter Tryd.func73, Tryd.ntmps73
  go_wp2
  go_loop [0] (fun l => ∃ k : Nat, k ≤ n ∧ Hid (∀ j : Nat, k ≤ j → ws[j]?.getD 0 = 0) ∧ l = .slice A k c) lenOf
  case atStart => exact ⟨n, Nat.le_refl _, fun j hj => by rw [List.getElem?_eq_none (by have := HN.out; omega)]; rfl, rfl⟩
  case round =>
    obtain ⟨k, hk, hz, rfl⟩ := hrel
    by_cases h0 : k = 0
    · subst h0
      go_wp2
      go_ret
      exact ⟨slice_ret (trimmed4_of HW.out (by omega) hz.out (by omega)).symm, rfl⟩
    · obtain ⟨m, rfl⟩ : ∃ m, k = m + 1 := ⟨k - 1, by omega⟩
      have hm : m < ws.length := by have := HN.out; omega
      obtain ⟨ad, rfl, hb, hcell⟩ := HR.out.at_ hm
      have hx : ws[m]?.getD 0 = ws[m] := by rw [List.getElem?_eq_getElem hm]; rfl
      obtain ⟨x, hxe⟩ : ∃ x, x = ws[m] := ⟨_, rfl⟩
      rw [← hxe] at hcell hx
      unfold I64 at hcell
      have HX := hide hx
      clear hx hxe hm
      by_cases hx0 : x = 0
      · have hx1 : ((x : Int) == 0) = true := by subst hx0; rfl
        have HX0 := hide hx0
        clear hx0
        go_wp2
        go_round
        case rel => exact ⟨m, by omega, fun j hj => by rcases Nat.eq_or_lt_of_le hj with rfl | hj; (· rw [HX.out, HX0.out]); (· exact hz.out j hj), by first | rfl | simp⟩
        case measure => simp [lenOf]
      · have hx1 : ((x : Int) == 0) = false := by simp; omega
        have HX0 := hide hx0
        clear hx0
        go_wp2
        go_ret
        exact ⟨slice_ret (trimmed4_of HW.out (by have := HN.out; omega) hz.out (fun _ => by rw [Nat.add_sub_cancel, HX.out]; exact HX0.out)).symm, rfl⟩
theorem rdigs_take (ws : List Nat) (h : Good4 ws) : ws.take (dq (val D4 ws)) = digs D4 (val D4 ws) := digs_take (by decide) ws h
/-- trim over a row of the call's own. -/
theorem rtrim_post {A : Option Addr} {ws : List Nat} {n c v : Nat} {w : World} (hn : n = ws.length) (hv : val D4 ws = v) (h : Rd I64 w w.heap.size A ws) (hw : Good4 ws) (hl : n ≤ 1000000) (hc : n ≤ c) :
    Calls Tryd.prog 73 #[.slice A n c] w fun e w' => e = .returned (.slice A (dq v) c) ∧ w = w' := by
  subst hn; subst hv
  exact rtrim_any A ws c w _ h hw hl hc
theorem rn_of {A : Option Addr} {ws : List Nat} {n c v : Nat} {w : World} {B : Nat} (hn : n = ws.length) (hv : val D4 ws = v) (h : Rd I64 w B A ws) (hw : Good4 ws) (hc : n ≤ c) : RN w B A c v := by
  subst hn; subst hv
  have hle : dq (val D4 ws) ≤ ws.length := digs_len_le (by decide) ws hw
  refine ⟨by omega, ?_⟩
  have := h.take (dq (val D4 ws))
  rwa [rdigs_take ws hw] at this
set_option maxHeartbeats 400000 in
theorem at_any {A : Option Addr} {ws : List Nat} {n c i : Nat} {w : World} {B : Nat} (hn : n = ws.length) (h : Rd I64 w B A ws) :
    Calls Tryd.prog 72 #[.slice A n c, .int .i64 (i : Int)] w fun e w' => e = .returned (.int .i64 ((ws[i]?.getD 0 : Nat) : Int)) ∧ w = w' := by
  by_cases hlt : i < n
  · have hi2 : i < ws.length := by omega
    obtain ⟨ad, rfl, hb, hc⟩ := h.at_ hi2
    obtain ⟨x, hx⟩ : ∃ x, x = ws[i] := ⟨_, rfl⟩
    have HX : Hid (ws[i]?.getD 0 = x) := by unfold Hid; rw [hx, List.getElem?_eq_getElem hi2]; rfl
    rw [← hx] at hc
    unfold I64 at hc
    clear hx hi2 h hn
    go_enter Tryd.func72, Tryd.ntmps72
    go_wp2
    go_ret
    exact ⟨by rw [HX.out]; rfl, rfl⟩
  · have HX : Hid (ws[i]?.getD 0 = 0) := by unfold Hid; rw [List.getElem?_eq_none (by omega)]; rfl
    clear h hn
    go_enter Tryd.func72, Tryd.ntmps72
    go_wp2
    go_ret
    exact ⟨by rw [HX.out]; rfl, rfl⟩
theorem cmpI_len4 {m n : Nat} (h : dq m ≠ dq n) : cmpI (dq m) (dq n) = cmpI m n := by
  rcases Nat.lt_or_ge (dq m) (dq n) with h1 | h1
  · rw [cmpI_lt h1, cmpI_lt (digs_len_lt (b := D4) (by decide) h1)]
  · rw [cmpI_gt (by omega), cmpI_gt (digs_len_lt (b := D4) (by decide) (show dq n < dq m by omega))]
theorem cmpI_at4 {m n i : Nat} (hlen : dq m = dq n) (hi : i < dq m) (heq : (digs D4 m).drop (i + 1) = (digs D4 n).drop (i + 1)) {x y : Nat} (hx : (digs D4 m)[i]? = some x) (hy : (digs D4 n)[i]? = some y) (hne : x ≠ y) : cmpI x y = cmpI m n := by
  have key : ∀ {m n x y : Nat}, dq m = dq n → i < dq m → (digs D4 m).drop (i + 1) = (digs D4 n).drop (i + 1) → (digs D4 m)[i]? = some x → (digs D4 n)[i]? = some y → x < y → m < n := by
    intro m n x y hlen hi heq hx hy hlt
    have := val_cmp (b := D4) (digs D4 m) (digs D4 n) i (digs_lt (by decide) m) hlen hi heq (by rw [hx, hy]; exact hlt)
    rwa [val_digs (by decide), val_digs (by decide)] at this
  rcases Nat.lt_or_ge x y with h | h
  · rw [cmpI_lt h, cmpI_lt (key hlen hi heq hx hy h)]
  · rw [cmpI_gt (by omega), cmpI_gt (key hlen.symm (by omega) heq.symm hy hx (by omega))]
set_option maxHeartbeats 1000000 in
theorem rCmp_any {A A' : Option Addr} {m n c c' : Nat} {w : World} {B : Nat} (h : RN w B A c m) (h' : RN w B A' c' n) (hl : dq m ≤ 1000000) (hl' : dq n ≤ 1000000) :
    Calls Tryd.prog 28 #[.slice A (dq m) c, .slice A' (dq n) c'] w fun e w' => e = .returned (.int .i64 (cmpI m n)) ∧ ∃ q, w' = w.drewN q := by
  obtain ⟨k, hk⟩ : ∃ k, k = dq m := ⟨_, rfl⟩
  obtain ⟨k', hk'⟩ : ∃ k, k = dq n := ⟨_, rfl⟩
  have HR := hide h.2; have HR' := hide h'.2
  rw [← hk] at hl ⊢
  rw [← hk'] at hl' ⊢
  have HK := hide hk; have HK' := hide hk'
  clear hk hk' h h'
  by_cases hlen : k = k'
  · subst hlen
    go_enter Tryd.func28, Tryd.ntmps28
    go_wp2
    go_loopw [5] (fun i wr => ∃ j q : Nat, j ≤ k ∧ Hid ((digs D4 m).drop j = (digs D4 n).drop j) ∧ i = .int .i64 ((j : Int) - 1) ∧ Hid (wr = w.drewN q)) (fun i _ => (intOf i + 1).toNat)
    case atStart => exact ⟨k, 0, Nat.le_refl _, by unfold Hid; rw [List.drop_of_length_le (Nat.le_of_eq HK.out.symm), List.drop_of_length_le (Nat.le_of_eq HK'.out.symm)], rfl, rfl⟩
    case round =>
      obtain ⟨j, q, hj, hd, rfl, HQ⟩ := hrel
      by_cases h0 : j = 0
      · subst h0
        go_wp2
        go_ret
        exact ⟨int_ret (cmpI_eq (digs_inj (b := D4) (by decide) hd.out)).symm, q, HQ.out⟩
      · obtain ⟨i, rfl⟩ : ∃ i, j = i + 1 := ⟨j - 1, by omega⟩
        have hi : i < (digs D4 m).length := Nat.lt_of_lt_of_eq (by omega) HK.out
        have hi' : i < (digs D4 n).length := Nat.lt_of_lt_of_eq (by omega) HK'.out
        obtain ⟨ad, rfl, hb, hcell⟩ := HR.out.at_ hi
        obtain ⟨ad', rfl, hb', hcell'⟩ := HR'.out.at_ hi'
        obtain ⟨x, hx⟩ : ∃ x, x = (digs D4 m)[i] := ⟨_, rfl⟩
        obtain ⟨y, hy⟩ : ∃ x, x = (digs D4 n)[i] := ⟨_, rfl⟩
        rw [← hx] at hcell
        rw [← hy] at hcell'
        have HX : Hid ((digs D4 m)[i]? = some x) := by unfold Hid; rw [hx, List.getElem?_eq_getElem hi]
        have HY : Hid ((digs D4 n)[i]? = some y) := by unfold Hid; rw [hy, List.getElem?_eq_getElem hi']
        unfold I64 at hcell hcell'
        replace hcell : wr.cell? (ad.add i) = some (.int .i64 x) := by rw [HQ.out]; exact hcell
        replace hcell' : wr.cell? (ad'.add i) = some (.int .i64 y) := by rw [HQ.out]; exact hcell'
        have hli : i < dq m := hi
        have HLI := hide hli
        have hdrop : x = y → (digs D4 m).drop i = (digs D4 n).drop i := fun e => by
          rw [List.drop_eq_getElem_cons hi, List.drop_eq_getElem_cons hi', ← hx, ← hy, e, hd.out]
        have HD := hide hdrop
        clear hx hy hi hi' hli hdrop
        rcases Nat.lt_trichotomy x y with hxy | hxy | hxy
        · go_wp2_with fail
          go_quiet (fail)
          go_wp2
          go_ret
          exact ⟨int_ret ((cmpI_lt hxy).symm.trans (cmpI_at4 (by rw [← HK.out]; exact HK'.out) HLI.out hd.out HX.out HY.out (by omega))), drew_end HQ⟩
        · subst hxy
          go_wp2_with fail
          go_quiet (fail)
          rename_i nq
          obtain ⟨W2, hW2⟩ : ∃ W2, W2 = wr.drewN nq := ⟨_, rfl⟩
          rw [← hW2]
          have HC := drew_cell hW2 hcell
          have HC' := drew_cell hW2 hcell'
          have HW2 := drew_hid hW2 HQ
          clear hW2 hcell hcell' HQ
          go_wp2_with fail
          go_quiet (fail)
          go_wp2
          go_roundw
          case rel => exact ⟨i, _, by omega, HD.out (by first | rfl | trivial), rfl, drew_more HW2⟩
          case measure => simp [intOf]
        · go_wp2_with fail
          go_quiet (fail)
          rename_i nq
          obtain ⟨W2, hW2⟩ : ∃ W2, W2 = wr.drewN nq := ⟨_, rfl⟩
          rw [← hW2]
          have HC := drew_cell hW2 hcell
          have HC' := drew_cell hW2 hcell'
          have HW2 := drew_hid hW2 HQ
          clear hW2 hcell hcell' HQ
          go_wp2_with fail
          go_quiet (fail)
          go_wp2
          go_ret
          exact ⟨int_ret ((cmpI_gt hxy).symm.trans (cmpI_at4 (by rw [← HK.out]; exact HK'.out) HLI.out hd.out HX.out HY.out (by omega))), drew_end HW2⟩
  · rcases Nat.lt_or_ge k k' with hlt | hge
    · have H1 : Hid (cmpI m n = -1) := by unfold Hid; rw [← cmpI_len4 (by rw [← HK.out, ← HK'.out]; exact hlen), ← HK.out, ← HK'.out, cmpI_lt hlt]
      go_enter Tryd.func28, Tryd.ntmps28
      go_wp2
      go_ret
      exact ⟨int_ret H1.out.symm, 0, rfl⟩
    · have H1 : Hid (cmpI m n = 1) := by unfold Hid; rw [← cmpI_len4 (by rw [← HK.out, ← HK'.out]; exact hlen), ← HK.out, ← HK'.out, cmpI_gt (by omega)]
      have hge2 : ¬ k < k' := by omega
      go_enter Tryd.func28, Tryd.ntmps28
      go_wp2
      go_ret
      exact ⟨int_ret H1.out.symm, 0, rfl⟩
end Go.Proofs.YtlmfkeicmldcnaaDoor
