/- NatSmall's walk. No conditions. -/
import Derived.Test.YtcidclajfbnfoaaDoorIs
import Derived.Test.YtcidclajfbnfoaaDoorSub
import Derived.Test.YtcidclajfbnfoaaDoorDvo
open Go.RowKit
set_option maxRecDepth 100000
namespace Go.Proofs.YtcidclajfbnfoaaDoor
theorem keep2 {w W W' : World} {b : Nat} {v0 v1 : Value} (hb : Hid (Below W.heap.size W W')) (h : W.cell? ⟨b, 0, none⟩ = some v0 ∧ W.cell? ⟨b + 1, 0, none⟩ = some v1 ∧ Below w.heap.size w W ∧ b + 2 ≤ W.heap.size) :
    W'.cell? ⟨b, 0, none⟩ = some v0 ∧ W'.cell? ⟨b + 1, 0, none⟩ = some v1 ∧ Below w.heap.size w W' ∧ b + 2 ≤ W'.heap.size := by
  obtain ⟨h0, h1, h3, h4⟩ := h
  have hs := hb.out.size
  exact ⟨(hb.out.cell (by simp; omega)).trans h0, (hb.out.cell (by simp; omega)).trans h1, h3.trans (hb.out.mono h3.size), by omega⟩
theorem start2 (wa : World) (v0 v1 : Value) (t : TypeId) :
    ((wa.alloc (.cells #[v0] t)).alloc (.cells #[v1] t)).cell? ⟨wa.heap.size, 0, none⟩ = some v0 ∧ ((wa.alloc (.cells #[v0] t)).alloc (.cells #[v1] t)).cell? ⟨wa.heap.size + 1, 0, none⟩ = some v1 ∧
    Below wa.heap.size wa ((wa.alloc (.cells #[v0] t)).alloc (.cells #[v1] t)) ∧ wa.heap.size + 2 ≤ ((wa.alloc (.cells #[v0] t)).alloc (.cells #[v1] t)).heap.size := by
  have b1 : (wa.alloc (.cells #[v0] t)).heap[wa.heap.size]? = some (.cells #[v0] t (0, 0)) := heap_alloc_new wa _
  have b2 : ((wa.alloc (.cells #[v0] t)).alloc (.cells #[v1] t)).heap[wa.heap.size + 1]? = some (.cells #[v1] t (0, 0)) := by simpa using heap_alloc_new (wa.alloc (.cells #[v0] t)) (.cells #[v1] t)
  have c1 : ((wa.alloc (.cells #[v0] t)).alloc (.cells #[v1] t)).heap[wa.heap.size]? = some (.cells #[v0] t (0, 0)) := (Below.heap_alloc _ _ _ (by simp)).trans b1
  exact ⟨(one_cell c1).1, (one_cell b2).1, ((Below.refl _ _).alloc (Nat.le_refl _) _).alloc (by simp) _, by simp⟩
def LowV (W : World) (v : Int) (e : Ending) (w' : World) : Prop := e = .returned (.tuple #[.int .u64 v, .bool true]) ∧ Hid (Below W.heap.size W w')
theorem low_can {W : World} {A : Option Addr} {c m : Nat} {v : Int} (h : Can W W.heap.size A c m) (hl : dl m ≤ 100000) (hm : m < 18446744073709551616) (hv : (m : Int) = v) : Calls Tryd.prog 14 #[.agg #[.slice A (dl m) c]] W (LowV W v) := by
  refine (Low_any (h.arg hl)).mono fun e w' h => ?_
  unfold LowPost at h
  rw [if_pos hm, decide_eq_true hm, hv] at h
  exact h
theorem dl_two {m : Nat} (h : m < 18446744073709551616) : dl m ≤ 100000 := by
  have : dl m ≤ 2 := dl_le (by rw [W32_eq]; omega)
  omega
def NumP (W : World) (m : Nat) (e : Ending) (w' : World) : Prop := ∃ A c, e = .returned (.agg #[.slice A (dl m) c]) ∧ Hid (Can w' w'.heap.size A c m) ∧ Hid (Below W.heap.size W w')
theorem of_num {W : World} {n : Nat} (hn : n ≤ 4294967295) : Calls Tryd.prog 13 #[.int .u64 (n : Int)] W (NumP W n) := (Of_any (n := n) (w := W) (by omega)).mono fun _ _ h => h
theorem add_num {W : World} {A A' : Option Addr} {c c' m m' : Nat} (h : Can W W.heap.size A c m) (h' : Can W W.heap.size A' c' m') (hl : dl m ≤ 100000) (hl' : dl m' ≤ 100000) :
    Calls Tryd.prog 30 #[.agg #[.slice A (dl m) c], .agg #[.slice A' (dl m') c']] W (NumP W (m + m')) := (Add_any (h.arg hl) (h'.arg hl')).mono fun _ _ h => h
theorem mul_num {W : World} {A A' : Option Addr} {c c' m m' : Nat} (h : Can W W.heap.size A c m) (h' : Can W W.heap.size A' c' m') (hl : dl m ≤ 100000) (hl' : dl m' ≤ 100000) :
    Calls Tryd.prog 32 #[.agg #[.slice A (dl m) c], .agg #[.slice A' (dl m') c']] W (NumP W (m * m')) := (Mul_any (h.arg hl) (h'.arg hl')).mono fun _ _ h => h
theorem div_num {W : World} {A A' : Option Addr} {c c' m m' : Nat} (h : Can W W.heap.size A c m) (h' : Can W W.heap.size A' c' m') (hl : dl m ≤ 100000) (h0 : 0 < m') (h1 : m' ≤ 4294967295) :
    Calls Tryd.prog 16 #[.agg #[.slice A (dl m) c], .agg #[.slice A' (dl m') c']] W (DivPost W m m') := by
  have hd : dl m' = 1 := by
    have h2 : dl m' ≤ 1 := dl_le (by rw [W32_eq]; omega)
    have h3 : dl m' ≠ 0 := fun h => by have := dl_zero h; omega
    omega
  rcases Nat.lt_or_ge m m' with h2 | h2
  · exact Div_less (h.arg hl) (h'.arg (by omega)) h2
  · exact Div_one (h.arg hl) (h'.arg (by omega)) h2 hd
def DivQ (w : World) (q r : Nat) (e : Ending) (w' : World) : Prop :=
  ∃ A c A' c', e = .returned (.tuple #[.agg #[.slice A (dl q) c], .agg #[.slice A' (dl r) c'], .bool true]) ∧ Hid (Can w' w'.heap.size A c q) ∧ Hid (Can w' w'.heap.size A' c' r) ∧ Hid (Below w.heap.size w w')
theorem can_up {W W' : World} {A : Option Addr} {c m : Nat} (h : Hid (Can W W.heap.size A c m)) (hb : Hid (Below W.heap.size W W')) : Hid (Can W' W'.heap.size A c m) := (h.out.below hb.out).more hb.out.size
theorem chain2 {w a b : World} (h : Hid (Below w.heap.size w a)) (hb : Hid (Below a.heap.size a b)) : Hid (Below w.heap.size w b) := chain h hb.out
set_option maxHeartbeats 4000000 in
theorem small_walk (a b : Nat) (w : World) (ha : a ≤ 4294967295) (hb : b ≤ 4294967295) :
    Calls Tryd.prog 10 #[.int .u32 (a : Int), .int .u32 (b : Int)] w fun e w' => e = .returned (.bool true) ∧ Below w.heap.size w w' := by
  have hab : a * b ≤ 4294967295 * 4294967295 := Nat.mul_le_mul ha hb
  have hda := hide (dl_two (m := a) (by omega))
  have hdb := hide (dl_two (m := b) (by omega))
  have L1 := hide (fun (W : World) (A : Option Addr) (c : Nat) (h : Can W W.heap.size A c (a + b)) => low_can h (dl_two (by omega)) (by omega) (Int.natCast_add a b))
  have L2 := hide (fun (W : World) (A : Option Addr) (c : Nat) (h : Can W W.heap.size A c (a * b)) => low_can h (dl_two (by omega)) (by omega) (Int.natCast_mul a b))
  have hq : a / b ≤ a := Nat.div_le_self a b
  have hr : a % b ≤ a := Nat.mod_le a b
  obtain ⟨qv, hqv⟩ : ∃ q, a / b = q := ⟨_, rfl⟩
  obtain ⟨rv, hrv⟩ : ∃ r, a % b = r := ⟨_, rfl⟩
  have EQ : Hid ((a : Int) / (b : Int) = (qv : Int)) := by unfold Hid; rw [← hqv]; rfl
  have ER : Hid ((a : Int) % (b : Int) = (rv : Int)) := by unfold Hid; rw [← hrv]; rfl
  rw [hqv] at hq
  rw [hrv] at hr
  have hq9 : qv ≤ 4294967295 := by omega
  have hr9 : rv ≤ 4294967295 := by omega
  have L3 := hide (fun (W : World) (A : Option Addr) (c : Nat) (h : Can W W.heap.size A c qv) => low_can (v := (qv : Int)) h (dl_two (by omega)) (by omega) rfl)
  have L4 := hide (fun (W : World) (A : Option Addr) (c : Nat) (h : Can W W.heap.size A c rv) => low_can (v := (rv : Int)) h (dl_two (by omega)) (by omega) rfl)
  have CD : Hid (∀ (W : World) (A A' : Option Addr) (c c' : Nat), Can W W.heap.size A c a → Can W W.heap.size A' c' b → 0 < b → Calls Tryd.prog 16 #[.agg #[.slice A (dl a) c], .agg #[.slice A' (dl b) c']] W (DivQ W qv rv)) := fun W A A' c c' h h' h0 => by
    have h5 := div_num h h' hda.out h0 hb
    unfold DivPost at h5
    rw [hqv, hrv] at h5
    exact h5
  have emul : IntKind.u64.wrap ((a : Int) * (b : Int)) = (a : Int) * (b : Int) := by rw [← Int.natCast_mul]; exact u64_nat (by omega)
  clear hab hq hr hqv hrv
  have mk1 : Hid True := trivial
  by_cases h0 : b = 0
  · have HZ := hide h0
    have hbz : ((b : Int) == 0) = true := by rw [h0]; rfl
    clear h0 hq9 hr9 L3 L4 CD EQ ER
    go_enter Tryd.func10, Tryd.ntmps10
    go_wp2_with (first | (go_at_call 12; go_must (refine (awake_any _).mono ?_); rintro e wa ⟨rfl, hba⟩; have HB := hide hba; clear hba) | (go_at_call 13; clear mk1; refine (of_num ha).mono ?_; rintro e w1 ⟨A1, c1, rfl, hx, hbk⟩; have HB := chain2 HB hbk) | (go_at_call 13; refine (of_num hb).mono ?_; rintro e w2 ⟨A2, c2, rfl, hy, hbk⟩; have HB := chain2 HB hbk; have hx := can_up hx hbk; have HS := hide (start2 w2 (.slice A1 (dl a) c1) (.slice A2 (dl b) c2) 25); have HB := chain2 HB HS.out.2.2.1; have hx := can_up hx HS.out.2.2.1; have hy := can_up hy HS.out.2.2.1) | (go_at_call 30; go_must (refine (add_num hx.out hy.out hda.out hdb.out).mono ?_); rintro e w3 ⟨A3, c3, rfl, hs, hbk⟩; have HB := chain2 HB hbk; have hx := can_up hx hbk; have hy := can_up hy hbk; have HS := hide (keep2 hbk HS.out); have e0 := HS.out.1; have e1 := HS.out.2.1) | (go_at_call 14; (with_reducible refine (L1.out _ _ _ hs.out).mono ?_); rintro e w4 ⟨rfl, hbk⟩; have HB := chain2 HB hbk; have hx := can_up hx hbk; have hy := can_up hy hbk; have HS := hide (keep2 hbk HS.out); have e0 := HS.out.1; have e1 := HS.out.2.1) | (go_at_call 32; go_must (refine (mul_num hx.out hy.out hda.out hdb.out).mono ?_); rintro e w5 ⟨A5, c5, rfl, hp, hbk⟩; have HB := chain2 HB hbk; have hx := can_up hx hbk; have hy := can_up hy hbk; have HS := hide (keep2 hbk HS.out); have e0 := HS.out.1; have e1 := HS.out.2.1) | (go_at_call 14; (with_reducible refine (L2.out _ _ _ hp.out).mono ?_); rintro e w6 ⟨rfl, hbk⟩; have HB := chain2 HB hbk; have hx := can_up hx hbk; have hy := can_up hy hbk; have HS := hide (keep2 hbk HS.out); have e0 := HS.out.1; have e1 := HS.out.2.1) | (go_at_call 16; go_must (refine (Div_zero (hx.out.arg hda.out) (hy.out.arg hdb.out) HZ.out).mono ?_); rintro e w7 ⟨rfl, hbk⟩; have HB := chain2 HB hbk))
    go_ret
    exact ⟨rfl, (HB.out.alloc HB.out.size _).alloc (by have := HB.out.size; simp; omega) _⟩
  · have hb0 : 1 ≤ b := by omega
    have hbz : ((b : Int) == 0) = false := by rw [beq_eq_false_iff_ne]; omega
    have eq1 := EQ.out
    have er1 := ER.out
    clear h0
    go_enter Tryd.func10, Tryd.ntmps10
    go_wp2_with (first | (go_at_call 12; go_must (refine (awake_any _).mono ?_); rintro e wa ⟨rfl, hba⟩; have HB := hide hba; clear hba) | (go_at_call 13; clear mk1; refine (of_num ha).mono ?_; rintro e w1 ⟨A1, c1, rfl, hx, hbk⟩; have HB := chain2 HB hbk) | (go_at_call 13; refine (of_num hb).mono ?_; rintro e w2 ⟨A2, c2, rfl, hy, hbk⟩; have HB := chain2 HB hbk; have hx := can_up hx hbk; have HS := hide (start2 w2 (.slice A1 (dl a) c1) (.slice A2 (dl b) c2) 25); have HB := chain2 HB HS.out.2.2.1; have hx := can_up hx HS.out.2.2.1; have hy := can_up hy HS.out.2.2.1) | (go_at_call 30; go_must (refine (add_num hx.out hy.out hda.out hdb.out).mono ?_); rintro e w3 ⟨A3, c3, rfl, hs, hbk⟩; have HB := chain2 HB hbk; have hx := can_up hx hbk; have hy := can_up hy hbk; have HS := hide (keep2 hbk HS.out); have e0 := HS.out.1; have e1 := HS.out.2.1) | (go_at_call 14; (with_reducible refine (L1.out _ _ _ hs.out).mono ?_); rintro e w4 ⟨rfl, hbk⟩; have HB := chain2 HB hbk; have hx := can_up hx hbk; have hy := can_up hy hbk; have HS := hide (keep2 hbk HS.out); have e0 := HS.out.1; have e1 := HS.out.2.1) | (go_at_call 32; go_must (refine (mul_num hx.out hy.out hda.out hdb.out).mono ?_); rintro e w5 ⟨A5, c5, rfl, hp, hbk⟩; have HB := chain2 HB hbk; have hx := can_up hx hbk; have hy := can_up hy hbk; have HS := hide (keep2 hbk HS.out); have e0 := HS.out.1; have e1 := HS.out.2.1) | (go_at_call 14; (with_reducible refine (L2.out _ _ _ hp.out).mono ?_); rintro e w6 ⟨rfl, hbk⟩; have HB := chain2 HB hbk; have hx := can_up hx hbk; have hy := can_up hy hbk; have HS := hide (keep2 hbk HS.out); have e0 := HS.out.1; have e1 := HS.out.2.1) | (go_at_call 16; go_must (refine (CD.out _ _ _ _ _ hx.out hy.out hb0).mono ?_); rintro e w7 ⟨A7, c7, A8, c8, rfl, hq, hr, hbk⟩; have HB := chain2 HB hbk; have HS := hide (start2 w7 (.slice A7 (dl qv) c7) (.slice A8 (dl rv) c8) 25); have HB := chain2 HB HS.out.2.2.1; have hq := can_up hq HS.out.2.2.1; have hr := can_up hr HS.out.2.2.1) | (go_at_call 14; (with_reducible refine (L3.out _ _ _ hq.out).mono ?_); rintro e w8 ⟨rfl, hbk⟩; have HB := chain2 HB hbk; have hr := can_up hr hbk; have HS := hide (keep2 hbk HS.out); have e0 := HS.out.1; have e1 := HS.out.2.1) | (go_at_call 14; (with_reducible refine (L4.out _ _ _ hr.out).mono ?_); rintro e w9 ⟨rfl, hbk⟩; have HB := chain2 HB hbk))
    go_ret
    exact ⟨rfl, HB.out⟩
theorem small_int {x y : Int} (w : World) (hx : 0 ≤ x ∧ x ≤ 4294967295) (hy : 0 ≤ y ∧ y ≤ 4294967295) :
    Calls Tryd.prog 10 #[.int .u32 x, .int .u32 y] w fun e w' => e = .returned (.bool true) ∧ Below w.heap.size w w' := by
  have h := small_walk x.toNat y.toNat w (by omega) (by omega)
  rwa [Int.toNat_of_nonneg hx.1, Int.toNat_of_nonneg hy.1] at h
end Go.Proofs.YtcidclajfbnfoaaDoor
