/- NatPowers' walk. No conditions. -/
import Derived.Test.YtcidclajfbnfoaaDoorOrw
import Derived.Test.YtcidclajfbnfoaaDoorPow
open Go.RowKit
set_option maxRecDepth 100000
namespace Go.Proofs.YtcidclajfbnfoaaDoor
theorem keep1 {w W W' : World} {b : Nat} {v0 : Value} (hb : Hid (Below W.heap.size W W')) (h : W.cell? ⟨b, 0, none⟩ = some v0 ∧ Below w.heap.size w W ∧ b + 1 ≤ W.heap.size) :
    W'.cell? ⟨b, 0, none⟩ = some v0 ∧ Below w.heap.size w W' ∧ b + 1 ≤ W'.heap.size := by
  obtain ⟨h0, h3, h4⟩ := h
  have hs := hb.out.size
  exact ⟨(hb.out.cell (by simp; omega)).trans h0, h3.trans (hb.out.mono h3.size), by omega⟩
theorem start1 {w wa : World} {v0 : Value} {t : TypeId} (h : Hid (Below w.heap.size w wa)) :
    (wa.alloc (.cells #[v0] t)).drew.cell? ⟨wa.heap.size, 0, none⟩ = some v0 ∧ Below w.heap.size w (wa.alloc (.cells #[v0] t)).drew ∧ wa.heap.size + 1 ≤ (wa.alloc (.cells #[v0] t)).drew.heap.size := by
  refine ⟨(one_cell (heap_alloc_new wa (.cells #[v0] t))).1, (h.out.alloc h.out.size _).drew, ?_⟩
  show wa.heap.size + 1 ≤ (wa.alloc (.cells #[v0] t)).heap.size
  simp
theorem below1 {w W : World} {b : Nat} {v0 : Option Value} {a0 : Addr} (h : W.cell? a0 = v0 ∧ Below w.heap.size w W ∧ b ≤ W.heap.size) : Below w.heap.size w W := h.2.1
theorem can_up' {W W' : World} {A : Option Addr} {c m : Nat} (h : Hid (Can W W.heap.size A c m)) (hb : Hid (Below W.heap.size W W')) : Hid (Can W' W'.heap.size A c m) := (h.out.below hb.out).more hb.out.size
set_option maxHeartbeats 4000000 in
theorem powers_main {A : Option Addr} {l c m j k : Nat} (w : World) (h : Later w A l c m) (hl : l ≤ 4) (hj : j ≤ 12) (hk : k ≤ 12) (hd : ∀ i, i ≤ 24 → dl (m ^ i) ≤ 100000) :
    Calls Tryd.prog 11 #[.slice A l c, .int .i64 (j : Int), .int .i64 (k : Int)] w fun e w' => e = .returned (.bool true) ∧ Below w.heap.size w w' := by
  have CP := hide (fun (W : World) (i : Nat) (hi : i ≤ 24) (hb : Below w.heap.size w W) => Pow_any (h W hb) (by omega : i ≤ 1000000) (fun i' h' => hd i' (by omega)))
  have CJ := hide (fun (W : World) => CP.out W j (by omega))
  have CK := hide (fun (W : World) => CP.out W k (by omega))
  have CJK : Hid (∀ W, Below w.heap.size w W → Calls Tryd.prog 23 #[.agg #[.slice A l c], .int .i64 ((j : Int) + (k : Int))] W (NumH W (m ^ (j + k)))) := fun W hb => CP.out W (j + k) (by omega) hb
  have C1 : Hid (∀ W, Below w.heap.size w W → Calls Tryd.prog 23 #[.agg #[.slice A l c], .int .i64 1] W (NumH W m)) := fun W hb => by
    have h1 := CP.out W 1 (by omega) hb
    rw [Nat.pow_one] at h1
    exact h1
  have CM : Hid (∀ (W : World) (B1 B2 : Option Addr) (d1 d2 : Nat), Can W W.heap.size B1 d1 (m ^ j) → Can W W.heap.size B2 d2 (m ^ k) → Calls Tryd.prog 32 #[.agg #[.slice B1 (dl (m ^ j)) d1], .agg #[.slice B2 (dl (m ^ k)) d2]] W (NumH W (m ^ (j + k)))) := fun W B1 B2 d1 d2 h1 h2 => by
    rw [Nat.pow_add]
    exact (Mul_any (h1.arg (hd _ (by omega))) (h2.arg (hd _ (by omega)))).mono fun _ _ h => h
  have CC : Hid (∀ (W : World) (B1 B2 : Option Addr) (d1 d2 : Nat), Can W W.heap.size B1 d1 (m ^ (j + k)) → Can W W.heap.size B2 d2 (m ^ (j + k)) → Calls Tryd.prog 25 #[.agg #[.slice B1 (dl (m ^ (j + k))) d1], .agg #[.slice B2 (dl (m ^ (j + k))) d2]] W (IntPost W 0)) := fun W B1 B2 d1 d2 h1 h2 => by
    have h3 := Cmp_any (h1.arg (hd _ (by omega))) (h2.arg (hd _ (by omega)))
    rw [cmpI_eq rfl] at h3
    exact h3.mono fun _ _ h => h
  have CX : Hid (∀ (W : World) (B1 : Option Addr) (d1 : Nat), Can W W.heap.size B1 d1 m → Below w.heap.size w W → Calls Tryd.prog 25 #[.agg #[.slice B1 (dl m) d1], .agg #[.slice A l c]] W (IntPost W 0)) := fun W B1 d1 h1 hb => by
    have h4 : dl m ≤ 100000 := by have := hd 1 (by omega); rwa [Nat.pow_one] at this
    have h3 := Cmp_any (h1.arg h4) (h W hb)
    rw [cmpI_eq rfl] at h3
    exact h3.mono fun _ _ h => h
  have ejk : IntKind.i64.wrap ((j : Int) + (k : Int)) = (j : Int) + (k : Int) := IntWalk.i64_in _ (by omega)
  have EJK := hide ejk
  clear h hd CP ejk
  go_enter Tryd.func11, Tryd.ntmps11
  go_wp2_with (first | (go_at_call 12; go_must (refine (awake_any _).mono ?_); rintro e wa ⟨rfl, hba⟩; have HBA := hide hba; clear hba))
  have ejk := EJK.out
  go_region_held3 (fun w' => w'.cell? ⟨wa.heap.size, 0, none⟩ = some (.slice A l c) ∧ Below w.heap.size w w' ∧ wa.heap.size + 1 ≤ w'.heap.size)
    (first | exact start1 HBA | exact keep1 hbk (by assumption))
    (first | (go_at_call 23; (with_reducible refine (CJ.out _ (below1 (by assumption))).mono ?_); rintro e w1 ⟨B1, d1, rfl, hp1, hbk⟩) | (go_at_call 23; (with_reducible refine (CK.out _ (below1 (by assumption))).mono ?_); rintro e w2 ⟨B2, d2, rfl, hp2, hbk⟩; have hp1 := can_up' hp1 hbk) | (go_at_call 32; (with_reducible refine (CM.out _ _ _ _ _ hp1.out hp2.out).mono ?_); rintro e w3 ⟨B3, d3, rfl, hp3, hbk⟩) | (go_at_call 23; (with_reducible refine (CJK.out _ (below1 (by assumption))).mono ?_); rintro e w4 ⟨B4, d4, rfl, hp4, hbk⟩; have hp3 := can_up' hp3 hbk) | (go_at_call 25; (with_reducible refine (CC.out _ _ _ _ _ hp3.out hp4.out).mono ?_); rintro e w5 ⟨rfl, hbk⟩) | (go_at_call 23; (with_reducible refine (C1.out _ (below1 (by assumption))).mono ?_); rintro e w6 ⟨B6, d6, rfl, hp6, hbk⟩) | (go_at_call 25; (with_reducible refine (CX.out _ _ _ hp6.out (below1 (by assumption))).mono ?_); rintro e w7 ⟨rfl, hbk⟩))
  clear ejk
  go_wp2
  go_ret
  exact ⟨rfl, below1 ‹w7.cell? ⟨wa.heap.size, 0, none⟩ = _ ∧ _›⟩
theorem powers_walk {A : Option Addr} {l c : Nat} {z : List Nat} {x y : Int} (w : World) (w0 : l = z.length ∧ l ≤ c ∧ Rd U32 w w.heap.size A z ∧ Good32 z) (bx : -9223372036854775808 ≤ x ∧ x ≤ 9223372036854775807) (bz : -9223372036854775808 ≤ y ∧ y ≤ 9223372036854775807) :
    Calls Tryd.prog 11 #[.slice A l c, .int .i64 x, .int .i64 y] w fun e w' => e = .returned (.bool true) ∧ Below w.heap.size w w' := by
  by_cases hall : l ≤ 4 ∧ 0 ≤ x ∧ x ≤ 12 ∧ 0 ≤ y ∧ y ≤ 12
  · obtain ⟨h0, h1, h2, h3, h4⟩ := hall
    have h := powers_main (j := x.toNat) (k := y.toNat) w (later_of w0 (by omega)) h0 (by omega) (by omega) (fun i hi => by
      have h5 : val W32 z < W32 ^ 4 := Nat.lt_of_lt_of_le (val_lt z w0.2.2.2) (Nat.pow_le_pow_right (by decide) (by have := w0.1; omega))
      have h6 : val W32 z ^ i < W32 ^ (4 * 24 + 1) := by
        have h7 : val W32 z ^ i ≤ (W32 ^ 4) ^ i := Nat.pow_le_pow_left (Nat.le_of_lt h5) i
        have h8 : (W32 ^ 4) ^ i ≤ W32 ^ (4 * 24) := by rw [← Nat.pow_mul]; exact Nat.pow_le_pow_right (by decide) (by omega)
        have h9 : W32 ^ (4 * 24) < W32 ^ (4 * 24 + 1) := Nat.pow_lt_pow_right (by decide) (by omega)
        omega
      have := dl_le h6
      omega)
    rwa [Int.toNat_of_nonneg h1, Int.toNat_of_nonneg h3] at h
  · have hc : (4 < l) ∨ (¬ 4 < l ∧ x < 0) ∨ (¬ 4 < l ∧ ¬ x < 0 ∧ 12 < x) ∨ (¬ 4 < l ∧ ¬ x < 0 ∧ ¬ 12 < x ∧ y < 0) ∨ (¬ 4 < l ∧ ¬ x < 0 ∧ ¬ 12 < x ∧ ¬ y < 0 ∧ 12 < y) := by omega
    clear w0 hall bx bz
    rcases hc with h0 | ⟨h0, h1⟩ | ⟨h0, h1, h2⟩ | ⟨h0, h1, h2, h3⟩ | ⟨h0, h1, h2, h3, h4⟩
    all_goals
      go_enter Tryd.func11, Tryd.ntmps11
      go_wp2_with (first | (go_at_call 12; go_must (refine (awake_any _).mono ?_); rintro e wa ⟨rfl, hba⟩; have HBA := hide hba; clear hba))
      go_ret
      exact ⟨rfl, HBA.out⟩
end Go.Proofs.YtcidclajfbnfoaaDoor
