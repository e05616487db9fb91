/- NatTexts' walk. No conditions. -/
import Derived.Test.YtcidclajfbnfoaaDoorOrw
import Derived.Test.YtcidclajfbnfoaaDoorPwl
import Derived.Test.YtcidclajfbnfoaaDoorRfe
import Derived.Test.YtcidclajfbnfoaaDoorRpa
import Derived.Test.YtcidclajfbnfoaaDoorTxm
open Go.RowKit
set_option maxRecDepth 100000
namespace Go.Proofs.YtcidclajfbnfoaaDoor
def ParseYes (w : World) (v : Nat) (e : Ending) (w' : World) : Prop := ∃ A c, e = .returned (.tuple #[.agg #[.slice A (dl v) c], .bool true]) ∧ Hid (Can w' w'.heap.size A c v) ∧ Hid (Below w.heap.size w w')
def ParseNo (w : World) (e : Ending) (w' : World) : Prop := e = .returned (.tuple #[.agg #[.slice none 0 0], .bool false]) ∧ Hid (Below w.heap.size w w')
def RefYes (w : World) (v : Nat) (e : Ending) (w' : World) : Prop := ∃ A c, e = .returned (.tuple #[.slice A (dq v) c, .bool true]) ∧ Hid (RN w' w'.heap.size A c v) ∧ Hid (Below w.heap.size w w')
def RefNo (w : World) (e : Ending) (w' : World) : Prop := ∃ A n c, e = .returned (.tuple #[.slice A n c, .bool false]) ∧ Hid (Below w.heap.size w w')
theorem parse_yes (s : ByteArray) (w : World) (hs : s.size ≤ 100000) (h : digB s.data.toList = true) : Calls Tryd.prog 17 #[.string s] w (ParseYes w (numL s.data.toList)) :=
  (Parse_any s w hs).mono fun e w' h1 => by unfold ParsePost at h1; rw [if_pos h] at h1; exact h1
theorem parse_no (s : ByteArray) (w : World) (hs : s.size ≤ 100000) (h : ¬ digB s.data.toList = true) : Calls Tryd.prog 17 #[.string s] w (ParseNo w) :=
  (Parse_any s w hs).mono fun e w' h1 => by unfold ParsePost at h1; rw [if_neg h] at h1; exact h1
theorem parse_back {t : ByteArray} {m : Nat} (w : World) (ht : t.data.toList = decL m) (hl : (decL m).length ≤ 100000) : Calls Tryd.prog 17 #[.string t] w (ParseYes w m) := by
  have h1 := parse_yes t w (by rw [size_list, ht]; exact hl) (by rw [ht]; exact (numL_decL m).2)
  rw [ht, (numL_decL m).1] at h1
  exact h1
theorem ref_yes (s : ByteArray) (w : World) (hs : s.size ≤ 100000) (h : digB s.data.toList = true) : Calls Tryd.prog 36 #[.string s] w (RefYes w (numL s.data.toList)) :=
  (rParse_any s w hs).mono fun e w' h1 => by
    unfold digB at h
    rw [Bool.and_eq_true] at h
    unfold RefParse at h1
    rw [if_pos h.2, h.1] at h1
    exact h1
theorem ref_no (s : ByteArray) (w : World) (hs : s.size ≤ 100000) (h : ¬ digB s.data.toList = true) : Calls Tryd.prog 36 #[.string s] w (RefNo w) :=
  (rParse_any s w hs).mono fun e w' h1 => by
    unfold digB at h
    unfold RefParse at h1
    by_cases ha : s.data.toList.all isDig = true
    · rw [if_pos ha] at h1
      have hb : (!s.data.toList.isEmpty) = false := by
        cases hh : (!s.data.toList.isEmpty) with
        | false => rfl
        | true => exact absurd (by rw [hh, ha]; rfl) h
      rw [hb] at h1
      obtain ⟨A, c, he, _, hbl⟩ := h1
      exact ⟨A, _, c, he, hbl⟩
    · rw [if_neg ha] at h1
      exact ⟨none, 0, 0, h1.1, by rw [← h1.2]; exact Below.refl _ _⟩
theorem is_same {w : World} {A A' : Option Addr} {c c' m : Nat} (h : Can w w.heap.size A c m) (h' : RN w w.heap.size A' c' m) (hl : dl m < 4000) (hq : dq m ≤ 100000) :
    Calls Tryd.prog 19 #[.agg #[.slice A (dl m) c], .slice A' (dq m) c'] w fun e w' => e = .returned (.bool true) ∧ Hid (Below w.heap.size w w') :=
  (is_any h h' hl hq).mono fun _ _ ⟨he, hb⟩ => ⟨by rw [he, decide_eq_true rfl], hb⟩
theorem keepT {w7 W W' : World} {p : Nat} {v0 v1 : Value} (hp : Hid (p < w7.heap.size)) (hb : Hid (Below W.heap.size W W')) (h : W.cell? ⟨p, 0, none⟩ = some v0 ∧ W.cell? ⟨w7.heap.size, 0, none⟩ = some v1 ∧ Below w7.heap.size w7 W ∧ w7.heap.size + 1 ≤ W.heap.size) :
    W'.cell? ⟨p, 0, none⟩ = some v0 ∧ W'.cell? ⟨w7.heap.size, 0, none⟩ = some v1 ∧ Below w7.heap.size w7 W' ∧ w7.heap.size + 1 ≤ W'.heap.size := by
  obtain ⟨h0, h1, h3, h4⟩ := h
  have hs := hb.out.size
  have hp := hp.out
  exact ⟨(hb.out.cell (by simp; omega)).trans h0, (hb.out.cell (by simp; omega)).trans h1, h3.trans (hb.out.mono h3.size), by omega⟩
theorem startT {w7 : World} {p : Nat} {v0 v1 : Value} {t : TypeId} (hp : Hid (p < w7.heap.size)) (h : w7.cell? ⟨p, 0, none⟩ = some v0) :
    (w7.alloc (.cells #[v1] t)).drew.cell? ⟨p, 0, none⟩ = some v0 ∧ (w7.alloc (.cells #[v1] t)).drew.cell? ⟨w7.heap.size, 0, none⟩ = some v1 ∧ Below w7.heap.size w7 (w7.alloc (.cells #[v1] t)).drew ∧ w7.heap.size + 1 ≤ (w7.alloc (.cells #[v1] t)).drew.heap.size := by
  refine ⟨(World.cell?_alloc_lt w7 _ _ hp.out).trans h, (one_cell (heap_alloc_new w7 (.cells #[v1] t))).1, ((Below.refl _ _).alloc (Nat.le_refl _) _).drew, ?_⟩
  show w7.heap.size + 1 ≤ (w7.alloc (.cells #[v1] t)).heap.size
  simp
theorem belowT {w w7 W : World} {b : Nat} {v0 v1 : Option Value} {a0 a1 : Addr} (HB : Hid (Below w.heap.size w w7)) (h : W.cell? a0 = v0 ∧ W.cell? a1 = v1 ∧ Below w7.heap.size w7 W ∧ b ≤ W.heap.size) : Below w.heap.size w W := HB.out.trans (h.2.2.1.mono HB.out.size)
theorem canT {w7 W : World} {b c m : Nat} {A : Option Addr} {v0 v1 : Option Value} {a0 a1 : Addr} (hc : Hid (Can w7 w7.heap.size A c m)) (h : W.cell? a0 = v0 ∧ W.cell? a1 = v1 ∧ Below w7.heap.size w7 W ∧ b ≤ W.heap.size) : Can W W.heap.size A c m := (hc.out.below h.2.2.1).more h.2.2.1.size
theorem chainA {w a b : World} {o : Obj} (h : Hid (Below w.heap.size w a)) (hb : Hid (Below (a.alloc o).heap.size (a.alloc o) b)) : Hid (Below w.heap.size w b) := chain (h.out.alloc h.out.size _) hb.out
theorem boxA {a b : World} {v : Value} {t : TypeId} (hb : Hid (Below (a.alloc (.cells #[v] t)).heap.size (a.alloc (.cells #[v] t)) b)) : b.cell? ⟨a.heap.size, 0, none⟩ = some v ∧ Hid (a.heap.size < b.heap.size) := by
  have hs := hb.out.size
  simp at hs
  exact ⟨(hb.out.cell (by simp)).trans (one_cell (heap_alloc_new a _)).1, by unfold Hid; omega⟩
theorem canA {a b : World} {o : Obj} {A : Option Addr} {c m : Nat} (h : Hid (Can a a.heap.size A c m)) (hb : Hid (Below (a.alloc o).heap.size (a.alloc o) b)) : Hid (Can b b.heap.size A c m) :=
  (((h.out.below ((Below.refl _ _).alloc (Nat.le_refl _) o)).more (by simp)).below hb.out).more hb.out.size
theorem cellB {p : Nat} {a b : World} {v : Value} (h : a.cell? ⟨p, 0, none⟩ = some v) (hp : Hid (p < a.heap.size)) (hb : Hid (Below a.heap.size a b)) : b.cell? ⟨p, 0, none⟩ = some v := (hb.out.cell hp.out).trans h
theorem can_upT {W W' : World} {A : Option Addr} {c m : Nat} (h : Hid (Can W W.heap.size A c m)) (hb : Hid (Below W.heap.size W W')) : Hid (Can W' W'.heap.size A c m) := (h.out.below hb.out).more hb.out.size
set_option maxHeartbeats 8000000 in
theorem texts_main {s : ByteArray} {A : Option Addr} {l c m V : Nat} {k : Int} (w : World) (h : Later w A l c m) (hs : s.size ≤ 200) (hl : l ≤ 8) (hk : k ≤ 30) (hk2 : -9223372036854775808 ≤ k)
    (CW : Hid (∀ W, Below w.heap.size w W → Calls Tryd.prog 26 #[.slice A l c] W (RefPost W m)))
    (CP : Hid (∀ W, Below w.heap.size w W → Calls Tryd.prog 23 #[.agg #[.slice A l c], .int .i64 k] W (NumH W V)))
    (CR : Hid (∀ (W : World) (B : Option Addr) (d : Nat), RN W W.heap.size B d m → Calls Tryd.prog 37 #[.slice B (dq m) d, .int .i64 k] W (RefPost W V)))
    (HM : Hid (dl m < 4000 ∧ dq m ≤ 100000 ∧ dl V < 4000 ∧ dq V ≤ 100000 ∧ (decL m).length ≤ 100000)) (HNc : digB s.data.toList = true → dl (numL s.data.toList) < 4000 ∧ dq (numL s.data.toList) ≤ 100000) :
    Calls Tryd.prog 5 #[.string s, .slice A l c, .int .i64 k] w fun e w' => e = .returned (.bool true) ∧ Below w.heap.size w w' := by
  have CT : Hid (∀ W, Below w.heap.size w W → Calls Tryd.prog 18 #[.agg #[.slice A l c]] W fun e w' => ∃ t : ByteArray, e = .returned (.string t) ∧ Hid (t.data.toList = decL m) ∧ Hid (Below W.heap.size W w')) := fun W hb => (Text_any (h W hb)).mono fun _ _ h => h
  have CB : Hid (∀ (W : World) (t : ByteArray), Hid (t.data.toList = decL m) → Calls Tryd.prog 17 #[.string t] W (ParseYes W m)) := fun W t ht => parse_back W ht.out HM.out.2.2.2.2
  clear h
  by_cases hd : digB s.data.toList = true
  · have HN := hide (HNc hd)
    have CP1 := hide (fun (W : World) => parse_yes s W (by omega) hd)
    have CR1 := hide (fun (W : World) => ref_yes s W (by omega) hd)
    obtain ⟨v, hv⟩ : ∃ v, v = numL s.data.toList := ⟨_, rfl⟩
    rw [← hv] at HN
    simp only [← hv] at CP1 CR1
    clear hd hv HNc
    go_enter Tryd.func5, Tryd.ntmps5
    go_wp2_with (first | (go_at_call 12; go_must (refine (awake_any _).mono ?_); rintro e wa ⟨rfl, hba⟩; have HB := hide hba; clear hba) | (go_at_call 17; (with_reducible refine (CP1.out _).mono ?_); rintro e w3 ⟨A1, c1, rfl, hn1, hbk⟩; have HB := chain HB hbk.out) | (go_at_call 36; go_must (refine (CR1.out _).mono ?_); rintro e w4 ⟨A2, c2, rfl, hm2, hbk⟩; have HB := chainA HB hbk; have hn4 := canA hn1 hbk; obtain ⟨e7, HP7⟩ := boxA hbk) | (go_at_call 19; go_must (refine (is_same hn4.out hm2.out HN.out.1 HN.out.2).mono ?_); rintro e w5 ⟨rfl, hbk⟩; have HB := chain HB hbk.out) | (go_at_call 18; go_must (refine (CT.out _ (HB.out.alloc HB.out.size _)).mono ?_); rintro e w6 ⟨t, rfl, ht, hbk⟩; have HB := chainA HB hbk; obtain ⟨e11, HP11⟩ := boxA hbk) | (go_at_call 17; (with_reducible refine (CB.out _ t ht).mono ?_); rintro e w7 ⟨A7, c7, rfl, hc7, hbk⟩; have HB := chain HB hbk.out; have e11 := cellB e11 HP11 hbk; have HP12 : Hid (w5.heap.size < w7.heap.size) := Nat.lt_of_lt_of_le HP11.out hbk.out.size))
    go_region_held3 (fun w' => w'.cell? ⟨w5.heap.size, 0, none⟩ = some (.slice A l c) ∧ w'.cell? ⟨w7.heap.size, 0, none⟩ = some (.slice A7 (dl m) c7) ∧ Below w7.heap.size w7 w' ∧ w7.heap.size + 1 ≤ w'.heap.size)
      (first | exact startT HP12 e11 | exact keepT HP12 hbk (by assumption))
      (first | (go_at_call 26; (with_reducible refine (CW.out _ (belowT HB (by assumption))).mono ?_); rintro e w8 ⟨A8, c8, rfl, hr8, hbk⟩; have hbW := hbk) | (go_at_call 19; (with_reducible refine (is_same (canT hc7 (by assumption)) hr8.out HM.out.1 HM.out.2.1).mono ?_); rintro e w9 ⟨rfl, hbk⟩) | (go_at_call 23; (with_reducible refine (CP.out _ (belowT HB (by assumption))).mono ?_); rintro e w10 ⟨A9, c9, rfl, hp9, hbk⟩) | (go_at_call 37; (with_reducible refine (CR.out _ _ _ hr8.out).mono ?_); rintro e w11 ⟨A10, c10, rfl, hr10, hbk⟩; have hp9 := can_upT (can_upT hp9 hbW) hbk) | (go_at_call 19; (with_reducible refine (is_same hp9.out hr10.out HM.out.2.2.1 HM.out.2.2.2.1).mono ?_); rintro e w12 ⟨rfl, hbk⟩))
    go_wp2
    go_ret
    exact ⟨rfl, belowT HB ‹w12.cell? ⟨w5.heap.size, 0, none⟩ = _ ∧ _›⟩
  · have CP1 := hide (fun (W : World) => parse_no s W (by omega) hd)
    have CR1 := hide (fun (W : World) => ref_no s W (by omega) hd)
    clear hd HNc
    go_enter Tryd.func5, Tryd.ntmps5
    go_wp2_with (first | (go_at_call 12; go_must (refine (awake_any _).mono ?_); rintro e wa ⟨rfl, hba⟩; have HB := hide hba; clear hba) | (go_at_call 17; (with_reducible refine (CP1.out _).mono ?_); rintro e w3 ⟨rfl, hbk⟩; have HB := chain HB hbk.out) | (go_at_call 36; go_must (refine (CR1.out _).mono ?_); rintro e w5 ⟨A2, n2, c2, rfl, hbk⟩; have HB := chainA HB hbk; obtain ⟨e7, HP7⟩ := boxA hbk) | (go_at_call 18; go_must (refine (CT.out _ (HB.out.alloc HB.out.size _)).mono ?_); rintro e w6 ⟨t, rfl, ht, hbk⟩; have HB := chainA HB hbk; obtain ⟨e11, HP11⟩ := boxA hbk) | (go_at_call 17; (with_reducible refine (CB.out _ t ht).mono ?_); rintro e w7 ⟨A7, c7, rfl, hc7, hbk⟩; have HB := chain HB hbk.out; have e11 := cellB e11 HP11 hbk; have HP12 : Hid (w5.heap.size < w7.heap.size) := Nat.lt_of_lt_of_le HP11.out hbk.out.size))
    go_region_held3 (fun w' => w'.cell? ⟨w5.heap.size, 0, none⟩ = some (.slice A l c) ∧ w'.cell? ⟨w7.heap.size, 0, none⟩ = some (.slice A7 (dl m) c7) ∧ Below w7.heap.size w7 w' ∧ w7.heap.size + 1 ≤ w'.heap.size)
      (first | exact startT HP12 e11 | exact keepT HP12 hbk (by assumption))
      (first | (go_at_call 26; (with_reducible refine (CW.out _ (belowT HB (by assumption))).mono ?_); rintro e w8 ⟨A8, c8, rfl, hr8, hbk⟩; have hbW := hbk) | (go_at_call 19; (with_reducible refine (is_same (canT hc7 (by assumption)) hr8.out HM.out.1 HM.out.2.1).mono ?_); rintro e w9 ⟨rfl, hbk⟩) | (go_at_call 23; (with_reducible refine (CP.out _ (belowT HB (by assumption))).mono ?_); rintro e w10 ⟨A9, c9, rfl, hp9, hbk⟩) | (go_at_call 37; (with_reducible refine (CR.out _ _ _ hr8.out).mono ?_); rintro e w11 ⟨A10, c10, rfl, hr10, hbk⟩; have hp9 := can_upT (can_upT hp9 hbW) hbk) | (go_at_call 19; (with_reducible refine (is_same hp9.out hr10.out HM.out.2.2.1 HM.out.2.2.2.1).mono ?_); rintro e w12 ⟨rfl, hbk⟩))
    go_wp2
    go_ret
    exact ⟨rfl, belowT HB ‹w12.cell? ⟨w5.heap.size, 0, none⟩ = _ ∧ _›⟩
theorem pow_bd {z : List Nat} {i : Nat} (hg : Good32 z) (hl : z.length ≤ 8) (hi : i ≤ 30) : val W32 z ^ i < W32 ^ 241 := by
  have h5 : val W32 z < W32 ^ 8 := Nat.lt_of_lt_of_le (val_lt z hg) (Nat.pow_le_pow_right (by decide) hl)
  have h7 : val W32 z ^ i ≤ (W32 ^ 8) ^ i := Nat.pow_le_pow_left (Nat.le_of_lt h5) i
  have h8 : (W32 ^ 8) ^ i ≤ W32 ^ (8 * 30) := by rw [← Nat.pow_mul]; exact Nat.pow_le_pow_right (by decide) (by omega)
  have h9 : W32 ^ (8 * 30) < W32 ^ 241 := Nat.pow_lt_pow_right (by decide) (by omega)
  exact Nat.lt_of_le_of_lt (Nat.le_trans h7 h8) h9
theorem texts_walk {s : ByteArray} {A : Option Addr} {l c : Nat} {z : List Nat} {k : Int} (w : World) (_hs : s.size ≤ maxLen) (w0 : l = z.length ∧ l ≤ c ∧ Rd U32 w w.heap.size A z ∧ Good32 z) (bk : -9223372036854775808 ≤ k ∧ k ≤ 9223372036854775807) :
    Calls Tryd.prog 5 #[.string s, .slice A l c, .int .i64 k] w fun e w' => e = .returned (.bool true) ∧ Below w.heap.size w w' := by
  by_cases hall : s.size ≤ 200 ∧ l ≤ 8 ∧ k ≤ 30
  · obtain ⟨h0, h1, h2⟩ := hall
    have hz : z.length ≤ 8 := by have := w0.1; omega
    have hL := later_of w0 (show l ≤ 100000 by omega)
    have hm1 : val W32 z < W32 ^ 8 := Nat.lt_of_lt_of_le (val_lt z w0.2.2.2) (Nat.pow_le_pow_right (by decide) hz)
    have hdl : dl (val W32 z) ≤ 8 := dl_le hm1
    have hdq : dq (val W32 z) ≤ 3 * 8 := dq_words hm1
    have hV := pow_bd (i := k.toNat) w0.2.2.2 hz (by omega)
    have hVl := dl_le hV
    have hVq := dq_words hV
    have hdc : (decL (val W32 z)).length ≤ 80 := dt_le (Nat.lt_of_lt_of_le hm1 (by decide)) (by omega)
    have hb1 : ∀ i, i ≤ k.toNat → dl (val W32 z ^ i) ≤ 100000 := fun i hi => Nat.le_trans (dl_le (pow_bd w0.2.2.2 hz (by omega))) (by omega)
    have hb2 : ∀ i, i ≤ k.toNat → dq (val W32 z ^ i) ≤ 100000 := fun i hi => Nat.le_trans (dq_words (pow_bd (i := i) w0.2.2.2 hz (by omega))) (by omega)
    refine texts_main (m := val W32 z) (V := val W32 z ^ k.toNat) w hL h0 h1 h2 bk.1 (fun W hb => Words_any w0.1 ((w0.2.2.1.below hb).more hb.size) w0.2.2.2 (by omega)) (fun W hb => ?_) (fun W B d hr => ?_) ⟨by omega, by omega, by omega, by omega, by omega⟩ (fun hd => ?_)
    · rcases Int.lt_or_le 0 k with hk | hk
      · have h5 := Pow_any (k := k.toNat) (hL W hb) (by omega) hb1
        rwa [Int.toNat_of_nonneg (by omega)] at h5
      · rw [show k.toNat = 0 by omega, Nat.pow_zero]
        exact Pow_low hk bk.1
    · rcases Int.lt_or_le 0 k with hk | hk
      · have h5 := rPow_any (k := k.toNat) hr (by omega) hb2 (by omega)
        rwa [Int.toNat_of_nonneg (by omega)] at h5
      · rw [show k.toNat = 0 by omega, Nat.pow_zero]
        exact rPow_low hk bk.1
    · unfold digB at hd
      rw [Bool.and_eq_true] at hd
      have h5 := numL_lt _ hd.2
      have h6 : 10 ^ s.data.toList.length ≤ W32 ^ 200 := Nat.le_trans (Nat.pow_le_pow_left (by decide) _) (Nat.pow_le_pow_right (by decide) (by rw [← size_list]; exact h0))
      have h7 : 10 ^ s.data.toList.length ≤ D4 ^ 200 := Nat.le_trans (Nat.pow_le_pow_left (by decide) _) (Nat.pow_le_pow_right (by decide) (by rw [← size_list]; exact h0))
      have h8 := dl_le (Nat.lt_of_lt_of_le h5 h6)
      have h9 := dq_le (Nat.lt_of_lt_of_le h5 h7)
      exact ⟨by omega, by omega⟩
  · have hc : (200 < s.size) ∨ (¬ 200 < s.size ∧ 8 < l) ∨ (¬ 200 < s.size ∧ ¬ 8 < l ∧ 30 < k) := by omega
    clear w0 hall bk
    rcases hc with h0 | ⟨h0, h1⟩ | ⟨h0, h1, h2⟩
    all_goals
      go_enter Tryd.func5, Tryd.ntmps5
      go_wp2_with (first | (go_at_call 12; go_must (refine (awake_any _).mono ?_); rintro e wa ⟨rfl, hba⟩; have HBA := hide hba; clear hba))
      go_ret
      exact ⟨rfl, HBA.out⟩
end Go.Proofs.YtcidclajfbnfoaaDoor
