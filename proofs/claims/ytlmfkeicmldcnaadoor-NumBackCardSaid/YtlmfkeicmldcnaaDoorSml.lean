/- Of, Good, Low. Conditions: lengths that fit int. -/
import Derived.Test.YtlmfkeicmldcnaaDoorAdd
open Go.RowKit
set_option maxRecDepth 100000
namespace Go.Proofs.YtlmfkeicmldcnaaDoor
theorem Of_any {n : Nat} {w : World} (hn : n ≤ 18446744073709551615) :
    Calls Tryd.prog 14 #[.int .u64 (n : Int)] w (NumPost w n) := by
  have HN := hide hn
  clear hn
  go_enter Tryd.func14, Tryd.ntmps14
  have hblk : Hid (∀ W : World, Blk U32 30 (W.alloc (.cells #[.int .u32 ((n : Int) % 4294967296), .int .u32 ((n : Int) / 4294967296 % 4294967296)] 30)) W.heap.size [n % W32, n / W32 % W32]) := fun W => heap_alloc_new W _
  have HV : Hid (val W32 [n % W32, n / W32 % W32] = n) := by unfold Hid; have := HN.out; simp only [val]; rw [W32_eq]; omega
  have HG : Hid (Good32 [n % W32, n / W32 % W32]) := by
    intro x hx; simp at hx; rcases hx with rfl | rfl <;> exact Nat.mod_lt _ (by decide)
  go_wp2_with (first | (go_at_call 61; go_must (refine (trim_own (n := 2) (by simpa using hblk.out (w.alloc (.cells #[.slice none 0 0] 25))) rfl HG.out (by omega) (by omega) HV.out).mono ?_); rintro e w2 ⟨rfl, rfl⟩))
  refine bodyPost_ret (v := .agg #[.slice (some ⟨w.heap.size + 1, 0, none⟩) (dl n) 2]) (by simp [results, Tryd.results14, go_sem]) rfl ?_
  exact ⟨_, _, rfl, can_own (n := 2) (by simpa using hblk.out (w.alloc (.cells #[.slice (some ⟨w.heap.size + 1, 0, none⟩) (dl n) 2] 25))) rfl HG.out (by omega) HV.out, ((Below.refl _ _).alloc (Nat.le_refl _) _).alloc (by simp) _⟩
/-- Whether the last word isn't 0. -/
def goodB (ws : List Nat) : Bool := ws.getLast? != some 0
theorem Good_any {A : Option Addr} {n c : Nat} {ws : List Nat} {w : World} (hn : n = ws.length) (h : Rd U32 w w.heap.size A ws) (hl : n ≤ 1000000) :
    Calls Tryd.prog 22 #[.agg #[.slice A n c]] w fun e w' => e = .returned (.bool (goodB ws)) ∧ Below w.heap.size w w' := by
  have HN := hide hn
  have HR : Hid (∀ o, Rd U32 (w.alloc o) w.heap.size A ws) := fun o => h.alloc (Nat.le_refl _) o
  clear hn h
  by_cases h0 : n = 0
  · subst h0
    have HG : Hid (goodB ws = true) := by have := HN.out; unfold Hid; rw [List.eq_nil_of_length_eq_zero this.symm]; rfl
    go_enter Tryd.func22, Tryd.ntmps22
    go_wp2
    go_ret
    exact ⟨by rw [HG.out]; rfl, (Below.refl _ _).alloc (Nat.le_refl _) _⟩
  · obtain ⟨k, rfl⟩ : ∃ k, n = k + 1 := ⟨n - 1, by omega⟩
    have hk : k < ws.length := by have := HN.out; omega
    obtain ⟨x, hx⟩ : ∃ x, x = ws[k] := ⟨_, rfl⟩
    obtain ⟨ad, rfl, hab, hc⟩ := (HR.out (.cells #[.slice A (k + 1) c] 25)).at_ hk
    rw [← hx] at hc
    unfold U32 at hc
    have HG : Hid (goodB ws = ((x : Int) != 0)) := by
      unfold Hid goodB
      rw [List.getLast?_eq_getElem?, ← HN.out, Nat.add_sub_cancel, List.getElem?_eq_getElem hk, ← hx]
      by_cases h : x = 0
      · subst h; rfl
      · have h1 : (some x != some 0) = true := by simpa using h
        have h2 : ((x : Int) != 0) = true := by simp; exact h
        rw [h1, h2]
    clear hx hk
    go_enter Tryd.func22, Tryd.ntmps22
    go_wp2
    go_ret
    exact ⟨by rw [HG.out]; rfl, (Below.refl _ _).alloc (Nat.le_refl _) _⟩
theorem dl_zero {m : Nat} (h : dl m = 0) : m = 0 := (digs_len_pos (by decide)).1 h
theorem digs_one {m : Nat} (h : dl m = 1) : digs W32 m = [m] ∧ m < W32 := by
  have h0 : 0 < m := by
    rcases Nat.eq_zero_or_pos m with rfl | h1
    · unfold dl at h; rw [digs_zero] at h; simp at h
    · exact h1
  have h2 : m < W32 := by have := lt_pow_digs (b := W32) (by decide) m; unfold dl at h; rw [h] at this; simpa using this
  refine ⟨?_, h2⟩
  rw [digs_pos (by decide) h0, Nat.div_eq_of_lt h2, digs_zero, Nat.mod_eq_of_lt h2]
theorem digs_two {m : Nat} (h : dl m = 2) : digs W32 m = [m % W32, m / W32] ∧ m / W32 < W32 := by
  have h0 : 0 < m := by
    rcases Nat.eq_zero_or_pos m with rfl | h1
    · unfold dl at h; rw [digs_zero] at h; simp at h
    · exact h1
  have e := digs_pos (b := W32) (by decide) h0
  have h1 : dl (m / W32) = 1 := by unfold dl at h ⊢; rw [e] at h; simpa using h
  obtain ⟨e2, h2⟩ := digs_one h1
  exact ⟨by rw [e, e2], h2⟩
theorem dl_three {m : Nat} (h : 3 ≤ dl m) : 18446744073709551616 ≤ m := by
  have h0 : 0 < m := by
    rcases Nat.eq_zero_or_pos m with rfl | h1
    · unfold dl at h; rw [digs_zero] at h; simp at h
    · exact h1
  have h1 := pow_le_of_digs (b := W32) (by decide) h0
  have h2 : W32 ^ 2 ≤ W32 ^ (dl m - 1) := Nat.pow_le_pow_right (by decide) (by omega)
  have h3 : W32 ^ 2 = 18446744073709551616 := by rw [W32_eq]
  unfold dl at h2; omega
def LowPost (w : World) (m : Nat) (e : Ending) (w' : World) : Prop :=
  e = .returned (.tuple #[.int .u64 ((if m < 18446744073709551616 then m else 0 : Nat) : Int), .bool (decide (m < 18446744073709551616))]) ∧ Below w.heap.size w w'
theorem low_ret {v u : Int} {b b' : Bool} (h : v = u) (hb : b = b') : Ending.returned (.tuple #[.int .u64 v, .bool b]) = .returned (.tuple #[.int .u64 u, .bool b']) := by rw [h, hb]
set_option maxHeartbeats 1000000 in
theorem Low_any {A : Option Addr} {n c m : Nat} {w : World} (h : Arg w w.heap.size A n c m) : Calls Tryd.prog 15 #[.agg #[.slice A n c]] w (LowPost w m) := by
  have H : Hid (∀ o, Arg (w.alloc o) w.heap.size A n c m) := fun o => h.below ((Below.refl _ _).alloc (Nat.le_refl _) _)
  have HX : Hid (∀ o, Rd U32 (w.alloc o) w.heap.size A (digs W32 m)) := fun o => (h.digs.1.below ((Below.refl _ _).alloc (Nat.le_refl _) _)).2
  have HBW : Hid (∀ o, Below w.heap.size w (w.alloc o)) := fun o => (Below.refl _ _).alloc (Nat.le_refl _) _
  clear h
  rcases (show dl m = 0 ∨ dl m = 1 ∨ dl m = 2 ∨ 3 ≤ dl m by omega) with hd | hd | hd | hd
  · have hm := hide (dl_zero hd)
    go_enter Tryd.func15, Tryd.ntmps15
    go_wp2_with (first | (go_at_call 61; go_must (refine (trim_arg (H.out _)).mono ?_); rintro e w2 ⟨rfl, rfl⟩))
    go_ret2
    exact ⟨low_ret (by rw [hm.out]; rfl) (by rw [hm.out]; rfl), HBW.out _⟩
  · obtain ⟨e, hlt⟩ := digs_one hd
    rw [e] at HX
    have hm := hide (word_le hlt)
    obtain ⟨ad, rfl, hab, hc⟩ := (HX.out (.cells #[.slice A n c] 25)).at_ (k := 0) (by simp)
    have hc : (w.alloc (.cells #[.slice (some ad) n c] 25)).cell? ad = some (.int .u32 (m : Int)) := hc
    have hml := word_le hlt
    clear e hlt
    go_enter Tryd.func15, Tryd.ntmps15
    go_wp2_with (first | (go_at_call 61; go_must (refine (trim_arg (H.out _)).mono ?_); rintro e w2 ⟨rfl, rfl⟩))
    go_ret2
    exact ⟨low_ret (by rw [if_pos (by have := hm.out; omega)]) (by rw [decide_eq_true (by have := hm.out; omega)]), HBW.out _⟩
  · obtain ⟨e, hlt⟩ := digs_two hd
    rw [e] at HX
    have HM : Hid (m < 18446744073709551616) := by unfold Hid; rw [W32_eq] at hlt; omega
    obtain ⟨hi, hhi⟩ : ∃ hi, hi = m / W32 := ⟨_, rfl⟩
    obtain ⟨lo, hlo⟩ : ∃ lo, lo = m % W32 := ⟨_, rfl⟩
    rw [← hhi, ← hlo] at HX
    obtain ⟨ad, rfl, hab, hc⟩ := (HX.out (.cells #[.slice A n c] 25)).at_ (k := 0) (by simp)
    have hc : (w.alloc (.cells #[.slice (some ad) n c] 25)).cell? ad = some (.int .u32 (lo : Int)) := hc
    obtain ⟨ad', e', hab', hc'⟩ := (HX.out (.cells #[.slice (some ad) n c] 25)).at_ (k := 1) (by simp)
    cases e'
    have hc' : (w.alloc (.cells #[.slice (some ad) n c] 25)).cell? ⟨ad.block, ad.off + 1, none⟩ = some (.int .u32 (hi : Int)) := hc'
    have hl1 : lo ≤ 4294967295 := word_le (by rw [hlo]; exact lo_lt m)
    have hl2 : hi ≤ 4294967295 := word_le (by rw [hhi]; exact hlt)
    have HE : Hid (m = hi * 4294967296 + lo) := by unfold Hid; have := lohi m; rw [← hlo, ← hhi, W32_eq] at this; omega
    clear e hlt hhi hlo
    go_enter Tryd.func15, Tryd.ntmps15
    go_wp2_with (first | (go_at_call 61; go_must (refine (trim_arg (H.out _)).mono ?_); rintro e w2 ⟨rfl, rfl⟩))
    go_quiet (fail)
    go_wp2
    go_ret2
    exact ⟨low_ret (by rw [if_pos HM.out, HE.out]; exact or64 hl2 hl1) (by rw [decide_eq_true HM.out]), below_drewN (HBW.out _) _⟩
  · have hm := hide (dl_three hd)
    go_enter Tryd.func15, Tryd.ntmps15
    go_wp2_with (first | (go_at_call 61; go_must (refine (trim_arg (H.out _)).mono ?_); rintro e w2 ⟨rfl, rfl⟩))
    go_ret2
    exact ⟨low_ret (by rw [if_neg (by have := hm.out; omega)]; rfl) (by rw [decide_eq_false (by have := hm.out; omega)]), HBW.out _⟩
end Go.Proofs.YtlmfkeicmldcnaaDoor
