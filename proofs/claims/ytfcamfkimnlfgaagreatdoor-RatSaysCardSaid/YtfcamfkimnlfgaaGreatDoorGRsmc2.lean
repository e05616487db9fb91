/- Several texts in one, each with its own sentence and conditions. -/
import Derived.Test.YtfcamfkimnlfgaaGreatDoorGRsmc1
import Derived.Deep.LoopGhost
import Derived.Maps.AppendAt
section
/- The document's own numbers: Small, Add. Conditions: at most 100000 fours of digits. -/
open Go.RowKit
set_option maxRecDepth 100000
namespace Go.Proofs.YtfcamfkimnlfgaaGreatDoor
theorem row_rd {f : Nat → Value} {t : TypeId} {w : World} {base : Nat} {v : Value} {dd : List Nat} (h : w.ownsRow base t 1 v dd.length (dd.map f)) : ∃ A c, v = .slice A dd.length c ∧ dd.length ≤ c ∧ Rd f w w.heap.size A dd := by
  have h' := h
  rcases h.2 with ⟨rfl, h0⟩ | ⟨g, cap, cur, rfl, _, _, hn, _⟩
  · have := List.eq_nil_of_length_eq_zero h0
    subst this
    exact ⟨none, 0, rfl, Nat.le_refl _, Rd.nil⟩
  · exact ⟨_, cap, rfl, hn, fun _ => ⟨_, rfl, (h'.lt g rfl).2, fun j x hx => World.ownsRow.cells h' rfl j _ (by rw [List.getElem?_map, hx]; rfl)⟩⟩
theorem app_below {w wr w1 : World} {base n : Nat} {t : TypeId} {dv : Value} {xs : List Value} {o : Obj} (hown : wr.ownsRow base t 1 dv n xs) (hbel : Below w.heap.size w wr) (hg : w.heap.size ≤ base) (hgrow : (wr.alloc o).grownBy w1 dv.ownBlock) : Below w.heap.size w w1 :=
  (hbel.alloc hbel.size _).grown hgrow (by have := hbel.size; simp; omega) (fun k hk => by have := (hown.lt k hk).1; omega)
theorem dq_u64 {n : Nat} (h : n < 100000000000000000000) : dq n ≤ 5 := by
  rcases Nat.eq_zero_or_pos n with rfl | h0
  · unfold dq; rw [digs_zero]; simp
  · have h1 := pow_le_of_digs (b := D4) (by decide) h0
    have h2 : D4 ^ (dq n - 1) < D4 ^ 5 := Nat.lt_of_le_of_lt h1 (by rw [D4_eq]; omega)
    have h3 := (Nat.pow_lt_pow_iff_right (a := D4) (by decide)).1 h2
    omega
set_option maxHeartbeats 1000000 in
theorem Small_any {n : Nat} {w : World} (hn : n < 18446744073709551616) : Calls Tryz.prog 71 #[.int .u64 (n : Int)] w (RefPost w n) := by
  have HQ : Hid (dq n ≤ 5) := dq_u64 (by omega)
  obtain ⟨i0, hi0, hz0, hz1, hz2⟩ := info_parts Tryz.infoInt
  have I0 := hide hi0
  have Z0 := hide hz0
  have Z1 := hide hz1
  have Z2 := hide hz2
  have HN := hide hn
  clear hi0 hz0 hz1 hz2 hn
  go_enter Tryz.func71, Tryz.ntmps71
  go_wp2
  go_loopw [0, 3] (fun nv dv wr => ∃ (v : Nat) (dd : List Nat), nv = .int .u64 (v : Int) ∧ Hid (v < 18446744073709551616) ∧ Hid (dd ++ digs D4 v = digs D4 n) ∧ Hid (wr.ownsRow w.heap.size 3 1 dv dd.length (dd.map I64)) ∧ Hid (Below w.heap.size w wr))
    (fun nv _ _ => (intOf nv).toNat)
  case atStart => exact ⟨n, [], rfl, HN, rfl, World.ownsRow_nil _ _ _ _, Below.refl _ _⟩
  case round =>
    obtain ⟨v, dd, rfl, hvn, hdd, hown, hbel⟩ := hrel
    by_cases h0 : v = 0
    · subst h0
      have HE : Hid (dd = digs D4 n) := by have := hdd.out; rw [digs_zero, List.append_nil] at this; exact this
      go_wp2
      go_ret
      obtain ⟨A, c, rfl, hc, hr⟩ := row_rd hown.out
      rw [HE.out] at hr hc ⊢
      exact ⟨A, c, rfl, ⟨hc, hr⟩, hbel⟩
    · have hv : 0 < v := by omega
      have HD : Hid ((dd ++ [v % 10000]) ++ digs D4 (v / 10000) = digs D4 n) := by
        have := hdd.out
        rw [digs_pos (by decide) hv] at this
        unfold Hid
        rw [← this, List.append_assoc]; rfl
      have hlen : dd.length ≤ 5 := by
        have := congrArg List.length hdd.out
        rw [List.length_append] at this
        have h5 : (digs D4 n).length ≤ 5 := HQ.out
        omega
      have H63 : Hid (dd.length + 1 ≤ maxLen) := by simp only [maxLen, Hid]; omega
      have HB : Hid (w.heap.size ≤ (wr.alloc (.cells #[.int .i64 ((v : Int) % 10000)] 3)).heap.size) := by have := hbel.out.size; simp [Hid]; omega
      have HE : Hid (IntKind.u64.wrap ((v : Int) / 10000) = ((v / 10000 : Nat) : Int)) := by
        have h1 := hvn.out
        unfold Hid
        rw [show ((v : Int) / 10000) = ((v / 10000 : Nat) : Int) from rfl, u64_nat (by omega)]
      clear h0
      go_wp2_with (first | (at_builtin; go_must (refine wpList_append_own _ rfl (.tmp 6) (.tmp 10) 32 rfl w.heap.size 3 i0 (.int .i64 0) 1 8 Tryz.underlying32 I0.out Z0.out Z1.out Z2.out rfl (by decide) _ _ _ rfl (hown.out.alloc _) ⟨wr.heap.size, 0, none⟩ 1 1 [.int .i64 ((v : Int) % 10000)] rfl rfl (cell_one_new _ _ _) (by intro u hu; simp at hu; subst hu; rfl) H63.out (by omega) HB.out ?_; intro v2 w3 hown' hgrow hnil)))
      go_roundw
      case rel => exact ⟨v / 10000, dd ++ [v % 10000], by rw [HE.out], by have := hvn.out; unfold Hid; omega, HD, by unfold Hid; rw [List.length_append, List.map_append]; exact hown', app_below hown.out hbel.out (Nat.le_refl _) hgrow⟩
      case measure => rw [HE.out]; simp only [intOf]; omega
theorem val_take_getD (b : Nat) (L : List Nat) (i : Nat) : val b (L.take (i + 1)) = val b (L.take i) + b ^ i * (L[i]?.getD 0) := by
  rcases Nat.lt_or_ge i L.length with h | h
  · rw [val_take_succ b (List.getElem?_eq_getElem h), List.getElem?_eq_getElem h]; rfl
  · rw [val_take_more b h, List.getElem?_eq_none h]; rfl
theorem getD_lt {L : List Nat} (h : Good4 L) (i : Nat) : L[i]?.getD 0 ≤ 9999 := by
  rcases Nat.lt_or_ge i L.length with h1 | h1
  · rw [List.getElem?_eq_getElem h1]
    have := h _ (List.getElem_mem h1)
    rw [D4_eq] at this
    show L[i] ≤ 9999; omega
  · rw [List.getElem?_eq_none h1]; exact Nat.zero_le _
theorem lohi4 (t : Nat) : t % D4 + D4 * (t / D4) = t := Nat.mod_add_div t D4
set_option maxHeartbeats 2000000 in
theorem rAdd_any {A A' : Option Addr} {m n c c' : Nat} {w : World} (h : RN w w.heap.size A c m) (h' : RN w w.heap.size A' c' n) (hl : dq m ≤ 100000) (hl' : dq n ≤ 100000) :
    Calls Tryz.prog 86 #[.slice A (dq m) c, .slice A' (dq n) c'] w (RefPost w (m + n)) := by
  have HX := hide h
  have HY := hide h'
  obtain ⟨i0, hi0, hz0, hz1, hz2⟩ := info_parts Tryz.infoInt
  have I0 := hide hi0
  have Z0 := hide hz0
  have Z1 := hide hz1
  have Z2 := hide hz2
  clear hi0 hz0 hz1 hz2 h h'
  go_enter Tryz.func86, Tryz.ntmps86
  go_wp2
  go_loopw [5, 6, 7] (fun dv cv iv wr => ∃ (i cr : Nat) (dd : List Nat), i ≤ dq m + dq n + 1 ∧ cr ≤ 1 ∧ Hid (dq m ≤ i ∧ dq n ≤ i ∧ i = dq m + dq n + 1 → cr = 0) ∧ Hid (dq m < i ∧ dq n < i → cr = 0) ∧ cv = .int .i64 (cr : Int) ∧ iv = .int .i64 (i : Int) ∧ Hid (dd.length = i) ∧ Hid (Good4 dd) ∧
      Hid (val D4 dd + D4 ^ i * cr = val D4 ((digs D4 m).take i) + val D4 ((digs D4 n).take i)) ∧ Hid (wr.ownsRow w.heap.size 3 1 dv dd.length (dd.map I64)) ∧ Hid (Below w.heap.size w wr))
    (fun _ _ iv _ => dq m + dq n + 2 - (intOf iv).toNat)
  case atStart => exact ⟨0, 0, [], by omega, by omega, fun _ => rfl, fun _ => rfl, rfl, rfl, rfl, by intro x hx; simp at hx, by simp [Hid, val], World.ownsRow_nil _ _ _ _, Below.refl _ _⟩
  case round =>
    obtain ⟨i, cr, dd, hi, hcr, hc1, hc2, rfl, rfl, hdl, hdg, hval, hown, hbel⟩ := hrel
    by_cases hgo : i < dq m ∨ i < dq n ∨ 0 < cr
    · obtain ⟨x, hx⟩ : ∃ x, x = (digs D4 m)[i]?.getD 0 := ⟨_, rfl⟩
      obtain ⟨y, hy⟩ : ∃ y, y = (digs D4 n)[i]?.getD 0 := ⟨_, rfl⟩
      have hx9 : x ≤ 9999 := by rw [hx]; exact getD_lt (good4_digs m) i
      have hy9 : y ≤ 9999 := by rw [hy]; exact getD_lt (good4_digs n) i
      have CX := hide (at_any (i := i) (c := c) (show dq m = (digs D4 m).length from rfl) (HX.out.below hbel.out).2)
      have CY := hide (at_any (i := i) (c := c') (show dq n = (digs D4 n).length from rfl) (HY.out.below hbel.out).2)
      have RX := hide (val_take_getD D4 (digs D4 m) i)
      have RY := hide (val_take_getD D4 (digs D4 n) i)
      rw [← hx] at CX RX
      rw [← hy] at CY RY
      have HX0 : Hid (dq m ≤ i → x = 0) := fun h => by rw [hx, List.getElem?_eq_none h]; rfl
      have HY0 : Hid (dq n ≤ i → y = 0) := fun h => by rw [hy, List.getElem?_eq_none h]; rfl
      have RM := hide (add_math (W := D4) hval.out rfl (lohi4 (cr + (x + y))))
      have hdl2 : dd.length ≤ 300000 := by rw [hdl.out]; omega
      have H63 : Hid (dd.length + 1 ≤ maxLen) := by simp only [maxLen, Hid]; omega
      have HB : Hid (∀ u : Value, w.heap.size ≤ (wr.alloc (.cells #[u] 3)).heap.size) := fun u => by have := hbel.out.size; simp; omega
      have hi2 : Hid (i ≤ dq m ∨ i ≤ dq n) := by
        unfold Hid
        rcases hgo with h | h | h
        · left; omega
        · right; omega
        · rcases Nat.lt_or_ge (dq m) i with h1 | h1
          · rcases Nat.lt_or_ge (dq n) i with h2 | h2
            · have := hc2.out ⟨h1, h2⟩; omega
            · right; exact h2
          · left; exact h1
      clear hx hy
      have hways : i < dq m ∨ (¬ i < dq m ∧ i < dq n) ∨ (¬ i < dq m ∧ ¬ i < dq n ∧ 0 < cr) := by omega
      clear hgo
      have FIN : Hid (∀ (v2 : Value) (w3 : World), w3.ownsRow w.heap.size 3 1 v2 (dd.length + 1) (dd.map I64 ++ [.int .i64 (((x : Int) + (y : Int) + (cr : Int)) % 10000)]) → Below w.heap.size w w3 →
          ∃ (cr' : Nat) (de : List Nat), i + 1 ≤ dq m + dq n + 1 ∧ cr' ≤ 1 ∧ Hid (dq m ≤ i + 1 ∧ dq n ≤ i + 1 ∧ i + 1 = dq m + dq n + 1 → cr' = 0) ∧ Hid (dq m < i + 1 ∧ dq n < i + 1 → cr' = 0) ∧ Value.int .i64 (((x : Int) + (y : Int) + (cr : Int)) / 10000) = .int .i64 (cr' : Int) ∧ Hid (de.length = i + 1) ∧ Hid (Good4 de) ∧
            Hid (val D4 de + D4 ^ (i + 1) * cr' = val D4 ((digs D4 m).take (i + 1)) + val D4 ((digs D4 n).take (i + 1))) ∧ Hid (w3.ownsRow w.heap.size 3 1 v2 de.length (de.map I64)) ∧ Hid (Below w.heap.size w w3)) := by
        intro v2 w3 ho hb
        have hz : dq m < i + 1 ∧ dq n < i + 1 → (cr + (x + y)) / D4 = 0 := fun h => by
          have h1 := HX0.out (by omega)
          have h2 := HY0.out (by omega)
          rw [D4_eq]; omega
        refine ⟨(cr + (x + y)) / D4, dd ++ [(cr + (x + y)) % D4], ?_, by rw [D4_eq]; omega, fun h => hz (by omega), hz, ?_, by unfold Hid; rw [List.length_append, hdl.out]; rfl, ?_, ?_, ?_, hb⟩
        · rcases hi2.out with h | h <;> omega
        · exact congrArg (Value.int .i64) (show _ = (((cr + (x + y)) / D4 : Nat) : Int) by rw [D4_eq]; omega)
        · intro z hz
          rcases List.mem_append.1 hz with hz | hz
          · exact hdg.out z hz
          · simp at hz; subst hz; exact Nat.mod_lt _ (by decide)
        · unfold Hid
          rw [val_snoc, hdl.out, Nat.pow_succ, RX.out, RY.out, RM.out, Nat.mul_add]; omega
        · unfold Hid
          rw [List.length_append, List.map_append]
          have e : (((x : Int) + (y : Int) + (cr : Int)) % 10000) = (((cr + (x + y)) % D4 : Nat) : Int) := by rw [D4_eq]; omega
          rw [e] at ho
          exact ho
      rcases hways with hw1 | ⟨hw1, hw2⟩ | ⟨hw1, hw2, hw3⟩
      all_goals
        go_wp2_with (first | (go_at_call 139; first | ((with_reducible refine CX.out.mono ?_); rintro e w' ⟨rfl, rfl⟩) | ((with_reducible refine CY.out.mono ?_); rintro e w' ⟨rfl, rfl⟩)) | (at_builtin; go_must (refine wpList_append_own _ rfl (.tmp 34) (.tmp 37) 32 rfl w.heap.size 3 i0 (.int .i64 0) 1 8 Tryz.underlying32 I0.out Z0.out Z1.out Z2.out rfl (by decide) _ _ _ rfl (hown.out.alloc _) ⟨wr.heap.size, 0, none⟩ 1 1 [.int .i64 (((x : Int) + (y : Int) + (cr : Int)) % 10000)] rfl rfl (cell_one_new _ _ _) (by intro u hu; simp at hu; subst hu; rfl) H63.out (by omega) (HB.out _) ?_; intro v2 w3 hown' hgrow hnil)))
        go_roundw
        case rel =>
          obtain ⟨cr', de, f1, f2, f3, f4, f5, f6, f7, f8, f9, f10⟩ := FIN.out v2 w3 hown' (app_below hown.out hbel.out (Nat.le_refl _) hgrow)
          exact ⟨i + 1, cr', de, f1, f2, f3, f4, f5, by go_num, f6, f7, f8, f9, f10⟩
        case measure => simp [intOf]; omega
    · have hw1 : ¬ i < dq m := by omega
      have hw2 : ¬ i < dq n := by omega
      obtain rfl : cr = 0 := by omega
      clear hgo
      have HV : Hid (val D4 dd = m + n) := by
        have h1 := hval.out
        rw [List.take_of_length_le (show (digs D4 m).length ≤ i by unfold dq at hw1; omega), List.take_of_length_le (show (digs D4 n).length ≤ i by unfold dq at hw2; omega), val_digs4, val_digs4, Nat.mul_zero] at h1
        exact h1
      obtain ⟨A2, c2, he, hc, hr⟩ := row_rd hown.out
      cases he
      have HR := hide hr
      have hdl2 : dd.length ≤ 300000 := by rw [hdl.out]; omega
      go_wp2_with (first | (go_at_call 136; go_must (refine (rtrim_post rfl HV.out HR.out hdg.out (by omega) hc).mono ?_); rintro e w2 ⟨rfl, rfl⟩))
      go_ret
      exact ⟨A2, c2, rfl, rn_of rfl HV.out HR.out hdg.out hc, hbel⟩
end Go.Proofs.YtfcamfkimnlfgaaGreatDoor
end

section
/- The document's own numbers: Sub. Conditions: at most 100000 fours of digits; a is at least b. -/
open Go.RowKit
set_option maxRecDepth 100000
namespace Go.Proofs.YtfcamfkimnlfgaaGreatDoor
theorem rsub_end {V m n k cr : Nat} (h : V + n = m + D4 ^ k * cr) (hV : V < D4 ^ k) (hnm : n ≤ m) (hc : cr ≤ 1) : V = m - n := by
  rcases Nat.eq_zero_or_pos cr with h0 | h0
  · rw [h0, Nat.mul_zero] at h; omega
  · obtain rfl : cr = 1 := by omega
    rw [Nat.mul_one] at h; omega
set_option maxHeartbeats 2000000 in
theorem rSub_any {A A' : Option Addr} {m n c c' : Nat} {w : World} (h : RN w w.heap.size A c m) (h' : RN w w.heap.size A' c' n) (hl : dq m ≤ 100000) (hnm : n ≤ m) :
    Calls Tryz.prog 143 #[.slice A (dq m) c, .slice A' (dq n) c'] w (RefPost w (m - n)) := by
  have HX := hide h
  have HY := hide h'
  have HNM := hide hnm
  have HLN : Hid (dq n ≤ dq m) := digs_len_mono (by decide) hnm
  obtain ⟨i0, hi0, hz0, hz1, hz2⟩ := info_parts Tryz.infoInt
  have I0 := hide hi0
  have Z0 := hide hz0
  have Z1 := hide hz1
  have Z2 := hide hz2
  clear hi0 hz0 hz1 hz2 h h' hnm
  go_enter Tryz.func143, Tryz.ntmps143
  go_wp2
  go_loopw [5, 6, 7] (fun dv cv iv wr => ∃ (i cr : Nat) (dd : List Nat), i ≤ dq m ∧ cr ≤ 1 ∧ cv = .int .i64 (cr : Int) ∧ iv = .int .i64 (i : Int) ∧ Hid (dd.length = i) ∧ Hid (Good4 dd) ∧
      Hid (val D4 dd + val D4 ((digs D4 n).take i) = val D4 ((digs D4 m).take i) + D4 ^ i * cr) ∧ Hid (wr.ownsRow w.heap.size 3 1 dv dd.length (dd.map I64)) ∧ Hid (Below w.heap.size w wr))
    (fun _ _ iv _ => dq m - (intOf iv).toNat)
  case atStart => exact ⟨0, 0, [], Nat.zero_le _, by omega, rfl, rfl, rfl, by intro x hx; simp at hx, by simp [Hid, val], World.ownsRow_nil _ _ _ _, Below.refl _ _⟩
  case round =>
    obtain ⟨i, cr, dd, hi, hcr, rfl, rfl, hdl, hdg, hval, hown, hbel⟩ := hrel
    by_cases hlt : i < dq m
    · obtain ⟨x, hx⟩ : ∃ x, x = (digs D4 m)[i]?.getD 0 := ⟨_, rfl⟩
      obtain ⟨y, hy⟩ : ∃ y, y = (digs D4 n)[i]?.getD 0 := ⟨_, rfl⟩
      have hx9 : x ≤ 9999 := by rw [hx]; exact getD_lt (good4_digs m) i
      have hy9 : y ≤ 9999 := by rw [hy]; exact getD_lt (good4_digs n) i
      have CX := hide (at_any (i := i) (c := c) (show dq m = (digs D4 m).length from rfl) (HX.out.below hbel.out).2)
      have CY := hide (at_any (i := i) (c := c') (show dq n = (digs D4 n).length from rfl) (HY.out.below hbel.out).2)
      have RX := hide (val_take_getD D4 (digs D4 m) i)
      have RY := hide (val_take_getD D4 (digs D4 n) i)
      rw [← hx] at CX RX
      rw [← hy] at CY RY
      have hdl2 : dd.length ≤ 300000 := by rw [hdl.out]; omega
      have H63 : Hid (dd.length + 1 ≤ maxLen) := by simp only [maxLen, Hid]; omega
      have HB : Hid (∀ u : Value, w.heap.size ≤ (wr.alloc (.cells #[u] 3)).heap.size) := fun u => by have := hbel.out.size; simp; omega
      have FIN : Hid (∀ (d cr' : Nat) (v2 : Value) (w3 : World), d + (cr + y) = x + D4 * cr' → d ≤ 9999 → w3.ownsRow w.heap.size 3 1 v2 (dd.length + 1) (dd.map I64 ++ [.int .i64 (d : Int)]) → Below w.heap.size w w3 →
          ∃ de : List Nat, Hid (de.length = i + 1) ∧ Hid (Good4 de) ∧ Hid (val D4 de + val D4 ((digs D4 n).take (i + 1)) = val D4 ((digs D4 m).take (i + 1)) + D4 ^ (i + 1) * cr') ∧ Hid (w3.ownsRow w.heap.size 3 1 v2 de.length (de.map I64)) ∧ Hid (Below w.heap.size w w3)) := by
        intro d cr' v2 w3 hd hd9 ho hb
        refine ⟨dd ++ [d], by unfold Hid; rw [List.length_append, hdl.out]; rfl, ?_, ?_, ?_, hb⟩
        · intro z hz
          rcases List.mem_append.1 hz with hz | hz
          · exact hdg.out z hz
          · simp at hz; subst hz; rw [D4_eq]; omega
        · unfold Hid
          rw [val_snoc, hdl.out, Nat.pow_succ, RX.out, RY.out]
          exact sub_math hval.out rfl hd
        · unfold Hid
          rw [List.length_append, List.map_append]
          exact ho
      clear hx hy
      by_cases hneg : x < y + cr
      · obtain ⟨d, hd⟩ : ∃ d, d + (y + cr) = x + 10000 := ⟨x + 10000 - (y + cr), by omega⟩
        have e1 : (x : Int) - (y : Int) - (cr : Int) + 10000 = (d : Int) := by omega
        have hneg2 : (x : Int) - (y : Int) - (cr : Int) < 0 := by omega
        have hneg3 : (x : Int) - (y : Int) < (cr : Int) := by omega
        have HD : Hid (d + (cr + y) = x + D4 * 1 ∧ d ≤ 9999) := by unfold Hid; rw [D4_eq]; omega
        clear hd
        go_wp2_with (first | (go_at_call 139; first | ((with_reducible refine CX.out.mono ?_); rintro e w' ⟨rfl, rfl⟩) | ((with_reducible refine CY.out.mono ?_); rintro e w' ⟨rfl, rfl⟩)) | (at_builtin; go_must (refine wpList_append_own _ rfl (.tmp 28) (.tmp 30) 32 rfl w.heap.size 3 i0 (.int .i64 0) 1 8 Tryz.underlying32 I0.out Z0.out Z1.out Z2.out rfl (by decide) _ _ _ rfl (hown.out.alloc _) ⟨wr.heap.size, 0, none⟩ 1 1 [.int .i64 (d : Int)] rfl rfl (cell_one_new _ _ _) (by intro u hu; simp at hu; subst hu; rfl) H63.out (by omega) (HB.out _) ?_; intro v2 w3 hown' hgrow hnil)))
        go_roundw
        case rel =>
          obtain ⟨de, g1, g2, g3, g4, g5⟩ := FIN.out d 1 v2 w3 HD.out.1 HD.out.2 hown' (app_below hown.out hbel.out (Nat.le_refl _) hgrow)
          exact ⟨i + 1, 1, de, by omega, by omega, rfl, by go_num, g1, g2, g3, g4, g5⟩
        case measure => simp [intOf]; omega
      · obtain ⟨d, hd⟩ : ∃ d, d + (y + cr) = x := ⟨x - (y + cr), by omega⟩
        have e1 : (x : Int) - (y : Int) - (cr : Int) = (d : Int) := by omega
        have HD : Hid (d + (cr + y) = x + D4 * 0 ∧ d ≤ 9999) := by unfold Hid; rw [D4_eq]; omega
        have hd0 : ¬ (d : Int) < 0 := by omega
        clear hd
        go_wp2_with (first | (go_at_call 139; first | ((with_reducible refine CX.out.mono ?_); rintro e w' ⟨rfl, rfl⟩) | ((with_reducible refine CY.out.mono ?_); rintro e w' ⟨rfl, rfl⟩)) | (at_builtin; go_must (refine wpList_append_own _ rfl (.tmp 28) (.tmp 30) 32 rfl w.heap.size 3 i0 (.int .i64 0) 1 8 Tryz.underlying32 I0.out Z0.out Z1.out Z2.out rfl (by decide) _ _ _ rfl (hown.out.alloc _) ⟨wr.heap.size, 0, none⟩ 1 1 [.int .i64 (d : Int)] rfl rfl (cell_one_new _ _ _) (by intro u hu; simp at hu; subst hu; rfl) H63.out (by omega) (HB.out _) ?_; intro v2 w3 hown' hgrow hnil)))
        go_roundw
        case rel =>
          obtain ⟨de, g1, g2, g3, g4, g5⟩ := FIN.out d 0 v2 w3 HD.out.1 HD.out.2 hown' (app_below hown.out hbel.out (Nat.le_refl _) hgrow)
          exact ⟨i + 1, 0, de, by omega, by omega, rfl, by go_num, g1, g2, g3, g4, g5⟩
        case measure => simp [intOf]; omega
    · obtain rfl : i = dq m := by omega
      have HV : Hid (val D4 dd = m - n) := by
        have h1 := hval.out
        rw [List.take_of_length_le (show (digs D4 m).length ≤ dq m from Nat.le_refl _), List.take_of_length_le (show (digs D4 n).length ≤ dq m from HLN.out), val_digs4, val_digs4] at h1
        have h2 := val_lt dd hdg.out
        rw [hdl.out] at h2
        exact rsub_end h1 h2 HNM.out hcr
      obtain ⟨A2, c2, he, hc, hr⟩ := row_rd hown.out
      cases he
      have HR := hide hr
      have hdl2 : dd.length ≤ 300000 := by rw [hdl.out]; omega
      go_wp2_with (first | (go_at_call 136; go_must (refine (rtrim_post rfl HV.out HR.out hdg.out (by omega) hc).mono ?_); rintro e w2 ⟨rfl, rfl⟩))
      go_ret
      exact ⟨A2, c2, rfl, rn_of rfl HV.out HR.out hdg.out hc, hbel⟩
end Go.Proofs.YtfcamfkimnlfgaaGreatDoor
end

section
/- Words for the document's own division: the reckoning, and append of any slice that reads as a list. No conditions. -/
open Go.RowKit
set_option maxRecDepth 100000
namespace Go.Proofs.YtfcamfkimnlfgaaGreatDoor
section
variable {P : Program} {w : World}
/-- Of a nil slice append adds nothing. -/
theorem app_nil (base : Nat) (t ty e : TypeId) (i : TypeInfo) (size : Nat) (ht : P.underlying t = some (.slice e)) (hi : P.info? e = some i)
    (v : Value) (n : Nat) (xs : List Value) (hown : w.ownsRow base e size v n xs) (c : Nat) : (Builtin.append_ #[t, t] ty #[v, .slice none 0 c]).run P w = .ok v w := by
  rcases hown.2 with ⟨rfl, rfl⟩ | ⟨g, cap, cur, rfl, _, _, hnc, _⟩
  · simp [Builtin.append_, run_underlying ht, sizeOf, typeInfo, hi, Builtin.lenOf, Builtin.firstCells]
  · simp [Builtin.append_, run_underlying ht, sizeOf, typeInfo, hi, Builtin.lenOf, Builtin.firstCells, hnc, storeCells]
theorem app_run {f : Nat → Value} (hf : ∀ x, (f x).oneCell' = true) (base : Nat) (t ty e : TypeId) (i : TypeInfo) (z : Value) (bytes : Nat) (ht : P.underlying t = some (.slice e)) (hi : P.info? e = some i) (hz : i.zero = some z)
    (hsize : i.size = 1) (hby : i.bytes = bytes) (hzs : z.cells.size = 1) {v : Value} {n : Nat} {xs : List Value} (hown : w.ownsRow base e 1 v n xs)
    {B : Nat} {A : Option Addr} {m c : Nat} {ws : List Nat} (hm : m = ws.length) (hr : Rd f w B A ws) (h63 : n + m ≤ maxLen) (hbytes : (n + m) * bytes ≤ 140737488355328) (hbase : base ≤ w.heap.size) :
    ∃ v' w', (Builtin.append_ #[t, t] ty #[v, .slice A m c]).run P w = .ok v' w' ∧ w'.ownsRow base e 1 v' (n + m) (xs ++ ws.map f) ∧ w.grownBy w' v.ownBlock ∧ (v'.ownBlock = v.ownBlock ∨ v'.ownBlock = some w.heap.size) := by
  subst hm
  by_cases h0 : ws = []
  · subst h0
    cases A with
    | none => exact ⟨v, w, app_nil base t ty e i 1 ht hi v n xs hown c, by simpa using hown, World.grownBy.refl w _, .inl rfl⟩
    | some ad =>
      obtain ⟨v', w', h1, h2, h3, _, h5⟩ := run_append_own_at (P := P) w base t ty e i z 1 bytes ht hi hz hsize hby hzs (by decide) v n xs hown ad 0 c [] (by simp) (by simp) (by simp) h63 hbytes hbase
      exact ⟨v', w', h1, by simpa using h2, h3, h5⟩
  · obtain ⟨ad, rfl, _, hc⟩ := hr (List.length_pos_iff.2 h0)
    obtain ⟨v', w', h1, h2, h3, _, h5⟩ := run_append_own_at (P := P) w base t ty e i z 1 bytes ht hi hz hsize hby hzs (by decide) v n xs hown ad ws.length c (ws.map f) (by simp) (fun j u hu => by
      rw [List.getElem?_map] at hu
      cases hj : ws[j]? with
      | none => rw [hj] at hu; cases hu
      | some x => rw [hj] at hu; injection hu with hu; rw [← hu]; exact hc j x hj) (by intro u hu; obtain ⟨x, _, rfl⟩ := List.mem_map.1 hu; exact hf x) h63 hbytes hbase
    exact ⟨v', w', h1, h2, h3, h5⟩
theorem wpList_app {f : Nat → Value} (hf : ∀ x, (f x).oneCell' = true) {ops : Array Oper} {rest : List Oper} {o : Oper} {a : Act} {Q : Exit → Act → World → Prop} (hgd : o.guard = none) (s x : Operand) (t : TypeId)
    (ho : o.op = .call { callee := .builtin .append, args := #[s, x], argTypes := #[t, t] }) (base : Nat) (e : TypeId) (i : TypeInfo) (z : Value) (bytes : Nat) (ht : P.underlying t = some (.slice e)) (hi : P.info? e = some i) (hz : i.zero = some z)
    (hsize : i.size = 1) (hby : i.bytes = bytes) (hzs : z.cells.size = 1) {v : Value} {n : Nat} {xs : List Value} (hs : a.eval s = v) (hown : w.ownsRow base e 1 v n xs)
    {B : Nat} {A : Option Addr} {m c : Nat} {ws : List Nat} (hx : a.eval x = .slice A m c) (hm : m = ws.length) (hr : Rd f w B A ws) (h63 : n + m ≤ maxLen) (hbytes : (n + m) * bytes ≤ 140737488355328) (hbase : base ≤ w.heap.size)
    (h : ∀ v' w', w'.ownsRow base e 1 v' (n + m) (xs ++ ws.map f) → w.grownBy w' v.ownBlock → (v'.ownBlock = v.ownBlock ∨ v'.ownBlock = some w.heap.size) → wpList P ops Q rest (a.put o.dst v') w') : wpList P ops Q (o :: rest) a w := by
  refine wpList_plain hgd fun K hK => ?_
  obtain ⟨v', w', h1, h2, h3, h4⟩ := app_run (P := P) hf base t o.type e i z bytes ht hi hz hsize hby hzs hown hm hr h63 hbytes hbase
  unfold Oper.wp execOp
  simp only [ho, resolve, invoke, builtin, Sem.run_bind, Sem.run_pure, Result.andThen_ok, List.map_toArray, List.map_cons, List.map_nil, hs, hx]
  rw [h1]
  exact hK _ _ (h v' w' h2 h3 h4)
end
/-- One digit of the quotient. -/
theorem rdiv_digit {n r x : Nat} (hr : r < n) (hx : x ≤ 9999) : (x + D4 * r) / n ≤ 9999 ∧ (x + D4 * r) - n * ((x + D4 * r) / n) < n ∧ n * ((x + D4 * r) / n) ≤ x + D4 * r := by
  have h0 : 0 < n := by omega
  have h1 : (x + D4 * r) / n < 10000 := by
    rw [Nat.div_lt_iff_lt_mul h0]
    have : D4 * (r + 1) ≤ 10000 * n := Nat.mul_le_mul (by decide) hr
    rw [Nat.mul_add, D4_eq] at this
    rw [D4_eq]; omega
  have h2 := Nat.div_add_mod (x + D4 * r) n
  have h3 := Nat.mod_lt (x + D4 * r) h0
  omega
theorem rdiv_step {n H r x M t r' : Nat} (hM : M = n * H + r) (ht : n * t + r' = x + D4 * r) : x + D4 * M = n * (t + D4 * H) + r' := by
  have e1 : n * (t + D4 * H) = n * t + D4 * (n * H) := by rw [Nat.mul_add, Nat.mul_left_comm]
  rw [hM, e1, Nat.mul_add]; omega
theorem rdiv_end {m n Q r : Nat} (hM : m = n * Q + r) (hr : r < n) : m / n = Q ∧ m % n = r := by
  exact (Nat.div_mod_unique (a := m) (b := n) (by omega)).2 ⟨by rw [hM, Nat.add_comm], hr⟩
theorem zeros_set {hi : List Nat} {i v : Nat} : (List.replicate (i + 1) 0 ++ hi).set i v = List.replicate i 0 ++ (v :: hi) := by
  rw [List.replicate_succ']
  rw [List.append_assoc, List.set_append_right _ _ (by simp)]
  simp
theorem val_drop_lt {m top : Nat} (h : top ≤ dq m) : val D4 ((digs D4 m).drop top) < D4 ^ (dq m - top) := by
  have := val_lt ((digs D4 m).drop top) (fun x hx => good4_digs m x (List.mem_of_mem_drop hx))
  rwa [List.length_drop] at this
/-- The bisection's step. -/
theorem bis_le {n s t : Nat} (h0 : 0 < n) : n * s ≤ t ↔ s ≤ t / n := by rw [Nat.mul_comm]; exact (Nat.le_div_iff_mul_le h0).symm
end Go.Proofs.YtfcamfkimnlfgaaGreatDoor
end

section
/- The document's own numbers: Mul. Conditions: at most 100000 fours of digits. -/
open Go.RowKit
set_option maxRecDepth 100000
namespace Go.Proofs.YtfcamfkimnlfgaaGreatDoor
theorem made_i64 (w : World) (n : Nat) : Blk I64 3 (w.alloc (.cells (madeCells #[.int .i64 0] n) 3)) w.heap.size (List.replicate n 0) := made_zeros w _ _ n
theorem make_ints (n : Nat) (hn : n ≤ 1000000) (w : World) : (Instr.makeSlice 32 (.int .i64 (n : Int)) (.int .i64 (n : Int))).run Tryz.prog w =
    .ok (.slice (some ⟨w.heap.size, 0, none⟩) n n) (w.alloc (.cells (madeCells #[.int .i64 0] n) 3)) := by
  obtain ⟨i0, hi0, hz0, hz1, hz2⟩ := info_parts Tryz.infoInt
  have h := run_make (P := Tryz.prog) w 32 3 i0 (.int .i64 0) Tryz.underlying32 hi0 hz0 .i64 .i64 n n (by omega) (by omega) (by rw [hz2]; omega) (by omega)
  simpa [hz1, Value.cells] using h
theorem wpList_ints {w : World} {ops : Array Oper} {rest : List Oper} {o : Oper} {a : Act} {Q : Exit → Act → World → Prop} (hgd : o.guard = none) (l c : Operand) (hop : o.op = Op.makeSlice 32 l c)
    (n : Nat) (N : Int) (hl : a.eval l = .int .i64 N) (hc : a.eval c = .int .i64 N) (hN : N = (n : Int)) (hn : n ≤ 1000000)
    (h : ∀ g w', Hid (g = w.heap.size) → Hid (Blk I64 3 w' g (List.replicate n 0)) → Below w.heap.size w w' → wpList Tryz.prog ops Q rest (a.put o.dst (.slice (some ⟨g, 0, none⟩) n n)) w') : wpList Tryz.prog ops Q (o :: rest) a w := by
  subst hN
  exact wpList_made hgd l c _ hop _ _ _ hl hc (make_ints n hn w) (h _ _ rfl (made_i64 w n) ((Below.refl _ _).alloc (Nat.le_refl _) _))
theorem rmul_end {R seg : List Nat} {i k x m' X : Nat} (hi : i + k ≤ R.length) (hs : seg.length = k) (hR : val D4 R = X * m') (hv : val D4 seg = val D4 ((R.drop i).take k) + x * m') :
    val D4 (R.take i ++ (seg ++ R.drop (i + k))) = (X + D4 ^ i * x) * m' := by
  rw [val_append, val_append, hv, hs, List.length_take, Nat.min_eq_left (by omega)]
  have e : val D4 R = val D4 (R.take i) + D4 ^ i * (val D4 ((R.drop i).take k) + D4 ^ k * val D4 (R.drop (i + k))) := by
    have h1 := val_append D4 (R.take i) (R.drop i)
    rw [List.take_append_drop, List.length_take, Nat.min_eq_left (by omega)] at h1
    have h2 := val_append D4 ((R.drop i).take k) ((R.drop i).drop k)
    rw [List.take_append_drop, List.length_take, List.length_drop, Nat.min_eq_left (by omega), List.drop_drop] at h2
    rw [h1, h2]
  rw [Nat.add_mul, ← hR, e, Nat.mul_assoc]
  generalize D4 ^ i = P
  simp only [Nat.mul_add]; omega
theorem good4_app {l m : List Nat} (h : Good4 l) (hm : Good4 m) : Good4 (l ++ m) := by
  intro x hx
  rcases List.mem_append.1 hx with hx | hx
  · exact h x hx
  · exact hm x hx
theorem rmul_math {P V c A x Y s y t q r : Nat} (h : V + P * c = A + x * Y) (ht : t = s + x * y + c) (hq : r + D4 * q = t) : V + P * r + P * D4 * q = A + P * s + x * (Y + P * y) := by
  have e1 : P * r + P * D4 * q = P * t := by rw [← hq, Nat.mul_add, Nat.mul_assoc]
  have e2 : P * t = P * s + P * (x * y) + P * c := by rw [ht, Nat.mul_add, Nat.mul_add]
  have e3 : x * (P * y) = P * (x * y) := by rw [Nat.mul_left_comm]
  rw [Nat.mul_add x, e3]; omega
set_option maxHeartbeats 2000000 in
theorem rMul_any {A A' : Option Addr} {m n c c' : Nat} {w : World} (h : RN w w.heap.size A c m) (h' : RN w w.heap.size A' c' n) (hl : dq m ≤ 100000) (hl' : dq n ≤ 100000) :
    Calls Tryz.prog 87 #[.slice A (dq m) c, .slice A' (dq n) c'] w (RefPost w (m * n)) := by
  have HX := hide h
  have HY := hide h'
  clear h h'
  go_enter Tryz.func87, Tryz.ntmps87
  go_wp2_with (first | (at_make; go_must (refine wpList_ints rfl _ _ rfl (dq m + dq n + 1) _ rfl rfl (by omega) (by omega) ?_; intro g w1 hg hb1 hbel)))
  have hgw : w.heap.size ≤ g := by rw [hg.out]; exact Nat.le_refl _
  have HW1 := hide hbel
  clear hg hbel
  go_loopw [6] (fun iv wr => ∃ (i : Nat) (R : List Nat), i ≤ dq m ∧ iv = .int .i64 (i : Int) ∧ Hid (R.length = dq m + dq n + 1) ∧ Hid (Good4 R) ∧ Hid (val D4 R = val D4 ((digs D4 m).take i) * n) ∧ Hid (∀ j : Nat, i + dq n ≤ j → R[j]?.getD 0 = 0) ∧ Hid (Blk I64 3 wr g R) ∧ Hid (w1.grownBy wr (some g)))
    (fun iv _ => dq m - (intOf iv).toNat)
  case atStart => exact ⟨0, List.replicate (dq m + dq n + 1) 0, Nat.zero_le _, rfl, by simp [Hid], by intro x hx; rw [(List.mem_replicate.1 hx).2]; decide, by simp [Hid, val, val_zeros], by intro j _; rw [List.getElem?_replicate]; split <;> rfl, hb1, World.grownBy.refl _ _⟩
  case round =>
    obtain ⟨i, R, hi, rfl, hRl, hRg, hRv, hRz, hblk, hgr⟩ := hrel
    by_cases hlt : i < dq m
    · have hix : i < (digs D4 m).length := hlt
      obtain ⟨x, hxe⟩ : ∃ x, x = (digs D4 m)[i] := ⟨_, rfl⟩
      have hxL : (digs D4 m)[i]? = some x := by rw [hxe]; exact List.getElem?_eq_getElem hix
      have RX := hide (val_take_succ D4 hxL)
      have hx9 : x ≤ 9999 := by have := good4_digs m _ (List.getElem_mem hix); rw [← hxe, D4_eq] at this; omega
      have HXL := hide hxL
      clear hxe hix hxL
      go_wp2_with fail
      go_loopw [7, 8] (fun cv kv wr => ∃ (k cr : Nat) (seg : List Nat), k ≤ dq n + 1 ∧ cr ≤ 9999 ∧ Hid (k = dq n + 1 → cr = 0) ∧ cv = .int .i64 (cr : Int) ∧ kv = .int .i64 (k : Int) ∧ Hid (seg.length = k) ∧ Hid (Good4 seg) ∧ Hid (val D4 seg + D4 ^ k * cr = val D4 ((R.drop i).take k) + x * val D4 ((digs D4 n).take k)) ∧
          Hid (Blk I64 3 wr g (R.take i ++ (seg ++ R.drop (i + k)))) ∧ Hid (w1.grownBy wr (some g)))
        (fun _ kv _ => dq n + 2 - (intOf kv).toNat)
      case atStart => exact ⟨0, 0, [], by omega, by omega, fun _ => rfl, rfl, rfl, rfl, by intro x hx; simp at hx, by simp [Hid, val], by simpa [Hid] using hblk.out, hgr⟩
      case round =>
        obtain ⟨k, cr, seg, hk, hcr, hc0, rfl, rfl, hsl, hsg, hval, hblk2, hgr2⟩ := hrel
        by_cases hgo : k < dq n ∨ 0 < cr
        · have hkn : k ≤ dq n := by
            rcases hgo with h | h
            · omega
            · rcases Nat.lt_or_ge (dq n) k with h1 | h1
              · have := hc0.out (by omega); omega
              · exact h1
          have hik : i + k < R.length := by rw [hRl.out]; omega
          obtain ⟨y, hy⟩ : ∃ y, y = (digs D4 n)[k]?.getD 0 := ⟨_, rfl⟩
          have hy9 : y ≤ 9999 := by rw [hy]; exact getD_lt (good4_digs n) k
          obtain ⟨s, hs⟩ : ∃ s, s = R[i + k] := ⟨_, rfl⟩
          have hsL : R[i + k]? = some s := by rw [hs]; exact List.getElem?_eq_getElem hik
          have hs9 : s ≤ 9999 := by have := hRg.out _ (List.getElem_mem hik); rw [← hs, D4_eq] at this; omega
          have CY := hide (fun W : World => fun hb : Below w.heap.size w W => at_any (i := k) (c := c') (show dq n = (digs D4 n).length from rfl) (HY.out.below hb).2)
          have RY := hide (val_take_getD D4 (digs D4 n) k)
          rw [← hy] at RY
          simp only [← hy] at CY
          have RR := hide (val_take_succ D4 (L := R.drop i) (i := k) (x := s) (by rw [List.getElem?_drop]; exact hsL))
          obtain ⟨ad, e, hab, hcx⟩ := (((HX.out.below HW1.out).2.grown hgr2.out hgw).at_ (show i < (digs D4 m).length from hlt))
          subst e
          replace hcx : wr.cell? (ad.add i) = some (.int .i64 (x : Int)) := by
            have e2 := HXL.out
            rw [List.getElem?_eq_getElem (show i < (digs D4 m).length from hlt)] at e2
            injection e2 with e2
            rw [e2] at hcx; exact hcx
          have HBW := hide (HW1.out.trans (grown_below hgr2.out hgw hb1.out.lt))
          have hcs : wr.cell? ⟨g, i + k, none⟩ = some (.int .i64 (s : Int)) := hblk2.out.cell (by rw [get_mid (by rw [List.length_take]; omega) hsl.out, hsL])
          have hfz := hblk2.out.frozen (i + k)
          have hp0 : 0 ≤ (x : Int) * (y : Int) := Int.mul_nonneg (by omega) (by omega)
          have hpn : x * y ≤ 9999 * 9999 := Nat.mul_le_mul hx9 hy9
          have hp1 : (x : Int) * (y : Int) ≤ 99980001 := by have : ((x * y : Nat) : Int) ≤ 99980001 := by omega
                                                            rwa [Int.natCast_mul] at this
          obtain ⟨t, ht⟩ : ∃ t, t = s + x * y + cr := ⟨_, rfl⟩
          have HTE : Hid ((s : Int) + (x : Int) * (y : Int) + (cr : Int) = (t : Int)) := by unfold Hid; rw [ht, Int.natCast_add, Int.natCast_add, Int.natCast_mul]
          have htb : t ≤ 99999999 := by omega
          have E1 : Hid (IntKind.i64.wrap ((i : Int) + (k : Int)) = (i : Int) + (k : Int)) := IntWalk.i64_in _ (by omega)
          have E2 : Hid (0 ≤ (i : Int) + (k : Int)) := by unfold Hid; omega
          have E3 : Hid (((i : Int) + (k : Int)).toNat = i + k) := by unfold Hid; omega
          have E4 : Hid (IntKind.i64.wrap ((x : Int) * (y : Int)) = (x : Int) * (y : Int)) := IntWalk.i64_in _ (by omega)
          have E5 : Hid (IntKind.i64.wrap ((s : Int) + (x : Int) * (y : Int)) = (s : Int) + (x : Int) * (y : Int)) := IntWalk.i64_in _ (by omega)
          have E6 : Hid (IntKind.i64.wrap ((s : Int) + (x : Int) * (y : Int) + (cr : Int)) = (t : Int)) := by unfold Hid; rw [HTE.out]; exact IntWalk.i64_in _ (by omega)
          have htl : Hid (t / D4 ≤ 9999) := by unfold Hid; rw [D4_eq]; omega
          have htz : Hid (dq n ≤ k → t / D4 = 0) := fun hkk => by
            have h1 : y = 0 := by rw [hy, List.getElem?_eq_none hkk]; rfl
            have h2 : s = 0 := by have := hRz.out (i + k) (by omega); rw [hsL] at this; exact this
            rw [ht, h1, h2, D4_eq]; omega
          have RM := hide (rmul_math hval.out ht (lohi4 t))
          have RS := hide (set_mid (seg := seg) (v := t % D4) (show (R.take i).length = i by rw [List.length_take]; omega) hsl.out hik)
          clear hy hs hsL hpn ht hik
          have hways : k < dq n ∨ (¬ k < dq n ∧ 0 < cr) := by omega
          clear hgo
          rcases hways with hw1 | ⟨hw1, hw2⟩
          all_goals
            go_wp2_with fail
            have e1 := E1.out
            have e2 := E2.out
            have e3 := E3.out
            have e4 := E4.out
            have e5 := E5.out
            have e6 := E6.out
            have e7 : (i : Int) + (k : Int) < (dq m : Int) + (dq n : Int) + 1 := by omega
            have e8 : (i : Int) + (k : Int) < ((dq m + dq n + 1 : Nat) : Int) := by omega
            have e9 : (i : Int) < (dq m : Int) := by omega
            go_quiet ((go_at_call 139; exact quiet_left (CY.out _ (below_drewN HBW.out _))))
            clear e1 e2 e3 e4 e5 e6 e7 e8 e9
            go_wp2
            go_roundw
            case rel =>
              refine ⟨k + 1, t / D4, seg ++ [t % D4], by omega, htl.out, fun h => htz.out (by omega), rfl, by go_num, by unfold Hid; simp [hsl.out], ?_, ?_, ?_, ?_⟩
              · exact good4_app hsg.out (by intro z hz; simp at hz; subst hz; exact Nat.mod_lt _ (by decide))
              · unfold Hid
                rw [val_snoc, hsl.out, Nat.pow_succ, RR.out, RY.out]
                exact RM.out
              · have h1 := hblk2.out.set_ (i + k) (t % D4)
                rw [RS.out] at h1
                exact h1
              · exact grown_set (grown_drewN hgr2.out _) _ _
            case measure => simp [intOf]; omega
        · have hw1 : ¬ k < dq n := by omega
          obtain rfl : cr = 0 := by omega
          have hik : i + k ≤ R.length := by rw [hRl.out]; omega
          have HVS : Hid (val D4 seg = val D4 ((R.drop i).take k) + x * n) := by
            have h1 := hval.out
            rw [List.take_of_length_le (show (digs D4 n).length ≤ k by unfold dq at hw1; omega), val_digs4, Nat.mul_zero] at h1
            exact h1
          have HE := hide (rmul_end hik hsl.out hRv.out HVS.out)
          have HLN : Hid ((R.take i ++ (seg ++ R.drop (i + k))).length = dq m + dq n + 1) := by
            unfold Hid; rw [List.length_append, List.length_append, List.length_take, List.length_drop, hsl.out, hRl.out]; rw [hRl.out] at hik; omega
          have HZ : Hid (∀ j : Nat, i + 1 + dq n ≤ j → (R.take i ++ (seg ++ R.drop (i + k)))[j]?.getD 0 = 0) := fun j hj => by
            rw [List.getElem?_append_right (by rw [List.length_take]; omega), List.getElem?_append_right (by rw [List.length_take, hsl.out]; omega), List.getElem?_drop, List.length_take, hsl.out]
            have := hRz.out j (by omega)
            rw [← this]; congr 2; omega
          clear hgo hik
          go_wp2
          go_roundw
          case rel =>
            refine ⟨i + 1, _, by omega, by go_num, HLN, ?_, ?_, HZ, hblk2, hgr2⟩
            · exact good4_app (fun z hz => hRg.out z (List.mem_of_mem_take hz)) (good4_app hsg.out (fun z hz => hRg.out z (List.mem_of_mem_drop hz)))
            · unfold Hid; rw [RX.out]; exact HE.out
          case measure => simp [intOf]; omega
    · obtain rfl : i = dq m := by omega
      have HV : Hid (val D4 R = m * n) := by unfold Hid; rw [hRv.out, List.take_of_length_le (show (digs D4 m).length ≤ dq m from Nat.le_refl _), val_digs4]
      have HRD := hide (hblk.out.rd0 hblk.out.lt)
      go_wp2_with (first | (go_at_call 136; go_must (refine (rtrim_post hRl.out.symm HV.out HRD.out hRg.out (by omega) (by omega)).mono ?_); rintro e w2 ⟨rfl, rfl⟩))
      go_ret
      exact ⟨_, _, rfl, rn_of hRl.out.symm HV.out HRD.out hRg.out (Nat.le_refl _), HW1.out.trans (grown_below hgr.out hgw hb1.out.lt)⟩
end Go.Proofs.YtfcamfkimnlfgaaGreatDoor
end
