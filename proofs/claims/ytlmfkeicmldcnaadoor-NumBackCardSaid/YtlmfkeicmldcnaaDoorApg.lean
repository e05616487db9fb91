/- appendGroup. Conditions: at most 1000000 words. -/
import Derived.Test.YtlmfkeicmldcnaaDoorAddm
import Derived.Deep.AppendLies
open Go.RowKit
set_option maxRecDepth 100000
namespace Go.Proofs.YtlmfkeicmldcnaaDoor
theorem set_at {seg L : List Nat} {i v : Nat} (h : seg.length = i) (hi : i < L.length) : (seg ++ L.drop i).set i v = (seg ++ [v]) ++ L.drop (i + 1) := by
  rw [List.set_append, if_neg (by omega), h, Nat.sub_self, List.drop_eq_getElem_cons hi, List.set_cons_zero]; simp
theorem get_at {seg L : List Nat} {i : Nat} (h : seg.length = i) : (seg ++ L.drop i)[i]? = L[i]? := by
  rw [List.getElem?_append_right (by omega), h, Nat.sub_self, List.getElem?_drop]; rfl
/-- Words of the value's own length that tell enough are its digits. -/
theorem digs_of_big {b : Nat} (hb : 2 ≤ b) (l : List Nat) (h : ∀ x ∈ l, x < b) (hv : 0 < l.length → b ^ (l.length - 1) ≤ val b l) : digs b (val b l) = l := by
  have h1 := digs_take hb l h
  have h2 := digs_len_le hb l h
  have h3 : l.length ≤ (digs b (val b l)).length := by
    rcases Nat.eq_zero_or_pos l.length with h0 | h0
    · omega
    · have h4 := hv h0
      have h5 := lt_pow_digs hb (val b l)
      rcases Nat.lt_or_ge (digs b (val b l)).length l.length with h6 | h6
      · have : b ^ (digs b (val b l)).length ≤ b ^ (l.length - 1) := Nat.pow_le_pow_right (by omega) (by omega)
        omega
      · exact h6
  rw [← h1, List.take_of_length_le h3]
/-- A slice of the call's own that reads as ws, with room perhaps. -/
def OwnF (f : Nat → Value) (t : TypeId) (w : World) (base g cap : Nat) (ws : List Nat) : Prop := w.ownsRow base t 1 (.slice (some ⟨g, 0, none⟩) ws.length cap) ws.length (ws.map f)
section
variable {f : Nat → Value} {t : TypeId} {w : World} {base g cap : Nat} {ws : List Nat}
theorem OwnF.cell (h : OwnF f t w base g cap ws) {i x : Nat} (hx : ws[i]? = some x) : w.cell? ⟨g, i, none⟩ = some (f x) := by
  have hi : i < ws.length := by
    rcases Nat.lt_or_ge i ws.length with h1 | h1
    · exact h1
    · rw [List.getElem?_eq_none h1] at hx; cases hx
  rw [World.ownsRow.cellAt h i (by omega), List.getElem?_map, hx]; rfl
theorem OwnF.set_ (h : OwnF f t w base g cap ws) (i v : Nat) : OwnF f t (w.setCell ⟨g, i, none⟩ (f v)) base g cap (ws.set i v) := by
  have := (World.ownsRow.stored h i (f v)).1
  unfold OwnF
  rw [List.length_set, List.map_set]
  exact this
theorem OwnF.ge (h : OwnF f t w base g cap ws) : base ≤ g ∧ g < w.heap.size := h.lt g rfl
theorem OwnF.frozen (h : OwnF f t w base g cap ws) (i : Nat) : w.frozen? ⟨g, i, none⟩ = false := World.ownsRow.frozenAt h i
theorem OwnF.drewN (h : OwnF f t w base g cap ws) (n : Nat) : OwnF f t (w.drewN n) base g cap ws := h
theorem OwnF.drew (h : OwnF f t w base g cap ws) : OwnF f t w.drew base g cap ws := h
end
def OwnG (w : World) (base g cap : Nat) (ws : List Nat) : Prop := OwnF U32 30 w base g cap ws
theorem OwnG.cell {w : World} {base g cap : Nat} {ws : List Nat} (h : OwnG w base g cap ws) {i x : Nat} (hx : ws[i]? = some x) : w.cell? ⟨g, i, none⟩ = some (.int .u32 (x : Int)) := OwnF.cell h hx
theorem OwnG.set_ {w : World} {base g cap : Nat} {ws : List Nat} (h : OwnG w base g cap ws) (i v : Nat) : OwnG (w.setCell ⟨g, i, none⟩ (.int .u32 (v : Int))) base g cap (ws.set i v) := OwnF.set_ h i v
theorem OwnG.ge {w : World} {base g cap : Nat} {ws : List Nat} (h : OwnG w base g cap ws) : base ≤ g ∧ g < w.heap.size := OwnF.ge h
def AGPost (w : World) (base M : Nat) (e : Ending) (w' : World) : Prop :=
  ∃ g' cap', e = .returned (.slice (some ⟨g', 0, none⟩) (dl M) cap') ∧ Hid (OwnG w' base g' cap' (digs W32 M)) ∧ Hid (Below base w w')
theorem OwnG.can {w : World} {base g cap m : Nat} (h : OwnG w base g cap (digs W32 m)) {p : Addr} (hp : g ≠ p.block) (u : Value) : Can (w.setCell p u) (w.setCell p u).heap.size (some ⟨g, 0, none⟩) cap m := by
  refine ⟨?_, fun _ => ⟨_, rfl, by have := h.ge.2; simpa [World.setCell] using this, fun j x hx => ?_⟩⟩
  · rcases h.2 with ⟨h', _⟩ | ⟨g', cap', cur, h', _, _, hn, _⟩
    · cases h'
    · simp only [Value.slice.injEq, Option.some.injEq, Addr.mk.injEq, and_true, true_and] at h'
      obtain ⟨_, rfl⟩ := h'
      exact hn
  · rw [World.cell?_setCell_other w p _ u (by intro e; rw [e, block_add] at hp; exact hp rfl)]
    exact World.ownsRow.cells h rfl j _ (by rw [List.getElem?_map, hx]; rfl)
theorem ag_math {P V c vt group q r x W : Nat} (h : V + P * c = vt * 1000000000 + group) (hq : r + W * q = c + x * 1000000000) : V + P * r + P * W * q = (vt + P * x) * 1000000000 + group := by
  have e1 : P * r + P * W * q = P * c + P * (x * 1000000000) := by rw [Nat.mul_assoc, ← Nat.mul_add, hq, Nat.mul_add]
  rw [Nat.add_mul, Nat.mul_assoc P x]; omega
set_option maxHeartbeats 1000000 in
theorem appendGroup_any {g cap base m group : Nat} {w : World} (h : OwnG w base g cap (digs W32 m)) (hg : group ≤ 999999999) (hl : dl m ≤ 1000000) :
    Calls Tryd.prog 68 #[.slice (some ⟨g, 0, none⟩) (dl m) cap, .int .u32 (group : Int)] w (AGPost w base (m * 1000000000 + group)) := by
  have H := hide h
  have HBG := hide h.ge
  clear h
  obtain ⟨i0, hi0, hz0, hz1, hz2⟩ := info_parts Tryd.infoU32
  have I0 := hide hi0
  have Z0 := hide hz0
  have Z1 := hide hz1
  have Z2 := hide hz2
  clear hi0 hz0 hz1 hz2
  go_enter Tryd.func68, Tryd.ntmps68
  go_wp2
  go_loopw [5, 12] (fun cv iv wr => ∃ i c : Nat, ∃ seg : List Nat, i ≤ dl m ∧ c ≤ 999999999 ∧ cv = .int .u64 (c : Int) ∧ iv = .int .i64 (i : Int) ∧ Hid (seg.length = i) ∧ Hid (Good32 seg) ∧ Hid (val W32 seg + W32 ^ i * c = val W32 ((digs W32 m).take i) * 1000000000 + group) ∧
      Hid (OwnG wr base g cap (seg ++ (digs W32 m).drop i)) ∧ Hid (w.grownBy wr (some g)))
    (fun _ iv _ => dl m - (intOf iv).toNat)
  case atStart => exact ⟨0, group, [], Nat.zero_le _, hg, rfl, rfl, rfl, by intro x hx; simp at hx, by simp [Hid, val], H, World.grownBy.refl _ _⟩
  case round =>
    obtain ⟨i, c, seg, hi, hc, rfl, rfl, hsl, hsg, hval, hown, hgr⟩ := hrel
    by_cases hlt : i < dl m
    · have hix : i < (digs W32 m).length := hlt
      obtain ⟨x, hxe⟩ : ∃ x, x = (digs W32 m)[i] := ⟨_, rfl⟩
      have hxL : (digs W32 m)[i]? = some x := by rw [hxe]; exact List.getElem?_eq_getElem hix
      have RX := hide (val_take_succ W32 (L := digs W32 m) (i := i) (x := x) hxL)
      have hxW : x ≤ 4294967295 := word_le (by rw [hxe]; exact good_digs m _ (List.getElem_mem _))
      have hcx := hown.out.cell (show (seg ++ (digs W32 m).drop i)[i]? = some x by rw [get_at hsl.out]; exact hxL)
      have hfz := World.ownsRow.frozenAt hown.out i
      have RM := hide (ag_math (W := W32) hval.out (lohi (c + x * 1000000000)))
      have HS := hide (set_at (v := (c + x * 1000000000) % W32) hsl.out hix)
      clear hxe hix hxL
      go_wp2
      go_roundw
      case rel =>
        refine ⟨i + 1, (c + x * 1000000000) / W32, seg ++ [(c + x * 1000000000) % W32], by omega, by rw [W32_eq]; omega, rfl, by go_num, by unfold Hid; simp [hsl.out], good_snoc hsg.out (lo_lt _), ?_, ?_, grown_set hgr.out _ _⟩
        · unfold Hid
          rw [val_snoc, hsl.out, Nat.pow_succ, RX.out]
          exact RM.out
        · have h1 := hown.out.set_ i ((c + x * 1000000000) % W32)
          rw [HS.out] at h1
          exact h1
      case measure => simp [intOf]; omega
    · obtain rfl : i = dl m := by omega
      have hd : (digs W32 m).drop (dl m) = [] := List.drop_of_length_le (Nat.le_refl _)
      rw [hd, List.append_nil] at hown
      have HV : Hid (val W32 seg + W32 ^ dl m * c = m * 1000000000 + group) := by
        have := hval.out
        rw [List.take_of_length_le (show (digs W32 m).length ≤ dl m from Nat.le_refl _), val_digs32] at this
        exact this
      clear hd hval
      by_cases hc0 : c = 0
      · subst hc0
        have HM : Hid (digs W32 (m * 1000000000 + group) = seg) := by
          unfold Hid
          have h1 := HV.out
          rw [Nat.mul_zero, Nat.add_zero] at h1
          rw [← h1]
          refine digs_of_big (by decide) seg hsg.out fun h0 => ?_
          rw [hsl.out] at h0 ⊢
          have h2 := pow_le_of_digs (b := W32) (n := m) (by decide) (by
            rcases Nat.eq_zero_or_pos m with rfl | h3
            · exact absurd h0 (by unfold dl; rw [digs_zero]; simp)
            · exact h3)
          exact Nat.le_trans h2 (by rw [h1]; omega)
        have HDL : Hid (dl (m * 1000000000 + group) = dl m) := by unfold Hid; rw [show dl (m * 1000000000 + group) = seg.length by unfold dl; rw [HM.out], hsl.out]
        go_wp2
        go_ret
        refine ⟨g, cap, slice_ret HDL.out.symm, ?_, grown_below hgr.out HBG.out.1 HBG.out.2⟩
        rw [HM.out]
        exact hown
      · have hcp : (0 : Int) < (c : Int) := by omega
        have HM : Hid (digs W32 (m * 1000000000 + group) = seg ++ [c]) := by
          unfold Hid
          have h1 : val W32 (seg ++ [c]) = m * 1000000000 + group := by rw [val_snoc, hsl.out]; exact HV.out
          rw [← h1]
          refine digs_of_big (by decide) _ (good_snoc hsg.out (by rw [W32_eq]; omega)) fun _ => ?_
          rw [val_snoc, List.length_append, List.length_singleton, Nat.add_sub_cancel]
          exact Nat.le_trans (Nat.le_mul_of_pos_right _ (by omega)) (Nat.le_add_left _ _)
        have HDL : Hid (dl (m * 1000000000 + group) = dl m + 1) := by unfold Hid; rw [show dl (m * 1000000000 + group) = (seg ++ [c]).length by unfold dl; rw [HM.out]]; simp [hsl.out]
        have HO : Hid (wr.ownsRow base 30 1 (.slice (some ⟨g, 0, none⟩) (dl m) cap) (dl m) (seg.map U32)) := by
          have := hown.out
          unfold OwnG OwnF at this
          rw [hsl.out] at this
          exact this
        have HBW := hide (Nat.le_trans HBG.out.1 (Nat.le_of_lt (Nat.lt_of_lt_of_le HBG.out.2 hgr.out.size)))
        clear hc0
        go_wp2_with (first | (at_builtin; go_must (refine wpList_append_own _ rfl (.tmp 32) (.tmp 35) 23 rfl base 30 i0 (.int .u32 0) 1 4 Tryd.underlying23 I0.out Z0.out Z1.out Z2.out rfl (by decide) _ _ _ rfl (HO.out.alloc _) ⟨wr.heap.size, 0, none⟩ 1 1 [.int .u32 (c : Int)] rfl rfl (cell_one_new _ _ _) (by intro u hu; simp at hu; subst hu; rfl) (by simp only [maxLen]; omega) (by omega) (by have := HBW.out; simp; omega) ?_; intro v' w1 hown' hgrow hnil)))
        go_ret
        have hown2 := hown'
        rcases hown'.2 with ⟨_, h0⟩ | ⟨g', cap', cur, rfl, _⟩
        · omega
        · refine ⟨g', cap', slice_ret HDL.out.symm, ?_, ?_⟩
          · unfold Hid OwnG OwnF
            rw [HM.out, List.length_append, hsl.out, List.map_append]
            exact hown2
          · exact ((grown_below hgr.out HBG.out.1 HBG.out.2).alloc HBW.out _).grown hgrow (by have := HBW.out; simp; omega) (by intro k hk; have e : some g = some k := hk; injection e with e; have := HBG.out.1; omega)
end Go.Proofs.YtlmfkeicmldcnaaDoor
