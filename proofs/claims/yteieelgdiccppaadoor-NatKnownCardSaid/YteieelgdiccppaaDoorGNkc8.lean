/- Several texts in one, each with its own sentence and conditions. -/
import Derived.Test.YteieelgdiccppaaDoorGNkc1
import Derived.Deep.AppendLies
import Derived.Deep.LoopGhost
section
/- appendGroup. Conditions: at most 1000000 words. -/
open Go.RowKit
set_option maxRecDepth 100000
namespace Go.Proofs.YteieelgdiccppaaDoor
theorem set_at {seg L : List Nat} {i v : Nat} (h : seg.length = i) (hi : i < L.length) : (seg ++ L.drop i).set i v = (seg ++ [v]) ++ L.drop (i + 1) := by
  rw [List.set_append, if_neg (by omega), h, Nat.sub_self, List.drop_eq_getElem_cons hi, List.set_cons_zero]; simp
theorem get_at {seg L : List Nat} {i : Nat} (h : seg.length = i) : (seg ++ L.drop i)[i]? = L[i]? := by
  rw [List.getElem?_append_right (by omega), h, Nat.sub_self, List.getElem?_drop]; rfl
/-- Words of the value's own length that tell enough are its digits. -/
theorem digs_of_big {b : Nat} (hb : 2 ≤ b) (l : List Nat) (h : ∀ x ∈ l, x < b) (hv : 0 < l.length → b ^ (l.length - 1) ≤ val b l) : digs b (val b l) = l := by
  have h1 := digs_take hb l h
  have h2 := digs_len_le hb l h
  have h3 : l.length ≤ (digs b (val b l)).length := by
    rcases Nat.eq_zero_or_pos l.length with h0 | h0
    · omega
    · have h4 := hv h0
      have h5 := lt_pow_digs hb (val b l)
      rcases Nat.lt_or_ge (digs b (val b l)).length l.length with h6 | h6
      · have : b ^ (digs b (val b l)).length ≤ b ^ (l.length - 1) := Nat.pow_le_pow_right (by omega) (by omega)
        omega
      · exact h6
  rw [← h1, List.take_of_length_le h3]
/-- A slice of the call's own that reads as ws, with room perhaps. -/
def OwnF (f : Nat → Value) (t : TypeId) (w : World) (base g cap : Nat) (ws : List Nat) : Prop := w.ownsRow base t 1 (.slice (some ⟨g, 0, none⟩) ws.length cap) ws.length (ws.map f)
section
variable {f : Nat → Value} {t : TypeId} {w : World} {base g cap : Nat} {ws : List Nat}
theorem OwnF.cell (h : OwnF f t w base g cap ws) {i x : Nat} (hx : ws[i]? = some x) : w.cell? ⟨g, i, none⟩ = some (f x) := by
  have hi : i < ws.length := by
    rcases Nat.lt_or_ge i ws.length with h1 | h1
    · exact h1
    · rw [List.getElem?_eq_none h1] at hx; cases hx
  rw [World.ownsRow.cellAt h i (by omega), List.getElem?_map, hx]; rfl
theorem OwnF.set_ (h : OwnF f t w base g cap ws) (i v : Nat) : OwnF f t (w.setCell ⟨g, i, none⟩ (f v)) base g cap (ws.set i v) := by
  have := (World.ownsRow.stored h i (f v)).1
  unfold OwnF
  rw [List.length_set, List.map_set]
  exact this
theorem OwnF.ge (h : OwnF f t w base g cap ws) : base ≤ g ∧ g < w.heap.size := h.lt g rfl
theorem OwnF.frozen (h : OwnF f t w base g cap ws) (i : Nat) : w.frozen? ⟨g, i, none⟩ = false := World.ownsRow.frozenAt h i
theorem OwnF.drewN (h : OwnF f t w base g cap ws) (n : Nat) : OwnF f t (w.drewN n) base g cap ws := h
theorem OwnF.drew (h : OwnF f t w base g cap ws) : OwnF f t w.drew base g cap ws := h
end
def OwnG (w : World) (base g cap : Nat) (ws : List Nat) : Prop := OwnF U32 30 w base g cap ws
theorem OwnG.cell {w : World} {base g cap : Nat} {ws : List Nat} (h : OwnG w base g cap ws) {i x : Nat} (hx : ws[i]? = some x) : w.cell? ⟨g, i, none⟩ = some (.int .u32 (x : Int)) := OwnF.cell h hx
theorem OwnG.set_ {w : World} {base g cap : Nat} {ws : List Nat} (h : OwnG w base g cap ws) (i v : Nat) : OwnG (w.setCell ⟨g, i, none⟩ (.int .u32 (v : Int))) base g cap (ws.set i v) := OwnF.set_ h i v
theorem OwnG.ge {w : World} {base g cap : Nat} {ws : List Nat} (h : OwnG w base g cap ws) : base ≤ g ∧ g < w.heap.size := OwnF.ge h
def AGPost (w : World) (base M : Nat) (e : Ending) (w' : World) : Prop :=
  ∃ g' cap', e = .returned (.slice (some ⟨g', 0, none⟩) (dl M) cap') ∧ Hid (OwnG w' base g' cap' (digs W32 M)) ∧ Hid (Below base w w')
theorem OwnG.can {w : World} {base g cap m : Nat} (h : OwnG w base g cap (digs W32 m)) {p : Addr} (hp : g ≠ p.block) (u : Value) : Can (w.setCell p u) (w.setCell p u).heap.size (some ⟨g, 0, none⟩) cap m := by
  refine ⟨?_, fun _ => ⟨_, rfl, by have := h.ge.2; simpa [World.setCell] using this, fun j x hx => ?_⟩⟩
  · rcases h.2 with ⟨h', _⟩ | ⟨g', cap', cur, h', _, _, hn, _⟩
    · cases h'
    · simp only [Value.slice.injEq, Option.some.injEq, Addr.mk.injEq, and_true, true_and] at h'
      obtain ⟨_, rfl⟩ := h'
      exact hn
  · rw [World.cell?_setCell_other w p _ u (by intro e; rw [e, block_add] at hp; exact hp rfl)]
    exact World.ownsRow.cells h rfl j _ (by rw [List.getElem?_map, hx]; rfl)
theorem ag_math {P V c vt group q r x W : Nat} (h : V + P * c = vt * 1000000000 + group) (hq : r + W * q = c + x * 1000000000) : V + P * r + P * W * q = (vt + P * x) * 1000000000 + group := by
  have e1 : P * r + P * W * q = P * c + P * (x * 1000000000) := by rw [Nat.mul_assoc, ← Nat.mul_add, hq, Nat.mul_add]
  rw [Nat.add_mul, Nat.mul_assoc P x]; omega
set_option maxHeartbeats 1000000 in
theorem appendGroup_any {g cap base m group : Nat} {w : World} (h : OwnG w base g cap (digs W32 m)) (hg : group ≤ 999999999) (hl : dl m ≤ 1000000) :
    Calls Tryd.prog 80 #[.slice (some ⟨g, 0, none⟩) (dl m) cap, .int .u32 (group : Int)] w (AGPost w base (m * 1000000000 + group)) := by
  have H := hide h
  have HBG := hide h.ge
  clear h
  obtain ⟨i0, hi0, hz0, hz1, hz2⟩ := info_parts Tryd.infoU32
  have I0 := hide hi0
  have Z0 := hide hz0
  have Z1 := hide hz1
  have Z2 := hide hz2
  clear hi0 hz0 hz1 hz2
  go_enter Tryd.func80, Tryd.ntmps80
  go_wp2
  go_loopw [5, 12] (fun cv iv wr => ∃ i c : Nat, ∃ seg : List Nat, i ≤ dl m ∧ c ≤ 999999999 ∧ cv = .int .u64 (c : Int) ∧ iv = .int .i64 (i : Int) ∧ Hid (seg.length = i) ∧ Hid (Good32 seg) ∧ Hid (val W32 seg + W32 ^ i * c = val W32 ((digs W32 m).take i) * 1000000000 + group) ∧
      Hid (OwnG wr base g cap (seg ++ (digs W32 m).drop i)) ∧ Hid (w.grownBy wr (some g)))
    (fun _ iv _ => dl m - (intOf iv).toNat)
  case atStart => exact ⟨0, group, [], Nat.zero_le _, hg, rfl, rfl, rfl, by intro x hx; simp at hx, by simp [Hid, val], H, World.grownBy.refl _ _⟩
  case round =>
    obtain ⟨i, c, seg, hi, hc, rfl, rfl, hsl, hsg, hval, hown, hgr⟩ := hrel
    by_cases hlt : i < dl m
    · have hix : i < (digs W32 m).length := hlt
      obtain ⟨x, hxe⟩ : ∃ x, x = (digs W32 m)[i] := ⟨_, rfl⟩
      have hxL : (digs W32 m)[i]? = some x := by rw [hxe]; exact List.getElem?_eq_getElem hix
      have RX := hide (val_take_succ W32 (L := digs W32 m) (i := i) (x := x) hxL)
      have hxW : x ≤ 4294967295 := word_le (by rw [hxe]; exact good_digs m _ (List.getElem_mem _))
      have hcx := hown.out.cell (show (seg ++ (digs W32 m).drop i)[i]? = some x by rw [get_at hsl.out]; exact hxL)
      have hfz := World.ownsRow.frozenAt hown.out i
      have RM := hide (ag_math (W := W32) hval.out (lohi (c + x * 1000000000)))
      have HS := hide (set_at (v := (c + x * 1000000000) % W32) hsl.out hix)
      clear hxe hix hxL
      go_wp2
      go_roundw
      case rel =>
        refine ⟨i + 1, (c + x * 1000000000) / W32, seg ++ [(c + x * 1000000000) % W32], by omega, by rw [W32_eq]; omega, rfl, by go_num, by unfold Hid; simp [hsl.out], good_snoc hsg.out (lo_lt _), ?_, ?_, grown_set hgr.out _ _⟩
        · unfold Hid
          rw [val_snoc, hsl.out, Nat.pow_succ, RX.out]
          exact RM.out
        · have h1 := hown.out.set_ i ((c + x * 1000000000) % W32)
          rw [HS.out] at h1
          exact h1
      case measure => simp [intOf]; omega
    · obtain rfl : i = dl m := by omega
      have hd : (digs W32 m).drop (dl m) = [] := List.drop_of_length_le (Nat.le_refl _)
      rw [hd, List.append_nil] at hown
      have HV : Hid (val W32 seg + W32 ^ dl m * c = m * 1000000000 + group) := by
        have := hval.out
        rw [List.take_of_length_le (show (digs W32 m).length ≤ dl m from Nat.le_refl _), val_digs32] at this
        exact this
      clear hd hval
      by_cases hc0 : c = 0
      · subst hc0
        have HM : Hid (digs W32 (m * 1000000000 + group) = seg) := by
          unfold Hid
          have h1 := HV.out
          rw [Nat.mul_zero, Nat.add_zero] at h1
          rw [← h1]
          refine digs_of_big (by decide) seg hsg.out fun h0 => ?_
          rw [hsl.out] at h0 ⊢
          have h2 := pow_le_of_digs (b := W32) (n := m) (by decide) (by
            rcases Nat.eq_zero_or_pos m with rfl | h3
            · exact absurd h0 (by unfold dl; rw [digs_zero]; simp)
            · exact h3)
          exact Nat.le_trans h2 (by rw [h1]; omega)
        have HDL : Hid (dl (m * 1000000000 + group) = dl m) := by unfold Hid; rw [show dl (m * 1000000000 + group) = seg.length by unfold dl; rw [HM.out], hsl.out]
        go_wp2
        go_ret
        refine ⟨g, cap, slice_ret HDL.out.symm, ?_, grown_below hgr.out HBG.out.1 HBG.out.2⟩
        rw [HM.out]
        exact hown
      · have hcp : (0 : Int) < (c : Int) := by omega
        have HM : Hid (digs W32 (m * 1000000000 + group) = seg ++ [c]) := by
          unfold Hid
          have h1 : val W32 (seg ++ [c]) = m * 1000000000 + group := by rw [val_snoc, hsl.out]; exact HV.out
          rw [← h1]
          refine digs_of_big (by decide) _ (good_snoc hsg.out (by rw [W32_eq]; omega)) fun _ => ?_
          rw [val_snoc, List.length_append, List.length_singleton, Nat.add_sub_cancel]
          exact Nat.le_trans (Nat.le_mul_of_pos_right _ (by omega)) (Nat.le_add_left _ _)
        have HDL : Hid (dl (m * 1000000000 + group) = dl m + 1) := by unfold Hid; rw [show dl (m * 1000000000 + group) = (seg ++ [c]).length by unfold dl; rw [HM.out]]; simp [hsl.out]
        have HO : Hid (wr.ownsRow base 30 1 (.slice (some ⟨g, 0, none⟩) (dl m) cap) (dl m) (seg.map U32)) := by
          have := hown.out
          unfold OwnG OwnF at this
          rw [hsl.out] at this
          exact this
        have HBW := hide (Nat.le_trans HBG.out.1 (Nat.le_of_lt (Nat.lt_of_lt_of_le HBG.out.2 hgr.out.size)))
        clear hc0
        go_wp2_with (first | (at_builtin; go_must (refine wpList_append_own _ rfl (.tmp 32) (.tmp 35) 23 rfl base 30 i0 (.int .u32 0) 1 4 Tryd.underlying23 I0.out Z0.out Z1.out Z2.out rfl (by decide) _ _ _ rfl (HO.out.alloc _) ⟨wr.heap.size, 0, none⟩ 1 1 [.int .u32 (c : Int)] rfl rfl (cell_one_new _ _ _) (by intro u hu; simp at hu; subst hu; rfl) (by simp only [maxLen]; omega) (by omega) (by have := HBW.out; simp; omega) ?_; intro v' w1 hown' hgrow hnil)))
        go_ret
        have hown2 := hown'
        rcases hown'.2 with ⟨_, h0⟩ | ⟨g', cap', cur, rfl, _⟩
        · omega
        · refine ⟨g', cap', slice_ret HDL.out.symm, ?_, ?_⟩
          · unfold Hid OwnG OwnF
            rw [HM.out, List.length_append, hsl.out, List.map_append]
            exact hown2
          · exact ((grown_below hgr.out HBG.out.1 HBG.out.2).alloc HBW.out _).grown hgrow (by have := HBW.out; simp; omega) (by intro k hk; have e : some g = some k := hk; injection e with e; have := HBG.out.1; omega)
end Go.Proofs.YteieelgdiccppaaDoor
end

section
/- The document's own numbers, four digits each: trim, at, Cmp, Small. Conditions: at most 1000000 of them. -/
open Go.RowKit
set_option maxRecDepth 100000
namespace Go.Proofs.YteieelgdiccppaaDoor
def D4 : Nat := 10000
theorem D4_eq : D4 = 10000 := rfl
def dq (m : Nat) : Nat := (digs D4 m).length
def Good4 (ws : List Nat) : Prop := ∀ x ∈ ws, x < D4
def RN (w : World) (B : Nat) (A : Option Addr) (c m : Nat) : Prop := dq m ≤ c ∧ Rd I64 w B A (digs D4 m)
section
variable {w w' : World} {B B' : Nat} {A : Option Addr} {c m : Nat}
theorem RN.below (h : RN w B A c m) (hb : Below B w w') : RN w' B A c m := ⟨h.1, h.2.below hb⟩
theorem RN.more (h : RN w B A c m) (hb : B ≤ B') : RN w B' A c m := ⟨h.1, h.2.more hb⟩
theorem RN.drewN (h : RN w B A c m) (k : Nat) : RN (w.drewN k) B A c m := h
end
def RefPost (w : World) (m : Nat) (e : Ending) (w' : World) : Prop := ∃ A c, e = .returned (.slice A (dq m) c) ∧ Hid (RN w' w'.heap.size A c m) ∧ Hid (Below w.heap.size w w')
theorem good4_digs (m : Nat) : Good4 (digs D4 m) := digs_lt (by decide) m
theorem val_digs4 (m : Nat) : val D4 (digs D4 m) = m := val_digs (by decide) m
def trimmed4 (ws : List Nat) : Nat := dq (val D4 ws)
theorem trimmed4_of {ws : List Nat} {k : Nat} (h : Good4 ws) (hk : k ≤ ws.length) (hz : ∀ j : Nat, k ≤ j → ws[j]?.getD 0 = 0) (hl : 0 < k → ws[k - 1]?.getD 0 ≠ 0) : trimmed4 ws = k := by
  unfold trimmed4 dq
  rw [← trim_eq (by decide) ws k h hk hz hl, List.length_take, Nat.min_eq_left hk]
set_option maxHeartbeats 400000 in
theorem rtrim_any (A : Option Addr) (ws : List Nat) (c : Nat) (w : World) (B : Nat) (h : Rd I64 w B A ws) (hw : Good4 ws) (hl : ws.length ≤ 1000000) (hc : ws.length ≤ c) :
    Calls Tryd.prog 131 #[.slice A ws.length c] w fun e w' => e = .returned (.slice A (trimmed4 ws) c) ∧ w = w' := by
  obtain ⟨n, hn⟩ : ∃ n, n = ws.length := ⟨_, rfl⟩
  have hl' : n ≤ 1000000 := by omega
  have hc' : n ≤ c := by omega
  rw [← hn]
  have HN := hide hn; have HW := hide hw; have HR := hide h
  clear hw hn hl hc h
  go_enter Tryd.func131, Tryd.ntmps131
  go_wp2
  go_loop [0] (fun l => ∃ k : Nat, k ≤ n ∧ Hid (∀ j : Nat, k ≤ j → ws[j]?.getD 0 = 0) ∧ l = .slice A k c) lenOf
  case atStart => exact ⟨n, Nat.le_refl _, fun j hj => by rw [List.getElem?_eq_none (by have := HN.out; omega)]; rfl, rfl⟩
  case round =>
    obtain ⟨k, hk, hz, rfl⟩ := hrel
    by_cases h0 : k = 0
    · subst h0
      go_wp2
      go_ret
      exact ⟨slice_ret (trimmed4_of HW.out (by omega) hz.out (by omega)).symm, rfl⟩
    · obtain ⟨m, rfl⟩ : ∃ m, k = m + 1 := ⟨k - 1, by omega⟩
      have hm : m < ws.length := by have := HN.out; omega
      obtain ⟨ad, rfl, hb, hcell⟩ := HR.out.at_ hm
      have hx : ws[m]?.getD 0 = ws[m] := by rw [List.getElem?_eq_getElem hm]; rfl
      obtain ⟨x, hxe⟩ : ∃ x, x = ws[m] := ⟨_, rfl⟩
      rw [← hxe] at hcell hx
      unfold I64 at hcell
      have HX := hide hx
      clear hx hxe hm
      by_cases hx0 : x = 0
      · have hx1 : ((x : Int) == 0) = true := by subst hx0; rfl
        have HX0 := hide hx0
        clear hx0
        go_wp2
        go_round
        case rel => exact ⟨m, by omega, fun j hj => by rcases Nat.eq_or_lt_of_le hj with rfl | hj; (· rw [HX.out, HX0.out]); (· exact hz.out j hj), by first | rfl | simp⟩
        case measure => simp [lenOf]
      · have hx1 : ((x : Int) == 0) = false := by simp; omega
        have HX0 := hide hx0
        clear hx0
        go_wp2
        go_ret
        exact ⟨slice_ret (trimmed4_of HW.out (by have := HN.out; omega) hz.out (fun _ => by rw [Nat.add_sub_cancel, HX.out]; exact HX0.out)).symm, rfl⟩
theorem rdigs_take (ws : List Nat) (h : Good4 ws) : ws.take (dq (val D4 ws)) = digs D4 (val D4 ws) := digs_take (by decide) ws h
/-- trim over a row of the call's own. -/
theorem rtrim_post {A : Option Addr} {ws : List Nat} {n c v : Nat} {w : World} (hn : n = ws.length) (hv : val D4 ws = v) (h : Rd I64 w w.heap.size A ws) (hw : Good4 ws) (hl : n ≤ 1000000) (hc : n ≤ c) :
    Calls Tryd.prog 131 #[.slice A n c] w fun e w' => e = .returned (.slice A (dq v) c) ∧ w = w' := by
  subst hn; subst hv
  exact rtrim_any A ws c w _ h hw hl hc
theorem rn_of {A : Option Addr} {ws : List Nat} {n c v : Nat} {w : World} {B : Nat} (hn : n = ws.length) (hv : val D4 ws = v) (h : Rd I64 w B A ws) (hw : Good4 ws) (hc : n ≤ c) : RN w B A c v := by
  subst hn; subst hv
  have hle : dq (val D4 ws) ≤ ws.length := digs_len_le (by decide) ws hw
  refine ⟨by omega, ?_⟩
  have := h.take (dq (val D4 ws))
  rwa [rdigs_take ws hw] at this
set_option maxHeartbeats 400000 in
theorem at_any {A : Option Addr} {ws : List Nat} {n c i : Nat} {w : World} {B : Nat} (hn : n = ws.length) (h : Rd I64 w B A ws) :
    Calls Tryd.prog 130 #[.slice A n c, .int .i64 (i : Int)] w fun e w' => e = .returned (.int .i64 ((ws[i]?.getD 0 : Nat) : Int)) ∧ w = w' := by
  by_cases hlt : i < n
  · have hi2 : i < ws.length := by omega
    obtain ⟨ad, rfl, hb, hc⟩ := h.at_ hi2
    obtain ⟨x, hx⟩ : ∃ x, x = ws[i] := ⟨_, rfl⟩
    have HX : Hid (ws[i]?.getD 0 = x) := by unfold Hid; rw [hx, List.getElem?_eq_getElem hi2]; rfl
    rw [← hx] at hc
    unfold I64 at hc
    clear hx hi2 h hn
    go_enter Tryd.func130, Tryd.ntmps130
    go_wp2
    go_ret
    exact ⟨by rw [HX.out]; rfl, rfl⟩
  · have HX : Hid (ws[i]?.getD 0 = 0) := by unfold Hid; rw [List.getElem?_eq_none (by omega)]; rfl
    clear h hn
    go_enter Tryd.func130, Tryd.ntmps130
    go_wp2
    go_ret
    exact ⟨by rw [HX.out]; rfl, rfl⟩
theorem cmpI_len4 {m n : Nat} (h : dq m ≠ dq n) : cmpI (dq m) (dq n) = cmpI m n := by
  rcases Nat.lt_or_ge (dq m) (dq n) with h1 | h1
  · rw [cmpI_lt h1, cmpI_lt (digs_len_lt (b := D4) (by decide) h1)]
  · rw [cmpI_gt (by omega), cmpI_gt (digs_len_lt (b := D4) (by decide) (show dq n < dq m by omega))]
theorem cmpI_at4 {m n i : Nat} (hlen : dq m = dq n) (hi : i < dq m) (heq : (digs D4 m).drop (i + 1) = (digs D4 n).drop (i + 1)) {x y : Nat} (hx : (digs D4 m)[i]? = some x) (hy : (digs D4 n)[i]? = some y) (hne : x ≠ y) : cmpI x y = cmpI m n := by
  have key : ∀ {m n x y : Nat}, dq m = dq n → i < dq m → (digs D4 m).drop (i + 1) = (digs D4 n).drop (i + 1) → (digs D4 m)[i]? = some x → (digs D4 n)[i]? = some y → x < y → m < n := by
    intro m n x y hlen hi heq hx hy hlt
    have := val_cmp (b := D4) (digs D4 m) (digs D4 n) i (digs_lt (by decide) m) hlen hi heq (by rw [hx, hy]; exact hlt)
    rwa [val_digs (by decide), val_digs (by decide)] at this
  rcases Nat.lt_or_ge x y with h | h
  · rw [cmpI_lt h, cmpI_lt (key hlen hi heq hx hy h)]
  · rw [cmpI_gt (by omega), cmpI_gt (key hlen.symm (by omega) heq.symm hy hx (by omega))]
set_option maxHeartbeats 1000000 in
theorem rCmp_any {A A' : Option Addr} {m n c c' : Nat} {w : World} {B : Nat} (h : RN w B A c m) (h' : RN w B A' c' n) (hl : dq m ≤ 1000000) (hl' : dq n ≤ 1000000) :
    Calls Tryd.prog 83 #[.slice A (dq m) c, .slice A' (dq n) c'] w fun e w' => e = .returned (.int .i64 (cmpI m n)) ∧ ∃ q, w' = w.drewN q := by
  obtain ⟨k, hk⟩ : ∃ k, k = dq m := ⟨_, rfl⟩
  obtain ⟨k', hk'⟩ : ∃ k, k = dq n := ⟨_, rfl⟩
  have HR := hide h.2; have HR' := hide h'.2
  rw [← hk] at hl ⊢
  rw [← hk'] at hl' ⊢
  have HK := hide hk; have HK' := hide hk'
  clear hk hk' h h'
  by_cases hlen : k = k'
  · subst hlen
    go_enter Tryd.func83, Tryd.ntmps83
    go_wp2
    go_loopw [5] (fun i wr => ∃ j q : Nat, j ≤ k ∧ Hid ((digs D4 m).drop j = (digs D4 n).drop j) ∧ i = .int .i64 ((j : Int) - 1) ∧ Hid (wr = w.drewN q)) (fun i _ => (intOf i + 1).toNat)
    case atStart => exact ⟨k, 0, Nat.le_refl _, by unfold Hid; rw [List.drop_of_length_le (Nat.le_of_eq HK.out.symm), List.drop_of_length_le (Nat.le_of_eq HK'.out.symm)], rfl, rfl⟩
    case round =>
      obtain ⟨j, q, hj, hd, rfl, HQ⟩ := hrel
      by_cases h0 : j = 0
      · subst h0
        go_wp2
        go_ret
        exact ⟨int_ret (cmpI_eq (digs_inj (b := D4) (by decide) hd.out)).symm, q, HQ.out⟩
      · obtain ⟨i, rfl⟩ : ∃ i, j = i + 1 := ⟨j - 1, by omega⟩
        have hi : i < (digs D4 m).length := Nat.lt_of_lt_of_eq (by omega) HK.out
        have hi' : i < (digs D4 n).length := Nat.lt_of_lt_of_eq (by omega) HK'.out
        obtain ⟨ad, rfl, hb, hcell⟩ := HR.out.at_ hi
        obtain ⟨ad', rfl, hb', hcell'⟩ := HR'.out.at_ hi'
        obtain ⟨x, hx⟩ : ∃ x, x = (digs D4 m)[i] := ⟨_, rfl⟩
        obtain ⟨y, hy⟩ : ∃ x, x = (digs D4 n)[i] := ⟨_, rfl⟩
        rw [← hx] at hcell
        rw [← hy] at hcell'
        have HX : Hid ((digs D4 m)[i]? = some x) := by unfold Hid; rw [hx, List.getElem?_eq_getElem hi]
        have HY : Hid ((digs D4 n)[i]? = some y) := by unfold Hid; rw [hy, List.getElem?_eq_getElem hi']
        unfold I64 at hcell hcell'
        replace hcell : wr.cell? (ad.add i) = some (.int .i64 x) := by rw [HQ.out]; exact hcell
        replace hcell' : wr.cell? (ad'.add i) = some (.int .i64 y) := by rw [HQ.out]; exact hcell'
        have hli : i < dq m := hi
        have HLI := hide hli
        have hdrop : x = y → (digs D4 m).drop i = (digs D4 n).drop i := fun e => by
          rw [List.drop_eq_getElem_cons hi, List.drop_eq_getElem_cons hi', ← hx, ← hy, e, hd.out]
        have HD := hide hdrop
        clear hx hy hi hi' hli hdrop
        rcases Nat.lt_trichotomy x y with hxy | hxy | hxy
        · go_wp2_with fail
          go_quiet (fail)
          go_wp2
          go_ret
          exact ⟨int_ret ((cmpI_lt hxy).symm.trans (cmpI_at4 (by rw [← HK.out]; exact HK'.out) HLI.out hd.out HX.out HY.out (by omega))), drew_end HQ⟩
        · subst hxy
          go_wp2_with fail
          go_quiet (fail)
          rename_i nq
          obtain ⟨W2, hW2⟩ : ∃ W2, W2 = wr.drewN nq := ⟨_, rfl⟩
          rw [← hW2]
          have HC := drew_cell hW2 hcell
          have HC' := drew_cell hW2 hcell'
          have HW2 := drew_hid hW2 HQ
          clear hW2 hcell hcell' HQ
          go_wp2_with fail
          go_quiet (fail)
          go_wp2
          go_roundw
          case rel => exact ⟨i, _, by omega, HD.out (by first | rfl | trivial), rfl, drew_more HW2⟩
          case measure => simp [intOf]
        · go_wp2_with fail
          go_quiet (fail)
          rename_i nq
          obtain ⟨W2, hW2⟩ : ∃ W2, W2 = wr.drewN nq := ⟨_, rfl⟩
          rw [← hW2]
          have HC := drew_cell hW2 hcell
          have HC' := drew_cell hW2 hcell'
          have HW2 := drew_hid hW2 HQ
          clear hW2 hcell hcell' HQ
          go_wp2_with fail
          go_quiet (fail)
          go_wp2
          go_ret
          exact ⟨int_ret ((cmpI_gt hxy).symm.trans (cmpI_at4 (by rw [← HK.out]; exact HK'.out) HLI.out hd.out HX.out HY.out (by omega))), drew_end HW2⟩
  · rcases Nat.lt_or_ge k k' with hlt | hge
    · have H1 : Hid (cmpI m n = -1) := by unfold Hid; rw [← cmpI_len4 (by rw [← HK.out, ← HK'.out]; exact hlen), ← HK.out, ← HK'.out, cmpI_lt hlt]
      go_enter Tryd.func83, Tryd.ntmps83
      go_wp2
      go_ret
      exact ⟨int_ret H1.out.symm, 0, rfl⟩
    · have H1 : Hid (cmpI m n = 1) := by unfold Hid; rw [← cmpI_len4 (by rw [← HK.out, ← HK'.out]; exact hlen), ← HK.out, ← HK'.out, cmpI_gt (by omega)]
      have hge2 : ¬ k < k' := by omega
      go_enter Tryd.func83, Tryd.ntmps83
      go_wp2
      go_ret
      exact ⟨int_ret H1.out.symm, 0, rfl⟩
end Go.Proofs.YteieelgdiccppaaDoor
end

section
/- The document's own numbers: Small, Add. Conditions: at most 100000 fours of digits. -/
open Go.RowKit
set_option maxRecDepth 100000
namespace Go.Proofs.YteieelgdiccppaaDoor
theorem row_rd {f : Nat → Value} {t : TypeId} {w : World} {base : Nat} {v : Value} {dd : List Nat} (h : w.ownsRow base t 1 v dd.length (dd.map f)) : ∃ A c, v = .slice A dd.length c ∧ dd.length ≤ c ∧ Rd f w w.heap.size A dd := by
  have h' := h
  rcases h.2 with ⟨rfl, h0⟩ | ⟨g, cap, cur, rfl, _, _, hn, _⟩
  · have := List.eq_nil_of_length_eq_zero h0
    subst this
    exact ⟨none, 0, rfl, Nat.le_refl _, Rd.nil⟩
  · exact ⟨_, cap, rfl, hn, fun _ => ⟨_, rfl, (h'.lt g rfl).2, fun j x hx => World.ownsRow.cells h' rfl j _ (by rw [List.getElem?_map, hx]; rfl)⟩⟩
theorem app_below {w wr w1 : World} {base n : Nat} {t : TypeId} {dv : Value} {xs : List Value} {o : Obj} (hown : wr.ownsRow base t 1 dv n xs) (hbel : Below w.heap.size w wr) (hg : w.heap.size ≤ base) (hgrow : (wr.alloc o).grownBy w1 dv.ownBlock) : Below w.heap.size w w1 :=
  (hbel.alloc hbel.size _).grown hgrow (by have := hbel.size; simp; omega) (fun k hk => by have := (hown.lt k hk).1; omega)
theorem dq_u64 {n : Nat} (h : n < 100000000000000000000) : dq n ≤ 5 := by
  rcases Nat.eq_zero_or_pos n with rfl | h0
  · unfold dq; rw [digs_zero]; simp
  · have h1 := pow_le_of_digs (b := D4) (by decide) h0
    have h2 : D4 ^ (dq n - 1) < D4 ^ 5 := Nat.lt_of_le_of_lt h1 (by rw [D4_eq]; omega)
    have h3 := (Nat.pow_lt_pow_iff_right (a := D4) (by decide)).1 h2
    omega
set_option maxHeartbeats 1000000 in
theorem Small_any {n : Nat} {w : World} (hn : n < 18446744073709551616) : Calls Tryd.prog 19 #[.int .u64 (n : Int)] w (RefPost w n) := by
  have HQ : Hid (dq n ≤ 5) := dq_u64 (by omega)
  obtain ⟨i0, hi0, hz0, hz1, hz2⟩ := info_parts Tryd.infoInt
  have I0 := hide hi0
  have Z0 := hide hz0
  have Z1 := hide hz1
  have Z2 := hide hz2
  have HN := hide hn
  clear hi0 hz0 hz1 hz2 hn
  go_enter Tryd.func19, Tryd.ntmps19
  go_wp2
  go_loopw [0, 3] (fun nv dv wr => ∃ (v : Nat) (dd : List Nat), nv = .int .u64 (v : Int) ∧ Hid (v < 18446744073709551616) ∧ Hid (dd ++ digs D4 v = digs D4 n) ∧ Hid (wr.ownsRow w.heap.size 3 1 dv dd.length (dd.map I64)) ∧ Hid (Below w.heap.size w wr))
    (fun nv _ _ => (intOf nv).toNat)
  case atStart => exact ⟨n, [], rfl, HN, rfl, World.ownsRow_nil _ _ _ _, Below.refl _ _⟩
  case round =>
    obtain ⟨v, dd, rfl, hvn, hdd, hown, hbel⟩ := hrel
    by_cases h0 : v = 0
    · subst h0
      have HE : Hid (dd = digs D4 n) := by have := hdd.out; rw [digs_zero, List.append_nil] at this; exact this
      go_wp2
      go_ret
      obtain ⟨A, c, rfl, hc, hr⟩ := row_rd hown.out
      rw [HE.out] at hr hc ⊢
      exact ⟨A, c, rfl, ⟨hc, hr⟩, hbel⟩
    · have hv : 0 < v := by omega
      have HD : Hid ((dd ++ [v % 10000]) ++ digs D4 (v / 10000) = digs D4 n) := by
        have := hdd.out
        rw [digs_pos (by decide) hv] at this
        unfold Hid
        rw [← this, List.append_assoc]; rfl
      have hlen : dd.length ≤ 5 := by
        have := congrArg List.length hdd.out
        rw [List.length_append] at this
        have h5 : (digs D4 n).length ≤ 5 := HQ.out
        omega
      have H63 : Hid (dd.length + 1 ≤ maxLen) := by simp only [maxLen, Hid]; omega
      have HB : Hid (w.heap.size ≤ (wr.alloc (.cells #[.int .i64 ((v : Int) % 10000)] 3)).heap.size) := by have := hbel.out.size; simp [Hid]; omega
      have HE : Hid (IntKind.u64.wrap ((v : Int) / 10000) = ((v / 10000 : Nat) : Int)) := by
        have h1 := hvn.out
        unfold Hid
        rw [show ((v : Int) / 10000) = ((v / 10000 : Nat) : Int) from rfl, u64_nat (by omega)]
      clear h0
      go_wp2_with (first | (at_builtin; go_must (refine wpList_append_own _ rfl (.tmp 6) (.tmp 10) 39 rfl w.heap.size 3 i0 (.int .i64 0) 1 8 Tryd.underlying39 I0.out Z0.out Z1.out Z2.out rfl (by decide) _ _ _ rfl (hown.out.alloc _) ⟨wr.heap.size, 0, none⟩ 1 1 [.int .i64 ((v : Int) % 10000)] rfl rfl (cell_one_new _ _ _) (by intro u hu; simp at hu; subst hu; rfl) H63.out (by omega) HB.out ?_; intro v2 w3 hown' hgrow hnil)))
      go_roundw
      case rel => exact ⟨v / 10000, dd ++ [v % 10000], by rw [HE.out], by have := hvn.out; unfold Hid; omega, HD, by unfold Hid; rw [List.length_append, List.map_append]; exact hown', app_below hown.out hbel.out (Nat.le_refl _) hgrow⟩
      case measure => rw [HE.out]; simp only [intOf]; omega
theorem val_take_getD (b : Nat) (L : List Nat) (i : Nat) : val b (L.take (i + 1)) = val b (L.take i) + b ^ i * (L[i]?.getD 0) := by
  rcases Nat.lt_or_ge i L.length with h | h
  · rw [val_take_succ b (List.getElem?_eq_getElem h), List.getElem?_eq_getElem h]; rfl
  · rw [val_take_more b h, List.getElem?_eq_none h]; rfl
theorem getD_lt {L : List Nat} (h : Good4 L) (i : Nat) : L[i]?.getD 0 ≤ 9999 := by
  rcases Nat.lt_or_ge i L.length with h1 | h1
  · rw [List.getElem?_eq_getElem h1]
    have := h _ (List.getElem_mem h1)
    rw [D4_eq] at this
    show L[i] ≤ 9999; omega
  · rw [List.getElem?_eq_none h1]; exact Nat.zero_le _
theorem lohi4 (t : Nat) : t % D4 + D4 * (t / D4) = t := Nat.mod_add_div t D4
set_option maxHeartbeats 2000000 in
theorem rAdd_any {A A' : Option Addr} {m n c c' : Nat} {w : World} (h : RN w w.heap.size A c m) (h' : RN w w.heap.size A' c' n) (hl : dq m ≤ 100000) (hl' : dq n ≤ 100000) :
    Calls Tryd.prog 91 #[.slice A (dq m) c, .slice A' (dq n) c'] w (RefPost w (m + n)) := by
  have HX := hide h
  have HY := hide h'
  obtain ⟨i0, hi0, hz0, hz1, hz2⟩ := info_parts Tryd.infoInt
  have I0 := hide hi0
  have Z0 := hide hz0
  have Z1 := hide hz1
  have Z2 := hide hz2
  clear hi0 hz0 hz1 hz2 h h'
  go_enter Tryd.func91, Tryd.ntmps91
  go_wp2
  go_loopw [5, 6, 7] (fun dv cv iv wr => ∃ (i cr : Nat) (dd : List Nat), i ≤ dq m + dq n + 1 ∧ cr ≤ 1 ∧ Hid (dq m ≤ i ∧ dq n ≤ i ∧ i = dq m + dq n + 1 → cr = 0) ∧ Hid (dq m < i ∧ dq n < i → cr = 0) ∧ cv = .int .i64 (cr : Int) ∧ iv = .int .i64 (i : Int) ∧ Hid (dd.length = i) ∧ Hid (Good4 dd) ∧
      Hid (val D4 dd + D4 ^ i * cr = val D4 ((digs D4 m).take i) + val D4 ((digs D4 n).take i)) ∧ Hid (wr.ownsRow w.heap.size 3 1 dv dd.length (dd.map I64)) ∧ Hid (Below w.heap.size w wr))
    (fun _ _ iv _ => dq m + dq n + 2 - (intOf iv).toNat)
  case atStart => exact ⟨0, 0, [], by omega, by omega, fun _ => rfl, fun _ => rfl, rfl, rfl, rfl, by intro x hx; simp at hx, by simp [Hid, val], World.ownsRow_nil _ _ _ _, Below.refl _ _⟩
  case round =>
    obtain ⟨i, cr, dd, hi, hcr, hc1, hc2, rfl, rfl, hdl, hdg, hval, hown, hbel⟩ := hrel
    by_cases hgo : i < dq m ∨ i < dq n ∨ 0 < cr
    · obtain ⟨x, hx⟩ : ∃ x, x = (digs D4 m)[i]?.getD 0 := ⟨_, rfl⟩
      obtain ⟨y, hy⟩ : ∃ y, y = (digs D4 n)[i]?.getD 0 := ⟨_, rfl⟩
      have hx9 : x ≤ 9999 := by rw [hx]; exact getD_lt (good4_digs m) i
      have hy9 : y ≤ 9999 := by rw [hy]; exact getD_lt (good4_digs n) i
      have CX := hide (at_any (i := i) (c := c) (show dq m = (digs D4 m).length from rfl) (HX.out.below hbel.out).2)
      have CY := hide (at_any (i := i) (c := c') (show dq n = (digs D4 n).length from rfl) (HY.out.below hbel.out).2)
      have RX := hide (val_take_getD D4 (digs D4 m) i)
      have RY := hide (val_take_getD D4 (digs D4 n) i)
      rw [← hx] at CX RX
      rw [← hy] at CY RY
      have HX0 : Hid (dq m ≤ i → x = 0) := fun h => by rw [hx, List.getElem?_eq_none h]; rfl
      have HY0 : Hid (dq n ≤ i → y = 0) := fun h => by rw [hy, List.getElem?_eq_none h]; rfl
      have RM := hide (add_math (W := D4) hval.out rfl (lohi4 (cr + (x + y))))
      have hdl2 : dd.length ≤ 300000 := by rw [hdl.out]; omega
      have H63 : Hid (dd.length + 1 ≤ maxLen) := by simp only [maxLen, Hid]; omega
      have HB : Hid (∀ u : Value, w.heap.size ≤ (wr.alloc (.cells #[u] 3)).heap.size) := fun u => by have := hbel.out.size; simp; omega
      have hi2 : Hid (i ≤ dq m ∨ i ≤ dq n) := by
        unfold Hid
        rcases hgo with h | h | h
        · left; omega
        · right; omega
        · rcases Nat.lt_or_ge (dq m) i with h1 | h1
          · rcases Nat.lt_or_ge (dq n) i with h2 | h2
            · have := hc2.out ⟨h1, h2⟩; omega
            · right; exact h2
          · left; exact h1
      clear hx hy
      have hways : i < dq m ∨ (¬ i < dq m ∧ i < dq n) ∨ (¬ i < dq m ∧ ¬ i < dq n ∧ 0 < cr) := by omega
      clear hgo
      have FIN : Hid (∀ (v2 : Value) (w3 : World), w3.ownsRow w.heap.size 3 1 v2 (dd.length + 1) (dd.map I64 ++ [.int .i64 (((x : Int) + (y : Int) + (cr : Int)) % 10000)]) → Below w.heap.size w w3 →
          ∃ (cr' : Nat) (de : List Nat), i + 1 ≤ dq m + dq n + 1 ∧ cr' ≤ 1 ∧ Hid (dq m ≤ i + 1 ∧ dq n ≤ i + 1 ∧ i + 1 = dq m + dq n + 1 → cr' = 0) ∧ Hid (dq m < i + 1 ∧ dq n < i + 1 → cr' = 0) ∧ Value.int .i64 (((x : Int) + (y : Int) + (cr : Int)) / 10000) = .int .i64 (cr' : Int) ∧ Hid (de.length = i + 1) ∧ Hid (Good4 de) ∧
            Hid (val D4 de + D4 ^ (i + 1) * cr' = val D4 ((digs D4 m).take (i + 1)) + val D4 ((digs D4 n).take (i + 1))) ∧ Hid (w3.ownsRow w.heap.size 3 1 v2 de.length (de.map I64)) ∧ Hid (Below w.heap.size w w3)) := by
        intro v2 w3 ho hb
        have hz : dq m < i + 1 ∧ dq n < i + 1 → (cr + (x + y)) / D4 = 0 := fun h => by
          have h1 := HX0.out (by omega)
          have h2 := HY0.out (by omega)
          rw [D4_eq]; omega
        refine ⟨(cr + (x + y)) / D4, dd ++ [(cr + (x + y)) % D4], ?_, by rw [D4_eq]; omega, fun h => hz (by omega), hz, ?_, by unfold Hid; rw [List.length_append, hdl.out]; rfl, ?_, ?_, ?_, hb⟩
        · rcases hi2.out with h | h <;> omega
        · exact congrArg (Value.int .i64) (show _ = (((cr + (x + y)) / D4 : Nat) : Int) by rw [D4_eq]; omega)
        · intro z hz
          rcases List.mem_append.1 hz with hz | hz
          · exact hdg.out z hz
          · simp at hz; subst hz; exact Nat.mod_lt _ (by decide)
        · unfold Hid
          rw [val_snoc, hdl.out, Nat.pow_succ, RX.out, RY.out, RM.out, Nat.mul_add]; omega
        · unfold Hid
          rw [List.length_append, List.map_append]
          have e : (((x : Int) + (y : Int) + (cr : Int)) % 10000) = (((cr + (x + y)) % D4 : Nat) : Int) := by rw [D4_eq]; omega
          rw [e] at ho
          exact ho
      rcases hways with hw1 | ⟨hw1, hw2⟩ | ⟨hw1, hw2, hw3⟩
      all_goals
        go_wp2_with (first | (go_at_call 130; first | ((with_reducible refine CX.out.mono ?_); rintro e w' ⟨rfl, rfl⟩) | ((with_reducible refine CY.out.mono ?_); rintro e w' ⟨rfl, rfl⟩)) | (at_builtin; go_must (refine wpList_append_own _ rfl (.tmp 34) (.tmp 37) 39 rfl w.heap.size 3 i0 (.int .i64 0) 1 8 Tryd.underlying39 I0.out Z0.out Z1.out Z2.out rfl (by decide) _ _ _ rfl (hown.out.alloc _) ⟨wr.heap.size, 0, none⟩ 1 1 [.int .i64 (((x : Int) + (y : Int) + (cr : Int)) % 10000)] rfl rfl (cell_one_new _ _ _) (by intro u hu; simp at hu; subst hu; rfl) H63.out (by omega) (HB.out _) ?_; intro v2 w3 hown' hgrow hnil)))
        go_roundw
        case rel =>
          obtain ⟨cr', de, f1, f2, f3, f4, f5, f6, f7, f8, f9, f10⟩ := FIN.out v2 w3 hown' (app_below hown.out hbel.out (Nat.le_refl _) hgrow)
          exact ⟨i + 1, cr', de, f1, f2, f3, f4, f5, by go_num, f6, f7, f8, f9, f10⟩
        case measure => simp [intOf]; omega
    · have hw1 : ¬ i < dq m := by omega
      have hw2 : ¬ i < dq n := by omega
      obtain rfl : cr = 0 := by omega
      clear hgo
      have HV : Hid (val D4 dd = m + n) := by
        have h1 := hval.out
        rw [List.take_of_length_le (show (digs D4 m).length ≤ i by unfold dq at hw1; omega), List.take_of_length_le (show (digs D4 n).length ≤ i by unfold dq at hw2; omega), val_digs4, val_digs4, Nat.mul_zero] at h1
        exact h1
      obtain ⟨A2, c2, he, hc, hr⟩ := row_rd hown.out
      cases he
      have HR := hide hr
      have hdl2 : dd.length ≤ 300000 := by rw [hdl.out]; omega
      go_wp2_with (first | (go_at_call 131; go_must (refine (rtrim_post rfl HV.out HR.out hdg.out (by omega) hc).mono ?_); rintro e w2 ⟨rfl, rfl⟩))
      go_ret
      exact ⟨A2, c2, rfl, rn_of rfl HV.out HR.out hdg.out hc, hbel⟩
end Go.Proofs.YteieelgdiccppaaDoor
end
