/- Several texts in one, each with its own sentence and conditions. -/
import Derived.Test.YteahcbeohopdlaaDoorGNsyc19
import Derived.Test.YteahcbeohopdlaaDoorGNsyc8
import Derived.Test.YteahcbeohopdlaaDoorGNsyc10
import Derived.Test.YteahcbeohopdlaaDoorKp
import Derived.Test.YteahcbeohopdlaaDoorGNsyc15
section
/- The document's own numbers: Div. Conditions: at most 100000 fours of digits, a divisor above 0. -/
open Go.RowKit
set_option maxRecDepth 100000
namespace Go.Proofs.YteahcbeohopdlaaDoor
def RDivR (w : World) (q r : Nat) (e : Ending) (w' : World) : Prop :=
  ∃ A c A' c', e = .returned (.tuple #[.slice A (dq q) c, .slice A' (dq r) c']) ∧ Hid (RN w' w'.heap.size A c q) ∧ Hid (RN w' w'.heap.size A' c' r) ∧ Hid (Below w.heap.size w w')
theorem rn_nil (w : World) (B : Nat) (A : Option Addr) (c : Nat) : RN w B A c 0 := ⟨by rw [dq_zero]; exact Nat.zero_le _, by rw [digs_zero]; exact Rd.nil⟩
set_option maxHeartbeats 2000000 in
theorem rDiv_short {A A' : Option Addr} {m n c c' : Nat} {w : World} (h : RN w w.heap.size A c m) (hl : dq m ≤ 100000) (hl' : dq n ≤ 100000) (hs : dq m + 1 < dq n) :
    Calls Tryd.prog 68 #[.slice A (dq m) c, .slice A' (dq n) c'] w (RDivR w (m / n) (m % n)) := by
  have hmn : m < n := digs_len_lt (b := D4) (by decide) (show dq m < dq n by omega)
  have HX := hide h
  rw [Nat.div_eq_of_lt hmn, Nat.mod_eq_of_lt hmn]
  obtain ⟨k, hk⟩ : ∃ k : Int, (dq m : Int) - (dq n : Int) + 1 = k := ⟨_, rfl⟩
  have h0 : k < 0 := by omega
  clear h hmn
  go_enter Tryd.func68, Tryd.ntmps68
  go_wp2_with (first | (at_make; go_must (refine wpList_ints rfl _ _ rfl (dq m) _ rfl rfl (by omega) (by omega) ?_; intro g w1 hg hb1 hbel)))
  refine bodyPost_ret (v := .tuple #[.slice none 0 0, .slice A (dq m) c]) (by simp [results, Tryd.results68, go_sem]) rfl ?_
  exact ⟨none, 0, A, c, by rw [dq_zero], rn_nil _ _ _ _, (HX.out.below hbel).more hbel.size, hbel⟩
theorem slice_from (t e : TypeId) (i : TypeInfo) (ht : Tryd.prog.underlying t = some (.slice e)) (hi : Tryd.prog.info? e = some i) (hs : i.size = 1) (A : Option Addr) {n c k : Nat} (hk : k ≤ n) (W : World) :
    (Instr.sliceAt t (.slice A n c) (some (.int .i64 (k : Int))) none none).run Tryd.prog W = .ok (.slice (if c = k then A else A.map (·.add k)) (n - k) (c - k)) W := by
  have he : Tryd.prog.elem t = e := by simp [Program.elem, ht]
  have h2 : Tryd.prog.underlying t = some (.slice (Tryd.prog.elem t)) := by rw [he]; exact ht
  rw [run_sliceAt_slice W t _ _ _ _ h2, run_slice_l W t A n c h2 .i64 (k : Int) (by omega) (by omega), he]
  simp [sizeOf, typeInfo, hi, hs, sliced, Result.andThen]
/-- The row that append leaves, read as a list. -/
theorem row_own {w : World} {base n : Nat} {t : TypeId} {v : Value} {xs : List Value} {f : Nat → Value} {dd : List Nat} (h : w.ownsRow base t 1 v n xs) (hn : n = dd.length) (hx : xs = dd.map f) :
    ∃ A c, v = .slice A n c ∧ n ≤ c ∧ Rd f w w.heap.size A dd ∧ (∀ ad, A = some ad → v.ownBlock = some ad.block) := by
  subst hn; subst hx
  obtain ⟨A, c, rfl, h1, h2⟩ := row_rd h
  exact ⟨A, c, rfl, h1, h2, fun ad e => by subst e; rfl⟩
theorem RN.set {w : World} {B : Nat} {A : Option Addr} {c m g i : Nat} (h : RN w B A c m) (hg : ∀ ad, A = some ad → ad.block ≠ g) (u : Value) : RN (w.setCell ⟨g, i, none⟩ u) B A c m := by
  refine ⟨h.1, fun hn => ?_⟩
  obtain ⟨ad, e, hb, hx⟩ := h.2 hn
  refine ⟨ad, e, hb, fun j x hj => ?_⟩
  rw [World.cell?_setCell_other w ⟨g, i, none⟩ _ u (by intro e2; exact hg ad e (by rw [← block_add ad j, ← e2]))]
  exact hx j x hj
theorem dq_mul_le {n s : Nat} (hl : dq n ≤ 100000) (hs : s ≤ 9999) : dq (n * s) ≤ 1000000 := by
  have h1 : n < D4 ^ dq n := lt_pow_digs (b := D4) (by decide) n
  have h2 : n * s < D4 ^ (dq n + 1) := by
    rw [Nat.pow_succ]
    exact Nat.lt_of_le_of_lt (Nat.mul_le_mul_left n (show s ≤ D4 by rw [D4_eq]; omega)) (Nat.mul_lt_mul_of_pos_right h1 (by decide))
  have := dq_le h2
  omega
theorem dq_step {n r x : Nat} (hl : dq n ≤ 99999) (hr : r < n) (hx : x ≤ 9999) : dq (x + D4 * r) ≤ 100000 := by
  have h1 : n < D4 ^ dq n := lt_pow_digs (b := D4) (by decide) n
  have h2 : x + D4 * r < D4 ^ (dq n + 1) := by
    rw [Nat.pow_succ]
    generalize D4 ^ dq n = P at h1
    have h3 : (r + 1) * 10000 ≤ P * 10000 := Nat.mul_le_mul_right _ (by omega)
    rw [D4_eq]
    omega
  have := dq_le h2
  omega
set_option maxHeartbeats 8000000 in
theorem rDiv_long {A A' : Option Addr} {m n c c' top : Nat} {w : World} (h : RN w w.heap.size A c m) (h' : RN w w.heap.size A' c' n) (hl : dq m ≤ 99999) (hl' : dq n ≤ 99999) (hn : 0 < n) (ht : top + dq n = dq m + 1) :
    Calls Tryd.prog 68 #[.slice A (dq m) c, .slice A' (dq n) c'] w (RDivR w (m / n) (m % n)) := by
  have hn1 : 1 ≤ dq n := by
    rcases Nat.eq_zero_or_pos (dq n) with h0 | h0
    · have := (digs_len_pos (b := D4) (n := n) (by decide)).1 h0; omega
    · exact h0
  have HX := hide h
  have HY := hide h'
  have e1 : (dq m : Int) - (dq n : Int) + 1 = (top : Int) := by omega
  have hc := h.1
  obtain ⟨i0, hi0, hz0, hz1, hz2⟩ := info_parts Tryd.infoInt
  have I0 := hide hi0
  have Z0 := hide hz0
  have Z1 := hide hz1
  have Z2 := hide hz2
  clear hi0 hz0 hz1 hz2 h h'
  have htm : top ≤ dq m := by omega
  have ht1 : ¬ dq m < top := by omega
  have ht2 : ¬ (top : Int) < 0 := by omega
  have HS := hide (slice_from 30 3 i0 Tryd.underlying30 I0.out Z1.out A (c := c) htm)
  have HD : Hid (Rd I64 w w.heap.size (if c = top then A else A.map (·.add top)) ((digs D4 m).drop top)) := HX.out.2.cut hc
  obtain ⟨D, hD⟩ : ∃ D, D = (if c = top then A else A.map (·.add top)) := ⟨_, rfl⟩
  rw [← hD] at HS HD
  obtain ⟨r0, hr0⟩ : ∃ r, r = val D4 ((digs D4 m).drop top) := ⟨_, rfl⟩
  have HR0 : Hid (r0 < n) := by
    have h1 := val_drop_lt (m := m) htm
    rw [← hr0] at h1
    have h2 := pow_le_of_digs (b := D4) (n := n) (by decide) hn
    rw [show (digs D4 n).length - 1 = dq m - top by unfold dq at *; omega] at h2
    exact Nat.lt_of_lt_of_le h1 h2
  have GD : Hid (Good4 ((digs D4 m).drop top)) := fun x hx => good4_digs m x (List.mem_of_mem_drop hx)
  have HDL : Hid (dq m - top = ((digs D4 m).drop top).length) := by unfold Hid; rw [List.length_drop]; rfl
  have HTL : Hid (∀ j, j ≤ dq m → ((digs D4 m).drop j).length = dq m - j) := fun j _ => by rw [List.length_drop]; rfl
  clear hD
  have HRE := hide hr0.symm
  clear hr0
  have hS := HS.out
  go_enter Tryd.func68, Tryd.ntmps68
  go_wp2_with (first | (at_make; go_must (refine wpList_ints rfl _ _ rfl (dq m) _ rfl rfl (by omega) (by omega) ?_; intro g w1 hg hb1 hbel)) | (at_builtin; go_must (refine wpList_app (f := I64) (fun _ => rfl) rfl (.tmp 31) (.tmp 34) 30 rfl w.heap.size 3 i0 (.int .i64 0) 8 Tryd.underlying30 I0.out Z0.out Z1.out Z2.out rfl (v := .slice (some ⟨w1.heap.size, 0, none⟩) 0 0) (n := 0) (xs := []) rfl (World.ownsRow_lit w1 #[] 0 hbel.size (by simp only [maxLen]; omega) rfl) (B := w.heap.size) (A := D) (m := dq m - top) (c := c - top) (ws := (digs D4 m).drop top) rfl HDL.out ((HD.out.below hbel).below ((Below.refl _ _).alloc hbel.size _)) (by simp only [maxLen]; omega) (by omega) (by have := hbel.size; simp; omega) ?_; intro v2 w2 hown2 hgrow hat; obtain ⟨A2, c2, rfl, hc2, hr2, hab⟩ := row_own (f := I64) (dd := (digs D4 m).drop top) hown2 (by rw [Nat.zero_add]; exact HDL.out) (by simp); rw [Nat.zero_add] at hc2; simp only [Nat.zero_add])) | (go_at_call 109; (with_reducible refine (rtrim_post HDL.out HRE.out hr2 GD.out (by omega) hc2).mono ?_); rintro e w3 ⟨rfl, rfl⟩) | fail)
  have hgw : w.heap.size ≤ g := by rw [hg.out]; exact Nat.le_refl _
  have hgb : g < w1.heap.size := hb1.out.lt
  have HB3 : Hid (Below w.heap.size w w2) := (hbel.alloc hbel.size _).grown hgrow (by have := hbel.size; simp; omega) (fun k hk => by have e : some w1.heap.size = some k := hk; injection e with e; have := hbel.size; omega)
  have HQ3 : Hid (Blk I64 3 w2 g (List.replicate (dq m) 0)) := (hb1.out.alloc _).grown hgrow (by intro e; have e2 : some g = some w1.heap.size := e; injection e2 with e2; omega)
  have HR3 : Hid (RN w2 w2.heap.size A2 c2 r0) := rn_of HDL.out HRE.out hr2 GD.out hc2
  have HT3 : Hid (val D4 ((digs D4 m).drop top) = n * val D4 (List.replicate (dq m - top) 0) + r0) := by unfold Hid; rw [val_zeros, HRE.out, Nat.mul_zero, Nat.zero_add]
  clear hg hgb hgrow hat hab hr2 hc2 hown2 hbel hb1 HD HRE HDL GD hS HS
  go_loopw [8, 9] (fun rv iv wr => ∃ (j r : Nat) (R : Option Addr) (d : Nat) (hi : List Nat), j ≤ top ∧ iv = .int .i64 ((j : Int) - 1) ∧ rv = .slice R (dq r) d ∧ Hid (RN wr wr.heap.size R d r) ∧ Hid (r < n) ∧ Hid (hi.length = dq m - j) ∧ Hid (Good4 hi) ∧
      Hid (val D4 ((digs D4 m).drop j) = n * val D4 hi + r) ∧ Hid (Blk I64 3 wr g (List.replicate j 0 ++ hi)) ∧ Hid (Below w.heap.size w wr))
    (fun _ iv _ => (intOf iv + 1).toNat)
  case atStart =>
    refine ⟨top, r0, A2, c2, List.replicate (dq m - top) 0, Nat.le_refl _, rfl, rfl, HR3, HR0, by simp [Hid], by intro x hx; rw [(List.mem_replicate.1 hx).2]; decide, HT3, ?_, HB3⟩
    have h1 := HQ3.out
    rw [show dq m = top + (dq m - top) by omega, ← List.replicate_append_replicate] at h1
    exact h1
  case round =>
    obtain ⟨j, r, R, d, hi, hj, rfl, rfl, hr, hrn, hhl, hhg, hval, hblk, hbw⟩ := hrel
    by_cases h0 : j = 0
    · subst h0
      have HV : Hid (m / n = val D4 hi ∧ m % n = r) := by
        have h1 := hval.out
        rw [List.drop_zero, val_digs4] at h1
        exact rdiv_end h1 hrn.out
      have HLN : Hid (dq m = (List.replicate 0 0 ++ hi).length) := by unfold Hid; simp [hhl.out]
      have HVV : Hid (val D4 (List.replicate 0 0 ++ hi) = val D4 hi) := by simp [Hid]
      have HGG : Hid (Good4 (List.replicate 0 0 ++ hi)) := by simpa [Hid] using hhg.out
      have HRD := hide (hblk.out.rd0 hblk.out.lt)
      go_wp2_with (first | (go_at_call 109; (with_reducible refine (rtrim_post HLN.out HVV.out HRD.out HGG.out (by omega) (Nat.le_refl _)).mono ?_); rintro e w4 ⟨rfl, rfl⟩) | fail)
      refine bodyPost_ret (v := .tuple #[.slice (some ⟨g, 0, none⟩) (dq (val D4 hi)) (dq m), .slice R (dq r) d]) (by simp [results, Tryd.results68, go_sem]) rfl ?_
      show RDivR w (m / n) (m % n) _ _
      rw [HV.out.1, HV.out.2]
      exact ⟨_, _, _, _, rfl, rn_of HLN.out HVV.out HRD.out HGG.out (Nat.le_refl _), hr, hbw⟩
    · obtain ⟨i, rfl⟩ : ∃ i, j = i + 1 := ⟨j - 1, by omega⟩
      have hi' : i < (digs D4 m).length := by have : (digs D4 m).length = dq m := rfl; omega
      obtain ⟨ad, rfl, hab, hcell⟩ := ((HX.out.below hbw.out).2).at_ hi'
      obtain ⟨x, hx⟩ : ∃ x, x = (digs D4 m)[i] := ⟨_, rfl⟩
      rw [← hx] at hcell
      unfold I64 at hcell
      have hx9 : x ≤ 9999 := by rw [hx]; have h4 : D4 = 10000 := rfl; have := good4_digs m _ (List.getElem_mem hi'); omega
      have HDR : Hid ((digs D4 m).drop i = x :: (digs D4 m).drop (i + 1)) := by unfold Hid; rw [List.drop_eq_getElem_cons hi', ← hx]
      obtain ⟨r', hr'⟩ : ∃ r', r' = x + D4 * r := ⟨_, rfl⟩
      obtain ⟨t, htt⟩ : ∃ t, t = r' / n := ⟨_, rfl⟩
      have HDG := hide (rdiv_digit hrn.out hx9)
      have hq' : dq r' ≤ 100000 := by rw [hr']; exact dq_step (by omega) hrn.out hx9
      have HV1 : Hid (val D4 (x :: digs D4 r) = r') := by unfold Hid; rw [hr']; show x + D4 * val D4 (digs D4 r) = _; rw [val_digs4]
      rw [← hr', ← htt] at HDG
      have ht9 : t ≤ 9999 := HDG.out.1
      have HG1 : Hid (Good4 (x :: digs D4 r)) := by
        intro z hz
        rcases List.mem_cons.1 hz with rfl | hz
        · rw [D4_eq]; omega
        · exact good4_digs r z hz
      have HL1 : Hid (1 + dq r = (x :: digs D4 r).length) := by unfold Hid; rw [List.length_cons, Nat.add_comm]; rfl
      have hqr : dq r ≤ 100000 := Nat.le_trans (digs_len_mono (b := D4) (by decide) (Nat.le_of_lt hrn.out)) (by have : (digs D4 n).length = dq n := rfl; omega)
      have hii : i < dq m := hi'
      have HBIS := hide (fun s => bis_le (n := n) (s := s) (t := r') hn)
      rw [← htt] at HBIS
      have HST := hide (fun r2 (h : n * t + r2 = r') => rdiv_step hval.out (show n * t + r2 = x + D4 * r by rw [h, hr']))
      have HHR := hide hr'
      clear hx hi' h0 hr' htt
      go_wp2_with (first | (at_builtin; go_must (refine wpList_app (f := I64) (fun _ => rfl) rfl (.tmp 48) (.tmp 49) 30 rfl w.heap.size 3 i0 (.int .i64 0) 8 Tryd.underlying30 I0.out Z0.out Z1.out Z2.out rfl (v := .slice (some ⟨wr.heap.size, 0, none⟩) 1 1) (n := 1) (xs := [.int .i64 (x : Int)]) rfl (World.ownsRow_lit wr #[.int .i64 (x : Int)] 1 hbw.out.size (by simp only [maxLen]; omega) rfl) (B := wr.heap.size) (A := R) (m := dq r) (c := d) (ws := digs D4 r) rfl rfl (hr.out.2.below ((Below.refl _ _).alloc (Nat.le_refl _) _)) (by simp only [maxLen]; omega) (by omega) (by have := hbw.out.size; simp; omega) ?_; intro v4 w4 hown4 hgrow hat; obtain ⟨A4, c4, rfl, hc4, hr4, hab4⟩ := row_own (f := I64) (dd := x :: digs D4 r) hown4 HL1.out (by simp [I64]))) | (go_at_call 109; (with_reducible refine (rtrim_post HL1.out HV1.out hr4 HG1.out (by omega) hc4).mono ?_); rintro e w5 ⟨rfl, rfl⟩) | fail)
      have hgr : g < wr.heap.size := hblk.out.lt
      have HB4 : Hid (Below w.heap.size w w4) := (hbw.out.alloc hbw.out.size _).grown hgrow (by have := hbw.out.size; simp; omega) (fun k hk => by have e : some wr.heap.size = some k := hk; injection e with e; have := hbw.out.size; omega)
      have HQ4 : Hid (Blk I64 3 w4 g (List.replicate (i + 1) 0 ++ hi)) := (hblk.out.alloc _).grown hgrow (by intro e; have e2 : some g = some wr.heap.size := e; injection e2 with e2; omega)
      have HR4 : Hid (RN w4 w4.heap.size A4 c4 r') := rn_of HL1.out HV1.out hr4 HG1.out hc4
      have HN4 : Hid (∀ ad, A4 = some ad → ad.block ≠ g) := fun ad4 e4 => by
        have h1 := hab4 ad4 e4
        rcases hat with h2 | h2
        · rw [h1] at h2
          have e : some ad4.block = some wr.heap.size := h2
          injection e with e; omega
        · rw [h1] at h2
          injection h2 with h2
          simp at h2; omega
      clear hgr hgrow hat hab4 hr4 hc4 hown4 hcell
      go_loopw [10, 11] (fun lo hv wz => ∃ a b : Nat, lo = .int .i64 (a : Int) ∧ hv = .int .i64 (b : Int) ∧ a ≤ t ∧ t ≤ b ∧ b ≤ 9999 ∧ Hid (Below w4.heap.size w4 wz)) (fun lo hv _ => (intOf hv).toNat - (intOf lo).toNat)
      case atStart => exact ⟨0, 9999, rfl, rfl, Nat.zero_le _, ht9, Nat.le_refl _, Below.refl _ _⟩
      case round =>
        obtain ⟨a, b, rfl, rfl, ha, hb, hb9, hbz⟩ := hrel
        by_cases hab2 : a < b
        · obtain ⟨s, hs⟩ : ∃ s, s = (a + b + 1) / 2 := ⟨_, rfl⟩
          have hs1 : a < s := by omega
          have hs2 : s ≤ b := by omega
          have e2 : ((a : Int) + (b : Int) + 1) / 2 = (s : Int) := by omega
          have e3 : ((a : Int) + (b : Int) + 1).tdiv 2 = (s : Int) := by rw [Int.tdiv_eq_ediv_of_nonneg (by omega)]; exact e2
          have HS1 : Hid (s - 1 < s ∧ (s : Int) - 1 = ((s - 1 : Nat) : Int)) := by unfold Hid; omega
          clear hs
          have hs9 : s ≤ 9999 := by omega
          have hqm := dq_mul_le (n := n) (s := s) (by omega) hs9
          have CS : Hid (Calls Tryd.prog 70 #[.int .u64 (s : Int)] wr (RefPost wr s)) := Small_any (by omega)
          have HYz : Hid (RN wr wr.heap.size A' c' n) := (HY.out.below (HB4.out.trans (hbz.out.mono HB4.out.size))).more (Nat.le_trans HB4.out.size hbz.out.size)
          have CM : Hid (∀ W B d, Hid (RN W W.heap.size B d s) → Hid (Below wr.heap.size wr W) → Calls Tryd.prog 79 #[.slice A' (dq n) c', .slice B (dq s) d] W (RefPost W (n * s))) := fun W B d h1 h2 => rMul_any ((HYz.out.below h2.out).more h2.out.size) h1.out (by omega) (Nat.le_trans (dq_u64 (by omega)) (by omega))
          have HR6 : Hid (∀ W, Below wr.heap.size wr W → RN W W.heap.size A4 c4 r') := fun W h2 => (((HR4.out.below hbz.out).more hbz.out.size).below h2).more h2.size
          by_cases hle : n * s ≤ r'
          · have hst : s ≤ t := (HBIS.out s).1 hle
            obtain ⟨v, hv, hv0⟩ : ∃ v, cmpI (n * s) r' = v ∧ v ≤ 0 := by
              rcases Nat.lt_or_eq_of_le hle with h | h
              · exact ⟨_, cmpI_lt h, by decide⟩
              · exact ⟨_, cmpI_eq h, by decide⟩
            have CC : Hid (∀ W B d, Hid (RN W W.heap.size B d (n * s)) → Below wr.heap.size wr W → Calls Tryd.prog 77 #[.slice B (dq (n * s)) d, .slice A4 (dq r') c4] W (fun e w' => e = .returned (.int .i64 v) ∧ ∃ q, w' = W.drewN q)) := fun W B d h1 h2 => by rw [← hv]; exact rCmp_any h1.out (HR6.out W h2) (by omega) (by omega)
            clear hv hle
            go_wp2_with (first | (go_at_call 70; (with_reducible refine CS.out.mono ?_); rintro e w6 ⟨B6, d6, rfl, hn6, hbk6⟩) | (go_at_call 79; (with_reducible refine (CM.out _ _ _ hn6 hbk6).mono ?_); rintro e w7 ⟨B7, d7, rfl, hn7, hbk7⟩) | (go_at_call 77; (with_reducible refine (CC.out _ _ _ hn7 (hbk6.out.trans (hbk7.out.mono hbk6.out.size))).mono ?_); rintro e w8 ⟨rfl, nq, rfl⟩) | fail)
            go_roundw
            case rel => exact ⟨s, b, rfl, rfl, hst, hb, hb9, below_drewN ((hbz.out.trans (hbk6.out.mono hbz.out.size)).trans (hbk7.out.mono (Nat.le_trans hbz.out.size hbk6.out.size))) _⟩
            case measure => simp [intOf]; omega
          · have hst : ¬ s ≤ t := fun h => hle ((HBIS.out s).2 h)
            obtain ⟨v, hv, hv0⟩ : ∃ v, cmpI (n * s) r' = v ∧ ¬ v ≤ 0 := ⟨_, cmpI_gt (by omega), by decide⟩
            have CC : Hid (∀ W B d, Hid (RN W W.heap.size B d (n * s)) → Below wr.heap.size wr W → Calls Tryd.prog 77 #[.slice B (dq (n * s)) d, .slice A4 (dq r') c4] W (fun e w' => e = .returned (.int .i64 v) ∧ ∃ q, w' = W.drewN q)) := fun W B d h1 h2 => by rw [← hv]; exact rCmp_any h1.out (HR6.out W h2) (by omega) (by omega)
            clear hv hle
            go_wp2_with (first | (go_at_call 70; (with_reducible refine CS.out.mono ?_); rintro e w6 ⟨B6, d6, rfl, hn6, hbk6⟩) | (go_at_call 79; (with_reducible refine (CM.out _ _ _ hn6 hbk6).mono ?_); rintro e w7 ⟨B7, d7, rfl, hn7, hbk7⟩) | (go_at_call 77; (with_reducible refine (CC.out _ _ _ hn7 (hbk6.out.trans (hbk7.out.mono hbk6.out.size))).mono ?_); rintro e w8 ⟨rfl, nq, rfl⟩) | fail)
            go_roundw
            case rel => exact ⟨a, s - 1, rfl, by rw [HS1.out.2], ha, by omega, by omega, below_drewN ((hbz.out.trans (hbk6.out.mono hbz.out.size)).trans (hbk7.out.mono (Nat.le_trans hbz.out.size hbk6.out.size))) _⟩
            case measure => have := HS1.out; simp [intOf]; omega
        · obtain rfl : a = t := by omega
          have HBz : Hid (Below w.heap.size w wr) := HB4.out.trans (hbz.out.mono HB4.out.size)
          have HQz : Hid (Blk I64 3 wr g (List.replicate (i + 1) 0 ++ hi)) := hbz.out.block g HQ4.out.lt |>.trans HQ4.out
          have HRz : Hid (RN wr wr.heap.size A4 c4 r') := (HR4.out.below hbz.out).more hbz.out.size
          have hcs : wr.cell? ⟨g, i, none⟩ = some (.int .i64 0) := HQz.out.cell (by rw [List.getElem?_append_left (by simp)]; simp)
          have hfz := HQz.out.frozen i
          have CS : Hid (∀ W, Calls Tryd.prog 70 #[.int .u64 (a : Int)] W (RefPost W a)) := fun W => Small_any (by omega)
          have CM : Hid (∀ W B d, Hid (RN W W.heap.size B d a) → Below w.heap.size w W → Calls Tryd.prog 79 #[.slice A' (dq n) c', .slice B (dq a) d] W (RefPost W (n * a))) := fun W B d h1 h2 => rMul_any ((HY.out.below h2).more h2.size) h1.out (by omega) (Nat.le_trans (dq_u64 (by omega)) (by omega))
          have CB : Hid (∀ W B d, Hid (RN W W.heap.size B d (n * a)) → RN W W.heap.size A4 c4 r' → Calls Tryd.prog 71 #[.slice A4 (dq r') c4, .slice B (dq (n * a)) d] W (RefPost W (r' - n * a))) := fun W B d h1 h2 => rSub_any h2 h1.out (by omega) HDG.out.2.2
          have CR : Hid (∀ u W, Below (wr.setCell ⟨g, i, none⟩ u).heap.size (wr.setCell ⟨g, i, none⟩ u) W → RN W W.heap.size A4 c4 r') := fun u W hb => by
            have h1 := HRz.out.set HN4.out (i := i) u
            have e : (wr.setCell ⟨g, i, none⟩ u).heap.size = wr.heap.size := by simp [World.setCell]
            rw [← e] at h1
            exact (h1.below hb).more hb.size
          go_wp2_with (first | (go_at_call 70; (with_reducible refine (CS.out _).mono ?_); rintro e w6 ⟨B6, d6, rfl, hn6, hbk6⟩) | (go_at_call 79; (with_reducible refine (CM.out _ _ _ hn6 ((HBz.out.setCell hgw _).trans (hbk6.out.mono (HBz.out.setCell hgw _).size))).mono ?_); rintro e w7 ⟨B7, d7, rfl, hn7, hbk7⟩) | (go_at_call 71; (with_reducible refine (CB.out _ _ _ hn7 (CR.out _ _ (hbk6.out.trans (hbk7.out.mono hbk6.out.size)))).mono ?_); rintro e w8 ⟨B8, d8, rfl, hn8, hbk8⟩) | fail)
          have HW8 : Hid (Below (wr.setCell ⟨g, i, none⟩ (.int .i64 (a : Int))).heap.size (wr.setCell ⟨g, i, none⟩ (.int .i64 (a : Int))) w8) := (hbk6.out.trans (hbk7.out.mono hbk6.out.size)).trans (hbk8.out.mono (Nat.le_trans hbk6.out.size hbk7.out.size))
          go_roundw
          case rel =>
            refine ⟨i, r' - n * a, B8, d8, a :: hi, by omega, rfl, rfl, hn8, HDG.out.2.1, ?_, ?_, ?_, ?_, ?_⟩
            · have := hhl.out; unfold Hid; rw [List.length_cons]; omega
            · intro z hz
              rcases List.mem_cons.1 hz with rfl | hz
              · rw [D4_eq]; omega
              · exact hhg.out z hz
            · unfold Hid
              rw [HDR.out]
              exact HST.out _ (by have := HDG.out.2.2; omega)
            · have h1 := HQz.out.set_ i a
              rw [zeros_set] at h1
              exact (HW8.out.block g (by simpa [World.setCell] using HQz.out.lt)).trans h1
            · exact (HBz.out.setCell hgw _).trans (HW8.out.mono (HBz.out.setCell hgw _).size)
          case measure => simp [intOf]

theorem rDiv_any {A A' : Option Addr} {m n c c' : Nat} {w : World} (h : RN w w.heap.size A c m) (h' : RN w w.heap.size A' c' n) (hl : dq m ≤ 99999) (hl' : dq n ≤ 99999) (hn : 0 < n) :
    Calls Tryd.prog 68 #[.slice A (dq m) c, .slice A' (dq n) c'] w (RDivR w (m / n) (m % n)) := by
  by_cases hs : dq m + 1 < dq n
  · exact rDiv_short h (by omega) (by omega) hs
  · exact rDiv_long (top := dq m + 1 - dq n) h h' hl hl' hn (by omega)
end Go.Proofs.YteahcbeohopdlaaDoor
end

section
/- The document's own numbers: Gcd. Conditions: less than 100000 fours of digits. -/
open Go.RowKit
set_option maxRecDepth 100000
namespace Go.Proofs.YteahcbeohopdlaaDoor
theorem dq_pos {n : Nat} : 0 < dq n ↔ 0 < n := by
  have := digs_len_pos (b := D4) (n := n) (by decide)
  have e : (digs D4 n).length = dq n := rfl
  omega
end Go.Proofs.YteahcbeohopdlaaDoor
end

section
/- Fractions: the reckoning. No conditions. -/
open Go.RowKit
set_option maxRecDepth 100000
namespace Go.Proofs.YteahcbeohopdlaaDoor
/-- How two fractions stand to each other. -/
def cmpR (a b : Rat) : Int := if a < b then -1 else if b < a then 1 else 0
theorem mk_cross {z : Int} {d : Nat} (hd : 0 < d) : (mkRat z d).num * (d : Int) = z * ((mkRat z d).den : Int) := by
  have h := (Rat.mkRat_eq_iff (n₁ := (mkRat z d).num) (d₁ := (mkRat z d).den) (n₂ := z) (d₂ := d) (mkRat z d).den_nz (by omega)).1 (Rat.mkRat_self _)
  exact h
theorem mul_lt_iff {a b c : Int} (hc : 0 < c) : a * c < b * c ↔ a < b := ⟨fun h => Int.lt_of_mul_lt_mul_right h (by omega), fun h => Int.mul_lt_mul_of_pos_right h hc⟩
theorem mk_lt {z z' : Int} {d d' : Nat} (hd : 0 < d) (hd' : 0 < d') : mkRat z d < mkRat z' d' ↔ z * (d' : Int) < z' * (d : Int) := by
  have e := mk_cross (z := z) hd
  have e' := mk_cross (z := z') hd'
  rw [Rat.lt_iff]
  obtain ⟨a, ha⟩ : ∃ a, a = (mkRat z d).num := ⟨_, rfl⟩
  obtain ⟨b, hb⟩ : ∃ b, b = (mkRat z' d').num := ⟨_, rfl⟩
  obtain ⟨x, hx⟩ : ∃ x : Int, x = ((mkRat z d).den : Int) := ⟨_, rfl⟩
  obtain ⟨y, hy⟩ : ∃ y : Int, y = ((mkRat z' d').den : Int) := ⟨_, rfl⟩
  have hx0 : 0 < x := by rw [hx]; exact Int.natCast_pos.2 (mkRat z d).den_pos
  have hy0 : 0 < y := by rw [hy]; exact Int.natCast_pos.2 (mkRat z' d').den_pos
  rw [← ha, ← hb, ← hx, ← hy]
  rw [← ha, ← hx] at e
  rw [← hb, ← hy] at e'
  have hD : (0 : Int) < (d : Int) * (d' : Int) := Int.mul_pos (by omega) (by omega)
  have hX : (0 : Int) < x * y := Int.mul_pos hx0 hy0
  rw [← mul_lt_iff hD, ← mul_lt_iff (a := z * (d' : Int)) hX]
  have e1 : a * y * ((d : Int) * (d' : Int)) = (a * (d : Int)) * (d' : Int) * y := by ac_rfl
  have e2 : b * x * ((d : Int) * (d' : Int)) = (b * (d' : Int)) * (d : Int) * x := by ac_rfl
  have e3 : z * (d' : Int) * (x * y) = (z * x) * (d' : Int) * y := by ac_rfl
  have e4 : z' * (d : Int) * (x * y) = (z' * y) * (d : Int) * x := by ac_rfl
  rw [e1, e2, e3, e4, e, e']
theorem cmp_mk {z z' : Int} {d d' : Nat} (hd : 0 < d) (hd' : 0 < d') : cmpR (mkRat z d) (mkRat z' d') = (if z * (d' : Int) < z' * (d : Int) then -1 else if z' * (d : Int) < z * (d' : Int) then 1 else 0) := by
  unfold cmpR
  by_cases h1 : z * (d' : Int) < z' * (d : Int)
  · rw [if_pos h1, if_pos ((mk_lt hd hd').2 h1)]
  · rw [if_neg h1, if_neg (fun h => h1 ((mk_lt hd hd').1 h))]
    by_cases h2 : z' * (d : Int) < z * (d' : Int)
    · rw [if_pos h2, if_pos ((mk_lt hd' hd).2 h2)]
    · rw [if_neg h2, if_neg (fun h => h2 ((mk_lt hd' hd).1 h))]
theorem sign_mk {z : Int} {d : Nat} (hd : 0 < d) : (mkRat z d).num.sign = z.sign := by
  have e := mk_cross (z := z) hd
  have h := congrArg Int.sign e
  rw [Int.sign_mul, Int.sign_mul, Int.sign_eq_one_of_pos (a := (d : Int)) (by omega), Int.sign_eq_one_of_pos (a := ((mkRat z d).den : Int)) (Int.natCast_pos.2 (mkRat z d).den_pos), Int.mul_one, Int.mul_one] at h
  exact h
/-- In lowest terms: over and under the line. -/
theorem low_terms {z : Int} {d g : Nat} (hd : 0 < d) (hg : g = Nat.gcd z.natAbs d) : 0 < g ∧ (mkRat z d).num.natAbs = z.natAbs / g ∧ (mkRat z d).den = d / g ∧ z.natAbs % g = 0 ∧ d % g = 0 ∧ decide ((mkRat z d).num < 0) = decide (z < 0) := by
  have hg0 : 0 < g := by rw [hg]; exact Nat.gcd_pos_of_pos_right _ hd
  have h1 : g ∣ z.natAbs := by rw [hg]; exact Nat.gcd_dvd_left _ _
  have h2 : g ∣ d := by rw [hg]; exact Nat.gcd_dvd_right _ _
  have hc : Nat.gcd d z.natAbs = g := by rw [hg, Nat.gcd_comm]
  have hz : ((g : Nat) : Int) ∣ z := Int.ofNat_dvd_left.2 h1
  refine ⟨hg0, ?_, ?_, Nat.mod_eq_zero_of_dvd h1, Nat.mod_eq_zero_of_dvd h2, ?_⟩
  · rw [Rat.num_mkRat, if_neg (by omega), hc, Int.natAbs_ediv_of_dvd hz, Int.natAbs_natCast]
  · rw [Rat.den_mkRat, if_neg (by omega), hc]
  · have h := sign_mk (z := z) hd
    by_cases hn : z < 0
    · rw [decide_eq_true hn]
      rw [Int.sign_eq_neg_one_of_neg hn] at h
      exact decide_eq_true (Int.sign_eq_neg_one_iff_neg.1 h)
    · rw [decide_eq_false hn]
      refine decide_eq_false fun h2 => ?_
      rw [Int.sign_eq_neg_one_iff_neg.2 h2] at h
      exact hn (Int.sign_eq_neg_one_iff_neg.1 h.symm)
theorem add_mk {z z' : Int} {d d' : Nat} (hd : 0 < d) (hd' : 0 < d') : mkRat z d + mkRat z' d' = mkRat (z * d' + z' * d) (d * d') := Rat.mkRat_add_mkRat z z' (by omega) (by omega)
theorem mul_mk {z z' : Int} {d d' : Nat} : mkRat z d * mkRat z' d' = mkRat (z * z') (d * d') := Rat.mkRat_mul_mkRat z z' d d'
theorem neg_mk {z : Int} {d : Nat} : -mkRat z d = mkRat (-z) d := Rat.neg_mkRat z d
/-- What is turned about. -/
theorem inv_mk {z : Int} {d : Nat} (hz : z ≠ 0) (hd : 0 < d) : (mkRat z d)⁻¹ = mkRat (if z < 0 then -(d : Int) else (d : Int)) z.natAbs := by
  rw [← Rat.divInt_ofNat, Rat.inv_divInt]
  by_cases hn : z < 0
  · rw [if_pos hn, ← Rat.divInt_ofNat, ← Rat.neg_divInt_neg]
    congr 1; omega
  · rw [if_neg hn, ← Rat.divInt_ofNat]
    congr 1; omega
theorem floor_mk {z : Int} {d : Nat} (hd : 0 < d) : (mkRat z d).floor = z / (d : Int) := by
  have e := mk_cross (z := z) hd
  have hx0 : 0 < ((mkRat z d).den : Int) := Int.natCast_pos.2 (mkRat z d).den_pos
  rw [Rat.floor_def, ← Int.mul_ediv_mul_of_pos_left z (d : Int) hx0, ← e, Int.mul_comm (d : Int), Int.mul_ediv_mul_of_pos_left _ _ (by omega)]
end Go.Proofs.YteahcbeohopdlaaDoor
end

section
/- Facts that go on through calls: a box known whole, a world above another; package rat: isZero, isOne, times. Conditions: at most 100000 words. -/
open Go.RowKit
set_option maxRecDepth 100000
namespace Go.Proofs.YteahcbeohopdlaaDoor
/-- Block p holds the values, and may be written. -/
structure At (W : World) (p : Nat) (vs : List Value) : Prop where
  lt : p < W.heap.size
  all : ∀ i v, vs[i]? = some v → W.cell? ⟨p, i, none⟩ = some v ∧ W.frozen? ⟨p, i, none⟩ = false
def Bel (w W : World) : Prop := Below w.heap.size w W
theorem Bel.refl (w : World) : Bel w w := Below.refl _ _
theorem Bel.up {w W W' : World} (h : Bel w W) (hb : Hid (Below W.heap.size W W')) : Bel w W' := Below.trans h (hb.out.mono (Below.size h))
theorem Bel.al {w W : World} (h : Bel w W) (o : Obj) : Bel w (W.alloc o) := Below.alloc h (Below.size h) o
theorem Bel.dr {w W : World} (h : Bel w W) : Bel w W.drew := Below.drew h
theorem Bel.hid {w W : World} (h : Bel w W) : Hid (Below w.heap.size w W) := h
theorem Bel.of {w W : World} (h : Hid (Below w.heap.size w W)) : Bel w W := h
section
variable {W W' : World} {p : Nat} {u v x : Value} {vs : List Value}
theorem At.up (h : At W p vs) (hb : Hid (Below W.heap.size W W')) : At W' p vs :=
  ⟨Nat.lt_of_lt_of_le h.lt hb.out.size, fun i v hv => ⟨(hb.out.cell h.lt).trans (h.all i v hv).1, (hb.out.frozen h.lt).trans (h.all i v hv).2⟩⟩
theorem At.al (h : At W p vs) (o : Obj) : At (W.alloc o) p vs := h.up ((Below.refl _ _).alloc (Nat.le_refl _) o)
theorem At.dr (h : At W p vs) : At W.drew p vs := ⟨h.lt, h.all⟩
theorem At.c0 (h : At W p (v :: vs)) : W.cell? ⟨p, 0, none⟩ = some v := (h.all 0 v rfl).1
theorem At.c1 (h : At W p (u :: v :: vs)) : W.cell? ⟨p, 1, none⟩ = some v := (h.all 1 v rfl).1
theorem At.c2 (h : At W p (x :: u :: v :: vs)) : W.cell? ⟨p, 2, none⟩ = some v := (h.all 2 v rfl).1
theorem At.f0 (h : At W p (v :: vs)) : W.frozen? ⟨p, 0, none⟩ = false := (h.all 0 v rfl).2
theorem At.f1 (h : At W p (u :: v :: vs)) : W.frozen? ⟨p, 1, none⟩ = false := (h.all 1 v rfl).2
theorem At.f2 (h : At W p (x :: u :: v :: vs)) : W.frozen? ⟨p, 2, none⟩ = false := (h.all 2 v rfl).2
theorem at_new0 (W : World) (vs : List Value) (t : TypeId) : At (W.alloc (.cells vs.toArray t)) W.heap.size vs := by
  have h : (W.alloc (.cells vs.toArray t)).heap[W.heap.size]? = some (.cells vs.toArray t (0, 0)) := heap_alloc_new W _
  refine ⟨by simp, fun i v hv => ⟨?_, by unfold World.frozen?; rw [h]; simp⟩⟩
  rw [cell_of_row _ _ i _ t (0, 0) h]
  simpa using hv
theorem at_size {W X : World} {p : Nat} {vs : List Value} (h : At X W.heap.size vs) (e : W.heap.size = p) : At X p vs := e ▸ h
theorem at_new1 (W : World) (o : Obj) (vs : List Value) (t : TypeId) : At ((W.alloc o).alloc (.cells vs.toArray t)) (W.heap.size + 1) vs := at_size (at_new0 (W.alloc o) vs t) (by simp)
theorem at_new2 (W : World) (o o1 : Obj) (vs : List Value) (t : TypeId) : At (((W.alloc o).alloc o1).alloc (.cells vs.toArray t)) (W.heap.size + 1 + 1) vs := at_size (at_new0 ((W.alloc o).alloc o1) vs t) (by simp)
theorem at_new3 (W : World) (o o1 o2 : Obj) (vs : List Value) (t : TypeId) : At ((((W.alloc o).alloc o1).alloc o2).alloc (.cells vs.toArray t)) (W.heap.size + 1 + 1 + 1) vs := at_size (at_new0 (((W.alloc o).alloc o1).alloc o2) vs t) (by simp)
theorem at_new4 (W : World) (o o1 o2 o3 : Obj) (vs : List Value) (t : TypeId) : At (((((W.alloc o).alloc o1).alloc o2).alloc o3).alloc (.cells vs.toArray t)) (W.heap.size + 1 + 1 + 1 + 1) vs := at_size (at_new0 ((((W.alloc o).alloc o1).alloc o2).alloc o3) vs t) (by simp)
/-- A write into another block. -/
theorem At.far {q i : Nat} (h : At W p vs) (hq : q ≠ p) (u : Value) : At (W.setCell ⟨q, i, none⟩ u) p vs :=
  ⟨by have := h.lt; simpa [World.setCell] using this, fun j v hv => ⟨(World.cell?_setCell_far _ _ _ _ hq).trans (h.all j v hv).1, by rw [World.frozen?_setCell]; exact (h.all j v hv).2⟩⟩
/-- A write into this one. -/
theorem At.put {i : Nat} (h : At W p vs) (hi : i < vs.length) (u : Value) : At (W.setCell ⟨p, i, none⟩ u) p (vs.set i u) := by
  refine ⟨by have := h.lt; simpa [World.setCell] using this, fun j v hv => ?_⟩
  by_cases e : i = j
  · subst e
    rw [List.getElem?_set_self hi] at hv
    injection hv with hv
    obtain ⟨h1, h2⟩ := h.all i _ (List.getElem?_eq_getElem hi)
    exact ⟨by rw [← hv]; exact World.cell?_setCell_same _ _ _ h1, by rw [World.frozen?_setCell]; exact h2⟩
  · rw [List.getElem?_set_ne e] at hv
    exact ⟨(World.cell?_setCell_other _ _ _ _ (by intro h3; injection h3 with _ h4; exact e h4)).trans (h.all j v hv).1, by rw [World.frozen?_setCell]; exact (h.all j v hv).2⟩
/-- No word stands in a box of flags and slices. -/
def NoW (vs : List Value) : Prop := ∀ v ∈ vs, ∀ x : Nat, v ≠ U32 x
theorem Nm.put {A : Option Addr} {n c m i : Nat} (h : Nm W A n c m) (hp : At W p vs) (hi : i < vs.length) (hw : NoW vs) (u : Value) : Nm (W.setCell ⟨p, i, none⟩ u) A n c m :=
  h.setn (hp.all i _ (List.getElem?_eq_getElem hi)).1 (hw _ (List.getElem_mem hi)) u
end
def RetB (W : World) (b : Bool) (e : Ending) (w' : World) : Prop := e = .returned (.bool b) ∧ Bel W w'
end Go.Proofs.YteahcbeohopdlaaDoor
end

section
/- Package rat: isZero, isOne, times, terms. Conditions: at most 100000 words. -/
open Go.RowKit
set_option maxRecDepth 100000
namespace Go.Proofs.YteahcbeohopdlaaDoor
theorem cmp_u {W : World} {A A' : Option Addr} {n n' c c' m m' : Nat} (h : Nm W A n c m) (h' : Nm W A' n' c' m') : Calls Tryd.prog 76 #[.agg #[.slice A n c], .agg #[.slice A' n' c']] W (IntPost W (cmpI m m')) := cmp_h h h' rfl
section
variable {W : World} {b b' : Bool} {A A' : Option Addr} {n n' c c' m m' : Nat} {z z' : Int}
theorem rzero_h (h : Nm W A n c m) : Calls Tryd.prog 95 #[.agg #[.slice A n c]] W (RetB W (decide (m = 0))) := by
  obtain ⟨u, hu⟩ : ∃ u, u = cmpI m 0 := ⟨_, rfl⟩
  have CC : Hid (∀ o, Calls Tryd.prog 76 #[.agg #[.slice A n c], .agg #[.slice none 0 0]] (W.alloc o) (IntPost (W.alloc o) u)) := fun o => by rw [hu]; exact cmp_u (h.al o) (nm_nil _ none 0)
  have HU : Hid ((u == 0) = decide (m = 0)) := by rw [hu]; exact cmpI_beq m 0
  clear h hu
  go_enter Tryd.func95, Tryd.ntmps95
  go_wp2_with (go_at_call 76; (with_reducible refine (CC.out _).mono ?_); rintro e w1 ⟨rfl, hbk⟩)
  go_ret
  exact ⟨bool_ret (by first | exact HU.out | (have := HU.out; simpa using this)), (bx1 hbk).2.2⟩
set_option maxHeartbeats 1000000 in
theorem rone_h (h : Nm W A n c m) : Calls Tryd.prog 96 #[.agg #[.slice A n c]] W (RetB W (decide (m = 1))) := by
  obtain ⟨u, hu⟩ : ∃ u, u = cmpI m 1 := ⟨_, rfl⟩
  have CO : Hid (∀ W', Calls Tryd.prog 40 #[.int .u64 1] W' (NumR W' 1)) := fun W' => of_h (v := 1) (by omega)
  have CC : Hid (∀ W' B d, Bel W W' → Nm W' B (dl 1) d 1 → Calls Tryd.prog 76 #[.agg #[.slice A n c], .agg #[.slice B (dl 1) d]] W' (IntPost W' u)) := fun W' B d hb h1 => by rw [hu]; exact cmp_u (h.up hb) h1
  have HU : Hid ((u == 0) = decide (m = 1)) := by rw [hu]; exact cmpI_beq m 1
  clear h hu
  go_enter Tryd.func96, Tryd.ntmps96
  go_wp2_with fail
  have HA := (at_new0 W [.slice A n c] 24).dr
  have HW := ((Bel.refl W).al (.cells #[.slice A n c] 24)).dr
  go_region_held3 (fun w' => w'.cell? ⟨W.heap.size, 0, none⟩ = some (.slice A n c)) (first | exact HA.c0)
    (first | (go_at_call 40; (with_reducible refine (CO.out _).mono ?_); rintro e w1 ⟨B, d, rfl, hn, hbk⟩; replace HA := HA.up hbk; replace HW := HW.up hbk) | (go_at_call 76; (with_reducible refine (CC.out _ _ _ HW hn).mono ?_); rintro e w2 ⟨rfl, hbk⟩; replace HW := HW.up hbk; replace HA := HA.up hbk) | fail)
  go_wp2
  go_ret
  exact ⟨bool_ret (by first | exact HU.out | (have := HU.out; simpa using this)), HW⟩

/-- What a call leaves that returns an integer: as ZR, with a sign of its own name. -/
theorem ret_z {w2 : World} {B : Option Addr} {d p : Nat} {v : Int} {v0 v1 : Value} (hW : Bel W w2) (hp : W.heap.size ≤ p) (hR : At w2 p [v0, v1]) (hw : NoW [v0, v1]) (hn : ZA w2 (decide (v < 0)) B (dl v.natAbs) d v) :
    ZR W v (.returned (.agg #[.bool (decide (v < 0)), .slice B (dl v.natAbs) d])) ((w2.setCell ⟨p, 0, none⟩ (.bool (decide (v < 0)))).setCell ⟨p, 1, none⟩ (.slice B (dl v.natAbs) d)) := by
  refine ⟨B, d, rfl, ⟨?_, hn.2⟩, (Below.setCell hW hp _).setCell hp _⟩
  exact (hn.1.put (i := 0) hR (by simp) hw _).put (i := 1) (hR.put (i := 0) (by simp) _) (by simp) (by
    intro u hu x
    simp at hu
    rcases hu with rfl | rfl
    · intro e; cases e
    · exact hw _ (by simp) x) _
theorem now2 {b : Bool} {A : Option Addr} {n c : Nat} : NoW [.bool b, .slice A n c] := by
  intro u hu x
  simp at hu
  rcases hu with rfl | rfl <;> (intro e; cases e)
theorem now1 {A : Option Addr} {n c : Nat} : NoW [.slice A n c] := by
  intro u hu x
  simp at hu
  subst hu
  intro e; cases e
theorem now3 {b : Bool} {A A' : Option Addr} {n c n' c' : Nat} : NoW [.bool b, .slice A n c, .slice A' n' c'] := by
  intro u hu x
  simp at hu
  rcases hu with rfl | rfl | rfl <;> (intro e; cases e)
set_option maxHeartbeats 1000000 in
theorem times_h {v : Int} (h : ZA W b A n c z) (h' : Nm W A' n' c' m) (hv : z * (m : Int) = v) (hd : dl v.natAbs ≤ 100000) : Calls Tryd.prog 98 #[.agg #[.bool b, .slice A n c], .agg #[.slice A' n' c']] W (ZR W v) := by
  have CM : Hid (∀ W', Bel W W' → Calls Tryd.prog 24 #[.agg #[.bool b, .slice A n c], .agg #[.bool false, .slice A' n' c']] W' (ZR W' v)) := fun W' hb => zmul_h (h.up hb) (za_of (b := false) (h'.up hb)) hv hd
  clear h h' hv hd
  go_enter Tryd.func98, Tryd.ntmps98
  have HB := Bel.refl W
  go_wp2_with (first | (go_at_call 24; (with_reducible refine (CM.out _ (((HB.al _).al _).al _)).mono ?_); rintro e w1 ⟨B, d, rfl, hn, hbk⟩; have HR := At.up (at_new2 _ _ _ _ _) hbk; replace HB := (((HB.al _).al _).al _).up hbk; have r0 := HR.c0; have r1 := HR.c1; have f0 := HR.f0; have f1 := HR.f1) | fail)
  refine bodyPost_ret (v := .agg #[.bool (decide (v < 0)), .slice B (dl v.natAbs) d]) (by simp [results, Tryd.results98, go_sem, r0, r1]) rfl ?_
  exact ret_z HB (by omega) HR now2 hn

/-- In world W the sign and the two slices tell the fraction r; the terms have at most K words. -/
def QA (W : World) (b : Bool) (A : Option Addr) (n c : Nat) (A' : Option Addr) (n' c' : Nat) (r : Rat) (K : Nat) : Prop :=
  ∃ (z : Int) (d : Nat), ZA W b A n c z ∧ Nm W A' n' c' d ∧ Hid (mkRat z d = r ∧ z.natAbs < W32 ^ K ∧ d < W32 ^ K)
theorem QA.up {W W' : World} {b : Bool} {A A' : Option Addr} {n c n' c' K : Nat} {r : Rat} (h : QA W b A n c A' n' c' r K) (hb : Hid (Below W.heap.size W W')) : QA W' b A n c A' n' c' r K := by
  obtain ⟨z, d, h1, h2, h3⟩ := h
  exact ⟨z, d, h1.up hb, h2.up hb, h3⟩
theorem QA.al {W : World} {b : Bool} {A A' : Option Addr} {n c n' c' K : Nat} {r : Rat} (h : QA W b A n c A' n' c' r K) (o : Obj) : QA (W.alloc o) b A n c A' n' c' r K := h.up ((Below.refl _ _).alloc (Nat.le_refl _) o)
theorem QA.dr {W : World} {b : Bool} {A A' : Option Addr} {n c n' c' K : Nat} {r : Rat} (h : QA W b A n c A' n' c' r K) : QA W.drew b A n c A' n' c' r K := h
/-- What terms leaves: over and under the line. -/
def TermsR (W : World) (r : Rat) (K : Nat) (e : Ending) (w' : World) : Prop :=
  ∃ b A n c A' n' c' z d, e = .returned (.tuple #[.agg #[.bool b, .slice A n c], .agg #[.slice A' n' c']]) ∧ ZA w' b A n c z ∧ Nm w' A' n' c' d ∧ Hid (0 < d ∧ mkRat z d = r ∧ z.natAbs < W32 ^ K ∧ d < W32 ^ K) ∧ Hid (Below W.heap.size W w')
theorem dl_one : dl 1 = 1 := by unfold dl; rw [digs_pos (by decide) (by decide)]; rw [show 1 / W32 = 0 from rfl, digs_zero]; rfl
set_option maxHeartbeats 2000000 in
theorem terms_h {r : Rat} {K : Nat} (h : QA W b A n c A' n' c' r K) (hK : 0 < K) : Calls Tryd.prog 92 #[.agg #[.bool b, .slice A n c, .slice A' n' c']] W (TermsR W r K) := by
  obtain ⟨z, d, hz, hd, hr⟩ := h
  have CZ : Hid (∀ W', Bel W W' → Calls Tryd.prog 95 #[.agg #[.slice A' n' c']] W' (RetB W' (decide (d = 0)))) := fun W' hb => rzero_h (hd.up hb)
  have HB := Bel.refl W
  by_cases h0 : d = 0
  · have HP : Hid (0 < 1 ∧ mkRat 0 1 = r ∧ (0 : Int).natAbs < W32 ^ K ∧ 1 < W32 ^ K) := by
      refine ⟨by decide, ?_, ?_, Nat.one_lt_pow (by omega) (by decide)⟩
      · rw [← hr.out.1, h0]; simp
      · exact Nat.pow_pos (by decide)
    rw [decide_eq_true h0] at CZ
    have CO : Hid (∀ W', Calls Tryd.prog 40 #[.int .u64 1] W' (NumR W' 1)) := fun W' => of_h (v := 1) (by omega)
    clear h0 hr hz hd
    go_enter Tryd.func92, Tryd.ntmps92
    go_wp2_with (first | (go_at_call 95; (with_reducible refine (CZ.out _ (((HB.al _).al _).al _)).mono ?_); rintro e w1 ⟨rfl, hbk⟩; have HQ := At.up (((at_new0 _ _ _).al _).al _) hbk; have HP0 := At.up ((at_new1 _ _ _ _).al _) hbk; have HP1 := At.up (at_new2 _ _ _ _ _) hbk; replace HB := (((HB.al _).al _).al _).up hbk) | (go_at_call 40; (with_reducible refine (CO.out _).mono ?_); rintro e w2 ⟨B, e2, rfl, hn, hbk⟩; replace HB := HB.up hbk; replace HQ := HQ.up hbk; replace HP0 := HP0.up hbk; replace HP1 := HP1.up hbk; have r0 := HP0.c0; have r1 := HP0.c1; have f0 := HP0.f0; have f1 := HP0.f1; have r2 := HP1.c0; have f2 := HP1.f0) | fail)
    refine bodyPost_ret (v := .tuple #[.agg #[.bool false, .slice none 0 0], .agg #[.slice B (dl 1) e2]]) (by simp [results, Tryd.results92, go_sem, r0, r1, r2]) rfl ?_
    have P0 := HP0.put (i := 0) (by simp) (.bool false)
    have P1 := P0.put (i := 1) (by simp) (.slice none 0 0)
    have Q1 := (HP1.far (i := 0) (show W.heap.size + 1 ≠ W.heap.size + 1 + 1 by omega) (.bool false)).far (i := 1) (show W.heap.size + 1 ≠ W.heap.size + 1 + 1 by omega) (.slice none 0 0)
    refine ⟨false, none, 0, 0, B, dl 1, e2, 0, 1, rfl, ⟨nm_nil _ _ _, rfl⟩, ?_, HP, ?_⟩
    · exact ((hn.put HP0 (by simp) now2 _).put P0 (by simp) now2 _).put Q1 (by simp) now1 _
    · exact (((Below.setCell HB (by simp) _).setCell (by simp) _).setCell (by simp; omega) _)
  · have HP : Hid (0 < d ∧ mkRat z d = r ∧ z.natAbs < W32 ^ K ∧ d < W32 ^ K) := ⟨by omega, hr.out⟩
    rw [decide_eq_false h0] at CZ
    clear h0 hr
    go_enter Tryd.func92, Tryd.ntmps92
    go_wp2_with (first | (go_at_call 95; (with_reducible refine (CZ.out _ (((HB.al _).al _).al _)).mono ?_); rintro e w1 ⟨rfl, hbk⟩; have HQ := At.up (((at_new0 _ _ _).al _).al _) hbk; have HP0 := At.up ((at_new1 _ _ _ _).al _) hbk; have HP1 := At.up (at_new2 _ _ _ _ _) hbk; replace HB := (((HB.al _).al _).al _).up hbk; replace hz := (((hz.al _).al _).al _).up hbk; replace hd := (((hd.al _).al _).al _).up hbk; have r0 := HP0.c0; have r1 := HP0.c1; have f0 := HP0.f0; have f1 := HP0.f1; have r2 := HP1.c0; have f2 := HP1.f0; have q0 := HQ.c0; have q1 := HQ.c1; have q2 := HQ.c2) | fail)
    go_region_with (fail)
    all_goals
      go_wp2_with fail
      refine bodyPost_ret (v := .tuple #[.agg #[.bool b, .slice A n c], .agg #[.slice A' n' c']]) (by simp [results, Tryd.results92, go_sem, r0, r1, r2]) rfl ?_
      have P0 := HP0.put (i := 0) (by simp) (.bool b)
      have P1 := P0.put (i := 1) (by simp) (.slice A n c)
      have Q1 := (HP1.far (i := 0) (show W.heap.size + 1 ≠ W.heap.size + 1 + 1 by omega) (.bool b)).far (i := 1) (show W.heap.size + 1 ≠ W.heap.size + 1 + 1 by omega) (.slice A n c)
      refine ⟨b, A, n, c, A', n', c', z, d, rfl, ⟨?_, hz.2⟩, ?_, HP, ?_⟩
      · exact ((hz.1.put HP0 (by simp) now2 _).put P0 (by simp) now2 _).put Q1 (by simp) now1 _
      · exact ((hd.put HP0 (by simp) now2 _).put P0 (by simp) now2 _).put Q1 (by simp) now1 _
      · exact (((Below.setCell HB (by simp) _).setCell (by simp) _).setCell (by simp; omega) _).drew
end
end Go.Proofs.YteahcbeohopdlaaDoor
end
